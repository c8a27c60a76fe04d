/- What the functions on the names of notes return: one contract for each function. -/
import Derived.Test.YtdaeanjjmbibmaaDoorNames0
import Derived.Test.YtdaeanjjmbibmaaDoorShelf
namespace Go.Proofs.YtdaeanjjmbibmaaDoor
open Go.RowKit

set_option maxHeartbeats 400000 in
theorem decimal_nat (k : Nat) : ∀ (n : Nat) (w : World), n < 10 ^ (k + 1) → n < 100000 →
    Calls Tryd.prog 58 #[.int .i64 n] w fun e w' => e = .returned (.string ⟨(Lib.decDigits n).toArray⟩) ∧ w = w' := by
  induction k with
  | zero =>
    intro n w hk _
    have h : n < 10 := by simpa using hk
    have hP : Hid ((ByteArray.mk #[48, 49, 50, 51, 52, 53, 54, 55, 56, 57]).extract (n % 10) (n % 10 + 1) = ⟨(Lib.decDigits n).toArray⟩) := by
      unfold Hid; rw [Lib.decDigits, dif_pos h, dgt_at _ (by omega), Nat.mod_eq_of_lt h]
    clear hk
    go_enter Tryd.func58, Tryd.ntmps58
    go_wp2_with (fail)
    go_ret
    exact ⟨ret_str hP.out, rfl⟩
  | succ k ih =>
    intro n w hk hb
    have IH := Lib.hid ih
    clear ih
    by_cases h : n < 10
    · have hP : Hid ((ByteArray.mk #[48, 49, 50, 51, 52, 53, 54, 55, 56, 57]).extract (n % 10) (n % 10 + 1) = ⟨(Lib.decDigits n).toArray⟩) := by
        unfold Hid; rw [Lib.decDigits, dif_pos h, dgt_at _ (by omega), Nat.mod_eq_of_lt h]
      clear hk
      go_enter Tryd.func58, Tryd.ntmps58
      go_wp2_with (fail)
      go_ret
      exact ⟨ret_str hP.out, rfl⟩
    · have hP : Hid ((ByteArray.mk (Lib.decDigits (n / 10)).toArray) ++ (ByteArray.mk #[48, 49, 50, 51, 52, 53, 54, 55, 56, 57]).extract (n % 10) (n % 10 + 1) = ⟨(Lib.decDigits n).toArray⟩) := by
        unfold Hid; rw [Lib.decDigits.eq_def n, dif_neg h, dgt_at _ (by omega)]; exact str_app _ [_]
      have hq : n / 10 < 10 ^ (k + 1) := by rw [Nat.pow_succ] at hk; omega
      have HQ := Lib.hid hq
      have hl : (Lib.decDigits (n / 10)).length ≤ 5 := dec_len 4 _ (by simp; omega)
      clear hk hq
      have hc : Hid ((n : Int) / 10 = ((n / 10 : Nat) : Int)) := by unfold Hid; omega
      go_enter Tryd.func58, Tryd.ntmps58
      go_wp2_with (go_at_call 58; rw [hc.out]; refine (IH.out (n / 10) _ HQ.out (by omega)).mono ?_; rintro e w1 ⟨rfl, rfl⟩)
      go_ret
      exact ⟨ret_str hP.out, rfl⟩

theorem decimal_pos (n : Nat) (w : World) (h : n < 1000) :
    Calls Tryd.prog 58 #[.int .i64 n] w fun e w' => e = .returned (.string ⟨(Lib.decDigits n).toArray⟩) ∧ w = w' :=
  decimal_nat 2 n w (by simpa using h) (by omega)

set_option maxHeartbeats 400000 in
theorem decimal_any (n : Int) (w : World) (h0 : -999 ≤ n) (h1 : n < 1000) :
    Calls Tryd.prog 58 #[.int .i64 n] w fun e w' => e = .returned (.string ⟨(Lib.itoa n).toArray⟩) ∧ w = w' := by
  by_cases h : n < 0
  · obtain ⟨m, hm⟩ : ∃ m : Nat, n = -(m : Int) := ⟨n.natAbs, by omega⟩
    subst hm
    have hP : Hid ((ByteArray.mk #[45]) ++ (ByteArray.mk (Lib.decDigits m).toArray) = ⟨(Lib.itoa (-(m : Int))).toArray⟩) := by
      unfold Hid; rw [Lib.itoa, if_pos h]; simp only [Int.natAbs_neg, Int.natAbs_natCast]; exact str_app [45] _
    have hl : (Lib.decDigits m).length ≤ 5 := dec_len 4 _ (by simp; omega)
    go_enter Tryd.func58, Tryd.ntmps58
    go_wp2_with (go_at_call 58; refine (decimal_pos m _ (by omega)).mono ?_; rintro e w1 ⟨rfl, rfl⟩)
    go_ret
    exact ⟨ret_str hP.out, rfl⟩
  · obtain ⟨m, rfl⟩ := Int.eq_ofNat_of_zero_le (show 0 ≤ n by omega)
    refine (decimal_pos m _ (by omega)).mono fun e w' hh => ⟨hh.1.trans (ret_str ?_), hh.2⟩
    rw [Lib.itoa, if_neg h]; simp

set_option maxHeartbeats 400000 in
theorem name_no (l a o : Int) (w : World) (E : Env w) (h : rgt l a o = false) :
    Calls Tryd.prog 86 #[.agg #[.int .i64 l, .int .i64 a, .int .i64 o]] w fun e w' => e = .returned (.tuple #[.string ⟨(nmS l a o).toArray⟩, .int .i64 (sndE l a o)]) ∧ Below w.heap.size w w' := by
  have hP : Hid (nmS l a o = [] ∧ sndE l a o = 10) := by simp [Hid, nmS, sndE, h]
  clear h
  go_enter Tryd.func86, Tryd.ntmps86
  go_wp2_with (go_at_call 81; refine (sounding_any _ _ _ _ (E.alloc _)).mono ?_; rintro e w1 ⟨rfl, hb⟩; rw [hP.out.2])
  go_ret2
  rw [hP.out.1, hP.out.2]
  exact ⟨rfl, bx hb⟩

set_option maxHeartbeats 400000 in
theorem name_yes (n : Nat) (a : Int) (o : Nat) (w : World) (E : Env w) (hn : n < 7) (ho : o ≤ 9) (h : rgt n a o = true) :
    Calls Tryd.prog 86 #[.agg #[.int .i64 n, .int .i64 a, .int .i64 o]] w fun e w' => e = .returned (.tuple #[.string ⟨(nmS n a o).toArray⟩, .int .i64 (sndE n a o)]) ∧ Below w.heap.size w w' := by
  have hP : Hid (nmS n a o = nmB n a o ∧ sndE n a o = 0) := by simp [Hid, nmS, sndE, h]
  have hit : Hid (Lib.decDigits o = Lib.itoa o) := by unfold Hid Lib.itoa; rw [if_neg (by omega)]; simp
  have hq : Hid (lnm n ++ (ByteArray.mk (altB a).toArray) ++ (ByteArray.mk (Lib.decDigits o).toArray) = ⟨(nmB n a o).toArray⟩) := by unfold Hid; rw [hit.out]; exact nm_eq n a o
  have hl := E.lname n hn
  have hg := E.big
  have hg0 : 1 < w.heap.size := by omega
  have k0 : (n : Int) < 7 := by omega
  have k1 := altB_len a
  have k2 := lnm_size n hn
  have k3 : (Lib.decDigits o).length ≤ 2 := dec_len 1 _ (by simp; omega)
  clear h hit
  go_enter Tryd.func86, Tryd.ntmps86
  go_wp2_with (go_at_call 81; refine (sounding_any _ _ _ _ (E.alloc _)).mono ?_; rintro e w1 ⟨rfl, hb⟩; rw [hP.out.2]; obtain ⟨hc1, hf1⟩ := bcell hb; clear hf1)
  go_quiet ((first | (go_at_call 108; exact Calls.quiet_of_same ((alterName_any _ _).mono fun _ _ h => ⟨h.1, h.2.symm⟩)) | (go_at_call 54; exact Calls.quiet_of_same (Tryd.strconv_Itoa_small _ (by omega) _))))
  go_wp2_with (fail)
  go_ret2
  exact ⟨ret_sp (by rw [hP.out.1]; exact hq.out) hP.out.2.symm, bd (bx hb) _⟩

set_option maxHeartbeats 400000 in
theorem rname_no (l a o : Int) (w : World) (h : rgt l a o = false) :
    Calls Tryd.prog 57 #[.agg #[.int .i64 l, .int .i64 a, .int .i64 o]] w fun e w' => e = .returned (.tuple #[.string ⟨(nmS l a o).toArray⟩, .int .i64 (sndE l a o)]) ∧ Below w.heap.size w w' := by
  have hP : Hid (nmS l a o = [] ∧ sndE l a o = 10) := by simp [Hid, nmS, sndE, h]
  have H := Lib.hid h
  clear h
  go_enter Tryd.func57, Tryd.ntmps57
  go_wp2_with (go_at_call 93; refine (right_any _ _ _ _).mono ?_; rintro e w1 ⟨rfl, hb⟩; rw [H.out])
  go_ret2
  rw [hP.out.1, hP.out.2]
  exact ⟨rfl, bx hb⟩

set_option maxHeartbeats 400000 in
theorem rname_yes (n : Nat) (a o : Int) (w : World) (hn : n < 7) (h : rgt n a o = true) :
    Calls Tryd.prog 57 #[.agg #[.int .i64 n, .int .i64 a, .int .i64 o]] w fun e w' => e = .returned (.tuple #[.string ⟨(nmS n a o).toArray⟩, .int .i64 (sndE n a o)]) ∧ Below w.heap.size w w' := by
  have hP : Hid (nmS n a o = nmB n a o ∧ sndE n a o = 0) := by simp [Hid, nmS, sndE, h]
  obtain ⟨hr, _⟩ := rgt_rng h
  obtain ⟨_, ⟨ha1, ha2⟩, ho1, ho2⟩ := rngB_iff.1 hr
  have H := Lib.hid h
  clear hr h
  have k0 : (n : Int) < 7 := by omega
  have k3 := itoa_len o (by omega) (by omega)
  rcases (show a = -1 ∨ a = 1 ∨ a = 0 by omega) with rfl | rfl | rfl
  · have hq : Hid ((ByteArray.mk #[67, 68, 69, 70, 71, 65, 66]).extract n (n + 1) ++ (ByteArray.mk #[98]) ++ (ByteArray.mk (Lib.itoa o).toArray) = ⟨(nmB n (-1) o).toArray⟩) := by
      unfold Hid; rw [ltr_at n hn]; exact nm_eq n (-1) o
    go_enter Tryd.func57, Tryd.ntmps57
    go_wp2_with (first | (go_at_call 93; refine (right_any _ _ _ _).mono ?_; rintro e w1 ⟨rfl, hb⟩; rw [H.out]; obtain ⟨hc1, hf1⟩ := bcell hb; clear hf1) | (go_at_call 58; refine (decimal_any _ _ (by omega) (by omega)).mono ?_; rintro e w2 ⟨rfl, rfl⟩))
    go_ret2
    exact ⟨ret_sp (by rw [hP.out.1]; exact hq.out) hP.out.2.symm, bx hb⟩
  · have hq : Hid ((ByteArray.mk #[67, 68, 69, 70, 71, 65, 66]).extract n (n + 1) ++ (ByteArray.mk #[35]) ++ (ByteArray.mk (Lib.itoa o).toArray) = ⟨(nmB n 1 o).toArray⟩) := by
      unfold Hid; rw [ltr_at n hn]; exact nm_eq n 1 o
    go_enter Tryd.func57, Tryd.ntmps57
    go_wp2_with (first | (go_at_call 93; refine (right_any _ _ _ _).mono ?_; rintro e w1 ⟨rfl, hb⟩; rw [H.out]; obtain ⟨hc1, hf1⟩ := bcell hb; clear hf1) | (go_at_call 58; refine (decimal_any _ _ (by omega) (by omega)).mono ?_; rintro e w2 ⟨rfl, rfl⟩))
    go_ret2
    exact ⟨ret_sp (by rw [hP.out.1]; exact hq.out) hP.out.2.symm, bx hb⟩
  · have hq : Hid ((ByteArray.mk #[67, 68, 69, 70, 71, 65, 66]).extract n (n + 1) ++ (ByteArray.mk (Lib.itoa o).toArray) = ⟨(nmB n 0 o).toArray⟩) := by
      unfold Hid; rw [ltr_at n hn]; unfold lnm nmB; rw [str_app]; simp [altB]
    go_enter Tryd.func57, Tryd.ntmps57
    go_wp2_with (first | (go_at_call 93; refine (right_any _ _ _ _).mono ?_; rintro e w1 ⟨rfl, hb⟩; rw [H.out]; obtain ⟨hc1, hf1⟩ := bcell hb; clear hf1) | (go_at_call 58; refine (decimal_any _ _ (by omega) (by omega)).mono ?_; rintro e w2 ⟨rfl, rfl⟩))
    go_ret2
    exact ⟨ret_sp (by rw [hP.out.1]; exact hq.out) hP.out.2.symm, bx hb⟩

theorem rname_any (l a o : Int) (w : World) :
    Calls Tryd.prog 57 #[.agg #[.int .i64 l, .int .i64 a, .int .i64 o]] w fun e w' => e = .returned (.tuple #[.string ⟨(nmS l a o).toArray⟩, .int .i64 (sndE l a o)]) ∧ Below w.heap.size w w' := by
  cases h : rgt l a o with
  | false => exact rname_no l a o w h
  | true =>
    obtain ⟨⟨h0, h6⟩, _⟩ := rngB_iff.1 (rgt_rng h).1
    obtain ⟨n, rfl⟩ := Int.eq_ofNat_of_zero_le h0
    exact rname_yes n a o w (by omega) h

end Go.Proofs.YtdaeanjjmbibmaaDoor
