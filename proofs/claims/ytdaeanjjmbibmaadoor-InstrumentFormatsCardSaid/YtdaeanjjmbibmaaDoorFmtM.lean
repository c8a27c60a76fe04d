/- What Format returns for any instrument, the program's and the reference's. -/
import Derived.Test.YtdaeanjjmbibmaaDoorFmtP
import Derived.Test.YtdaeanjjmbibmaaDoorName1
import Derived.Test.YtdaeanjjmbibmaaDoorRefWords
import Derived.Test.YtdaeanjjmbibmaaDoorRefSpell
namespace Go.Proofs.YtdaeanjjmbibmaaDoor
open Go.RowKit

theorem nmS_is {p : Int} (h0 : 0 ≤ p) (h1 : p ≤ 127) : nmS (spL p 0) (spAl p 0) (spOc p 0) = nmK p := by
  unfold nmS; rw [if_pos (nm_ok h0 h1).right]; rfl
theorem fm_bytes (nm dd : List UInt8) : (ByteArray.mk nm.toArray) ++ (ByteArray.mk #[47]) ++ (ByteArray.mk dd.toArray) = ⟨(nm ++ 47 :: dd).toArray⟩ := by
  rw [show (ByteArray.mk #[47]) = ⟨([47] : List UInt8).toArray⟩ from rfl, str_app, str_app]; simp
theorem fm_bytesP (nm dd : List UInt8) : (ByteArray.mk nm.toArray) ++ (ByteArray.mk #[47]) ++ (ByteArray.mk dd.toArray) ++ (ByteArray.mk #[43]) = ⟨(nm ++ 47 :: dd ++ [43]).toArray⟩ := by
  rw [fm_bytes, show (ByteArray.mk #[43]) = ⟨([43] : List UInt8).toArray⟩ from rfl, str_app]
theorem itoa_s (n : Nat) (h : n < 100) (w : World) : Calls Tryd.prog 54 #[.int .i64 n] w fun e w' => e = .returned (.string ⟨(Lib.decDigits n).toArray⟩) ∧ w = w' :=
  (Tryd.strconv_Itoa_small n h w).mono fun _ _ hh => ⟨hh.1, hh.2.symm⟩
theorem itoa_t (n : Nat) (h : n < 1000) (w : World) (T : Tab w) : Calls Tryd.prog 54 #[.int .i64 n] w fun e w' => e = .returned (.string ⟨(Lib.decDigits n).toArray⟩) ∧ Below w.heap.size w w' :=
  (Tryd.strconv_Itoa n (by omega) (by omega) w (T w (Below.refl _ _))).mono fun e w' hh => ⟨hh.1.trans (by rw [Lib.itoa, if_neg (by omega)]; simp), by obtain ⟨k, os, rfl⟩ := hh.2; exact below_grow w k os⟩

set_option maxHeartbeats 1600000 in
theorem formatCourse_any (p : Int) (f : Nat) (o : Bool) (w : World) (E : Env w) (T : Tab w) (p0 : 0 ≤ p) (p1 : p ≤ 127) (f1 : f ≤ 18) :
    Calls Tryd.prog 53 #[.agg #[.int .i64 p, .int .i64 f, .bool o]] w fun e w' => e = .returned (.string ⟨(fmC ⟨p, f, o⟩).toArray⟩) ∧ Below w.heap.size w w' := by
  have HNM := Lib.hid (nmS_is p0 p1)
  have hl := (nm_ok p0 p1).len
  have hd := (nu_ok (n := f) (by omega)).len
  have HE : Hid (∀ w', Below (w.alloc (.cells #[.int .i64 p, .int .i64 f, .bool o] 75)).heap.size (w.alloc (.cells #[.int .i64 p, .int .i64 f, .bool o] 75)) w' → Env w' ∧ Tab w' ∧ w'.cell? ⟨w.heap.size, 1, none⟩ = some (.int .i64 f) ∧ w'.cell? ⟨w.heap.size, 2, none⟩ = some (.bool o) ∧ w.heap.size < w'.heap.size ∧ Below w.heap.size w w') := by
    intro w' h
    obtain ⟨c1, _⟩ := keepb h 1
    obtain ⟨c2, _⟩ := keepb h 2
    have hz := h.size
    simp at c1 c2 hz
    exact ⟨(E.alloc _).below h, T.below (bx h), c1, c2, by omega, bx h⟩
  have HF : Hid (fmC ⟨p, f, o⟩ = nmK p ++ 47 :: Lib.decDigits f ++ if o then [43] else []) := by simp [Hid, fmC]
  clear E T p0 p1
  generalize nmK p = nm at *
  generalize hdd : Lib.decDigits f = dd at *
  have HDD := Lib.hid hdd
  clear hdd
  generalize fmC ⟨p, f, o⟩ = out at *
  cases o with
  | true =>
    go_enter Tryd.func53, Tryd.ntmps53
    go_wp2_with (fail)
    refine (spell_any p 0 _ (HE.out _ (Below.refl _ _)).1).mono ?_
    rintro e w1 ⟨rfl, hb1⟩
    go_wp2_with (fail)
    have T2 := bt hb1 (ba w1 (.cells #[.int .i64 (spL p 0), .int .i64 (spAl p 0), .int .i64 (spOc p 0)] 70))
    refine (name_any _ _ _ _ (HE.out _ T2).1 (HE.out _ T2).2.1).mono ?_
    rintro e w2 ⟨rfl, hb2⟩
    rw [HNM.out]
    have T3 := bt T2 hb2
    obtain ⟨_, _, c1, c2, hz, _⟩ := HE.out _ T3
    go_wp2_with (go_at_call 54; refine (itoa_s f (by omega) _).mono ?_; rintro e w3 ⟨rfl, rfl⟩; rw [HDD.out])
    go_ret
    exact ⟨ret_str (by rw [HF.out, fm_bytesP]; simp), (HE.out _ T3).2.2.2.2.2⟩
  | false =>
    go_enter Tryd.func53, Tryd.ntmps53
    go_wp2_with (fail)
    refine (spell_any p 0 _ (HE.out _ (Below.refl _ _)).1).mono ?_
    rintro e w1 ⟨rfl, hb1⟩
    go_wp2_with (fail)
    have T2 := bt hb1 (ba w1 (.cells #[.int .i64 (spL p 0), .int .i64 (spAl p 0), .int .i64 (spOc p 0)] 70))
    refine (name_any _ _ _ _ (HE.out _ T2).1 (HE.out _ T2).2.1).mono ?_
    rintro e w2 ⟨rfl, hb2⟩
    rw [HNM.out]
    have T3 := bt T2 hb2
    obtain ⟨_, _, c1, c2, hz, _⟩ := HE.out _ T3
    go_wp2_with (go_at_call 54; refine (itoa_s f (by omega) _).mono ?_; rintro e w3 ⟨rfl, rfl⟩; rw [HDD.out])
    go_ret
    exact ⟨ret_str (by rw [HF.out, fm_bytes]; simp), (HE.out _ T3).2.2.2.2.2⟩

/-- strings.Join with a space, over words in memory of the call's own. -/
theorem join_any (L : List (List UInt8)) (A : Option Addr) (N c : Nat) (base : Nat) (w : World) (hN : N = L.length) (h0 : L ≠ []) (h : w.ownsRow base 9 1 (.slice A N c) N (strC L)) (hs : L.length ≤ 100000) (hj : (Lib.join L [32]).length ≤ 100000) :
    Calls Tryd.prog 55 #[.slice A N c, .string ⟨#[32]⟩] w fun e w' => e = .returned (.string ⟨(Lib.join L [32]).toArray⟩) ∧ Below w.heap.size w w' := by
  subst hN
  have hn : 0 < L.length := List.length_pos_iff.2 h0
  obtain ⟨g, hv⟩ : ∃ g, A = some ⟨g, 0, none⟩ := by
    rcases h.2 with ⟨_, hz⟩ | ⟨g, cap, cur, hv, _⟩
    · omega
    · injection hv with h1 _ _; exact ⟨g, h1⟩
  subst hv
  have hS := Sl_own h
  obtain ⟨b, off, hA, hB, hc⟩ := hS.2.2 hn
  injection hA with hA
  injection hA with e1 e2
  subst e1 e2
  have e : (L.map fun x => (⟨x.toArray⟩ : ByteArray)).map (·.data.toList) = L := by
    rw [List.map_map]
    conv => rhs; rw [← List.map_id L]
    exact List.map_congr_left fun x _ => rfl
  have hrun := Tryd.strings_Join g 0 c (L.map fun x => (⟨x.toArray⟩ : ByteArray)) ⟨#[32]⟩ w (fun j x hx => ?_) hB (by simp; omega) (by rw [List.length_map]; exact hS.1) (by rw [e]; show (Lib.join L [32]).length ≤ _; omega)
  · rw [e, List.length_map] at hrun
    exact hrun
  · rw [List.getElem?_map] at hx
    obtain ⟨y, hy, rfl⟩ := Option.map_eq_some_iff.1 hx
    exact hc j _ (by rw [strC, List.getElem?_map, hy]; rfl)

theorem lens_le (L : List (List UInt8)) (m : Nat) (h : ∀ x ∈ L, x.length ≤ m) : Lib.lens L ≤ m * L.length := by
  induction L with
  | nil => simp [Lib.lens]
  | cons x r ih =>
    have h1 := h x (by simp)
    have h2 := ih fun y hy => h y (by simp [hy])
    simp only [Lib.lens, List.map_cons, List.sum_cons, List.length_cons] at h2 ⊢
    rw [Nat.mul_succ]; omega
theorem fmW_short {C : List Cr} {S : List Int} (h : InOk C S) : ∀ x ∈ fmW C S, x.length ≤ 9 := by
  intro x hx
  simp only [fmW, List.mem_append, List.mem_map, List.mem_cons] at hx
  rcases hx with ⟨c, hc, rfl⟩ | rfl | ⟨s, hs, rfl⟩
  · obtain ⟨a1, a2, a3, a4⟩ := h.cr c hc
    exact (fmC_solid a1 a2 a3 a4).2.2
  · decide
  · have := (nu_ok (n := s.toNat) (by have := h.st s hs; omega)).len; omega
theorem fmT_len {C : List Cr} {S : List Int} (h : InOk C S) : (fmT C S).length ≤ 400 ∧ (fmW C S).length = C.length + 1 + S.length := by
  have hl : (fmW C S).length = C.length + 1 + S.length := by simp [fmW]; omega
  refine ⟨?_, hl⟩
  have hw := fmW_short h
  have hf := h.few
  unfold fmT
  cases hx : fmW C S with
  | nil => simp [Lib.join_nil]
  | cons x r =>
    rw [hx] at hw hl
    have h1 := hw x (by simp)
    have h2 := lens_le r 9 fun y hy => hw y (by simp [hy])
    have h3 := Lib.joinTail_length [32] r
    rw [Lib.join_cons, List.length_append, h3]
    simp at hl ⊢
    omega

def fmA (C : List Cr) (S : List Int) : List UInt8 := if chk C S = 0 then fmT C S else []

end Go.Proofs.YtdaeanjjmbibmaaDoor
