/- What the small functions of layer 1 return, in the program and in its reference: one contract for each function. -/
import Derived.Test.YtdaeanjjmbibmaaDoorProg
import Derived.WalkKit
import Derived.WalkSpells
import Derived.WalkLawsBesides
import Derived.Deep.QuietTactic
import Derived.BigQuiet
import Derived.Lib.Hide
import Derived.Test.YtdaeanjjmbibmaaDoorPure
namespace Go.Proofs.YtdaeanjjmbibmaaDoor
open Go.RowKit

theorem ret_int {k : IntKind} {a b : Int} (h : a = b) : Ending.returned (.int k a) = .returned (.int k b) := by rw [h]
theorem ret_bool {a b : Bool} (h : a = b) : Ending.returned (.bool a) = .returned (.bool b) := by rw [h]
theorem bcell {W w1 : World} (hb : Below W.heap.size W w1) : (∀ b o, b < W.heap.size → w1.cell? ⟨b, o, none⟩ = W.cell? ⟨b, o, none⟩) ∧ (∀ b o, b < W.heap.size → w1.frozen? ⟨b, o, none⟩ = W.frozen? ⟨b, o, none⟩) :=
  ⟨fun b o h => hb.cell (p := ⟨b, o, none⟩) h, fun b o h => hb.frozen (p := ⟨b, o, none⟩) h⟩
theorem bx {w w1 : World} {o : Obj} (hb : Below (w.alloc o).heap.size (w.alloc o) w1) : Below w.heap.size w w1 :=
  ((Below.refl _ _).alloc (Nat.le_refl _) o).trans (hb.mono (by simp))
theorem bt {w w1 w2 : World} (h1 : Below w.heap.size w w1) (h2 : Below w1.heap.size w1 w2) : Below w.heap.size w w2 := h1.trans (h2.mono h1.size)
theorem ba (w : World) (o : Obj) : Below w.heap.size w (w.alloc o) := (Below.refl _ _).alloc (Nat.le_refl _) o
theorem bd {B : Nat} {w w1 : World} (h : Below B w w1) (n : Nat) : Below B w (w1.drewN n) := below_drewN h n

set_option maxHeartbeats 400000 in
theorem base_any (l : Int) (w : World) (h0 : 0 ≤ l) (h6 : l ≤ 6) :
    Calls Tryd.prog 112 #[.int .i64 l] w fun e w' => e = .returned (.int .i64 (bas l)) ∧ w = w' := by
  by_cases h : l < 3
  · have hb : Hid (bas l = 2 * l) := by unfold Hid bas; rw [if_pos h]
    go_enter Tryd.func112, Tryd.ntmps112
    go_wp2
    go_ret
    exact ⟨ret_int hb.out.symm, rfl⟩
  · have hb : Hid (bas l = 2 * l - 1) := by unfold Hid bas; rw [if_neg h]
    go_enter Tryd.func112, Tryd.ntmps112
    go_wp2
    go_ret
    exact ⟨ret_int hb.out.symm, rfl⟩

set_option maxHeartbeats 400000 in
theorem isPitch_any (p : Int) (w : World) :
    Calls Tryd.prog 80 #[.int .i64 p] w fun e w' => e = .returned (.bool (isP p)) ∧ w = w' := by
  go_enter Tryd.func80, Tryd.ntmps80
  go_wp2
  all_goals (go_ret; exact ⟨ret_bool (by simp [isP]; omega), rfl⟩)

set_option maxHeartbeats 400000 in
theorem inRanges_any (l a o : Int) (w : World) :
    Calls Tryd.prog 105 #[.agg #[.int .i64 l, .int .i64 a, .int .i64 o]] w fun e w' => e = .returned (.bool (rngB l a o)) ∧ Below w.heap.size w w' := by
  go_enter Tryd.func105, Tryd.ntmps105
  go_wp2
  all_goals (go_ret; exact ⟨ret_bool (by simp [rngB]; omega), (Below.refl _ _).alloc (Nat.le_refl _) _⟩)

set_option maxHeartbeats 400000 in
theorem sounding_no (l a o : Int) (w : World) (h : rngB l a o = false) :
    Calls Tryd.prog 81 #[.agg #[.int .i64 l, .int .i64 a, .int .i64 o]] w fun e w' => e = .returned (.tuple #[.int .i64 (sndP l a o), .int .i64 (sndE l a o)]) ∧ Below w.heap.size w w' := by
  have hP : Hid (sndP l a o = 0 ∧ sndE l a o = 10) := by simp [Hid, sndP, sndE, rgt_no h]
  go_enter Tryd.func81, Tryd.ntmps81
  go_wp2_with (go_at_call 105; refine (inRanges_any _ _ _ _).mono ?_; rintro e w1 ⟨rfl, hb⟩)
  go_ret2
  rw [hP.out.1, hP.out.2]
  exact ⟨rfl, bx hb⟩

set_option maxHeartbeats 400000 in
theorem sounding_yes (n : Nat) (a o : Int) (w : World) (hn : n < 7) (h : rngB n a o = true) (hc : w.cell? ⟨1, n * 3 + 1, none⟩ = some (.int .i64 (bas n))) (hg : 1 < w.heap.size) :
    Calls Tryd.prog 81 #[.agg #[.int .i64 n, .int .i64 a, .int .i64 o]] w fun e w' => e = .returned (.tuple #[.int .i64 (sndP n a o), .int .i64 (sndE n a o)]) ∧ Below w.heap.size w w' := by
  have hg0 : 0 < w.heap.size := by omega
  obtain ⟨_, ⟨ha1, ha2⟩, ho1, ho2⟩ := rngB_iff.1 h
  obtain ⟨hb1, hb2⟩ := bas_bd (l := n) (by omega) (by omega)
  have hp : Hid (pit n a o = 12 * (o + 1) + bas n + a) := rfl
  cases hi : isP (12 * (o + 1) + bas n + a) with
  | false =>
    have hP : Hid (sndP n a o = 0 ∧ sndE n a o = 10) := by simp [Hid, sndP, sndE, rgt_of h, pit, hi]
    have HI := Lib.hid hi
    clear hi
    go_enter Tryd.func81, Tryd.ntmps81
    go_wp2_with (go_at_call 105; refine (inRanges_any _ _ _ _).mono ?_; rintro e w1 ⟨rfl, hb⟩; obtain ⟨hc1, hf1⟩ := bcell hb; clear hf1)
    go_quiet (fail)
    go_wp2_with (go_at_call 80; refine (isPitch_any _ _).mono ?_; rintro e w2 ⟨rfl, rfl⟩; rw [HI.out])
    go_ret2
    rw [hP.out.1, hP.out.2]
    exact ⟨rfl, bd (bx hb) _⟩
  | true =>
    have hP : Hid (sndP n a o = 12 * (o + 1) + bas n + a ∧ sndE n a o = 0) := by simp [Hid, sndP, sndE, rgt_of h, pit, hi]
    have HI := Lib.hid hi
    clear hi
    go_enter Tryd.func81, Tryd.ntmps81
    go_wp2_with (go_at_call 105; refine (inRanges_any _ _ _ _).mono ?_; rintro e w1 ⟨rfl, hb⟩; obtain ⟨hc1, hf1⟩ := bcell hb; clear hf1)
    go_quiet (fail)
    go_wp2_with (go_at_call 80; refine (isPitch_any _ _).mono ?_; rintro e w2 ⟨rfl, rfl⟩; rw [HI.out])
    go_ret2
    rw [hP.out.1, hP.out.2]
    exact ⟨rfl, bd (bx hb) _⟩

set_option maxHeartbeats 400000 in
theorem right_no (l a o : Int) (w : World) (h : rngB l a o = false) :
    Calls Tryd.prog 93 #[.agg #[.int .i64 l, .int .i64 a, .int .i64 o]] w fun e w' => e = .returned (.bool (rgt l a o)) ∧ Below w.heap.size w w' := by
  have hP : Hid (rgt l a o = false) := rgt_no h
  have HN : Hid (¬ ((0 ≤ l ∧ l ≤ 6) ∧ (-1 ≤ a ∧ a ≤ 1) ∧ -1 ≤ o ∧ o ≤ 9)) := by intro hh; rw [rngB_iff.2 hh] at h; cases h
  clear h
  go_enter Tryd.func93, Tryd.ntmps93
  go_wp2_with (fail)
  all_goals first | (exfalso; have := HN.out; omega) | (go_ret; exact ⟨ret_bool hP.out.symm, ba _ _⟩)

set_option maxHeartbeats 400000 in
theorem right_yes (n : Nat) (a o : Int) (w : World) (hn : n < 7) (h : rngB n a o = true) :
    Calls Tryd.prog 93 #[.agg #[.int .i64 n, .int .i64 a, .int .i64 o]] w fun e w' => e = .returned (.bool (rgt n a o)) ∧ Below w.heap.size w w' := by
  obtain ⟨_, ⟨ha1, ha2⟩, ho1, ho2⟩ := rngB_iff.1 h
  obtain ⟨hb1, hb2⟩ := bas_bd (l := n) (by omega) (by omega)
  have hP : Hid (rgt n a o = isP (12 * (o + 1) + bas n + a)) := rgt_of h
  clear h
  go_enter Tryd.func93, Tryd.ntmps93
  go_wp2_with (fail)
  go_quiet ((go_at_call 112; exact Calls.quiet_of_same ((base_any _ _ (by omega) (by omega)).mono fun _ _ h => ⟨h.1, h.2.symm⟩)))
  go_wp2_with (fail)
  all_goals (go_ret; exact ⟨ret_bool (by rw [hP.out]; simp [isP]; omega), bd (ba _ _) _⟩)

theorem right_any (l a o : Int) (w : World) :
    Calls Tryd.prog 93 #[.agg #[.int .i64 l, .int .i64 a, .int .i64 o]] w fun e w' => e = .returned (.bool (rgt l a o)) ∧ Below w.heap.size w w' := by
  cases h : rngB l a o with
  | false => exact right_no l a o w h
  | true =>
    obtain ⟨⟨h0, h6⟩, _⟩ := rngB_iff.1 h
    obtain ⟨n, rfl⟩ := Int.eq_ofNat_of_zero_le h0
    exact right_yes n a o w (by omega) h

/-- The cells of the two tables. -/
def letC : Array Value := ((List.range 7).flatMap fun n => [.string (lnm n), .int .i64 (bas n), .int .i64 (fif n)]).toArray
def stdC : Array Value := ((List.range 9).flatMap fun n => [.string (stn n), .string (stt n)]).toArray

theorem letC_at (n : Nat) (h : n < 7) : letC[n * 3]? = some (.string (lnm n)) ∧ letC[n * 3 + 1]? = some (.int .i64 (bas n)) ∧ letC[n * 3 + 2]? = some (.int .i64 (fif n)) := by
  have : n = 0 ∨ n = 1 ∨ n = 2 ∨ n = 3 ∨ n = 4 ∨ n = 5 ∨ n = 6 := by omega
  rcases this with rfl | rfl | rfl | rfl | rfl | rfl | rfl <;> exact ⟨rfl, rfl, rfl⟩
theorem stdC_at (n : Nat) (h : n < 9) : stdC[n * 2]? = some (.string (stn n)) ∧ stdC[n * 2 + 1]? = some (.string (stt n)) := by
  have : n = 0 ∨ n = 1 ∨ n = 2 ∨ n = 3 ∨ n = 4 ∨ n = 5 ∨ n = 6 ∨ n = 7 ∨ n = 8 := by omega
  rcases this with rfl | rfl | rfl | rfl | rfl | rfl | rfl | rfl | rfl <;> exact ⟨rfl, rfl⟩

/-- What the program's own tables hold, and that they lie below the heap's end. -/
structure Env (w : World) : Prop where
  big : 1 < w.heap.size ∧ 0 < w.heap.size ∧ 4 < w.heap.size
  lrow : ∃ t fr, w.heap[1]? = some (.cells letC t fr)
  srow : ∃ t fr, w.heap[0]? = some (.cells stdC t fr)
  mlen : ∃ m, w.cell? ⟨4, 0, none⟩ = some (.int .i64 m)

theorem Env.lname {w : World} (E : Env w) (n : Nat) (h : n < 7) : w.cell? ⟨1, n * 3, none⟩ = some (.string (lnm n)) := by
  obtain ⟨t, fr, hr⟩ := E.lrow
  rw [cell_of_row w _ _ _ t fr hr]; exact (letC_at n h).1
theorem Env.lbase {w : World} (E : Env w) (n : Nat) (h : n < 7) : w.cell? ⟨1, n * 3 + 1, none⟩ = some (.int .i64 (bas n)) := by
  obtain ⟨t, fr, hr⟩ := E.lrow
  rw [cell_of_row w _ _ _ t fr hr]; exact (letC_at n h).2.1

theorem Env.below {w w' : World} (h : Env w) (hb : Below w.heap.size w w') : Env w' := by
  have hs := h.big
  have hz := hb.size
  obtain ⟨t, fr, hr⟩ := h.lrow
  obtain ⟨t2, fr2, hr2⟩ := h.srow
  obtain ⟨m, hm⟩ := h.mlen
  exact ⟨by omega, ⟨t, fr, (hb.block _ (by omega)).trans hr⟩, ⟨t2, fr2, (hb.block _ (by omega)).trans hr2⟩, m, by rw [(bcell hb).1 _ _ (by omega)]; exact hm⟩

theorem Env.alloc {w : World} (h : Env w) (o : Obj) : Env (w.alloc o) := h.below (ba w o)

theorem sounding_any (l a o : Int) (w : World) (E : Env w) :
    Calls Tryd.prog 81 #[.agg #[.int .i64 l, .int .i64 a, .int .i64 o]] w fun e w' => e = .returned (.tuple #[.int .i64 (sndP l a o), .int .i64 (sndE l a o)]) ∧ Below w.heap.size w w' := by
  cases h : rngB l a o with
  | false => exact sounding_no l a o w h
  | true =>
    obtain ⟨⟨h0, h6⟩, _⟩ := rngB_iff.1 h
    obtain ⟨n, rfl⟩ := Int.eq_ofNat_of_zero_le h0
    exact sounding_yes n a o w (by omega) h (E.lbase n (by omega)) (by have := E.big; omega)

set_option maxHeartbeats 400000 in
theorem rsounding_any (l a o : Int) (w : World) :
    Calls Tryd.prog 92 #[.agg #[.int .i64 l, .int .i64 a, .int .i64 o]] w fun e w' => e = .returned (.tuple #[.int .i64 (sndP l a o), .int .i64 (sndE l a o)]) ∧ Below w.heap.size w w' := by
  cases h : rgt l a o with
  | false =>
    have hP : Hid (sndP l a o = 0 ∧ sndE l a o = 10) := by simp [Hid, sndP, sndE, h]
    have H := Lib.hid h
    clear h
    go_enter Tryd.func92, Tryd.ntmps92
    go_wp2_with (go_at_call 93; refine (right_any _ _ _ _).mono ?_; rintro e w1 ⟨rfl, hb⟩; rw [H.out])
    go_ret2
    rw [hP.out.1, hP.out.2]
    exact ⟨rfl, bx hb⟩
  | true =>
    obtain ⟨hr, _⟩ := rgt_rng h
    obtain ⟨⟨hl1, hl2⟩, ⟨ha1, ha2⟩, ho1, ho2⟩ := rngB_iff.1 hr
    obtain ⟨hb1, hb2⟩ := bas_bd hl1 hl2
    clear hr
    have hP : Hid (sndP l a o = 12 * (o + 1) + bas l + a ∧ sndE l a o = 0) := by simp [Hid, sndP, sndE, pit, h]
    have H := Lib.hid h
    clear h
    go_enter Tryd.func92, Tryd.ntmps92
    go_wp2_with (go_at_call 93; refine (right_any _ _ _ _).mono ?_; rintro e w1 ⟨rfl, hb⟩; rw [H.out]; obtain ⟨hc1, hf1⟩ := bcell hb; clear hf1)
    go_quiet ((go_at_call 112; exact Calls.quiet_of_same ((base_any _ _ (by omega) (by omega)).mono fun _ _ h => ⟨h.1, h.2.symm⟩)))
    go_wp2_with (fail)
    go_ret2
    rw [hP.out.1, hP.out.2]
    exact ⟨rfl, bd (bx hb) _⟩

end Go.Proofs.YtdaeanjjmbibmaaDoor
