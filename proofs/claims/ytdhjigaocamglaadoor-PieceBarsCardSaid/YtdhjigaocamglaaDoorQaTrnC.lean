/- Pieces, the reference: SameEvent, SamePlaces, Same, for any two. -/
import Derived.Test.YtdhjigaocamglaaDoorQaPcMeasC
import Derived.Test.YtdhjigaocamglaaDoorQaSameI2
import Derived.Deep.RegionHeld3
import Derived.Deep.RegionHeldLaw
import Derived.Test.YtdhjigaocamglaaDoorQaTrn
namespace Go.Proofs.YtdhjigaocamglaaDoor
open Go Go.RowKit

def pqEqB (a b : St) : Bool := decide (a.c = b.c) && decide (a.f = b.f)
set_option maxRecDepth 100000 in
set_option maxHeartbeats 8000000 in
theorem rSamePlaces_any (bar : Bool) (v : Int) (d t tie : Bool) (sa : Option Addr) (n sc : Nat) (bar2 : Bool) (v2 : Int) (d2 t2 tie2 : Bool) (sb : Option Addr) (m sd : Nat) (L M : List St) (w : World) (hA : Sl w w.heap.size 5 sa n sc (stC L)) (hB : Sl w w.heap.size 5 sb m sd (stC M)) (hn : n = L.length) (hm : m = M.length) (hb : n ≤ 1000000) (hb2 : m ≤ 1000000) :
    Calls Tryd.prog 26 #[evV bar v d t tie sa n sc, evV bar2 v2 d2 t2 tie2 sb m sd] w fun e w' => e = .returned (.bool (eqL pqEqB L M)) ∧ Below w.heap.size w w' := by
  have HA : Hid (∀ w', Below ((w.alloc (evO bar v d t tie sa n sc)).alloc (evO bar2 v2 d2 t2 tie2 sb m sd)).heap.size ((w.alloc (evO bar v d t tie sa n sc)).alloc (evO bar2 v2 d2 t2 tie2 sb m sd)) w' → Sl w' w'.heap.size 5 sa n sc (stC L) ∧ Sl w' w'.heap.size 5 sb m sd (stC M)) :=
    fun w' h => ⟨(hA.below (bt (ba _ _) (ba _ _))).below h, (hB.below (bt (ba _ _) (ba _ _))).below h⟩
  have HN := Lib.hid hn
  have HM := Lib.hid hm
  obtain ⟨X, hX⟩ : ∃ X, eqL pqEqB L M = X := ⟨_, rfl⟩
  rw [hX]
  have HX := Lib.hid hX
  clear hA hB hn hm hX
  obtain ⟨p0, p1, p2, p3, p4, p5⟩ := cell6 (ba (w.alloc (evO bar v d t tie sa n sc)) (evO bar2 v2 d2 t2 tie2 sb m sd))
  obtain ⟨r0, r1, r2, r3, r4, r5⟩ := cell6 (Below.refl _ ((w.alloc (evO bar v d t tie sa n sc)).alloc (evO bar2 v2 d2 t2 tie2 sb m sd)))
  simp only [World.size_alloc] at r0 r1 r2 r3 r4 r5
  have HXE : Hid (X = eqL pqEqB L M) := by unfold Hid; rw [← HX.out]
  clear HX
  by_cases hnm : n = m
  rotate_left
  · have hxb : ((n : Int) == (m : Int)) = false := by simp; omega
    have HR : Hid (X = false) := by unfold Hid; rw [HXE.out]; exact eqL_len _ _ _ (by have := HN.out; have := HM.out; omega)
    go_enter Tryd.func26, Tryd.ntmps26
    go_wp2_with (fail)
    go_ret
    exact ⟨ret_bool HR.out.symm, bx (ba _ _)⟩
  subst hnm
  obtain ⟨W2, hW2⟩ : ∃ W2, W2 = ((w.alloc (evO bar v d t tie sa n sc)).alloc (evO bar2 v2 d2 t2 tie2 sb n sd)) := ⟨_, rfl⟩
  go_enter Tryd.func26, Tryd.ntmps26
  go_wp2_with (fail)
  rw [← hW2] at HA ⊢
  have HBB : Hid (Below w.heap.size w W2) := by unfold Hid; rw [hW2]; exact bt (ba _ _) (ba _ _)
  have HC6 : Hid (∀ w', Below W2.heap.size W2 w' → w'.cell? ⟨w.heap.size, 5, none⟩ = some (.slice sa n sc) ∧ w'.cell? ⟨w.heap.size + 1, 5, none⟩ = some (.slice sb n sd) ∧ w.heap.size + 1 < w'.heap.size) := fun w' hb => by
    rw [hW2] at hb
    obtain ⟨_, _, _, _, _, p5⟩ := cell6 (bt (ba _ _) hb)
    obtain ⟨_, _, _, _, _, r5⟩ := cell6 hb
    simp only [World.size_alloc] at r5
    exact ⟨p5, r5, by have := hb.size; simp at this; omega⟩
  clear hW2 p0 p1 p2 p3 p4 p5 r0 r1 r2 r3 r4 r5
  go_loopw [5] (fun i wr => ∃ k : Nat, k ≤ n ∧ i = .int .i64 k ∧ Hid (X = eqL pqEqB (L.drop k) (M.drop k)) ∧ Below W2.heap.size W2 wr) (fun i _ => n - (intOf i).toNat)
  case atStart => exact ⟨0, by omega, rfl, HXE.out, Below.refl _ _⟩
  case round =>
    obtain ⟨k, hk, rfl, HR, hbw⟩ := hrel
    have HB := Lib.hid hbw
    obtain ⟨p5, r5, hz⟩ := HC6.out _ hbw
    clear hbw
    by_cases hlt : k < n
    · have hkn : (k : Int) < (n : Int) := by omega
      obtain ⟨b1, o1, rfl, hB1, _, _, c0, c1, c2, c3, c4⟩ := st_at (HA.out _ HB.out).1 HN.out hlt
      obtain ⟨b2, o2, rfl, hB2, _, _, d0, d1, d2, d3, d4⟩ := st_at (HA.out _ HB.out).2 HM.out hlt
      have HST := Lib.hid (eqL_step' pqEqB z5 HR.out (by have := HN.out; omega) (by have := HM.out; omega))
      generalize L.getD k z5 = x at *
      generalize M.getD k z5 = y at *
      obtain ⟨cx, fx, rx, gx, hx⟩ := x
      obtain ⟨cy, fy, ry, gy, hy⟩ := y
      dsimp only at c0 c1 c2 c3 c4 d0 d1 d2 d3 d4
      by_cases g0 : cx = cy
      rotate_left
      · have hxb : (cx == cy) = false := beq_eq_false_iff_ne.2 g0
        have hxc : (cx != cy) = true := bne_iff_ne.2 g0
        have hxd : decide (cx = cy) = false := decide_eq_false g0
        have HF : Hid (X = false) := by unfold Hid; rw [HST.out]; simp [pqEqB, g0]
        clear g0
        go_wp2_with (fail)
        go_quiet (fail)
        go_wp2_with (fail)
        go_ret
        exact ⟨ret_bool HF.out.symm, bt HBB.out (bd HB.out _)⟩
      subst g0
      by_cases g1 : fx = fy
      rotate_left
      · have hxb : (fx == fy) = false := beq_eq_false_iff_ne.2 g1
        have hxc : (fx != fy) = true := bne_iff_ne.2 g1
        have hxd : decide (fx = fy) = false := decide_eq_false g1
        have HF : Hid (X = false) := by unfold Hid; rw [HST.out]; simp [pqEqB, g1]
        clear g1
        go_wp2_with (fail)
        go_quiet (fail)
        go_wp2_with (fail)
        go_ret
        exact ⟨ret_bool HF.out.symm, bt HBB.out (bd HB.out _)⟩
      subst g1
      have HF : Hid (X = eqL pqEqB (L.drop (k + 1)) (M.drop (k + 1))) := by unfold Hid; rw [HST.out]; simp [pqEqB]
      go_wp2_with (fail)
      go_quiet (fail)
      go_wp2_with (fail)
      go_roundw
      case rel => exact ⟨k + 1, by omega, by first | rfl | go_num, HF.out, bd HB.out _⟩
      case measure => simp [intOf]; omega
    · have HT : Hid (X = true) := by
        unfold Hid
        rw [HR.out, List.drop_of_length_le (by have := HN.out; omega), List.drop_of_length_le (by have := HM.out; omega)]
        rfl
      go_wp2_with (fail)
      go_ret
      exact ⟨ret_bool HT.out.symm, bt HBB.out HB.out⟩

end Go.Proofs.YtdhjigaocamglaaDoor

/- Pieces, the reference: Same, for any two pieces. -/
namespace Go.Proofs.YtdhjigaocamglaaDoor
open Go Go.RowKit

end Go.Proofs.YtdhjigaocamglaaDoor

/- Pieces: what the laws share: a call that hands back a piece; the reference's Same at equal pieces. -/
namespace Go.Proofs.YtdhjigaocamglaaDoor
open Go Go.RowKit

/-- A call hands back a piece that lies in memory, and an error. -/
def PcUse (er : Int) (C : List Cr) (S : List Int) (P : List EvP) (w : World) (e : Ending) (w' : World) : Prop :=
  ∃ B n d B' m d' B2 q d2, e = .returned (.tuple #[pcV B n d B' m d' B2 q d2, .int .i64 er]) ∧ PcIn w' B n d B' m d' B2 q d2 C S P ∧ (n ≤ 65536 ∧ m ≤ 65536 ∧ q ≤ 65536) ∧ Below w.heap.size w w'
theorem PcRes.use {er : Int} {C : List Cr} {S : List Int} {P : List EvP} {w : World} {e : Ending} {w' : World} (h : PcRes er C S P w e w') (h1 : C.length ≤ 65536) (h2 : S.length ≤ 65536) (h3 : P.length ≤ 65536) : PcUse er (oC er C) (oC er S) (oC er P) w e w' := by
  obtain ⟨B, n, d, B', m, d', B2, q, d2, he, hO, hb⟩ := h
  have l1 := oC_len er C
  have l2 := oC_len er S
  have l3 := oC_len er P
  have e1 := hO.hn
  have e2 := hO.hm
  have e3 := hO.hq
  exact ⟨B, n, d, B', m, d', B2, q, d2, he, hO.pcIn, ⟨by omega, by omega, by omega⟩, hb⟩
end Go.Proofs.YtdhjigaocamglaaDoor

/- Pieces, plain: what stays valid when signs alone are changed; times twice as long. -/
namespace Go.Proofs.YtdhjigaocamglaaDoor
open Go Go.RowKit

theorem evsErr_of {C : List Cr} {P : List EvP} : ∀ (R : List EvP) (k : Nat), (∀ (j : Nat) (y : EvP), R[j]? = some y → evErr C P (k + j) y = 0) → evsErr C P k R = 0
  | [], _, _ => rfl
  | y :: R, k, h => by
    have h0 := h 0 y rfl
    rw [Nat.add_zero] at h0
    unfold evsErr
    rw [if_pos h0]
    exact evsErr_of R (k + 1) (fun j x hx => by have := h (j + 1) x (by simpa using hx); rwa [show k + (j + 1) = k + 1 + j by omega] at this)
/-! ### Augment by one -/
end Go.Proofs.YtdhjigaocamglaaDoor

/- Pieces: the places of an event's stops (place, changed), for any stops. -/
namespace Go.Proofs.YtdhjigaocamglaaDoor
open Go Go.RowKit

end Go.Proofs.YtdhjigaocamglaaDoor

/- Pieces: piece.Alike, for any two pieces. -/
namespace Go.Proofs.YtdhjigaocamglaaDoor
open Go Go.RowKit

end Go.Proofs.YtdhjigaocamglaaDoor

/- Pieces: piece.Alike, for any two pieces. -/
namespace Go.Proofs.YtdhjigaocamglaaDoor
open Go Go.RowKit

end Go.Proofs.YtdhjigaocamglaaDoor

/- Pieces, the reference: Alike, for any two pieces. -/
namespace Go.Proofs.YtdhjigaocamglaaDoor
open Go Go.RowKit

end Go.Proofs.YtdhjigaocamglaaDoor

/- Pieces: a piece is the same as itself, and alike if it is valid. -/
namespace Go.Proofs.YtdhjigaocamglaaDoor
open Go Go.RowKit

end Go.Proofs.YtdhjigaocamglaaDoor

/- Pieces: the reference's Terse. -/

namespace Go.Proofs.YtdhjigaocamglaaDoor
open Go Go.RowKit

end Go.Proofs.YtdhjigaocamglaaDoor

/- Pieces, plain: Plain and Terse change the signs alone and undo each other. -/
namespace Go.Proofs.YtdhjigaocamglaaDoor
open Go Go.RowKit

def okS (s : Sg) : Bool := okB s.v s.d s.t
theorem frc_ok : ∀ (P : List EvP) (s : Sg), SgR P → okS s = true → ∀ x ∈ frcL s P, okS x = true
  | [], _, _, _, x, hx => by simp [frcL] at hx
  | y :: P, s, hP, hs, x, hx => by
    have hg : okS (sgF y s) = true := by
      unfold sgF
      split
      · exact hs
      · rename_i h
        exact (hP y List.mem_cons_self).2 h
    rw [frcL] at hx
    rcases List.mem_cons.1 hx with rfl | hx
    · exact hg
    · exact frc_ok P _ (fun z hz => hP z (List.mem_cons_of_mem _ hz)) hg x hx
theorem frc_ok0 {C : List Cr} {S : List Int} {P : List EvP} (h : pcErr C S P = 0) : ∀ x ∈ frcL s0g P, okS x = true := by
  cases P with
  | nil => intro x hx; simp [frcL] at hx
  | cons y P =>
    have hR := sgr_of h
    have hv := sgr_head h
    have hg : okS (sgF y s0g) = true := by
      unfold sgF
      rw [if_neg hv]
      exact (hR y List.mem_cons_self).2 hv
    intro x hx
    rw [frcL] at hx
    rcases List.mem_cons.1 hx with rfl | hx
    · exact hg
    · exact frc_ok P _ (fun z hz => hR z (List.mem_cons_of_mem _ hz)) hg x hx

/-! ### What the program's functions make, as lists -/
/-! ### Signs in force of the results -/
end Go.Proofs.YtdhjigaocamglaaDoor

/- Pieces: Cut of the program, for any piece and numbers. -/
namespace Go.Proofs.YtdhjigaocamglaaDoor
open Go Go.RowKit

end Go.Proofs.YtdhjigaocamglaaDoor

/- Pieces: the reference's Bare. -/
namespace Go.Proofs.YtdhjigaocamglaaDoor
open Go Go.RowKit

end Go.Proofs.YtdhjigaocamglaaDoor

/- Pieces: the reference's Cut. -/
namespace Go.Proofs.YtdhjigaocamglaaDoor
open Go Go.RowKit

end Go.Proofs.YtdhjigaocamglaaDoor

/- The law PieceCuts returns true for every piece and numbers. -/
namespace Go.Proofs.YtdhjigaocamglaaDoor
open Go Go.RowKit

end Go.Proofs.YtdhjigaocamglaaDoor

/- Pieces that are cut in two and put together again: what is valid, what is played (plain). -/
namespace Go.Proofs.YtdhjigaocamglaaDoor
open Go Go.RowKit

end Go.Proofs.YtdhjigaocamglaaDoor
