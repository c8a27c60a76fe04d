/- Pieces: Onsets, for any piece. -/
import Derived.Test.YtdhjigaocamglaaDoorQdPcMeas2
import Derived.StillTail
import Derived.StillTailTactics
import Derived.OrdersHeld
import Derived.OrdersIn
import Derived.ControlIn
import Derived.RangeFuncBox
import Derived.Maps.AppendAt
import Derived.Laws.OwnMore
import Derived.Test.YtdhjigaocamglaaDoorQdSameI2
import Derived.Deep.RegionHeld3
import Derived.Deep.RegionHeldLaw
import Derived.Test.YtdhjigaocamglaaDoorQdTrn
namespace Go.Proofs.YtdhjigaocamglaaDoor
open Go Go.RowKit
attribute [local go_sem] Oper.semAt_some

end Go.Proofs.YtdhjigaocamglaaDoor

/- Pieces: Onsets of both sides, for any piece. -/
namespace Go.Proofs.YtdhjigaocamglaaDoor
open Go Go.RowKit

/-- The onsets of a piece, with its end; none if it is not valid. -/
def onsL (C : List Cr) (S : List Int) (P : List EvP) : List Int := if pcErr C S P = 0 then 0 :: sumL 0 (frcL s0g P) else []
end Go.Proofs.YtdhjigaocamglaaDoor

/- Measures as plain lists. -/
namespace Go.Proofs.YtdhjigaocamglaaDoor
open Go Go.RowKit

end Go.Proofs.YtdhjigaocamglaaDoor

/- A region that draws its order, in the body of a range over a function: what is shown of it outside of a round holds in a round. No program is looked into here. -/
namespace Go.Proofs.YtdhjigaocamglaaDoor
open Go Go.RowKit

end Go.Proofs.YtdhjigaocamglaaDoor

/- Pieces: Measures, for any valid piece. -/
namespace Go.Proofs.YtdhjigaocamglaaDoor
open Go Go.RowKit
attribute [local go_sem] Oper.semAt_some

end Go.Proofs.YtdhjigaocamglaaDoor

/- Pieces: the reference's Measures, for any piece. -/
namespace Go.Proofs.YtdhjigaocamglaaDoor
open Go Go.RowKit

theorem sumL_bd : ∀ (F : List Sg) (a : Int) (k : Nat), 0 ≤ a → k < F.length + 1 → 0 ≤ (a :: sumL a F).getD k 0 ∧ (a :: sumL a F).getD k 0 ≤ a + 576 * k
  | _, a, 0, h0, _ => by simp; omega
  | [], a, k + 1, h0, h => by simp at h
  | s :: r, a, k + 1, h0, h => by
    have hb := tkS_bd s
    have := sumL_bd r (a + tkS s) k (by omega) (by simpa using h)
    simp only [sumL, List.getD_cons_succ]
    push_cast
    omega
end Go.Proofs.YtdhjigaocamglaaDoor

/- Pieces: Measures of the program, for any piece. -/
namespace Go.Proofs.YtdhjigaocamglaaDoor
open Go Go.RowKit

end Go.Proofs.YtdhjigaocamglaaDoor

/- Pieces, the reference: SameEvent, SamePlaces, Same, for any two. -/
namespace Go.Proofs.YtdhjigaocamglaaDoor
open Go Go.RowKit

end Go.Proofs.YtdhjigaocamglaaDoor

/- Pieces, the reference: Same, for any two pieces. -/
namespace Go.Proofs.YtdhjigaocamglaaDoor
open Go Go.RowKit

end Go.Proofs.YtdhjigaocamglaaDoor

/- Pieces: what the laws share: a call that hands back a piece; the reference's Same at equal pieces. -/
namespace Go.Proofs.YtdhjigaocamglaaDoor
open Go Go.RowKit

end Go.Proofs.YtdhjigaocamglaaDoor

/- Pieces, plain: what stays valid when signs alone are changed; times twice as long. -/
namespace Go.Proofs.YtdhjigaocamglaaDoor
open Go Go.RowKit

theorem lgGo_keep (c : Int) : ∀ (R Q : List EvP) (h : Nat), R.length = Q.length → (∀ (j : Nat) (x y : EvP), R[j]? = some x → Q[j]? = some y → x.L.map St.c = y.L.map St.c ∧ x.tie = y.tie) → lgGo c R h = lgGo c Q h
  | [], [], _, _, _ => rfl
  | [], _ :: _, _, hl, _ => by simp at hl
  | _ :: _, [], _, hl, _ => by simp at hl
  | x :: R, y :: Q, h, hl, hk => by
    obtain ⟨h1, h2⟩ := hk 0 x y rfl rfl
    have hlen : x.L.length = y.L.length := by
      have := congrArg List.length h1
      simpa using this
    have e1 : restB x = restB y := by unfold restB; rw [hlen, h2]
    have e2 : hsB x.L c = hsB y.L c := by
      have e : ∀ L : List St, hsB L c = (L.map St.c).any fun s => decide (s = c) := fun L => by unfold hsB; rw [List.any_map]; rfl
      rw [e, e, h1]
    have ih := lgGo_keep c R Q (h + 1) (by simpa using hl) (fun j x y hx hy => hk (j + 1) x y (by simpa using hx) (by simpa using hy))
    unfold lgGo
    rw [e1, e2, ih]
theorem lgst_keep {P Q : List EvP} (hl : P.length = Q.length) (hk : ∀ (j : Nat) (x y : EvP), P[j]? = some x → Q[j]? = some y → x.L.map St.c = y.L.map St.c ∧ x.tie = y.tie) (k c : Int) : lgst P k c = lgst Q k c := by
  unfold lgst
  rw [hl]
  split
  · rfl
  · refine lgGo_keep c _ _ 0 (by rw [List.length_drop, List.length_drop, hl]) (fun j x y hx hy => ?_)
    rw [List.getElem?_drop] at hx hy
    exact hk _ x y hx hy
theorem stsErr_keep {C : List Cr} {P Q : List EvP} {k : Nat} (h : ∀ c, lgst P k c = lgst Q k c) : ∀ (L : List St) (bf : Int), stsErr C P k bf L = stsErr C Q k bf L
  | [], _ => rfl
  | s :: L, bf => by
    have e : stErr C P k bf s = stErr C Q k bf s := by unfold stErr; rw [h]
    unfold stsErr
    rw [e, stsErr_keep h L]
theorem evsErr_of {C : List Cr} {P : List EvP} : ∀ (R : List EvP) (k : Nat), (∀ (j : Nat) (y : EvP), R[j]? = some y → evErr C P (k + j) y = 0) → evsErr C P k R = 0
  | [], _, _ => rfl
  | y :: R, k, h => by
    have h0 := h 0 y rfl
    rw [Nat.add_zero] at h0
    unfold evsErr
    rw [if_pos h0]
    exact evsErr_of R (k + 1) (fun j x hx => by have := h (j + 1) x (by simpa using hx); rwa [show k + (j + 1) = k + 1 + j by omega] at this)
/-- A piece of which the signs alone are changed, to right ones, stays valid. -/
theorem pcErr_keep {C : List Cr} {S : List Int} {P Q : List EvP} (h0 : pcErr C S P = 0) (hl : P.length = Q.length) (hk : ∀ (j : Nat) (x y : EvP), P[j]? = some x → Q[j]? = some y → x.L = y.L ∧ x.tie = y.tie ∧ sgnB j y = false) : pcErr C S Q = 0 := by
  obtain ⟨h1, h2, h3⟩ := pcErr_ok h0
  have hlg : ∀ k c : Int, lgst P k c = lgst Q k c := lgst_keep hl (fun j x y hx hy => by obtain ⟨e1, e2, _⟩ := hk j x y hx hy; exact ⟨by rw [e1], e2⟩)
  unfold pcErr
  rw [if_neg (by simp [h1]), if_neg (by omega)]
  refine evsErr_of Q 0 (fun j y hy => ?_)
  have hj : j < P.length := by have := (List.getElem?_eq_some_iff.1 hy).1; omega
  have hx := List.getElem?_eq_getElem hj
  obtain ⟨e1, e2, e3⟩ := hk j _ y hx hy
  obtain ⟨_, k2, k3⟩ := h3 j _ hx
  rw [Nat.zero_add]
  have ht : tieB j y = false := by unfold tieB at k2 ⊢; rw [← e1, ← e2]; exact k2
  unfold evErr
  rw [if_neg (by simp [e3]), if_neg (by simp [ht]), ← stsErr_keep (hlg j) y.L 0, ← e1]
  exact k3

/-! ### Augment by one -/
theorem aug_sgn {j : Nat} {y : EvP} (h : sgnB j y = false) (hok : augOk 1 y = true) : sgnB j (augE 1 y) = false := by
  by_cases h0 : y.v = 0
  · rw [augE, if_pos h0]; exact h
  · have h1 : 1 ≤ y.v - 1 ∧ y.v - 1 ≤ 7 := by simpa [augOk, h0] using hok
    rw [augE, if_neg h0]
    have hv := sgn_v h
    have hw : wrB y.v y.d y.t = true := by simp [wrB, h0]
    unfold sgnB at h ⊢
    rw [hw] at h
    have hb : okB y.v y.d y.t = true := by
      cases hk : okB y.v y.d y.t with
      | true => rfl
      | false => rw [hk] at h; simp at h
    have hdt : (y.d && y.t) = false := by
      simp [okB] at hb
      cases hd : y.d <;> simp_all
    have hw2 : wrB (y.v - 1) y.d y.t = true := by simp [wrB]; omega
    have hb2 : okB (y.v - 1) y.d y.t = true := by
      unfold okB
      rw [hdt]
      simp
      omega
    dsimp only
    rw [hw2, hb2]
    simp
theorem aug_valid {C : List Cr} {S : List Int} {P : List EvP} (h0 : pcErr C S P = 0) (hall : P.all (augOk 1) = true) : pcErr C S (P.map (augE 1)) = 0 := by
  refine pcErr_keep h0 (by simp) (fun j x y hx hy => ?_)
  rw [List.getElem?_map, hx] at hy
  obtain rfl : augE 1 x = y := by simpa using hy
  have hok := List.all_eq_true.1 hall x (List.mem_of_getElem? hx)
  refine ⟨?_, ?_, aug_sgn ((pcErr_ok h0).2.2 j x hx).1 hok⟩
  · unfold augE; split <;> rfl
  · unfold augE; split <;> rfl
def dbS (s : Sg) : Sg := ⟨s.v - 1, s.d, s.t⟩
theorem tk_db {v : Int} {d t : Bool} (h1 : 2 ≤ v) (h7 : v ≤ 7) : tkV (v - 1) d t = 2 * tkV v d t := by
  have : v = 2 ∨ v = 3 ∨ v = 4 ∨ v = 5 ∨ v = 6 ∨ v = 7 := by omega
  rcases this with rfl | rfl | rfl | rfl | rfl | rfl <;> cases d <;> cases t <;> decide
theorem frc_db : ∀ (P : List EvP) (s : Sg), P.all (augOk 1) = true → (∀ y ∈ P, 0 ≤ y.v ∧ y.v ≤ 7) → (2 ≤ s.v ∧ s.v ≤ 7) →
    frcL (dbS s) (P.map (augE 1)) = (frcL s P).map dbS ∧ ∀ x ∈ frcL s P, 2 ≤ x.v ∧ x.v ≤ 7
  | [], _, _, _, _ => ⟨rfl, fun x hx => by simp [frcL] at hx⟩
  | y :: P, s, ha, hv, hs => by
    rw [List.all_cons, Bool.and_eq_true] at ha
    obtain ⟨h0, h7⟩ := hv y List.mem_cons_self
    have hv' : ∀ y ∈ P, 0 ≤ y.v ∧ y.v ≤ 7 := fun z hz => hv z (List.mem_cons_of_mem _ hz)
    by_cases hy : y.v = 0
    · have e : augE 1 y = y := if_pos hy
      have e1 : sgF y s = s := if_pos hy
      have e2 : sgF y (dbS s) = dbS s := if_pos hy
      obtain ⟨i1, i2⟩ := frc_db P s ha.2 hv' hs
      refine ⟨?_, ?_⟩
      · rw [List.map_cons, e, frcL, frcL, e1, e2, i1]; rfl
      · intro x hx
        rw [frcL, e1] at hx
        rcases List.mem_cons.1 hx with rfl | hx
        · exact hs
        · exact i2 x hx
    · have hok : 1 ≤ y.v - 1 ∧ y.v - 1 ≤ 7 := by simpa [augOk, hy] using ha.1
      have e : augE 1 y = { y with v := y.v - 1 } := if_neg hy
      have e1 : sgF y s = ⟨y.v, y.d, y.t⟩ := if_neg hy
      have e2 : sgF { y with v := y.v - 1 } (dbS s) = dbS ⟨y.v, y.d, y.t⟩ := if_neg (by show ¬ y.v - 1 = 0; omega)
      obtain ⟨i1, i2⟩ := frc_db P ⟨y.v, y.d, y.t⟩ ha.2 hv' ⟨by show 2 ≤ y.v; omega, h7⟩
      refine ⟨?_, ?_⟩
      · rw [List.map_cons, e, frcL, frcL, e1, e2, i1]; rfl
      · intro x hx
        rw [frcL, e1] at hx
        rcases List.mem_cons.1 hx with rfl | hx
        · exact ⟨by show 2 ≤ y.v; omega, h7⟩
        · exact i2 x hx
theorem sum_db : ∀ (F : List Sg) (a : Int), (∀ x ∈ F, 2 ≤ x.v ∧ x.v ≤ 7) → sumL (2 * a) (F.map dbS) = (sumL a F).map (fun i => 2 * i)
  | [], _, _ => rfl
  | s :: F, a, h => by
    obtain ⟨h1, h7⟩ := h s List.mem_cons_self
    have e : tkS (dbS s) = 2 * tkS s := tk_db h1 h7
    rw [List.map_cons, sumL, sumL, e, ← Int.mul_add, sum_db F _ (fun x hx => h x (List.mem_cons_of_mem _ hx))]
    rfl
theorem ons_db {C : List Cr} {S : List Int} {P : List EvP} (h0 : pcErr C S P = 0) (hall : P.all (augOk 1) = true) : onsL C S (P.map (augE 1)) = (onsL C S P).map (fun i => 2 * i) := by
  unfold onsL
  rw [if_pos h0, if_pos (aug_valid h0 hall), List.map_cons]
  congr 1
  cases P with
  | nil => rfl
  | cons y P =>
    have hs := ((pcErr_ok h0).2.2 0 y rfl).1
    have hv := sgn_v hs
    have hy : y.v ≠ 0 := by
      intro e
      unfold sgnB at hs
      cases hw : wrB y.v y.d y.t with
      | true => rw [hw] at hs; simp [okB, e] at hs
      | false => rw [hw] at hs; simp at hs
    have hsv : ∀ z ∈ y :: P, 0 ≤ z.v ∧ z.v ≤ 7 := fun z hz => by
      obtain ⟨j, hj⟩ := List.mem_iff_getElem?.1 hz
      exact sgn_v ((pcErr_ok h0).2.2 j _ hj).1
    rw [List.all_cons, Bool.and_eq_true] at hall
    have hok : 1 ≤ y.v - 1 ∧ y.v - 1 ≤ 7 := by simpa [augOk, hy] using hall.1
    have e : augE 1 y = { y with v := y.v - 1 } := if_neg hy
    have e1 : sgF y s0g = ⟨y.v, y.d, y.t⟩ := if_neg hy
    have e2 : sgF { y with v := y.v - 1 } s0g = dbS ⟨y.v, y.d, y.t⟩ := if_neg (by show ¬ y.v - 1 = 0; omega)
    have h2 : 2 ≤ y.v := by omega
    obtain ⟨i1, i2⟩ := frc_db P ⟨y.v, y.d, y.t⟩ hall.2 (fun z hz => hsv z (List.mem_cons_of_mem _ hz)) ⟨h2, hv.2⟩
    rw [List.map_cons, e, frcL, frcL, e1, e2, i1]
    have := sum_db (⟨y.v, y.d, y.t⟩ :: frcL ⟨y.v, y.d, y.t⟩ P) 0 (fun x hx => by
      rcases List.mem_cons.1 hx with rfl | hx
      · exact ⟨h2, hv.2⟩
      · exact i2 x hx)
    simpa using this

end Go.Proofs.YtdhjigaocamglaaDoor

/- Pieces: the places of an event's stops (place, changed), for any stops. -/
namespace Go.Proofs.YtdhjigaocamglaaDoor
open Go Go.RowKit

end Go.Proofs.YtdhjigaocamglaaDoor

/- Pieces: piece.Alike, for any two pieces. -/
namespace Go.Proofs.YtdhjigaocamglaaDoor
open Go Go.RowKit

end Go.Proofs.YtdhjigaocamglaaDoor

/- Pieces: piece.Alike, for any two pieces. -/
namespace Go.Proofs.YtdhjigaocamglaaDoor
open Go Go.RowKit

end Go.Proofs.YtdhjigaocamglaaDoor

/- Pieces, the reference: Alike, for any two pieces. -/
namespace Go.Proofs.YtdhjigaocamglaaDoor
open Go Go.RowKit

end Go.Proofs.YtdhjigaocamglaaDoor

/- Pieces: a piece is the same as itself, and alike if it is valid. -/
namespace Go.Proofs.YtdhjigaocamglaaDoor
open Go Go.RowKit

end Go.Proofs.YtdhjigaocamglaaDoor

/- Pieces: the reference's Terse. -/

namespace Go.Proofs.YtdhjigaocamglaaDoor
open Go Go.RowKit

end Go.Proofs.YtdhjigaocamglaaDoor

/- Pieces, plain: Plain and Terse change the signs alone and undo each other. -/
namespace Go.Proofs.YtdhjigaocamglaaDoor
open Go Go.RowKit

def okS (s : Sg) : Bool := okB s.v s.d s.t
theorem okS_ne {s : Sg} (h : okS s = true) : s.v ≠ 0 ∧ 1 ≤ s.v ∧ s.v ≤ 7 := by
  simp [okS, okB] at h
  omega
theorem frc_ok : ∀ (P : List EvP) (s : Sg), SgR P → okS s = true → ∀ x ∈ frcL s P, okS x = true
  | [], _, _, _, x, hx => by simp [frcL] at hx
  | y :: P, s, hP, hs, x, hx => by
    have hg : okS (sgF y s) = true := by
      unfold sgF
      split
      · exact hs
      · rename_i h
        exact (hP y List.mem_cons_self).2 h
    rw [frcL] at hx
    rcases List.mem_cons.1 hx with rfl | hx
    · exact hg
    · exact frc_ok P _ (fun z hz => hP z (List.mem_cons_of_mem _ hz)) hg x hx
theorem frc_ok0 {C : List Cr} {S : List Int} {P : List EvP} (h : pcErr C S P = 0) : ∀ x ∈ frcL s0g P, okS x = true := by
  cases P with
  | nil => intro x hx; simp [frcL] at hx
  | cons y P =>
    have hR := sgr_of h
    have hv := sgr_head h
    have hg : okS (sgF y s0g) = true := by
      unfold sgF
      rw [if_neg hv]
      exact (hR y List.mem_cons_self).2 hv
    intro x hx
    rw [frcL] at hx
    rcases List.mem_cons.1 hx with rfl | hx
    · exact hg
    · exact frc_ok P _ (fun z hz => hR z (List.mem_cons_of_mem _ hz)) hg x hx

/-! ### What the program's functions make, as lists -/
/-! ### Signs in force of the results -/
theorem terG_len : ∀ (F : List Sg) (b : Bool) (s : Sg), (terG b s F).length = F.length
  | [], _, _ => rfl
  | x :: r, b, s => by simp [terG, terG_len r]
theorem frc_setF : ∀ (P : List EvP) (F : List Sg) (s : Sg), F.length = P.length → (∀ x ∈ F, okS x = true) → frcL s (setG P F) = F
  | [], [], _, _, _ => rfl
  | [], _ :: _, _, h, _ => by simp at h
  | _ :: _, [], _, h, _ => by simp at h
  | y :: P, f :: F, s, h, hF => by
    have hf := (okS_ne (hF f List.mem_cons_self)).1
    have e : sgF (upS y f) s = f := if_neg (show ¬ (upS y f).v = 0 from hf)
    show frcL s (upS y f :: setG P F) = f :: F
    rw [frcL, e, frc_setF P F f (by simpa using h) (fun x hx => hF x (List.mem_cons_of_mem _ hx))]
theorem frc_ter : ∀ (P : List EvP) (F : List Sg) (s : Sg) (b : Bool), F.length = P.length → (∀ x ∈ F, okS x = true) → frcL s (setG P (terG b s F)) = F
  | [], [], _, _, _, _ => rfl
  | [], _ :: _, _, _, h, _ => by simp at h
  | _ :: _, [], _, _, h, _ => by simp at h
  | y :: P, f :: F, s, b, h, hF => by
    have hf := (okS_ne (hF f List.mem_cons_self)).1
    have ih := frc_ter P F f true (by simpa using h) (fun x hx => hF x (List.mem_cons_of_mem _ hx))
    by_cases hb : (b && sqE f s) = true
    · have e : sgF (upS y s0g) s = s := if_pos rfl
      have hfs : f = s := by
        rw [Bool.and_eq_true] at hb
        obtain ⟨e1, e2, e3⟩ := sqE_eq hb.2
        cases f; cases s; simp_all
      show frcL s (upS y (if (b && sqE f s) = true then s0g else f) :: setG P (terG true f F)) = f :: F
      rw [if_pos hb, frcL, e, ← hfs, ih]
    · have e : sgF (upS y f) s = f := if_neg (show ¬ (upS y f).v = 0 from hf)
      show frcL s (upS y (if (b && sqE f s) = true then s0g else f) :: setG P (terG true f F)) = f :: F
      rw [if_neg hb, frcL, e, ih]
theorem setG_at : ∀ (P : List EvP) (G : List Sg) (j : Nat), G.length = P.length → (setG P G)[j]? = (P[j]?).bind fun y => (G[j]?).map fun g => upS y g
  | [], [], _, _ => by simp [setG]
  | [], _ :: _, _, h => by simp at h
  | _ :: _, [], _, h => by simp at h
  | y :: P, g :: G, 0, _ => by simp [setG]
  | y :: P, g :: G, j + 1, h => by simpa [setG] using setG_at P G j (by simpa using h)
theorem sgn_ok {j : Nat} {y : EvP} {g : Sg} (h : okS g = true) : sgnB j (upS y g) = false := by
  have hv := (okS_ne h).1
  unfold sgnB
  have hw : wrB (upS y g).v (upS y g).d (upS y g).t = true := by simp [wrB, upS, hv]
  have hk : okB (upS y g).v (upS y g).d (upS y g).t = true := h
  rw [hw, hk]
  simp
theorem sgn_zero {j : Nat} {y : EvP} : sgnB (j + 1) (upS y s0g) = false := by simp [sgnB, upS, s0g, wrB]
/-- A piece with its signs changed to these is valid. -/
theorem set_valid {C : List Cr} {S : List Int} {P : List EvP} (h : pcErr C S P = 0) {G : List Sg} (hl : G.length = P.length) (hG : ∀ (j : Nat) (g : Sg), G[j]? = some g → okS g = true ∨ (g = s0g ∧ 0 < j)) : pcErr C S (setG P G) = 0 := by
  refine pcErr_keep h (setG_len P G).symm (fun j x y hx hy => ?_)
  have hj : j < G.length := by rw [hl]; exact (List.getElem?_eq_some_iff.1 hx).1
  rw [setG_at P G j hl, hx, List.getElem?_eq_getElem hj] at hy
  obtain rfl : upS x G[j] = y := by simpa using hy
  refine ⟨rfl, rfl, ?_⟩
  rcases hG j _ (List.getElem?_eq_getElem hj) with h1 | ⟨h1, h2⟩
  · exact sgn_ok h1
  · rw [h1]
    obtain ⟨i, rfl⟩ : ∃ i, j = i + 1 := ⟨j - 1, by omega⟩
    exact sgn_zero
theorem terG_ok : ∀ (F : List Sg) (b : Bool) (s : Sg), (∀ x ∈ F, okS x = true) → ∀ (j : Nat) (g : Sg), (terG b s F)[j]? = some g → okS g = true ∨ (g = s0g ∧ (b = true ∨ 0 < j))
  | [], _, _, _, j, g, h => by simp [terG] at h
  | x :: F, b, s, hF, 0, g, h => by
    rw [terG] at h
    obtain rfl : (if (b && sqE x s) = true then s0g else x) = g := by simpa using h
    by_cases hb : (b && sqE x s) = true
    · rw [if_pos hb]
      rw [Bool.and_eq_true] at hb
      exact .inr ⟨rfl, .inl hb.1⟩
    · rw [if_neg hb]
      exact .inl (hF x List.mem_cons_self)
  | x :: F, b, s, hF, j + 1, g, h => by
    rw [terG] at h
    rcases terG_ok F true x (fun z hz => hF z (List.mem_cons_of_mem _ hz)) j g (by simpa using h) with h1 | ⟨h1, _⟩
    · exact .inl h1
    · exact .inr ⟨h1, .inr (by omega)⟩
end Go.Proofs.YtdhjigaocamglaaDoor

/- Pieces: Cut of the program, for any piece and numbers. -/
namespace Go.Proofs.YtdhjigaocamglaaDoor
open Go Go.RowKit

end Go.Proofs.YtdhjigaocamglaaDoor

/- Pieces: the reference's Bare. -/
namespace Go.Proofs.YtdhjigaocamglaaDoor
open Go Go.RowKit

end Go.Proofs.YtdhjigaocamglaaDoor

/- Pieces: the reference's Cut. -/
namespace Go.Proofs.YtdhjigaocamglaaDoor
open Go Go.RowKit

end Go.Proofs.YtdhjigaocamglaaDoor

/- The law PieceCuts returns true for every piece and numbers. -/
namespace Go.Proofs.YtdhjigaocamglaaDoor
open Go Go.RowKit

end Go.Proofs.YtdhjigaocamglaaDoor

/- Pieces that are cut in two and put together again: what is valid, what is played (plain). -/
namespace Go.Proofs.YtdhjigaocamglaaDoor
open Go Go.RowKit

theorem pcErr_mk {C : List Cr} {S : List Int} {P : List EvP} (h1 : chk C S = 0) (h2 : P.length ≤ 400) (h3 : ∀ (j : Nat) (y : EvP), P[j]? = some y → sgnB j y = false ∧ tieB j y = false ∧ stsErr C P j 0 y.L = 0) : pcErr C S P = 0 := by
  unfold pcErr
  rw [if_neg (by simp [h1]), if_neg (by omega)]
  refine evsErr_of P 0 (fun j y hy => ?_)
  obtain ⟨k1, k2, k3⟩ := h3 j y hy
  rw [Nat.zero_add]
  unfold evErr
  rw [if_neg (by simp [k1]), if_neg (by simp [k2])]
  exact k3
end Go.Proofs.YtdhjigaocamglaaDoor
