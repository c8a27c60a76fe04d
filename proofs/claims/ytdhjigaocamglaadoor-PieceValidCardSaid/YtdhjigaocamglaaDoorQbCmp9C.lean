/- Pieces: Onsets, for any piece. -/
import Derived.Test.YtdhjigaocamglaaDoorQbPcMeas2
import Derived.StillTail
import Derived.StillTailTactics
import Derived.OrdersHeld
import Derived.OrdersIn
import Derived.ControlIn
import Derived.RangeFuncBox
import Derived.Maps.AppendAt
import Derived.Laws.OwnMore
import Derived.Test.YtdhjigaocamglaaDoorQbSameI2
import Derived.Deep.RegionHeld3
import Derived.Deep.RegionHeldLaw
namespace Go.Proofs.YtdhjigaocamglaaDoor
open Go Go.RowKit
attribute [local go_sem] Oper.semAt_some

end Go.Proofs.YtdhjigaocamglaaDoor

/- Pieces: Onsets of both sides, for any piece. -/
namespace Go.Proofs.YtdhjigaocamglaaDoor
open Go Go.RowKit

end Go.Proofs.YtdhjigaocamglaaDoor

/- Measures as plain lists. -/
namespace Go.Proofs.YtdhjigaocamglaaDoor
open Go Go.RowKit

end Go.Proofs.YtdhjigaocamglaaDoor

/- A region that draws its order, in the body of a range over a function: what is shown of it outside of a round holds in a round. No program is looked into here. -/
namespace Go.Proofs.YtdhjigaocamglaaDoor
open Go Go.RowKit

end Go.Proofs.YtdhjigaocamglaaDoor

/- Pieces: Measures, for any valid piece. -/
namespace Go.Proofs.YtdhjigaocamglaaDoor
open Go Go.RowKit
attribute [local go_sem] Oper.semAt_some

end Go.Proofs.YtdhjigaocamglaaDoor

/- Pieces: the reference's Measures, for any piece. -/
namespace Go.Proofs.YtdhjigaocamglaaDoor
open Go Go.RowKit

end Go.Proofs.YtdhjigaocamglaaDoor

/- Pieces: Measures of the program, for any piece. -/
namespace Go.Proofs.YtdhjigaocamglaaDoor
open Go Go.RowKit

end Go.Proofs.YtdhjigaocamglaaDoor

/- Pieces, the reference: SameEvent, SamePlaces, Same, for any two. -/
namespace Go.Proofs.YtdhjigaocamglaaDoor
open Go Go.RowKit

def pqEqB (a b : St) : Bool := decide (a.c = b.c) && decide (a.f = b.f)
end Go.Proofs.YtdhjigaocamglaaDoor

/- Pieces, the reference: Same, for any two pieces. -/
namespace Go.Proofs.YtdhjigaocamglaaDoor
open Go Go.RowKit

end Go.Proofs.YtdhjigaocamglaaDoor

/- Pieces: what the laws share: a call that hands back a piece; the reference's Same at equal pieces. -/
namespace Go.Proofs.YtdhjigaocamglaaDoor
open Go Go.RowKit

end Go.Proofs.YtdhjigaocamglaaDoor

/- Pieces, plain: what stays valid when signs alone are changed; times twice as long. -/
namespace Go.Proofs.YtdhjigaocamglaaDoor
open Go Go.RowKit

theorem lgGo_keep (c : Int) : ∀ (R Q : List EvP) (h : Nat), R.length = Q.length → (∀ (j : Nat) (x y : EvP), R[j]? = some x → Q[j]? = some y → x.L.map St.c = y.L.map St.c ∧ x.tie = y.tie) → lgGo c R h = lgGo c Q h
  | [], [], _, _, _ => rfl
  | [], _ :: _, _, hl, _ => by simp at hl
  | _ :: _, [], _, hl, _ => by simp at hl
  | x :: R, y :: Q, h, hl, hk => by
    obtain ⟨h1, h2⟩ := hk 0 x y rfl rfl
    have hlen : x.L.length = y.L.length := by
      have := congrArg List.length h1
      simpa using this
    have e1 : restB x = restB y := by unfold restB; rw [hlen, h2]
    have e2 : hsB x.L c = hsB y.L c := by
      have e : ∀ L : List St, hsB L c = (L.map St.c).any fun s => decide (s = c) := fun L => by unfold hsB; rw [List.any_map]; rfl
      rw [e, e, h1]
    have ih := lgGo_keep c R Q (h + 1) (by simpa using hl) (fun j x y hx hy => hk (j + 1) x y (by simpa using hx) (by simpa using hy))
    unfold lgGo
    rw [e1, e2, ih]
theorem lgst_keep {P Q : List EvP} (hl : P.length = Q.length) (hk : ∀ (j : Nat) (x y : EvP), P[j]? = some x → Q[j]? = some y → x.L.map St.c = y.L.map St.c ∧ x.tie = y.tie) (k c : Int) : lgst P k c = lgst Q k c := by
  unfold lgst
  rw [hl]
  split
  · rfl
  · refine lgGo_keep c _ _ 0 (by rw [List.length_drop, List.length_drop, hl]) (fun j x y hx hy => ?_)
    rw [List.getElem?_drop] at hx hy
    exact hk _ x y hx hy
theorem stsErr_keep {C : List Cr} {P Q : List EvP} {k : Nat} (h : ∀ c, lgst P k c = lgst Q k c) : ∀ (L : List St) (bf : Int), stsErr C P k bf L = stsErr C Q k bf L
  | [], _ => rfl
  | s :: L, bf => by
    have e : stErr C P k bf s = stErr C Q k bf s := by unfold stErr; rw [h]
    unfold stsErr
    rw [e, stsErr_keep h L]
theorem evsErr_of {C : List Cr} {P : List EvP} : ∀ (R : List EvP) (k : Nat), (∀ (j : Nat) (y : EvP), R[j]? = some y → evErr C P (k + j) y = 0) → evsErr C P k R = 0
  | [], _, _ => rfl
  | y :: R, k, h => by
    have h0 := h 0 y rfl
    rw [Nat.add_zero] at h0
    unfold evsErr
    rw [if_pos h0]
    exact evsErr_of R (k + 1) (fun j x hx => by have := h (j + 1) x (by simpa using hx); rwa [show k + (j + 1) = k + 1 + j by omega] at this)
/-- A piece of which the signs alone are changed, to right ones, stays valid. -/
theorem pcErr_keep {C : List Cr} {S : List Int} {P Q : List EvP} (h0 : pcErr C S P = 0) (hl : P.length = Q.length) (hk : ∀ (j : Nat) (x y : EvP), P[j]? = some x → Q[j]? = some y → x.L = y.L ∧ x.tie = y.tie ∧ sgnB j y = false) : pcErr C S Q = 0 := by
  obtain ⟨h1, h2, h3⟩ := pcErr_ok h0
  have hlg : ∀ k c : Int, lgst P k c = lgst Q k c := lgst_keep hl (fun j x y hx hy => by obtain ⟨e1, e2, _⟩ := hk j x y hx hy; exact ⟨by rw [e1], e2⟩)
  unfold pcErr
  rw [if_neg (by simp [h1]), if_neg (by omega)]
  refine evsErr_of Q 0 (fun j y hy => ?_)
  have hj : j < P.length := by have := (List.getElem?_eq_some_iff.1 hy).1; omega
  have hx := List.getElem?_eq_getElem hj
  obtain ⟨e1, e2, e3⟩ := hk j _ y hx hy
  obtain ⟨_, k2, k3⟩ := h3 j _ hx
  rw [Nat.zero_add]
  have ht : tieB j y = false := by unfold tieB at k2 ⊢; rw [← e1, ← e2]; exact k2
  unfold evErr
  rw [if_neg (by simp [e3]), if_neg (by simp [ht]), ← stsErr_keep (hlg j) y.L 0, ← e1]
  exact k3

/-! ### Augment by one -/
end Go.Proofs.YtdhjigaocamglaaDoor

/- Pieces: the places of an event's stops (place, changed), for any stops. -/
namespace Go.Proofs.YtdhjigaocamglaaDoor
open Go Go.RowKit

end Go.Proofs.YtdhjigaocamglaaDoor

/- Pieces: piece.Alike, for any two pieces. -/
namespace Go.Proofs.YtdhjigaocamglaaDoor
open Go Go.RowKit

end Go.Proofs.YtdhjigaocamglaaDoor

/- Pieces: piece.Alike, for any two pieces. -/
namespace Go.Proofs.YtdhjigaocamglaaDoor
open Go Go.RowKit

end Go.Proofs.YtdhjigaocamglaaDoor

/- Pieces, the reference: Alike, for any two pieces. -/
namespace Go.Proofs.YtdhjigaocamglaaDoor
open Go Go.RowKit

end Go.Proofs.YtdhjigaocamglaaDoor

/- Pieces: a piece is the same as itself, and alike if it is valid. -/
namespace Go.Proofs.YtdhjigaocamglaaDoor
open Go Go.RowKit

end Go.Proofs.YtdhjigaocamglaaDoor
