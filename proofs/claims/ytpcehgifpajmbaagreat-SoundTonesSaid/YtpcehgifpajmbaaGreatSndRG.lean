/- Sound, the reference: Notes and Presses, for any piece. -/
import Derived.Test.YtpcehgifpajmbaaGreatSndFn
import Derived.Test.YtpcehgifpajmbaaGreatSndRef
import Derived.Test.YtpcehgifpajmbaaGreatRefAt
import Derived.Deep.RegionHeldLaw
import Derived.Deep.AppendLies
namespace Go.Proofs.YtpcehgifpajmbaaGreat
open Go Go.RowKit

theorem gm_enter {g : Py → List Nt} {C : List Cr} {S : List Int} {P : List EvP} {O : List Int} {k : Nat} {acc T : List Nt} (h : T = acc ++ (pyGo C S P O k (P.drop k)).flatMap g) (hd : P.drop k = P.getD k z6 :: P.drop (k + 1)) :
    T = acc ++ ((pyEv C S P O k ((P.getD k z6).L.drop 0)).flatMap g ++ (pyGo C S P O (k + 1) (P.drop (k + 1))).flatMap g) := by
  rw [h, hd, pyGo, List.flatMap_append]; rfl
theorem gm_hit {g : Py → List Nt} {C : List Cr} {S : List Int} {P : List EvP} {O : List Int} {k j : Nat} {L : List St} {acc T tail : List Nt} (h : T = acc ++ ((pyEv C S P O k (L.drop j)).flatMap g ++ tail)) (hd : L.drop j = L.getD j z5 :: L.drop (j + 1)) :
    T = (acc ++ g (pyOf C S P O k (L.getD j z5))) ++ ((pyEv C S P O k (L.drop (j + 1))).flatMap g ++ tail) := by
  rw [h, hd, pyEv, pyEv, List.map_cons, List.flatMap_cons]
  simp
theorem gm_out {g : Py → List Nt} {C : List Cr} {S : List Int} {P : List EvP} {O : List Int} {k j : Nat} {L : List St} {acc T tail : List Nt} (h : T = acc ++ ((pyEv C S P O k (L.drop j)).flatMap g ++ tail)) (hj : L.length ≤ j) : T = acc ++ tail := by
  rw [h, List.drop_of_length_le hj]
  rfl
def gNt (x : Py) : List Nt := [x.t]
def gPr (x : Py) : List Nt := if 0 < x.f then [⟨x.t.ev, x.t.c, x.f, x.t.fm, x.t.to⟩] else []
def prL (C : List Cr) (S : List Int) (P : List EvP) : List Nt := (pyL C S P).flatMap gPr
theorem ntL_g (C : List Cr) (S : List Int) (P : List EvP) : ntL C S P = (pyL C S P).flatMap gNt := by
  unfold ntL
  generalize pyL C S P = T
  induction T with
  | nil => rfl
  | cons x r ih => simp [gNt, ih]
theorem prL_len (C : List Cr) (S : List Int) (P : List EvP) : (prL C S P).length ≤ 5600 := by
  have h := pyL_len C S P
  have : ∀ T : List Py, (T.flatMap gPr).length ≤ T.length := by
    intro T
    induction T with
    | nil => simp
    | cons x r ih =>
      have : (gPr x).length ≤ 1 := by unfold gPr; split <;> simp
      simp only [List.flatMap_cons, List.length_append, List.length_cons]
      omega
  exact Nat.le_trans (this _) h
theorem pyL_none {C : List Cr} {S : List Int} {P : List EvP} (h : pcErr C S P ≠ 0) : pyL C S P = [] := by unfold pyL; rw [if_neg h]

end Go.Proofs.YtpcehgifpajmbaaGreat
