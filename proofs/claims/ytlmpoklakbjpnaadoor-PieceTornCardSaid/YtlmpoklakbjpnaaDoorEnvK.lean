/- What the cards over the table of signs want, without the instrument's tables. -/
import Derived.Test.YtlmpoklakbjpnaaDoorCheckAll
import Derived.Test.YtlmpoklakbjpnaaDoorRows
import Derived.Lib.LaidU8
import Derived.Lib.LaidTab
import Derived.ProofKit
import Derived.OpenShut
import Derived.LaidMore
import Derived.Lay
import Derived.Deep.Strs
import Derived.Stop.Joined
namespace Go.Proofs.YtlmpoklakbjpnaaDoor
open Go.ChangeShapes Go.WideShapes Go.ChangeAt Go.RowKit Go.Deep

theorem own : ownKnob Tryd.prog.godebug = none := by kernel_rfl

theorem list_by3 (l m : List Value) (n : Nat) (hl : l.length = n * 3) (hm : m.length = n * 3) (h : ∀ i, i < n → (l.drop (i * 3)).take 3 = (m.drop (i * 3)).take 3) : l = m := by
  apply List.ext_getElem?
  intro j
  by_cases hj : j < n * 3
  · have h1 := h (j / 3) (by omega)
    have h2 := congrArg (fun x => x[j % 3]?) h1
    simp only [List.getElem?_take, List.getElem?_drop] at h2
    rw [if_pos (by omega), if_pos (by omega)] at h2
    rwa [show j / 3 * 3 + j % 3 = j from by omega] at h2
  · rw [List.getElem?_eq_none (by omega), List.getElem?_eq_none (by omega)]
theorem Tryd.c3 : Tryd.prog.cellsOf 3 = 1 := by kernel_rfl
theorem list3 {l : List Value} (h : l.length = 3) : ∃ a b c, l = [a, b, c] := by
  match l, h with
  | [a, b, c], _ => exact ⟨a, b, c, rfl⟩
theorem row_of_var {P : Program} {w : World} {n : String} {g : Nat} {cs : Array Value} (hg : P.globalNamed n = some g) (h : w.var? P n = some cs) : ∃ t fr, w.heap[g]? = some (.cells cs t fr) := by
  unfold World.var? at h
  rw [hg] at h
  simp only [Option.bind_some] at h
  split at h
  · rename_i c t fr hh
    cases h
    exact ⟨t, fr, hh⟩
  · cases h

end Go.Proofs.YtlmpoklakbjpnaaDoor
