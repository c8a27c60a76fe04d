/- What slices.Clone returns at courses and at numbers, and the program's clone of an instrument. -/
import Derived.Test.YtdaeanjjmbibmaaDoorCopy
import Derived.Lib.SliceRun
namespace Go.Proofs.YtdaeanjjmbibmaaDoor
open Go.RowKit

theorem wpList_append_fresh {P : Program} {ops : Array Oper} {rest : List Oper} {o : Oper} {a : Act} {w : World} {Q : Exit → Act → World → Prop}
    (hg : o.guard = none) (s x : Operand) (t : TypeId) (hop : o.op = Op.call { callee := Callee.builtin Builtin.append, args := #[s, x], argTypes := #[t, t] })
    (e : TypeId) (i : TypeInfo) (z : Value) (size bytes : Nat) (h1 : P.underlying t = some (.slice e)) (h2 : P.info? e = some i) (h3 : i.zero = some z) (h4 : i.size = size) (h5 : i.bytes = bytes) (h6 : z.cells.size = size) (h7 : 0 < size)
    (ao : Addr) (hs : a.eval s = .slice (some ao) 0 0) (A : Option Addr) (n c : Nat) (news : List Value) (hx : a.eval x = .slice A n c) {B : Nat} (hsl : Sl w B size A n c news)
    (b1 : n ≤ maxLen) (b2 : n * bytes ≤ 140737488355328)
    (hK : ∀ A' c' w', Ow w' w.heap.size e size A' n c' news → Below w.heap.size w w' → wpList P ops Q rest (a.put o.dst (.slice A' n c')) w') : wpList P ops Q (o :: rest) a w := by
  refine wpList_plain hg fun K hK' => ?_
  have h := step_append_fresh (P := P) (ops := ops) (K := K) (Q := Q) (E := True) hg s x t hop e i z size bytes h1 h2 h3 h4 h5 h6 h7 ao hs A n c news hx hsl b1 b2 (fun A' c' w' g1 g2 => hK' _ _ (hK A' c' w' g1 g2))
  rw [if_pos (by simp [Region.wanted, hg])] at h
  exact h

theorem Ow.nil_ (w : World) (B : Nat) (t : TypeId) (size : Nat) : Ow w B t size none 0 0 [] := ⟨Nat.le_refl _, by simp, fun h => absurd h (by omega)⟩

def ClPost (t : TypeId) (size n : Nat) (xs : List Value) (w : World) (e : Ending) (w' : World) : Prop :=
  ∃ A c, e = .returned (.slice A n c) ∧ Ow w' w.heap.size t size A n c xs ∧ Below w.heap.size w w'

end Go.Proofs.YtdaeanjjmbibmaaDoor
