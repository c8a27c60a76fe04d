/- append to an empty slice without room, in a walk; what lies in blocks of another type stays as a list grows. -/
import Derived.Test.YtncgikfalimnjaaDoorGrow
import Derived.Test.YtncgikfalimnjaaDoorPc
namespace Go.Proofs.YtncgikfalimnjaaDoor
open Go Go.RowKit

/-- append to an empty slice without room: the elements lie in memory of their own. -/
theorem wpList_append_fresh {P : Program} (w : World) {ops : Array Oper} {rest : List Oper} {o : Oper} {a : Act} {Q : Exit → Act → World → Prop}
    (hg : o.guard = none) (s x : Operand) (t : TypeId) (hop : o.op = Op.call { callee := Callee.builtin Builtin.append, args := #[s, x], argTypes := #[t, t] })
    (e : TypeId) (i : TypeInfo) (z : Value) (size bytes : Nat) (h1 : P.underlying t = some (.slice e)) (h2 : P.info? e = some i) (h3 : i.zero = some z) (h4 : i.size = size) (h5 : i.bytes = bytes) (h6 : z.cells.size = size) (h7 : 0 < size)
    (ao : Addr) (hs : a.eval s = .slice (some ao) 0 0) (A : Option Addr) (n c : Nat) (news : List Value) (hx : a.eval x = .slice A n c) {B : Nat} (hsl : Sl w B size A n c news)
    (b1 : n ≤ maxLen) (b2 : n * bytes ≤ 140737488355328)
    (hK : ∀ A' c' w', Ow w' w.heap.size e size A' n c' news → Below w.heap.size w w' → wpList P ops Q rest (a.put o.dst (.slice A' n c')) w') :
    wpList P ops Q (o :: rest) a w := by
  refine wpList_plain hg fun K hK' => ?_
  by_cases hn : n = 0
  · subst hn
    have hrun : (Builtin.append_ #[t, t] o.type #[.slice (some ao) 0 0, .slice A 0 c]).run P w = .ok (.slice (some ao) 0 0) w := by
      cases A <;> simp [Builtin.append_, run_underlying h1, sizeOf, typeInfo, h2, Builtin.lenOf, Builtin.firstCells, storeCells, loadCells, loadCellsFrom]
    unfold Oper.wp
    simp [execOp, hop, resolve, invoke, builtin, hs, hx, hrun, Result.andThen]
    exact hK' _ _ (hK _ _ _ ⟨Nat.le_refl _, hsl.2.1, fun h => by omega⟩ (Below.refl _ _))
  · obtain ⟨b, off, rfl, _, hc⟩ := hsl.2.2 (by omega)
    obtain ⟨v', w', hrun, r1, r2⟩ := run_append_arg_grows (P := P) w t o.type e i z size bytes h1 h2 h3 h4 h5 h6 h7 ao 0 0 [] (by simp) (fun j u hu => by cases hu) ⟨b, off, none⟩ n c news hsl.2.1
      (fun j u hu => by rw [Go.WideShapes.add_plain]; exact hc j u hu) (by omega) (by omega) (by rw [Nat.zero_add]; exact b2)
    rw [Nat.zero_add, List.nil_append] at r1
    obtain ⟨A', c', rfl⟩ := own_slice r1
    unfold Oper.wp
    simp [execOp, hop, resolve, invoke, builtin, hs, hx, hrun, Result.andThen]
    exact hK' _ _ (hK _ _ _ (Ow.of_own r1) (Below.grown (Below.refl _ _) r2 (Nat.le_refl _) (fun g h => by cases h)))

/-- A slice of its own stays where its block stays. -/
theorem Ow.blk {w w' : World} {B : Nat} {t : TypeId} {size : Nat} {A : Option Addr} {n c : Nat} {xs : List Value} (h : Ow w B t size A n c xs) (hk : ∀ g cs, Blk w g t cs → Blk w' g t cs) : Ow w' B t size A n c xs :=
  ⟨h.1, h.2.1, fun hn => by
    obtain ⟨g, cur, h1, h2, h3, h4⟩ := h.2.2 hn
    exact ⟨g, cur, h1, h2, hk _ _ h3, h4⟩⟩
theorem Blk.ne {w : World} {g g' : Nat} {t t' : TypeId} {cs cs' : Array Value} (h : Blk w g t cs) (h' : Blk w g' t' cs') (hne : t ≠ t') : g ≠ g' := by
  intro e
  subst e
  unfold Blk at h h'
  rw [h] at h'
  injection h' with h'
  injection h' with _ he
  exact hne he
theorem Blk.setOther {w : World} {g g' : Nat} {t : TypeId} {cs : Array Value} (h : Blk w g t cs) (hne : g ≠ g') (i : Nat) (u : Value) : Blk (w.setCell ⟨g', i, none⟩ u) g t cs := by
  unfold Blk at h ⊢
  simp only [World.setCell, Array.getElem?_modify]
  rw [if_neg (fun e => hne e.symm)]
  exact h

end Go.Proofs.YtncgikfalimnjaaDoor
