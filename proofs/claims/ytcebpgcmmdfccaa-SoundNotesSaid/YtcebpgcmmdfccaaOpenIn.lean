/- An instrument that came in as an argument, opened: its courses and its steps as plain lists. -/
import Derived.Test.YtcebpgcmmdfccaaCheckAll
import Derived.Lib.SmallJoins
import Derived.Deep.Slices
import Derived.Deep.Strs
namespace Go.Proofs.Ytcebpgcmmdfccaa
open Go.ChangeShapes Go.WideShapes Go.ChangeAt Go.RowKit Go.Deep

theorem plain_cell {w : World} {a : Addr} {v : Value} (h : w.cell? a = some v) : a = ⟨a.block, a.off, none⟩ ∧ a.block < w.heap.size := by
  unfold World.cell? at h
  split at h
  · rename_i c t fr hh
    split at h
    · cases h
    · rename_i hs
      refine ⟨?_, (Array.getElem?_eq_some_iff.1 hh).1⟩
      obtain ⟨b, o, s⟩ := a
      cases s with
      | none => rfl
      | some y => simp at hs
  · cases h

section
variable {H : Type} {enc : TypeId × Value → H} {W : World} {base : Nat} {sp : Nat → Bool} {held : Bool}

set_option maxRecDepth 100000 in
theorem open_steps {fuel : Nat} {cs : List Value} {x : DataW H × List MemPlace} (h : DataW.trod enc Try.prog W base sp held fuel 23 cs = some x) :
    ∃ A m c S, cs = [.slice A m c] ∧ Sl W W.heap.size 1 A m c (intC S) ∧ m = S.length ∧ c ≤ maxLen := by
  rcases open_ints Try.underlying23 Try.underlying3 (by kernel_rfl) h with ⟨rfl, rfl⟩ | ⟨a, len, cap, zs, rfl, hb, hl, hm, hz, rfl, hc, _⟩
  · exact ⟨none, 0, 0, [], rfl, ⟨Nat.le_refl _, rfl, fun h => by omega⟩, rfl, by decide⟩
  · have hle : len ≤ zs.length := by rw [hz]; split <;> omega
    refine ⟨some a, len, cap, zs.take len, rfl, ⟨hl, by simp [intC]; omega, fun h0 => ?_⟩, by simp; omega, hm⟩
    have hc0 : W.cell? a = some (.int .i64 (zs.getD 0 0)) := by have := hc 0 (by omega); simpa [Addr.add] using this
    obtain ⟨e, hlt⟩ := plain_cell hc0
    refine ⟨a.block, a.off, by rw [← e], hlt, fun j u hu => ?_⟩
    have hj : j < len := by have := (List.getElem?_eq_some_iff.1 hu).1; simp [intC] at this; omega
    rw [intC_at _ j (by simp; omega)] at hu
    obtain rfl := Option.some.inj hu
    have := hc j (by omega)
    rw [e, Go.WideShapes.add_plain] at this
    rw [this]
    simp [List.getD_eq_getElem?_getD, hj]

instance : Inhabited Cr := ⟨z0⟩

set_option maxRecDepth 100000 in
theorem open_courses {fuel : Nat} {cs : List Value} {x : DataW H × List MemPlace} (h : DataW.trod enc Try.prog W base sp held fuel 22 cs = some x) :
    ∃ A n c C, cs = [.slice A n c] ∧ Sl W W.heap.size 3 A n c (crC C) ∧ n = C.length ∧ c ≤ maxLen := by
  rcases open_slice Try.underlying22 h with ⟨rfl, rfl⟩ | ⟨a, len, cap, m, nn, D, Pl, rfl, hb, hl, hm, hmm, rfl, hx⟩
  · exact ⟨none, 0, 0, [], rfl, ⟨Nat.le_refl _, rfl, fun h => by omega⟩, rfl, by decide⟩
  · have hlm : len ≤ m := by rw [hmm]; split <;> omega
    have ce : Try.prog.cellsOf 78 = 3 := by kernel_rfl
    have c1 : Try.prog.cellsOf 3 = 1 := by kernel_rfl
    have c2 : Try.prog.cellsOf 4 = 1 := by kernel_rfl
    have each : ∀ i, i < len → ∃ q : Cr, W.cell? (a.add (i * 3)) = some (.int .i64 q.p) ∧ W.cell? (a.add (i * 3 + 1)) = some (.int .i64 q.f) ∧ W.cell? (a.add (i * 3 + 2)) = some (.bool q.o) := by
      intro i hi
      obtain ⟨cs', h1, h2⟩ := hx i (by omega)
      rw [ce] at h1
      obtain ⟨_, hlen, hcell⟩ := World.cells?_some h1
      obtain ⟨y0, y1, y2, n3, _, _, g0, g1, g2⟩ := trod_struct3 Try.underlying78 h2
      match cs', hlen with
      | [v0, v1, v2], _ =>
        have e0 := hcell 0 (by omega)
        have e1 := hcell 1 (by omega)
        have e2 := hcell 2 (by omega)
        rw [Go.Deep.add_add] at e0 e1 e2
        simp [c1, c2] at g0 g1 g2 e0 e1 e2
        obtain ⟨p, k0, _, _⟩ := DataW.trod_int Try.underlying3 g0
        obtain ⟨f, k1, _, _⟩ := DataW.trod_int Try.underlying3 g1
        obtain ⟨o, k2, _⟩ := DataW.trod_bool Try.underlying4 g2
        obtain rfl : v0 = .int .i64 p := by simpa using k0
        obtain rfl : v1 = .int .i64 f := by simpa using k1
        obtain rfl : v2 = .bool o := by simpa using k2
        exact ⟨⟨p, f, o⟩, e0, e1, e2⟩
    obtain ⟨q, hq⟩ := choose_lt each
    refine ⟨some a, len, cap, (List.range len).map q, rfl, ⟨hl, by rw [crC_len]; simp, fun h0 => ?_⟩, by simp, hm⟩
    have hc0 : W.cell? a = some (.int .i64 (q 0).p) := by have := (hq 0 h0).1; simpa [Addr.add] using this
    obtain ⟨e, hlt⟩ := plain_cell hc0
    refine ⟨a.block, a.off, by rw [← e], hlt, fun j u hu => ?_⟩
    have hj : j < len * 3 := by have := (List.getElem?_eq_some_iff.1 hu).1; rw [crC_len] at this; simpa using this
    obtain ⟨k, r, hr, rfl⟩ : ∃ k r, r < 3 ∧ j = k * 3 + r := ⟨j / 3, j % 3, by omega, by omega⟩
    have hk : k < len := by omega
    have hg : ((List.range len).map q).getD k z0 = q k := by simp [List.getD_eq_getElem?_getD, hk]
    obtain ⟨i0, i1, i2⟩ := crC_at ((List.range len).map q) k (by simpa using hk)
    obtain ⟨m0, m1, m2⟩ := hq k hk
    rw [e, Go.WideShapes.add_plain] at m0 m1 m2
    rw [hg] at i0 i1 i2
    have : r = 0 ∨ r = 1 ∨ r = 2 := by omega
    rcases this with rfl | rfl | rfl
    · rw [Nat.add_zero] at hu ⊢
      rw [i0] at hu; obtain rfl := Option.some.inj hu; exact m0
    · rw [i1] at hu; obtain rfl := Option.some.inj hu; exact m1
    · rw [i2] at hu; obtain rfl := Option.some.inj hu; exact m2

set_option maxRecDepth 100000 in
/-- An instrument as an argument: its courses C and its steps S. -/
theorem open_inst {r : Reach} {b0 : Nat} {v : Value} {d : DataW H} {p : List MemPlace} (hv : Value.okWide Try.prog W r b0 25 v) (h : DataW.Trod enc Try.prog W base sp held 25 v d p) :
    ∃ A n c A' m c' C S, v = .agg #[.slice A n c, .slice A' m c'] ∧ Sl W W.heap.size 3 A n c (crC C) ∧ Sl W W.heap.size 1 A' m c' (intC S) ∧ n = C.length ∧ m = S.length ∧ c ≤ maxLen ∧ c' ≤ maxLen := by
  obtain ⟨v0, v1, y0, y1, n, rfl, rfl, rfl, h0, h1⟩ := Joins.open_agg2 Try.underlying25 (by kernel_rfl) (by kernel_rfl) hv h
  obtain ⟨A, l, c, C, e0, s0, n0, m0⟩ := open_courses h0
  obtain ⟨A', l', c', S, e1, s1, n1, m1⟩ := open_steps h1
  obtain rfl : v0 = .slice A l c := by simpa using e0
  obtain rfl : v1 = .slice A' l' c' := by simpa using e1
  exact ⟨A, l, c, A', l', c', C, S, rfl, s0, s1, n0, n1, m0, m1⟩

end
end Go.Proofs.Ytcebpgcmmdfccaa
