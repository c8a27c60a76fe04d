/- An instrument that came in as an argument, opened: its courses and its steps as plain lists. -/
import Derived.Test.YtdhjigaocamglaaDoorQcTk
import Derived.Lib.SmallJoins
import Derived.Deep.Slices
import Derived.Deep.Strs
import Derived.Test.YtdhjigaocamglaaDoorQcPcLeaf
namespace Go.Proofs.YtdhjigaocamglaaDoor
open Go.ChangeShapes Go.WideShapes Go.ChangeAt Go.RowKit Go.Deep

theorem plain_cell {w : World} {a : Addr} {v : Value} (h : w.cell? a = some v) : a = ⟨a.block, a.off, none⟩ ∧ a.block < w.heap.size := by
  unfold World.cell? at h
  split at h
  · rename_i c t fr hh
    split at h
    · cases h
    · rename_i hs
      refine ⟨?_, (Array.getElem?_eq_some_iff.1 hh).1⟩
      obtain ⟨b, o, s⟩ := a
      cases s with
      | none => rfl
      | some y => simp at hs
  · cases h

section
variable {H : Type} {enc : TypeId × Value → H} {W : World} {base : Nat} {sp : Nat → Bool} {held : Bool}

set_option maxRecDepth 100000 in
theorem open_steps {fuel : Nat} {cs : List Value} {x : DataW H × List MemPlace} (h : DataW.trod enc Tryd.prog W base sp held fuel 23 cs = some x) :
    ∃ A m c S, cs = [.slice A m c] ∧ Sl W W.heap.size 1 A m c (intC S) ∧ m = S.length ∧ c ≤ maxLen := by
  rcases open_ints Tryd.underlying23 Tryd.underlying3 (by kernel_rfl) h with ⟨rfl, rfl⟩ | ⟨a, len, cap, zs, rfl, hb, hl, hm, hz, rfl, hc, _⟩
  · exact ⟨none, 0, 0, [], rfl, ⟨Nat.le_refl _, rfl, fun h => by omega⟩, rfl, by decide⟩
  · have hle : len ≤ zs.length := by rw [hz]; split <;> omega
    refine ⟨some a, len, cap, zs.take len, rfl, ⟨hl, by simp [intC]; omega, fun h0 => ?_⟩, by simp; omega, hm⟩
    have hc0 : W.cell? a = some (.int .i64 (zs.getD 0 0)) := by have := hc 0 (by omega); simpa [Addr.add] using this
    obtain ⟨e, hlt⟩ := plain_cell hc0
    refine ⟨a.block, a.off, by rw [← e], hlt, fun j u hu => ?_⟩
    have hj : j < len := by have := (List.getElem?_eq_some_iff.1 hu).1; simp [intC] at this; omega
    rw [intC_at _ j (by simp; omega)] at hu
    obtain rfl := Option.some.inj hu
    have := hc j (by omega)
    rw [e, Go.WideShapes.add_plain] at this
    rw [this]
    simp [List.getD_eq_getElem?_getD, hj]

instance : Inhabited Cr := ⟨z0⟩

set_option maxRecDepth 100000 in
theorem open_courses {fuel : Nat} {cs : List Value} {x : DataW H × List MemPlace} (h : DataW.trod enc Tryd.prog W base sp held fuel 22 cs = some x) :
    ∃ A n c C, cs = [.slice A n c] ∧ Sl W W.heap.size 3 A n c (crC C) ∧ n = C.length ∧ c ≤ maxLen := by
  rcases open_slice Tryd.underlying22 h with ⟨rfl, rfl⟩ | ⟨a, len, cap, m, nn, D, Pl, rfl, hb, hl, hm, hmm, rfl, hx⟩
  · exact ⟨none, 0, 0, [], rfl, ⟨Nat.le_refl _, rfl, fun h => by omega⟩, rfl, by decide⟩
  · have hlm : len ≤ m := by rw [hmm]; split <;> omega
    have ce : Tryd.prog.cellsOf 60 = 3 := by kernel_rfl
    have c1 : Tryd.prog.cellsOf 3 = 1 := by kernel_rfl
    have c2 : Tryd.prog.cellsOf 4 = 1 := by kernel_rfl
    have each : ∀ i, i < len → ∃ q : Cr, W.cell? (a.add (i * 3)) = some (.int .i64 q.p) ∧ W.cell? (a.add (i * 3 + 1)) = some (.int .i64 q.f) ∧ W.cell? (a.add (i * 3 + 2)) = some (.bool q.o) := by
      intro i hi
      obtain ⟨cs', h1, h2⟩ := hx i (by omega)
      rw [ce] at h1
      obtain ⟨_, hlen, hcell⟩ := World.cells?_some h1
      obtain ⟨y0, y1, y2, n3, _, _, g0, g1, g2⟩ := trod_struct3 Tryd.underlying60 h2
      match cs', hlen with
      | [v0, v1, v2], _ =>
        have e0 := hcell 0 (by omega)
        have e1 := hcell 1 (by omega)
        have e2 := hcell 2 (by omega)
        rw [Go.Deep.add_add] at e0 e1 e2
        simp [c1, c2] at g0 g1 g2 e0 e1 e2
        obtain ⟨p, k0, _, _⟩ := DataW.trod_int Tryd.underlying3 g0
        obtain ⟨f, k1, _, _⟩ := DataW.trod_int Tryd.underlying3 g1
        obtain ⟨o, k2, _⟩ := DataW.trod_bool Tryd.underlying4 g2
        obtain rfl : v0 = .int .i64 p := by simpa using k0
        obtain rfl : v1 = .int .i64 f := by simpa using k1
        obtain rfl : v2 = .bool o := by simpa using k2
        exact ⟨⟨p, f, o⟩, e0, e1, e2⟩
    obtain ⟨q, hq⟩ := choose_lt each
    refine ⟨some a, len, cap, (List.range len).map q, rfl, ⟨hl, by rw [crC_len]; simp, fun h0 => ?_⟩, by simp, hm⟩
    have hc0 : W.cell? a = some (.int .i64 (q 0).p) := by have := (hq 0 h0).1; simpa [Addr.add] using this
    obtain ⟨e, hlt⟩ := plain_cell hc0
    refine ⟨a.block, a.off, by rw [← e], hlt, fun j u hu => ?_⟩
    have hj : j < len * 3 := by have := (List.getElem?_eq_some_iff.1 hu).1; rw [crC_len] at this; simpa using this
    obtain ⟨k, r, hr, rfl⟩ : ∃ k r, r < 3 ∧ j = k * 3 + r := ⟨j / 3, j % 3, by omega, by omega⟩
    have hk : k < len := by omega
    have hg : ((List.range len).map q).getD k z0 = q k := by simp [List.getD_eq_getElem?_getD, hk]
    obtain ⟨i0, i1, i2⟩ := crC_at ((List.range len).map q) k (by simpa using hk)
    obtain ⟨m0, m1, m2⟩ := hq k hk
    rw [e, Go.WideShapes.add_plain] at m0 m1 m2
    rw [hg] at i0 i1 i2
    have : r = 0 ∨ r = 1 ∨ r = 2 := by omega
    rcases this with rfl | rfl | rfl
    · rw [Nat.add_zero] at hu ⊢
      rw [i0] at hu; obtain rfl := Option.some.inj hu; exact m0
    · rw [i1] at hu; obtain rfl := Option.some.inj hu; exact m1
    · rw [i2] at hu; obtain rfl := Option.some.inj hu; exact m2

end
end Go.Proofs.YtdhjigaocamglaaDoor

/- A piece that came in as an argument, opened: its courses, its steps, its events as plain lists. -/
namespace Go.Proofs.YtdhjigaocamglaaDoor
open Go.ChangeShapes Go.WideShapes Go.ChangeAt Go.RowKit Go.Deep Go.Joins

instance : Inhabited St := ⟨z5⟩
instance : Inhabited (EvT × EvP) := ⟨(⟨false, 0, false, false, false, none, 0, 0⟩, z6)⟩

section
variable {H : Type} {enc : TypeId × Value → H} {W : World} {base : Nat} {sp : Nat → Bool} {held : Bool}

theorem trod_five {P : Program} {w : World} {t : TypeId} {f0 f1 f2 f3 f4 : Field} {fuel : Nat} {cs : List Value} {x : DataW H × List MemPlace} (ht : P.underlying t = some (.struct #[f0, f1, f2, f3, f4])) (h : DataW.trod enc P w base sp held fuel t cs = some x) :
    ∃ y0 y1 y2 y3 y4 n, cs.length = P.cellsOf t ∧ DataW.trod enc P w base sp held n f0.type ((cs.drop f0.offset).take (P.cellsOf f0.type)) = some y0 ∧ DataW.trod enc P w base sp held n f1.type ((cs.drop f1.offset).take (P.cellsOf f1.type)) = some y1 ∧
      DataW.trod enc P w base sp held n f2.type ((cs.drop f2.offset).take (P.cellsOf f2.type)) = some y2 ∧ DataW.trod enc P w base sp held n f3.type ((cs.drop f3.offset).take (P.cellsOf f3.type)) = some y3 ∧ DataW.trod enc P w base sp held n f4.type ((cs.drop f4.offset).take (P.cellsOf f4.type)) = some y4 := by
  obtain ⟨xs, n, _, rfl, hl, hlen, hf⟩ := DataW.trod_struct ht h
  match xs, hlen with
  | [y0, y1, y2, y3, y4], _ => exact ⟨y0, y1, y2, y3, y4, n, hl, by simpa using hf 0 f0 rfl, by simpa using hf 1 f1 rfl, by simpa using hf 2 f2 rfl, by simpa using hf 3 f3 rfl, by simpa using hf 4 f4 rfl⟩

set_option maxRecDepth 100000 in
theorem open_stops {fuel : Nat} {cs : List Value} {x : DataW H × List MemPlace} (h : DataW.trod enc Tryd.prog W base sp held fuel 49 cs = some x) :
    ∃ A n c L, cs = [.slice A n c] ∧ Sl W W.heap.size 5 A n c (stC L) ∧ n = L.length ∧ c ≤ maxLen := by
  rcases open_slice Tryd.underlying49 h with ⟨rfl, rfl⟩ | ⟨a, len, cap, m, nn, D, Pl, rfl, hb, hl, hm, hmm, rfl, hx⟩
  · exact ⟨none, 0, 0, [], rfl, ⟨Nat.le_refl _, rfl, fun h => by omega⟩, rfl, by decide⟩
  · have hlm : len ≤ m := by rw [hmm]; split <;> omega
    have ce : Tryd.prog.cellsOf 62 = 5 := by kernel_rfl
    have c1 : Tryd.prog.cellsOf 3 = 1 := by kernel_rfl
    have each : ∀ i, i < len → ∃ s : St, W.cell? (a.add (i * 5)) = some (.int .i64 s.c) ∧ W.cell? (a.add (i * 5 + 1)) = some (.int .i64 s.f) ∧ W.cell? (a.add (i * 5 + 2)) = some (.int .i64 s.r) ∧ W.cell? (a.add (i * 5 + 3)) = some (.int .i64 s.g) ∧ W.cell? (a.add (i * 5 + 4)) = some (.int .i64 s.h) := by
      intro i hi
      obtain ⟨cs', h1, h2⟩ := hx i (by omega)
      rw [ce] at h1
      obtain ⟨_, hlen, hcell⟩ := World.cells?_some h1
      obtain ⟨y0, y1, y2, y3, y4, n3, _, g0, g1, g2, g3, g4⟩ := trod_five Tryd.underlying62 h2
      match cs', hlen with
      | [v0, v1, v2, v3, v4], _ =>
        have e0 := hcell 0 (by omega)
        have e1 := hcell 1 (by omega)
        have e2 := hcell 2 (by omega)
        have e3 := hcell 3 (by omega)
        have e4 := hcell 4 (by omega)
        rw [Go.Deep.add_add] at e0 e1 e2 e3 e4
        simp [c1] at g0 g1 g2 g3 g4 e0 e1 e2 e3 e4
        obtain ⟨q0, k0, _, _⟩ := DataW.trod_int Tryd.underlying3 g0
        obtain ⟨q1, k1, _, _⟩ := DataW.trod_int Tryd.underlying3 g1
        obtain ⟨q2, k2, _, _⟩ := DataW.trod_int Tryd.underlying3 g2
        obtain ⟨q3, k3, _, _⟩ := DataW.trod_int Tryd.underlying3 g3
        obtain ⟨q4, k4, _, _⟩ := DataW.trod_int Tryd.underlying3 g4
        obtain rfl : v0 = .int .i64 q0 := by simpa using k0
        obtain rfl : v1 = .int .i64 q1 := by simpa using k1
        obtain rfl : v2 = .int .i64 q2 := by simpa using k2
        obtain rfl : v3 = .int .i64 q3 := by simpa using k3
        obtain rfl : v4 = .int .i64 q4 := by simpa using k4
        exact ⟨⟨q0, q1, q2, q3, q4⟩, e0, e1, e2, e3, e4⟩
    obtain ⟨q, hq⟩ := choose_lt each
    refine ⟨some a, len, cap, (List.range len).map q, rfl, ⟨hl, by rw [stC_len]; simp, fun h0 => ?_⟩, by simp, hm⟩
    have hc0 : W.cell? a = some (.int .i64 (q 0).c) := by have := (hq 0 h0).1; simpa [Addr.add] using this
    obtain ⟨e, hlt⟩ := plain_cell hc0
    refine ⟨a.block, a.off, by rw [← e], hlt, fun j u hu => ?_⟩
    have hj : j < len * 5 := by have := (List.getElem?_eq_some_iff.1 hu).1; rw [stC_len] at this; simpa using this
    obtain ⟨k, r, hr, rfl⟩ : ∃ k r, r < 5 ∧ j = k * 5 + r := ⟨j / 5, j % 5, by omega, by omega⟩
    have hk : k < len := by omega
    have hg : ((List.range len).map q).getD k z5 = q k := by simp [List.getD_eq_getElem?_getD, hk]
    obtain ⟨i0, i1, i2, i3, i4⟩ := stC_at ((List.range len).map q) k (by simpa using hk)
    obtain ⟨m0, m1, m2, m3, m4⟩ := hq k hk
    rw [e, Go.WideShapes.add_plain] at m0 m1 m2 m3 m4
    rw [hg] at i0 i1 i2 i3 i4
    have : r = 0 ∨ r = 1 ∨ r = 2 ∨ r = 3 ∨ r = 4 := by omega
    rcases this with rfl | rfl | rfl | rfl | rfl
    · rw [Nat.add_zero] at hu ⊢
      rw [i0] at hu; obtain rfl := Option.some.inj hu; exact m0
    · rw [i1] at hu; obtain rfl := Option.some.inj hu; exact m1
    · rw [i2] at hu; obtain rfl := Option.some.inj hu; exact m2
    · rw [i3] at hu; obtain rfl := Option.some.inj hu; exact m3
    · rw [i4] at hu; obtain rfl := Option.some.inj hu; exact m4

set_option maxRecDepth 100000 in
theorem open_events {fuel : Nat} {cs : List Value} {x : DataW H × List MemPlace} (h : DataW.trod enc Tryd.prog W base sp held fuel 26 cs = some x) :
    ∃ A n c P, cs = [.slice A n c] ∧ EsIn W A n c P ∧ c ≤ maxLen := by
  rcases open_slice Tryd.underlying26 h with ⟨rfl, rfl⟩ | ⟨a, len, cap, m, nn, D, Pl, rfl, hb, hl, hm, hmm, rfl, hx⟩
  · exact ⟨none, 0, 0, [], rfl, ⟨rfl, [], ⟨rfl, fun k x y h => by simp at h⟩, ⟨Nat.le_refl _, rfl, fun h => by omega⟩⟩, by decide⟩
  · have hlm : len ≤ m := by rw [hmm]; split <;> omega
    have ce : Tryd.prog.cellsOf 51 = 6 := by kernel_rfl
    have cg : Tryd.prog.cellsOf 48 = 3 := by kernel_rfl
    have c1 : Tryd.prog.cellsOf 3 = 1 := by kernel_rfl
    have c2 : Tryd.prog.cellsOf 4 = 1 := by kernel_rfl
    have c3 : Tryd.prog.cellsOf 49 = 1 := by kernel_rfl
    have each : ∀ i, i < len → ∃ z : EvT × EvP, (W.cell? (a.add (i * 6)) = some (.bool z.1.bar) ∧ W.cell? (a.add (i * 6 + 1)) = some (.int .i64 z.1.v) ∧ W.cell? (a.add (i * 6 + 2)) = some (.bool z.1.d) ∧ W.cell? (a.add (i * 6 + 3)) = some (.bool z.1.t) ∧ W.cell? (a.add (i * 6 + 4)) = some (.bool z.1.tie) ∧ W.cell? (a.add (i * 6 + 5)) = some (.slice z.1.sa z.1.sn z.1.sc)) ∧ EvIn W z.1 z.2 := by
      intro i hi
      obtain ⟨cs', h1, h2⟩ := hx i (by omega)
      rw [ce] at h1
      obtain ⟨_, hlen, hcell⟩ := World.cells?_some h1
      obtain ⟨y0, y1, y2, y3, n3, _, _, g0, g1, g2, g3⟩ := trod_struct4 Tryd.underlying51 h2
      match cs', hlen with
      | [v0, v1, v2, v3, v4, v5], _ =>
        have e0 := hcell 0 (by omega)
        have e1 := hcell 1 (by omega)
        have e2 := hcell 2 (by omega)
        have e3 := hcell 3 (by omega)
        have e4 := hcell 4 (by omega)
        have e5 := hcell 5 (by omega)
        rw [Go.Deep.add_add] at e0 e1 e2 e3 e4 e5
        simp [c2, cg, c3] at g0 g1 g2 g3 e0 e1 e2 e3 e4 e5
        obtain ⟨z0, z1, z2, n4, _, _, s0, s1, s2⟩ := trod_struct3 Tryd.underlying48 g1
        simp [c1, c2] at s0 s1 s2
        obtain ⟨q0, k0, _⟩ := DataW.trod_bool Tryd.underlying4 g0
        obtain ⟨q1, k1, _, _⟩ := DataW.trod_int Tryd.underlying3 s0
        obtain ⟨q2, k2, _⟩ := DataW.trod_bool Tryd.underlying4 s1
        obtain ⟨q3, k3, _⟩ := DataW.trod_bool Tryd.underlying4 s2
        obtain ⟨q4, k4, _⟩ := DataW.trod_bool Tryd.underlying4 g2
        obtain ⟨A5, n5, c5, L, k5, s5, hn5, _⟩ := open_stops g3
        obtain rfl : v0 = .bool q0 := by simpa using k0
        obtain rfl : v1 = .int .i64 q1 := by simpa using k1
        obtain rfl : v2 = .bool q2 := by simpa using k2
        obtain rfl : v3 = .bool q3 := by simpa using k3
        obtain rfl : v4 = .bool q4 := by simpa using k4
        obtain rfl : v5 = .slice A5 n5 c5 := by simpa using k5
        exact ⟨(⟨q0, q1, q2, q3, q4, A5, n5, c5⟩, ⟨q0, q1, q2, q3, q4, L⟩), ⟨e0, e1, e2, e3, e4, e5⟩, ⟨rfl, rfl, rfl, rfl, rfl, hn5⟩, s5⟩
    obtain ⟨z, hz⟩ := choose_lt each
    refine ⟨some a, len, cap, (List.range len).map fun i => (z i).2, rfl, ⟨by simp, (List.range len).map fun i => (z i).1, ⟨by simp, fun k x y hx hy => ?_⟩, ⟨hl, by rw [evC_len]; simp, fun h0 => ?_⟩⟩, hm⟩
    · by_cases hk : k < len
      · simp [hk] at hx hy
        subst hx hy
        exact (hz k hk).2
      · simp [hk] at hx
    · have hc0 : W.cell? a = some (.bool (z 0).1.bar) := by have := (hz 0 h0).1.1; simpa [Addr.add] using this
      obtain ⟨e, hlt⟩ := plain_cell hc0
      refine ⟨a.block, a.off, by rw [← e], hlt, fun j u hu => ?_⟩
      have hj : j < len * 6 := by have := (List.getElem?_eq_some_iff.1 hu).1; rw [evC_len] at this; simpa using this
      obtain ⟨k, r, hr, rfl⟩ : ∃ k r, r < 6 ∧ j = k * 6 + r := ⟨j / 6, j % 6, by omega, by omega⟩
      have hk : k < len := by omega
      obtain ⟨i0, i1, i2, i3, i4, i5⟩ := evC_at ((List.range len).map fun i => (z i).1) k (z k).1 (by simp [hk])
      obtain ⟨m0, m1, m2, m3, m4, m5⟩ := (hz k hk).1
      rw [e, Go.WideShapes.add_plain] at m0 m1 m2 m3 m4 m5
      have : r = 0 ∨ r = 1 ∨ r = 2 ∨ r = 3 ∨ r = 4 ∨ r = 5 := by omega
      rcases this with rfl | rfl | rfl | rfl | rfl | rfl
      · rw [Nat.add_zero] at hu ⊢
        rw [i0] at hu; obtain rfl := Option.some.inj hu; exact m0
      · rw [i1] at hu; obtain rfl := Option.some.inj hu; exact m1
      · rw [i2] at hu; obtain rfl := Option.some.inj hu; exact m2
      · rw [i3] at hu; obtain rfl := Option.some.inj hu; exact m3
      · rw [i4] at hu; obtain rfl := Option.some.inj hu; exact m4
      · rw [i5] at hu; obtain rfl := Option.some.inj hu; exact m5

set_option maxRecDepth 100000 in
/-- A piece as an argument: its courses C, its steps S, its events P. -/
theorem open_piece {r : Reach} {b0 : Nat} {v : Value} {d : DataW H} {p : List MemPlace} (hv : Value.okWide Tryd.prog W r b0 28 v) (h : DataW.Trod enc Tryd.prog W base sp held 28 v d p) :
    ∃ A n c A' m c' A2 q cq C S P, v = pcV A n c A' m c' A2 q cq ∧ PcIn W A n c A' m c' A2 q cq C S P ∧ c ≤ maxLen ∧ c' ≤ maxLen ∧ cq ≤ maxLen := by
  have cp : Tryd.prog.cellsOf 28 = 3 := by kernel_rfl
  have ci : Tryd.prog.cellsOf 25 = 2 := by kernel_rfl
  have c1 : Tryd.prog.cellsOf 22 = 1 := by kernel_rfl
  have c2 : Tryd.prog.cellsOf 23 = 1 := by kernel_rfl
  have c3 : Tryd.prog.cellsOf 26 = 1 := by kernel_rfl
  obtain ⟨cs, rfl, hsz⟩ := okWide_struct Tryd.underlying28 hv
  obtain ⟨u0, u1, u2, rfl⟩ := array3 (hsz.trans cp)
  obtain ⟨fuel, hf⟩ := h
  obtain ⟨y0, y1, n, _, _, h0, h1⟩ := trod_struct2 Tryd.underlying28 hf
  simp [Value.cells, ci, c3] at h0 h1
  obtain ⟨y2, y3, n2, _, _, h2, h3⟩ := trod_struct2 Tryd.underlying25 h0
  simp [c1, c2] at h2 h3
  obtain ⟨A, l, c, C, e0, s0, n0, m0⟩ := open_courses h2
  obtain ⟨A', l', c', S, e1, s1, n1, m1⟩ := open_steps h3
  obtain ⟨A2, l2, c2', P, e2, s2, m2⟩ := open_events h1
  obtain rfl : u0 = .slice A l c := by simpa using e0
  obtain rfl : u1 = .slice A' l' c' := by simpa using e1
  obtain rfl : u2 = .slice A2 l2 c2' := by simpa using e2
  exact ⟨A, l, c, A', l', c', A2, l2, c2', C, S, P, rfl, ⟨s0, s1, n0, n1, s2⟩, m0, m1, m2⟩

end
end Go.Proofs.YtdhjigaocamglaaDoor
