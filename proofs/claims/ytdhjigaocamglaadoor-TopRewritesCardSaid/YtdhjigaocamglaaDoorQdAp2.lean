/- A piece with its longest chords, and a list of rewritings, opened. -/
import Derived.Test.YtdhjigaocamglaaDoorQdWdLongR
import Derived.Test.YtdhjigaocamglaaDoorQdWdCkR
import Derived.Test.YtdhjigaocamglaaDoorQdAp1
import Derived.Test.YtdhjigaocamglaaDoorQdSameI2
import Derived.Deep.RegionHeldLaw
namespace Go.Proofs.YtdhjigaocamglaaDoor
open Go.ChangeShapes Go.WideShapes Go.ChangeAt Go.RowKit Go.Deep Go.Joins

def rwC (Z : List (Int × Int)) : List Value := Z.flatMap fun x => [.int .u8 x.1, .int .i64 x.2]
theorem rwC_len (Z : List (Int × Int)) : (rwC Z).length = Z.length * 2 := by
  induction Z with
  | nil => rfl
  | cons c r ih => simp [rwC] at ih ⊢; omega
theorem rwC_at : ∀ (Z : List (Int × Int)) (k : Nat), k < Z.length → (rwC Z)[k * 2]? = some (.int .u8 (Z.getD k (0, 0)).1) ∧ (rwC Z)[k * 2 + 1]? = some (.int .i64 (Z.getD k (0, 0)).2)
  | [], _, h => by simp at h
  | x :: r, 0, _ => ⟨rfl, rfl⟩
  | x :: r, k + 1, h => by
    obtain ⟨h1, h2⟩ := rwC_at r k (by simpa using h)
    have e1 : (k + 1) * 2 = k * 2 + 1 + 1 := by omega
    have e2 : (k + 1) * 2 + 1 = k * 2 + 1 + 1 + 1 := by omega
    rw [e2, e1]
    refine ⟨?_, ?_⟩
    · show (rwC r)[k * 2]? = _
      rw [h1]; rfl
    · show (rwC r)[k * 2 + 1]? = _
      rw [h2]; rfl
theorem u8_low {p : Int} (h : (Lit.int .u8 p).wf = true) : 0 ≤ p := by
  have h2 : IntKind.u8.min ≤ p ∧ p ≤ IntKind.u8.max := by simpa [Lit.wf] using h
  exact Int.le_trans (by decide) h2.1

section
variable {H : Type} {enc : TypeId × Value → H} {W : World} {base : Nat} {sp : Nat → Bool} {held : Bool}

set_option maxRecDepth 100000 in
theorem open_eventsL {fuel : Nat} {cs : List Value} {x : DataW H × List MemPlace} (h : DataW.trod enc Tryd.prog W base sp held fuel 26 cs = some x) :
    ∃ A n c P, cs = [.slice A n c] ∧ EsIn W A n c P ∧ c ≤ maxLen ∧ ∀ y ∈ P, y.L.length ≤ maxLen := by
  rcases open_slice Tryd.underlying26 h with ⟨rfl, rfl⟩ | ⟨a, len, cap, m, nn, D, Pl, rfl, hb, hl, hm, hmm, rfl, hx⟩
  · exact ⟨none, 0, 0, [], rfl, ⟨rfl, [], ⟨rfl, fun k x y h => by simp at h⟩, ⟨Nat.le_refl _, rfl, fun h => by omega⟩⟩, by decide, fun y hy => by cases hy⟩
  · have hlm : len ≤ m := by rw [hmm]; split <;> omega
    have ce : Tryd.prog.cellsOf 51 = 6 := by kernel_rfl
    have cg : Tryd.prog.cellsOf 48 = 3 := by kernel_rfl
    have c1 : Tryd.prog.cellsOf 3 = 1 := by kernel_rfl
    have c2 : Tryd.prog.cellsOf 4 = 1 := by kernel_rfl
    have c3 : Tryd.prog.cellsOf 49 = 1 := by kernel_rfl
    have each : ∀ i, i < len → ∃ z : EvT × EvP, (W.cell? (a.add (i * 6)) = some (.bool z.1.bar) ∧ W.cell? (a.add (i * 6 + 1)) = some (.int .i64 z.1.v) ∧ W.cell? (a.add (i * 6 + 2)) = some (.bool z.1.d) ∧ W.cell? (a.add (i * 6 + 3)) = some (.bool z.1.t) ∧ W.cell? (a.add (i * 6 + 4)) = some (.bool z.1.tie) ∧ W.cell? (a.add (i * 6 + 5)) = some (.slice z.1.sa z.1.sn z.1.sc)) ∧ EvIn W z.1 z.2 ∧ z.2.L.length ≤ maxLen := by
      intro i hi
      obtain ⟨cs', h1, h2⟩ := hx i (by omega)
      rw [ce] at h1
      obtain ⟨_, hlen, hcell⟩ := World.cells?_some h1
      obtain ⟨y0, y1, y2, y3, n3, _, _, g0, g1, g2, g3⟩ := trod_struct4 Tryd.underlying51 h2
      match cs', hlen with
      | [v0, v1, v2, v3, v4, v5], _ =>
        have e0 := hcell 0 (by omega)
        have e1 := hcell 1 (by omega)
        have e2 := hcell 2 (by omega)
        have e3 := hcell 3 (by omega)
        have e4 := hcell 4 (by omega)
        have e5 := hcell 5 (by omega)
        rw [Go.Deep.add_add] at e0 e1 e2 e3 e4 e5
        simp [c2, cg, c3] at g0 g1 g2 g3 e0 e1 e2 e3 e4 e5
        obtain ⟨z0, z1, z2, n4, _, _, s0, s1, s2⟩ := trod_struct3 Tryd.underlying48 g1
        simp [c1, c2] at s0 s1 s2
        obtain ⟨q0, k0, _⟩ := DataW.trod_bool Tryd.underlying4 g0
        obtain ⟨q1, k1, _, _⟩ := DataW.trod_int Tryd.underlying3 s0
        obtain ⟨q2, k2, _⟩ := DataW.trod_bool Tryd.underlying4 s1
        obtain ⟨q3, k3, _⟩ := DataW.trod_bool Tryd.underlying4 s2
        obtain ⟨q4, k4, _⟩ := DataW.trod_bool Tryd.underlying4 g2
        obtain ⟨A5, n5, c5, L, k5, s5, hn5, hc5⟩ := open_stops g3
        obtain rfl : v0 = .bool q0 := by simpa using k0
        obtain rfl : v1 = .int .i64 q1 := by simpa using k1
        obtain rfl : v2 = .bool q2 := by simpa using k2
        obtain rfl : v3 = .bool q3 := by simpa using k3
        obtain rfl : v4 = .bool q4 := by simpa using k4
        obtain rfl : v5 = .slice A5 n5 c5 := by simpa using k5
        exact ⟨(⟨q0, q1, q2, q3, q4, A5, n5, c5⟩, ⟨q0, q1, q2, q3, q4, L⟩), ⟨e0, e1, e2, e3, e4, e5⟩, ⟨⟨rfl, rfl, rfl, rfl, rfl, hn5⟩, s5⟩, by rw [← hn5]; exact Nat.le_trans s5.1 hc5⟩
    obtain ⟨z, hz⟩ := choose_lt each
    refine ⟨some a, len, cap, (List.range len).map fun i => (z i).2, rfl, ⟨by simp, (List.range len).map fun i => (z i).1, ⟨by simp, fun k x y hx hy => ?_⟩, ⟨hl, by rw [evC_len]; simp, fun h0 => ?_⟩⟩, hm, fun y hy => by
      obtain ⟨i, hi, rfl⟩ := List.mem_map.1 hy
      exact (hz i (List.mem_range.1 hi)).2.2⟩
    · by_cases hk : k < len
      · simp [hk] at hx hy
        subst hx hy
        exact (hz k hk).2.1
      · simp [hk] at hx
    · have hc0 : W.cell? a = some (.bool (z 0).1.bar) := by have := (hz 0 h0).1.1; simpa [Addr.add] using this
      obtain ⟨e, hlt⟩ := plain_cell hc0
      refine ⟨a.block, a.off, by rw [← e], hlt, fun j u hu => ?_⟩
      have hj : j < len * 6 := by have := (List.getElem?_eq_some_iff.1 hu).1; rw [evC_len] at this; simpa using this
      obtain ⟨k, r, hr, rfl⟩ : ∃ k r, r < 6 ∧ j = k * 6 + r := ⟨j / 6, j % 6, by omega, by omega⟩
      have hk : k < len := by omega
      obtain ⟨i0, i1, i2, i3, i4, i5⟩ := evC_at ((List.range len).map fun i => (z i).1) k (z k).1 (by simp [hk])
      obtain ⟨m0, m1, m2, m3, m4, m5⟩ := (hz k hk).1
      rw [e, Go.WideShapes.add_plain] at m0 m1 m2 m3 m4 m5
      have : r = 0 ∨ r = 1 ∨ r = 2 ∨ r = 3 ∨ r = 4 ∨ r = 5 := by omega
      rcases this with rfl | rfl | rfl | rfl | rfl | rfl
      · rw [Nat.add_zero] at hu ⊢
        rw [i0] at hu; obtain rfl := Option.some.inj hu; exact m0
      · rw [i1] at hu; obtain rfl := Option.some.inj hu; exact m1
      · rw [i2] at hu; obtain rfl := Option.some.inj hu; exact m2
      · rw [i3] at hu; obtain rfl := Option.some.inj hu; exact m3
      · rw [i4] at hu; obtain rfl := Option.some.inj hu; exact m4
      · rw [i5] at hu; obtain rfl := Option.some.inj hu; exact m5

set_option maxRecDepth 100000 in
/-- A piece as an argument: its courses C, its steps S, its events P. -/
theorem open_pieceL {r : Reach} {b0 : Nat} {v : Value} {d : DataW H} {p : List MemPlace} (hv : Value.okWide Tryd.prog W r b0 28 v) (h : DataW.Trod enc Tryd.prog W base sp held 28 v d p) :
    ∃ A n c A' m c' A2 q cq C S P, v = pcV A n c A' m c' A2 q cq ∧ PcIn W A n c A' m c' A2 q cq C S P ∧ c ≤ maxLen ∧ c' ≤ maxLen ∧ cq ≤ maxLen ∧ ∀ y ∈ P, y.L.length ≤ maxLen := by
  have cp : Tryd.prog.cellsOf 28 = 3 := by kernel_rfl
  have ci : Tryd.prog.cellsOf 25 = 2 := by kernel_rfl
  have c1 : Tryd.prog.cellsOf 22 = 1 := by kernel_rfl
  have c2 : Tryd.prog.cellsOf 23 = 1 := by kernel_rfl
  have c3 : Tryd.prog.cellsOf 26 = 1 := by kernel_rfl
  obtain ⟨cs, rfl, hsz⟩ := okWide_struct Tryd.underlying28 hv
  obtain ⟨u0, u1, u2, rfl⟩ := array3 (hsz.trans cp)
  obtain ⟨fuel, hf⟩ := h
  obtain ⟨y0, y1, n, _, _, h0, h1⟩ := trod_struct2 Tryd.underlying28 hf
  simp [Value.cells, ci, c3] at h0 h1
  obtain ⟨y2, y3, n2, _, _, h2, h3⟩ := trod_struct2 Tryd.underlying25 h0
  simp [c1, c2] at h2 h3
  obtain ⟨A, l, c, C, e0, s0, n0, m0⟩ := open_courses h2
  obtain ⟨A', l', c', S, e1, s1, n1, m1⟩ := open_steps h3
  obtain ⟨A2, l2, c2', P, e2, s2, m2, m3⟩ := open_eventsL h1
  obtain rfl : u0 = .slice A l c := by simpa using e0
  obtain rfl : u1 = .slice A' l' c' := by simpa using e1
  obtain rfl : u2 = .slice A2 l2 c2' := by simpa using e2
  exact ⟨A, l, c, A', l', c', A2, l2, c2', C, S, P, rfl, ⟨s0, s1, n0, n1, s2⟩, m0, m1, m2, m3⟩

set_option maxRecDepth 100000 in
theorem open_script0 {fuel : Nat} {cs : List Value} {x : DataW H × List MemPlace} (h : DataW.trod enc Tryd.prog W base sp held fuel 58 cs = some x) :
    ∃ A n c Z, cs = [.slice A n c] ∧ Sl W W.heap.size 2 A n c (rwC Z) ∧ n = Z.length ∧ ∀ x ∈ Z, 0 ≤ x.1 := by
  rcases open_slice Tryd.underlying58 h with ⟨rfl, rfl⟩ | ⟨a, len, cap, m, nn, D, Pl, rfl, hb, hl, hm, hmm, rfl, hx⟩
  · exact ⟨none, 0, 0, [], rfl, ⟨Nat.le_refl _, rfl, fun h => by omega⟩, rfl, fun x hx => by cases hx⟩
  · have hlm : len ≤ m := by rw [hmm]; split <;> omega
    have ce : Tryd.prog.cellsOf 65 = 2 := by kernel_rfl
    have c1 : Tryd.prog.cellsOf 3 = 1 := by kernel_rfl
    have c2 : Tryd.prog.cellsOf 5 = 1 := by kernel_rfl
    have each : ∀ i, i < len → ∃ q : Int × Int, (W.cell? (a.add (i * 2)) = some (.int .u8 q.1) ∧ W.cell? (a.add (i * 2 + 1)) = some (.int .i64 q.2)) ∧ 0 ≤ q.1 := by
      intro i hi
      obtain ⟨cs', h1, h2⟩ := hx i (by omega)
      rw [ce] at h1
      obtain ⟨_, hlen, hcell⟩ := World.cells?_some h1
      obtain ⟨y0, y1, n3, _, _, g0, g1⟩ := trod_struct2 Tryd.underlying65 h2
      match cs', hlen with
      | [v0, v1], _ =>
        have e0 := hcell 0 (by omega)
        have e1 := hcell 1 (by omega)
        rw [Go.Deep.add_add] at e0 e1
        simp [c1, c2] at g0 g1 e0 e1
        obtain ⟨p, k0, _, k1⟩ := DataW.trod_int Tryd.underlying5 g0
        obtain ⟨f, k2, _, _⟩ := DataW.trod_int Tryd.underlying3 g1
        obtain rfl : v0 = .int .u8 p := by simpa using k0
        obtain rfl : v1 = .int .i64 f := by simpa using k2
        exact ⟨(p, f), ⟨e0, e1⟩, u8_low k1⟩
    obtain ⟨q, hq⟩ := choose_lt each
    refine ⟨some a, len, cap, (List.range len).map q, rfl, ⟨hl, by rw [rwC_len]; simp, fun h0 => ?_⟩, by simp, fun x hx => by
      obtain ⟨i, hi, rfl⟩ := List.mem_map.1 hx
      exact (hq i (List.mem_range.1 hi)).2⟩
    have hc0 : W.cell? a = some (.int .u8 (q 0).1) := by have := (hq 0 h0).1.1; simpa [Addr.add] using this
    obtain ⟨e, hlt⟩ := plain_cell hc0
    refine ⟨a.block, a.off, by rw [← e], hlt, fun j u hu => ?_⟩
    have hj : j < len * 2 := by have := (List.getElem?_eq_some_iff.1 hu).1; rw [rwC_len] at this; simpa using this
    obtain ⟨k, r, hr, rfl⟩ : ∃ k r, r < 2 ∧ j = k * 2 + r := ⟨j / 2, j % 2, by omega, by omega⟩
    have hk : k < len := by omega
    have hg : ((List.range len).map q).getD k (0, 0) = q k := by simp [List.getD_eq_getElem?_getD, hk]
    obtain ⟨i0, i1⟩ := rwC_at ((List.range len).map q) k (by simpa using hk)
    obtain ⟨⟨m0, m1⟩, _⟩ := hq k hk
    rw [e, Go.WideShapes.add_plain] at m0 m1
    rw [hg] at i0 i1
    have : r = 0 ∨ r = 1 := by omega
    rcases this with rfl | rfl
    · rw [Nat.add_zero] at hu ⊢
      rw [i0] at hu; obtain rfl := Option.some.inj hu; exact m0
    · rw [i1] at hu; obtain rfl := Option.some.inj hu; exact m1
set_option maxRecDepth 100000 in
theorem open_script {r : Reach} {b0 : Nat} {v : Value} {d : DataW H} {p : List MemPlace} (hv : Value.okWide Tryd.prog W r b0 58 v) (h : DataW.Trod enc Tryd.prog W base sp held 58 v d p) :
    ∃ A n c Z, v = .slice A n c ∧ Sl W W.heap.size 2 A n c (rwC Z) ∧ n = Z.length ∧ ∀ x ∈ Z, 0 ≤ x.1 := by
  obtain ⟨a, l, cp, rfl⟩ := okWide_slice Tryd.underlying58 hv
  obtain ⟨fuel, hf⟩ := h
  obtain ⟨A, n, c, Z, e, h1, h2, h3⟩ := open_script0 hf
  exact ⟨A, n, c, Z, by simpa [Value.cells] using e, h1, h2, h3⟩

end
end Go.Proofs.YtdhjigaocamglaaDoor

/- Two lists of numbers compared; a small piece. -/
namespace Go.Proofs.YtdhjigaocamglaaDoor
open Go Go.RowKit

set_option maxHeartbeats 1600000 in
theorem sameTop_eq (A B : Option Addr) (n c d : Nat) (L : List Int) (w : World) (hA : Sl w w.heap.size 1 A n c (intC L)) (hB : Sl w w.heap.size 1 B n d (intC L)) (hn : n = L.length) (hb : n ≤ 9223372036854775807) :
    Calls Tryd.prog 31 #[.slice A n c, .slice B n d] w fun e w' => e = .returned (.bool true) ∧ Below w.heap.size w w' := by
  have HN := Lib.hid hn
  clear hn
  go_enter Tryd.func31, Tryd.ntmps31
  go_wp2_with (fail)
  go_loopw [5] (fun i wr => ∃ k : Nat, k ≤ n ∧ i = .int .i64 k ∧ Below w.heap.size w wr) (fun i _ => n - (intOf i).toNat)
  case atStart => exact ⟨0, by omega, rfl, Below.refl _ _⟩
  case round =>
    obtain ⟨k, hk, rfl, hbw⟩ := hrel
    by_cases hlt : k < n
    · have hkn : (k : Int) < (n : Int) := by omega
      obtain ⟨b1, o1, hA1, hB1, hc1⟩ := (hA.below hbw).2.2 (by omega)
      obtain ⟨b2, o2, hA2, hB2, hc2⟩ := (hB.below hbw).2.2 (by omega)
      subst hA1 hA2
      have i0 := intC_at L k (by have := HN.out; omega)
      have a0 := hc1 _ _ i0
      have b0 := hc2 _ _ i0
      clear hc1 hc2 i0 hA hB
      generalize L.getD k 0 = x at *
      go_wp2_with (fail)
      go_quiet (fail)
      go_wp2_with (fail)
      go_roundw
      case rel => exact ⟨k + 1, by omega, by go_num, bd hbw _⟩
      case measure => simp [intOf]; omega
    · have hkn : ¬ ((k : Int) < (n : Int)) := by omega
      go_wp2_with (fail)
      go_ret
      exact ⟨rfl, hbw⟩


def smB (n m : Nat) (C : List Cr) (S : List Int) (P : List EvP) : Bool := decide (P.length ≤ 40) && decide (n ≤ 64) && decide (m ≤ 64) && decide (pcErr C S P = 0)
set_option maxRecDepth 100000 in
set_option maxHeartbeats 3200000 in
theorem small_any (A : Option Addr) (n c : Nat) (A' : Option Addr) (m c' : Nat) (A2 : Option Addr) (q cq : Nat) (C : List Cr) (S : List Int) (P : List EvP) (w : World) (hP : PcIn w A n c A' m c' A2 q cq C S P) (hst : ∀ y ∈ P, y.L.length ≤ 9223372036854775807) :
    Calls Tryd.prog 29 #[pcV A n c A' m c' A2 q cq] w fun e w' => e = .returned (.bool (smB n m C S P)) ∧ Below w.heap.size w w' := by
  have HB : Hid (smB n m C S P = (decide (q ≤ 40) && decide (n ≤ 64) && decide (m ≤ 64) && decide (pcErr C S P = 0))) := by unfold Hid smB; rw [hP.es.hq]
  have HP := Lib.hid (hP.below (ba w (pcO A n c A' m c' A2 q cq)))
  have HST := Lib.hid hst
  clear hP hst
  by_cases h1 : q ≤ 40
  rotate_left
  · have h1' : ¬ ((q : Int) ≤ 40) := by omega
    go_enter Tryd.func29, Tryd.ntmps29
    go_wp2_with (fail)
    go_ret
    exact ⟨by rw [HB.out]; simp [h1], ba w _⟩
  have h1' : (q : Int) ≤ 40 := by omega
  by_cases h2 : n ≤ 64
  rotate_left
  · have h2' : ¬ ((n : Int) ≤ 64) := by omega
    go_enter Tryd.func29, Tryd.ntmps29
    go_wp2_with (fail)
    go_ret
    exact ⟨by rw [HB.out]; simp [h2], ba w _⟩
  have h2' : (n : Int) ≤ 64 := by omega
  by_cases h3 : m ≤ 64
  rotate_left
  · have h3' : ¬ ((m : Int) ≤ 64) := by omega
    go_enter Tryd.func29, Tryd.ntmps29
    go_wp2_with (fail)
    go_ret
    exact ⟨by rw [HB.out]; simp [h3], ba w _⟩
  have h3' : (m : Int) ≤ 64 := by omega
  have CK := Lib.hid (rpcheck_wide A n c A' m c' A2 q cq C S P _ HP.out (by omega) (by omega) (by omega) HST.out)
  generalize pcErr C S P = X at *
  go_enter Tryd.func29, Tryd.ntmps29
  go_wp2_with (go_at_call 23; refine CK.out.mono ?_; rintro e w1 ⟨rfl, hb1⟩)
  go_ret
  exact ⟨by rw [HB.out]; simp [h1, h2, h3]; rfl, bx hb1⟩

end Go.Proofs.YtdhjigaocamglaaDoor

/- Pieces: Append of the program. -/
namespace Go.Proofs.YtdhjigaocamglaaDoor
open Go Go.RowKit

theorem ap_cells {w : World} {g : Nat} {a b c : Value} (h : Blk w g 28 #[a, b, c]) : w.cell? ⟨g, 0, none⟩ = some a ∧ w.cell? ⟨g, 1, none⟩ = some b ∧ w.cell? ⟨g, 2, none⟩ = some c :=
  ⟨by simpa using h.cell 0, by simpa using h.cell 1, by simpa using h.cell 2⟩
end Go.Proofs.YtdhjigaocamglaaDoor
