/- What the row's condition on the package's tables gives the walks: the two tables' cells, the library's variable of some length. -/
import Derived.Test.YtdaeanjjmbibmaaDoorNames0
import Derived.Test.YtdaeanjjmbibmaaDoorShelf
import Derived.Test.YtdaeanjjmbibmaaDoorRows
import Derived.Lib.LaidU8
import Derived.Lib.LaidTab
import Derived.ProofKit
import Derived.OpenShut
import Derived.LaidMore
import Derived.Lay
import Derived.Deep.Strs
import Derived.Stop.Joined
namespace Go.Proofs.YtdaeanjjmbibmaaDoor
open Go.ChangeShapes Go.WideShapes Go.ChangeAt Go.RowKit Go.Deep

theorem own : ownKnob Tryd.prog.godebug = none := by kernel_rfl

/-- A row of three-cell pieces is known by its pieces. -/
theorem list_by3 (l m : List Value) (n : Nat) (hl : l.length = n * 3) (hm : m.length = n * 3) (h : ∀ i, i < n → (l.drop (i * 3)).take 3 = (m.drop (i * 3)).take 3) : l = m := by
  apply List.ext_getElem?
  intro j
  by_cases hj : j < n * 3
  · have h1 := h (j / 3) (by omega)
    have h2 := congrArg (fun x => x[j % 3]?) h1
    simp only [List.getElem?_take, List.getElem?_drop] at h2
    rw [if_pos (by omega), if_pos (by omega)] at h2
    rwa [show j / 3 * 3 + j % 3 = j from by omega] at h2
  · rw [List.getElem?_eq_none (by omega), List.getElem?_eq_none (by omega)]
theorem list_by2 (l m : List Value) (n : Nat) (hl : l.length = n * 2) (hm : m.length = n * 2) (h : ∀ i, i < n → (l.drop (i * 2)).take 2 = (m.drop (i * 2)).take 2) : l = m := by
  apply List.ext_getElem?
  intro j
  by_cases hj : j < n * 2
  · have h1 := h (j / 2) (by omega)
    have h2 := congrArg (fun x => x[j % 2]?) h1
    simp only [List.getElem?_take, List.getElem?_drop] at h2
    rw [if_pos (by omega), if_pos (by omega)] at h2
    rwa [show j / 2 * 2 + j % 2 = j from by omega] at h2
  · rw [List.getElem?_eq_none (by omega), List.getElem?_eq_none (by omega)]

theorem Tryd.c9 : Tryd.prog.cellsOf 9 = 1 := by kernel_rfl
theorem Tryd.c3 : Tryd.prog.cellsOf 3 = 1 := by kernel_rfl
theorem Tryd.cL : Tryd.prog.cellsOf 119 = 3 := by kernel_rfl
theorem Tryd.cLs : Tryd.prog.cellsOf 120 = 21 := by kernel_rfl
theorem Tryd.cS : Tryd.prog.cellsOf 81 = 2 := by kernel_rfl
theorem Tryd.cSs : Tryd.prog.cellsOf 82 = 18 := by kernel_rfl

theorem lnB_as : (Rows.laid_theorbo_instrument_letters : DataW Unit) = .agg ((List.range 7).map fun n => .agg [.lit (.string (lnB n)), .lit (.int .i64 (bas n)), .lit (.int .i64 (fif n))]) := by kernel_rfl
theorem stB_as : (Rows.laid_theorbo_instrument_standards : DataW Unit) = .agg ((List.range 9).map fun n => .agg [.lit (.string (stnB n)), .lit (.string (sttB n))]) := by kernel_rfl

theorem list3 {l : List Value} (h : l.length = 3) : ∃ a b c, l = [a, b, c] := by
  match l, h with
  | [a, b, c], _ => exact ⟨a, b, c, rfl⟩
theorem list2 {l : List Value} (h : l.length = 2) : ∃ a b, l = [a, b] := by
  match l, h with
  | [a, b], _ => exact ⟨a, b, rfl⟩
theorem str_of_list {s : ByteArray} {l : List UInt8} (h : s.data.toList = l) : s = ⟨l.toArray⟩ := by
  subst h; apply ByteArray.ext; simp

theorem letters_cells {w : World} {fuel : Nat} {cs : List Value} {p : List MemPlace} (h : DataW.trod (fun _ => ()) Tryd.prog w 0 (fun _ => true) false fuel 120 cs = some (Rows.laid_theorbo_instrument_letters, p)) : cs = letC.toList := by
  obtain ⟨xs, m, _, hx, hl, hn, hel⟩ := DataW.trod_array Tryd.underlying120 h
  rw [Tryd.cLs] at hl
  have hx1 : xs.map (·.1) = (List.range 7).map fun n => (.agg [.lit (.string (lnB n)), .lit (.int .i64 (bas n)), .lit (.int .i64 (fif n))] : DataW Unit) := by
    have := (Prod.mk.inj hx).1
    rw [lnB_as] at this
    exact (DataW.agg.inj this).symm
  refine list_by3 _ _ 7 (by omega) rfl fun i hi => ?_
  have hE := hel i hi
  rw [Tryd.cL] at hE
  have hxi : xs[i]? = some (xs[i]'(by omega)) := List.getElem?_eq_getElem (by omega)
  rw [hxi] at hE
  have hd : (xs[i]'(by omega)).1 = (.agg [.lit (.string (lnB i)), .lit (.int .i64 (bas i)), .lit (.int .i64 (fif i))] : DataW Unit) := by
    have := congrArg (fun l => l[i]?) hx1
    simp only [List.getElem?_map, hxi, List.getElem?_range hi, Option.map_some, Option.some.injEq] at this
    exact this
  obtain ⟨y0, y1, y2, m2, e, hl3, h0, h1, h2⟩ := trod_struct3 Tryd.underlying119 hE
  rw [Tryd.cL] at hl3
  rw [e] at hd
  simp only [DataW.agg.injEq, List.cons.injEq, and_true] at hd
  obtain ⟨c0, c1, c2, hc⟩ := list3 hl3
  rw [hc] at h0 h1 h2 ⊢
  rw [Tryd.c9] at h0
  rw [Tryd.c3] at h1 h2
  obtain ⟨s, e0, g0, _⟩ := DataW.trod_string Tryd.underlying9 h0
  obtain ⟨n1, e1, g1, _⟩ := DataW.trod_int Tryd.underlying3 h1
  obtain ⟨n2, e2, g2, _⟩ := DataW.trod_int Tryd.underlying3 h2
  have e0' : c0 = .string s := by simpa using e0
  have e1' : c1 = .int .i64 n1 := by simpa using e1
  have e2' : c2 = .int .i64 n2 := by simpa using e2
  obtain ⟨d0, d1, d2⟩ := hd
  rw [g0] at d0
  rw [g1] at d1
  rw [g2] at d2
  simp only [DataW.lit.injEq, Lit.string.injEq] at d0
  simp only [DataW.lit.injEq, Lit.int.injEq, true_and] at d1 d2
  rw [e0', e1', e2', str_of_list d0, d1, d2]
  have : i = 0 ∨ i = 1 ∨ i = 2 ∨ i = 3 ∨ i = 4 ∨ i = 5 ∨ i = 6 := by omega
  rcases this with rfl | rfl | rfl | rfl | rfl | rfl | rfl <;> rfl

theorem standards_cells {w : World} {fuel : Nat} {cs : List Value} {p : List MemPlace} (h : DataW.trod (fun _ => ()) Tryd.prog w 0 (fun _ => true) false fuel 82 cs = some (Rows.laid_theorbo_instrument_standards, p)) : cs = stdC.toList := by
  obtain ⟨xs, m, _, hx, hl, hn, hel⟩ := DataW.trod_array Tryd.underlying82 h
  rw [Tryd.cSs] at hl
  have hx1 : xs.map (·.1) = (List.range 9).map fun n => (.agg [.lit (.string (stnB n)), .lit (.string (sttB n))] : DataW Unit) := by
    have := (Prod.mk.inj hx).1
    rw [stB_as] at this
    exact (DataW.agg.inj this).symm
  refine list_by2 _ _ 9 (by omega) rfl fun i hi => ?_
  have hE := hel i hi
  rw [Tryd.cS] at hE
  have hxi : xs[i]? = some (xs[i]'(by omega)) := List.getElem?_eq_getElem (by omega)
  rw [hxi] at hE
  have hd : (xs[i]'(by omega)).1 = (.agg [.lit (.string (stnB i)), .lit (.string (sttB i))] : DataW Unit) := by
    have := congrArg (fun l => l[i]?) hx1
    simp only [List.getElem?_map, hxi, List.getElem?_range hi, Option.map_some, Option.some.injEq] at this
    exact this
  obtain ⟨y0, y1, m2, e, hl3, h0, h1⟩ := trod_struct2 Tryd.underlying81 hE
  rw [Tryd.cS] at hl3
  rw [e] at hd
  simp only [DataW.agg.injEq, List.cons.injEq, and_true] at hd
  obtain ⟨c0, c1, hc⟩ := list2 hl3
  rw [hc] at h0 h1 ⊢
  rw [Tryd.c9] at h0 h1
  obtain ⟨s, e0, g0, _⟩ := DataW.trod_string Tryd.underlying9 h0
  obtain ⟨s1, e1, g1, _⟩ := DataW.trod_string Tryd.underlying9 h1
  have e0' : c0 = .string s := by simpa using e0
  have e1' : c1 = .string s1 := by simpa using e1
  obtain ⟨d0, d1⟩ := hd
  rw [g0] at d0
  rw [g1] at d1
  simp only [DataW.lit.injEq, Lit.string.injEq] at d0 d1
  rw [e0', e1', str_of_list d0, str_of_list d1]
  have : i = 0 ∨ i = 1 ∨ i = 2 ∨ i = 3 ∨ i = 4 ∨ i = 5 ∨ i = 6 ∨ i = 7 ∨ i = 8 := by omega
  rcases this with rfl | rfl | rfl | rfl | rfl | rfl | rfl | rfl | rfl <;> rfl

theorem row_of_var {P : Program} {w : World} {n : String} {g : Nat} {cs : Array Value} (hg : P.globalNamed n = some g) (h : w.var? P n = some cs) : ∃ t fr, w.heap[g]? = some (.cells cs t fr) := by
  unfold World.var? at h
  rw [hg] at h
  simp only [Option.bind_some] at h
  split at h
  · rename_i c t fr hh
    cases h
    exact ⟨t, fr, hh⟩
  · cases h

theorem env_of {w : World} {laid : List (String × DataW Unit)} (h : laidMet Tryd.prog laid w) (h1 : ("theorbo/instrument.letters", Rows.laid_theorbo_instrument_letters) ∈ laid) (h2 : ("theorbo/instrument.standards", Rows.laid_theorbo_instrument_standards) ∈ laid)
    (hsh : w.ShapedOpen Tryd.prog) : Env w := by
  obtain ⟨g, t, cs, fuel, p, hg, ht, hv, hd⟩ := Lib.laidMet.reads h h1
  obtain rfl := Option.some.inj ((show Tryd.prog.globalNamed "theorbo/instrument.letters" = some 1 by kernel_rfl).symm.trans hg)
  obtain rfl := Option.some.inj ((show (Tryd.prog.globals[1]?).map (·.type) = some 120 by kernel_rfl).symm.trans ht)
  obtain ⟨g2, t2, cs2, fuel2, p2, hg2, ht2, hv2, hd2⟩ := Lib.laidMet.reads h h2
  obtain rfl := Option.some.inj ((show Tryd.prog.globalNamed "theorbo/instrument.standards" = some 0 by kernel_rfl).symm.trans hg2)
  obtain rfl := Option.some.inj ((show (Tryd.prog.globals[0]?).map (·.type) = some 82 by kernel_rfl).symm.trans ht2)
  have e1 : cs = letC := Array.toList_inj.1 (letters_cells hd)
  have e2 : cs2 = stdC := Array.toList_inj.1 (standards_cells hd2)
  subst e1 e2
  obtain ⟨m, hm⟩ := Tryd.laysM145.s1_3 w hsh
  have r1 := row_of_var hg hv
  have r2 := row_of_var hg2 hv2
  refine ⟨⟨?_, ?_, World.block_lt_of_cell? w _ hm⟩, r1, r2, m, hm⟩
  · obtain ⟨t, fr, hh⟩ := r1
    rcases Nat.lt_or_ge 1 w.heap.size with hlt | hge
    · exact hlt
    · rw [Array.getElem?_eq_none hge] at hh; cases hh
  · obtain ⟨t, fr, hh⟩ := r2
    rcases Nat.lt_or_ge 0 w.heap.size with hlt | hge
    · exact hlt
    · rw [Array.getElem?_eq_none hge] at hh; cases hh

end Go.Proofs.YtdaeanjjmbibmaaDoor
