/- What a row's condition on the table of signs gives the walks. -/
import Derived.Test.YtlmpoklakbjpnaaDoorEnvK
import Derived.Test.YtlmpoklakbjpnaaDoorWorks2
namespace Go.Proofs.YtlmpoklakbjpnaaDoor
open Go.ChangeShapes Go.WideShapes Go.ChangeAt Go.RowKit Go.Deep

def sgA : Array Value := ((List.range 21).flatMap fun n => [Value.int .i64 (sgv n).1, .bool (sgv n).2.1, .bool (sgv n).2.2]).toArray
theorem Tryd.cSg : Tryd.prog.cellsOf 38 = 3 := by kernel_rfl
theorem Tryd.cSgs : Tryd.prog.cellsOf 106 = 63 := by kernel_rfl
theorem Tryd.cB : Tryd.prog.cellsOf 4 = 1 := by kernel_rfl
theorem sg_as : (Rows.laid_theorbo_piece_signs : DataW Unit) = .agg ((List.range 21).map fun n => .agg [.lit (.int .i64 (sgv n).1), .lit (.bool (sgv n).2.1), .lit (.bool (sgv n).2.2)]) := by kernel_rfl

theorem signs_cells {w : World} {fuel : Nat} {cs : List Value} {p : List MemPlace} (h : DataW.trod (fun _ => ()) Tryd.prog w 0 (fun _ => true) false fuel 106 cs = some (Rows.laid_theorbo_piece_signs, p)) : cs = sgA.toList := by
  obtain ⟨xs, m, _, hx, hl, hn, hel⟩ := DataW.trod_array Tryd.underlying106 h
  rw [Tryd.cSgs] at hl
  have hx1 : xs.map (·.1) = (List.range 21).map fun n => (.agg [.lit (.int .i64 (sgv n).1), .lit (.bool (sgv n).2.1), .lit (.bool (sgv n).2.2)] : DataW Unit) := by
    have := (Prod.mk.inj hx).1
    rw [sg_as] at this
    exact (DataW.agg.inj this).symm
  refine list_by3 _ _ 21 (by omega) rfl fun i hi => ?_
  have hE := hel i hi
  rw [Tryd.cSg] at hE
  have hxi : xs[i]? = some (xs[i]'(by omega)) := List.getElem?_eq_getElem (by omega)
  rw [hxi] at hE
  have hd : (xs[i]'(by omega)).1 = (.agg [.lit (.int .i64 (sgv i).1), .lit (.bool (sgv i).2.1), .lit (.bool (sgv i).2.2)] : DataW Unit) := by
    have := congrArg (fun l => l[i]?) hx1
    simp only [List.getElem?_map, hxi, List.getElem?_range hi, Option.map_some, Option.some.injEq] at this
    exact this
  obtain ⟨y0, y1, y2, m2, e, hl3, h0, h1, h2⟩ := trod_struct3 Tryd.underlying38 hE
  rw [Tryd.cSg] at hl3
  rw [e] at hd
  simp only [DataW.agg.injEq, List.cons.injEq, and_true] at hd
  obtain ⟨c0, c1, c2, hc⟩ := list3 hl3
  rw [hc] at h0 h1 h2 ⊢
  rw [Tryd.c3] at h0
  rw [Tryd.cB] at h1 h2
  obtain ⟨n0, e0, g0, _⟩ := DataW.trod_int Tryd.underlying3 h0
  obtain ⟨b1, e1, g1⟩ := DataW.trod_bool Tryd.underlying4 h1
  obtain ⟨b2, e2, g2⟩ := DataW.trod_bool Tryd.underlying4 h2
  have e0' : c0 = .int .i64 n0 := by simpa using e0
  have e1' : c1 = .bool b1 := by simpa using e1
  have e2' : c2 = .bool b2 := by simpa using e2
  obtain ⟨d0, d1, d2⟩ := hd
  rw [g0] at d0
  rw [g1] at d1
  rw [g2] at d2
  simp only [DataW.lit.injEq, Lit.int.injEq, true_and] at d0
  simp only [DataW.lit.injEq, Lit.bool.injEq] at d1 d2
  rw [e0', e1', e2', d0, d1, d2]
  have : i = 0 ∨ i = 1 ∨ i = 2 ∨ i = 3 ∨ i = 4 ∨ i = 5 ∨ i = 6 ∨ i = 7 ∨ i = 8 ∨ i = 9 ∨ i = 10 ∨ i = 11 ∨ i = 12 ∨ i = 13 ∨ i = 14 ∨ i = 15 ∨ i = 16 ∨ i = 17 ∨ i = 18 ∨ i = 19 ∨ i = 20 := by omega
  rcases this with rfl | rfl | rfl | rfl | rfl | rfl | rfl | rfl | rfl | rfl | rfl | rfl | rfl | rfl | rfl | rfl | rfl | rfl | rfl | rfl | rfl <;> rfl

theorem sgA_at (k : Nat) (h : k < 21) : sgA[k * 3]? = some (.int .i64 (sgv k).1) ∧ sgA[k * 3 + 1]? = some (.bool (sgv k).2.1) ∧ sgA[k * 3 + 2]? = some (.bool (sgv k).2.2) := by
  have : k = 0 ∨ k = 1 ∨ k = 2 ∨ k = 3 ∨ k = 4 ∨ k = 5 ∨ k = 6 ∨ k = 7 ∨ k = 8 ∨ k = 9 ∨ k = 10 ∨ k = 11 ∨ k = 12 ∨ k = 13 ∨ k = 14 ∨ k = 15 ∨ k = 16 ∨ k = 17 ∨ k = 18 ∨ k = 19 ∨ k = 20 := by omega
  rcases this with rfl | rfl | rfl | rfl | rfl | rfl | rfl | rfl | rfl | rfl | rfl | rfl | rfl | rfl | rfl | rfl | rfl | rfl | rfl | rfl | rfl <;> exact ⟨rfl, rfl, rfl⟩
theorem sgt_of {w : World} {laid : List (String × DataW Unit)} (h : laidMet Tryd.prog laid w) (h1 : ("theorbo/piece.signs", Rows.laid_theorbo_piece_signs) ∈ laid) : SgT w := by
  obtain ⟨g, t, cs, fuel, p, hg, ht, hv, hd⟩ := Lib.laidMet.reads h h1
  obtain rfl := Option.some.inj ((show Tryd.prog.globalNamed "theorbo/piece.signs" = some 0 by kernel_rfl).symm.trans hg)
  obtain rfl := Option.some.inj ((show (Tryd.prog.globals[0]?).map (·.type) = some 106 by kernel_rfl).symm.trans ht)
  have e1 : cs = sgA := Array.toList_inj.1 (signs_cells hd)
  subst e1
  obtain ⟨t, f, hh⟩ := row_of_var hg hv
  have hc : ∀ (o : Nat) (u : Value), sgA[o]? = some u → w.cell? ⟨0, o, none⟩ = some u := fun o u hu => by
    unfold World.cell?
    simp only [hh]
    simpa using hu
  refine ⟨(Array.getElem?_eq_some_iff.1 hh).1, fun k hk => ?_⟩
  obtain ⟨a, b, c⟩ := sgA_at k hk
  exact ⟨hc _ _ a, hc _ _ b, hc _ _ c⟩

end Go.Proofs.YtlmpoklakbjpnaaDoor
