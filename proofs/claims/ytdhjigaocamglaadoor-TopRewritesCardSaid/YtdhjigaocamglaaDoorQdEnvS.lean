/- What the cards over the table of signs want, without the instrument's tables. -/
import Derived.Test.YtdhjigaocamglaaDoorQdTk
import Derived.Test.YtdhjigaocamglaaDoorRows
import Derived.Lib.LaidU8
import Derived.Lib.LaidTab
import Derived.ProofKit
import Derived.OpenShut
import Derived.LaidMore
import Derived.Lay
import Derived.Deep.Strs
import Derived.Stop.Joined
import Derived.SizedLaws
import Derived.Carry
import Derived.Test.YtdhjigaocamglaaDoorQdWorks2
namespace Go.Proofs.YtdhjigaocamglaaDoor
open Go.ChangeShapes Go.WideShapes Go.ChangeAt Go.RowKit Go.Deep

theorem own : ownKnob Tryd.prog.godebug = none := by kernel_rfl

theorem list_by3 (l m : List Value) (n : Nat) (hl : l.length = n * 3) (hm : m.length = n * 3) (h : ∀ i, i < n → (l.drop (i * 3)).take 3 = (m.drop (i * 3)).take 3) : l = m := by
  apply List.ext_getElem?
  intro j
  by_cases hj : j < n * 3
  · have h1 := h (j / 3) (by omega)
    have h2 := congrArg (fun x => x[j % 3]?) h1
    simp only [List.getElem?_take, List.getElem?_drop] at h2
    rw [if_pos (by omega), if_pos (by omega)] at h2
    rwa [show j / 3 * 3 + j % 3 = j from by omega] at h2
  · rw [List.getElem?_eq_none (by omega), List.getElem?_eq_none (by omega)]
theorem Tryd.c3 : Tryd.prog.cellsOf 3 = 1 := by kernel_rfl
theorem list3 {l : List Value} (h : l.length = 3) : ∃ a b c, l = [a, b, c] := by
  match l, h with
  | [a, b, c], _ => exact ⟨a, b, c, rfl⟩
theorem row_of_var {P : Program} {w : World} {n : String} {g : Nat} {cs : Array Value} (hg : P.globalNamed n = some g) (h : w.var? P n = some cs) : ∃ t fr, w.heap[g]? = some (.cells cs t fr) := by
  unfold World.var? at h
  rw [hg] at h
  simp only [Option.bind_some] at h
  split at h
  · rename_i c t fr hh
    cases h
    exact ⟨t, fr, hh⟩
  · cases h

end Go.Proofs.YtdhjigaocamglaaDoor

/- A law's row out of its walk: the condition on the tables and the world's shape are both handed to the walk. -/
namespace Go.Proofs.YtdhjigaocamglaaDoor
open Go.ChangeShapes Go.WideShapes Go.ChangeAt Go.RowKit

theorem lift {C : Checked} (own : ownKnob C.prog.godebug = none) {H : Type} {enc : TypeId × Value → H} {os : Os} (started : os.Started) {f : FuncId} {fn : Func} {s : ChangeSpec} {laid : List (String × DataW Unit)} (hfn : C.prog.funcs[f]? = some fn) (noInit : C.prog.inits.idxOf? f = none)
    (plain : ∀ w, laidMetH C.prog laid w → laidMet C.prog laid w)
    (witness : ∃ (w : World) (tape : Tape) (i : Input), w.os = os ∧ (w.forCall tape i).Shaped C.prog ∧ i.vars = [] ∧ Input.okWide C.prog (w.forCall tape i) .any w.heap.size f i ∧
      ((s.pre enc C.prog fn [] false (w.forCall tape i).memory i.args ∧ laidMetH C.prog laid (w.forCall tape i).memory) ∧ sizedMet enc C.prog fn (OpenSpec.ofChange s) false (w.forCall tape i).memory i.args) ∧ ({} : Assume).holds C.prog (lone (Frame.enter C.prog f i.args .normal) [] (w.forCall tape i)))
    (walk : ∀ (W : World) (base : Nat) (args : Array Value) (ds gs : List (DataW H)) (before : List MemPlace),
      (∀ (j : Nat) t v, fn.params[j]? = some t → args[j]? = some v → Value.okWide C.prog W .any base t v) →
      DataW.Whole enc C.prog fn.params.toList s.vars false W args.toList ds gs before →
      laidMet C.prog laid W → W.ShapedOpen C.prog →
      Calls C.prog f args W fun e W' => ∃ v, e = .returned v ∧ s.post enc C.prog fn false true false false W args v W') :
    ReturnsInHanded {} C os f .any (fun w args => (s.pre enc C.prog fn [] false w args ∧ laidMetH C.prog laid w) ∧ sizedMet enc C.prog fn (OpenSpec.ofChange s) false w args) (s.post enc C.prog fn false true false false) := by
  refine returnsInHanded_of_calls own started noInit witness ?_
  intro w tape i _ hsh _ hok hpre _
  obtain ⟨_, _, _, fn', hfn', _, _, _, _, hval⟩ := hok
  obtain rfl : fn' = fn := Option.some.inj (hfn'.symm.trans hfn)
  obtain ⟨⟨⟨ds, gs, before, hw, _⟩, hx⟩, _⟩ := hpre
  have hX : ∀ w w' : World, w.heap = w'.heap → laidMetH C.prog laid w → laidMetH C.prog laid w' := fun _ _ hh h => h.of_heap hh
  have hl : laidMetH C.prog laid (w.forCall tape i) := hX _ _ (by rfl) hx
  refine (walk (w.forCall tape i) w.heap.size i.args ds gs before hval (DataW.Whole.of_heap (w' := w.forCall tape i) (by rfl) hw) (plain _ hl) hsh).mono fun e W' ⟨v, he, hp⟩ => ?_
  subst he
  exact ChangeSpec.post_blind hp

/-- The arguments, one after another, read behind the call as before: below the old end nothing has changed. -/
theorem args_stay {H : Type} {enc : TypeId × Value → H} {P : Program} (hl : laidOutB P = true) {W W' : World} (hb : Below W.heap.size W W') :
    ∀ {ts : List TypeId} {vs : List Value} {ds : List (DataW H)} {ps : List MemPlace}, (∀ t ∈ ts, P.readableRec t = true ∧ t < P.types.size) → (∀ x ∈ ps, x.block < W.heap.size) →
      DataW.TrodAll enc P W 0 (fun _ => true) true ts vs ds ps → DataW.TrodAll enc P W' 0 (fun b => decide (b < W.heap.size)) true ts vs ds ps
  | [], [], [], _, _, _, h => h
  | t :: ts, v :: vs, d :: ds, ps, hr, hlt, h => by
    obtain ⟨p, q, h1, h2, rfl⟩ := h
    exact ⟨p, q, Below.trod hl (hr t (by simp)).1 (hr t (by simp)).2 h1 hb (fun x hx => hlt x (by simp [hx])), args_stay hl hb (fun t' ht' => hr t' (by simp [ht'])) (fun x hx => hlt x (by simp [hx])) h2, rfl⟩
  | [], _ :: _, _, _, _, _, h => h.elim
  | [], [], _ :: _, _, _, _, h => h.elim
  | _ :: _, [], _, _, _, _, h => h.elim
  | _ :: _, _ :: _, [], _, _, _, h => h.elim

/-- The last step of every law: it returned true, and nothing that was there has changed. -/
theorem post_law {H : Type} {enc : TypeId × Value → H} {P : Program} (hl : laidOutB P = true) {f : Func} {s : ChangeSpec} {W W' : World} {args : Array Value} {ds : List (DataW H)} {before : List MemPlace} {tb : TypeId}
    (hvars : s.vars = []) (hW : DataW.Whole enc P f.params.toList s.vars false W args.toList ds [] before) (hf : (s.fn H ds).results = [.lit (.bool true)] ∧ (s.fn H ds).args = ds ∧ (s.fn H ds).vars = [])
    (hr : f.resultTypes = #[tb]) (ht : P.underlying tb = some .bool) (hp : ∀ t ∈ f.params.toList, P.readableRec t = true ∧ t < P.types.size) (hb : Below W.heap.size W W') :
    s.post enc P f false true false false W args (.bool true) W' := by
  have hlt := hW.lt
  obtain ⟨p, q, hA, hV, rfl, hz⟩ := hW
  have hW : DataW.Whole enc P f.params.toList s.vars false W args.toList ds [] (p ++ q) := ⟨p, q, hA, hV, rfl, hz⟩
  rw [hvars] at hV
  obtain ⟨_, rfl⟩ := trodVars_none hV
  refine ⟨ds, [], _, [], p, [], hW, ?_, ?_, ?_, ?_, fun h => by cases h⟩
  · rw [List.append_nil, hf.1, hr]
    exact trodAll_mk1 (shut_bool ht _)
  · rw [List.append_nil, hf.2.1]
    exact args_stay hl hb hp (fun x hx => hlt x (by simp [hx])) hA
  · rw [List.append_nil, hf.2.2, hvars]
    rfl
  · exact hb.frame _

theorem Tryd.laidOut : laidOutB Tryd.prog = true := by kernel_rfl

end Go.Proofs.YtdhjigaocamglaaDoor

/- What a row's condition on the table of signs gives the walks. -/
namespace Go.Proofs.YtdhjigaocamglaaDoor
open Go.ChangeShapes Go.WideShapes Go.ChangeAt Go.RowKit Go.Deep

def sgA : Array Value := ((List.range 21).flatMap fun n => [Value.int .i64 (sgv n).1, .bool (sgv n).2.1, .bool (sgv n).2.2]).toArray
theorem Tryd.cSg : Tryd.prog.cellsOf 48 = 3 := by kernel_rfl
theorem Tryd.cSgs : Tryd.prog.cellsOf 99 = 63 := by kernel_rfl
theorem Tryd.cB : Tryd.prog.cellsOf 4 = 1 := by kernel_rfl
theorem sg_as : (Rows.laid_theorbo_piece_signs : DataW Unit) = .agg ((List.range 21).map fun n => .agg [.lit (.int .i64 (sgv n).1), .lit (.bool (sgv n).2.1), .lit (.bool (sgv n).2.2)]) := by kernel_rfl

theorem signs_cells {w : World} {fuel : Nat} {cs : List Value} {p : List MemPlace} (h : DataW.trod (fun _ => ()) Tryd.prog w 0 (fun _ => true) false fuel 99 cs = some (Rows.laid_theorbo_piece_signs, p)) : cs = sgA.toList := by
  obtain ⟨xs, m, _, hx, hl, hn, hel⟩ := DataW.trod_array Tryd.underlying99 h
  rw [Tryd.cSgs] at hl
  have hx1 : xs.map (·.1) = (List.range 21).map fun n => (.agg [.lit (.int .i64 (sgv n).1), .lit (.bool (sgv n).2.1), .lit (.bool (sgv n).2.2)] : DataW Unit) := by
    have := (Prod.mk.inj hx).1
    rw [sg_as] at this
    exact (DataW.agg.inj this).symm
  refine list_by3 _ _ 21 (by omega) rfl fun i hi => ?_
  have hE := hel i hi
  rw [Tryd.cSg] at hE
  have hxi : xs[i]? = some (xs[i]'(by omega)) := List.getElem?_eq_getElem (by omega)
  rw [hxi] at hE
  have hd : (xs[i]'(by omega)).1 = (.agg [.lit (.int .i64 (sgv i).1), .lit (.bool (sgv i).2.1), .lit (.bool (sgv i).2.2)] : DataW Unit) := by
    have := congrArg (fun l => l[i]?) hx1
    simp only [List.getElem?_map, hxi, List.getElem?_range hi, Option.map_some, Option.some.injEq] at this
    exact this
  obtain ⟨y0, y1, y2, m2, e, hl3, h0, h1, h2⟩ := trod_struct3 Tryd.underlying48 hE
  rw [Tryd.cSg] at hl3
  rw [e] at hd
  simp only [DataW.agg.injEq, List.cons.injEq, and_true] at hd
  obtain ⟨c0, c1, c2, hc⟩ := list3 hl3
  rw [hc] at h0 h1 h2 ⊢
  rw [Tryd.c3] at h0
  rw [Tryd.cB] at h1 h2
  obtain ⟨n0, e0, g0, _⟩ := DataW.trod_int Tryd.underlying3 h0
  obtain ⟨b1, e1, g1⟩ := DataW.trod_bool Tryd.underlying4 h1
  obtain ⟨b2, e2, g2⟩ := DataW.trod_bool Tryd.underlying4 h2
  have e0' : c0 = .int .i64 n0 := by simpa using e0
  have e1' : c1 = .bool b1 := by simpa using e1
  have e2' : c2 = .bool b2 := by simpa using e2
  obtain ⟨d0, d1, d2⟩ := hd
  rw [g0] at d0
  rw [g1] at d1
  rw [g2] at d2
  simp only [DataW.lit.injEq, Lit.int.injEq, true_and] at d0
  simp only [DataW.lit.injEq, Lit.bool.injEq] at d1 d2
  rw [e0', e1', e2', d0, d1, d2]
  have : i = 0 ∨ i = 1 ∨ i = 2 ∨ i = 3 ∨ i = 4 ∨ i = 5 ∨ i = 6 ∨ i = 7 ∨ i = 8 ∨ i = 9 ∨ i = 10 ∨ i = 11 ∨ i = 12 ∨ i = 13 ∨ i = 14 ∨ i = 15 ∨ i = 16 ∨ i = 17 ∨ i = 18 ∨ i = 19 ∨ i = 20 := by omega
  rcases this with rfl | rfl | rfl | rfl | rfl | rfl | rfl | rfl | rfl | rfl | rfl | rfl | rfl | rfl | rfl | rfl | rfl | rfl | rfl | rfl | rfl <;> rfl

theorem sgA_at (k : Nat) (h : k < 21) : sgA[k * 3]? = some (.int .i64 (sgv k).1) ∧ sgA[k * 3 + 1]? = some (.bool (sgv k).2.1) ∧ sgA[k * 3 + 2]? = some (.bool (sgv k).2.2) := by
  have : k = 0 ∨ k = 1 ∨ k = 2 ∨ k = 3 ∨ k = 4 ∨ k = 5 ∨ k = 6 ∨ k = 7 ∨ k = 8 ∨ k = 9 ∨ k = 10 ∨ k = 11 ∨ k = 12 ∨ k = 13 ∨ k = 14 ∨ k = 15 ∨ k = 16 ∨ k = 17 ∨ k = 18 ∨ k = 19 ∨ k = 20 := by omega
  rcases this with rfl | rfl | rfl | rfl | rfl | rfl | rfl | rfl | rfl | rfl | rfl | rfl | rfl | rfl | rfl | rfl | rfl | rfl | rfl | rfl | rfl <;> exact ⟨rfl, rfl, rfl⟩
theorem sgt_of {w : World} {laid : List (String × DataW Unit)} (h : laidMet Tryd.prog laid w) (h1 : ("theorbo/piece.signs", Rows.laid_theorbo_piece_signs) ∈ laid) : SgT w := by
  obtain ⟨g, t, cs, fuel, p, hg, ht, hv, hd⟩ := Lib.laidMet.reads h h1
  obtain rfl := Option.some.inj ((show Tryd.prog.globalNamed "theorbo/piece.signs" = some 0 by kernel_rfl).symm.trans hg)
  obtain rfl := Option.some.inj ((show (Tryd.prog.globals[0]?).map (·.type) = some 99 by kernel_rfl).symm.trans ht)
  have e1 : cs = sgA := Array.toList_inj.1 (signs_cells hd)
  subst e1
  obtain ⟨t, f, hh⟩ := row_of_var hg hv
  have hc : ∀ (o : Nat) (u : Value), sgA[o]? = some u → w.cell? ⟨0, o, none⟩ = some u := fun o u hu => by
    unfold World.cell?
    simp only [hh]
    simpa using hu
  refine ⟨(Array.getElem?_eq_some_iff.1 hh).1, fun k hk => ?_⟩
  obtain ⟨a, b, c⟩ := sgA_at k hk
  exact ⟨hc _ _ a, hc _ _ b, hc _ _ c⟩

end Go.Proofs.YtdhjigaocamglaaDoor
