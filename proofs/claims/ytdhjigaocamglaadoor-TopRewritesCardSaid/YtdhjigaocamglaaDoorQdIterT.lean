/- A range over a function whose iterator keeps a variable of its own in a block sb, and reads memory between two rounds: a law of ours, for bodies that always go on. -/
import Derived.Test.YtdhjigaocamglaaDoorQdTk
import Derived.RangeFuncNested
import Derived.RangeFuncBound
import Derived.RangeFuncCalls
import Derived.RangeFuncLeaves
import Derived.Test.YtdhjigaocamglaaDoorQdTkT
import Derived.Shelf.Abstract
import Derived.Shelf.RegionOpen
import Derived.WalkKit
import Derived.OwnWalkIn
import Derived.TacticsInMore
import Derived.LoopNIn
import Derived.LoopIn
namespace Go.Proofs.YtdhjigaocamglaaDoor
open Go Go.RowKit

/-- It abides new memory, and whatever is stored in block sb. -/
structure Bx {α : Type} (sb : Nat) (J : List α → World → Prop) : Prop where
  low : ∀ s W W', J s W → Below W.heap.size W W' → J s W'
  put : ∀ s W a v, J s W → a.block = sb → J s (W.setCell a v)
/-- The blocks that are to be kept lie as they lay. -/
def Kb (keep : Nat → Prop) (W W' : World) : Prop := ∀ k, keep k → k < W.heap.size → W'.heap[k]? = W.heap[k]?
/-- The iterator gives xs, to every loop body that goes on and keeps those blocks; its own variable lies in block sb. -/
def IterB {α : Type} (F : Fence) (n : Nat) (P : Program) (g : Nat) (lb : Array Value) (encs : α → Array Value) (keep : Nat → Prop) (sb : Nat) (T : TypeId) (xs : List α) (w : World) : Prop :=
  ∀ (l : Nat) (J : List α → World → Prop) (W : World), W.heap.size = sb → Below w.heap.size w W → Bx sb J →
    (∀ pre x W1, J pre W1 → (∃ post, xs = pre ++ x :: post) → (∃ cs f, W1.heap[sb]? = some (.cells cs T f)) → YieldAt F (n - 1) P l (encs x) W1 fun e W' => e = .returned (.bool true) ∧ J (pre ++ [x]) W' ∧ (W1.heap.size ≤ W'.heap.size ∧ Kb keep W1 W')) →
    J [] W → CallsIn F n P g (#[.func (.yield l) #[] #[]] ++ lb) W fun e W' => (∃ v, e = .returned v) ∧ J xs W'

def bodyB {α : Type} (keep : Nat → Prop) (I : List α → World → Prop) (xs : List α) (W : World) : Exit → Act → World → Prop
  | .normal, _, W' => KeepsOthers W W' ∧ Kb keep W W' ∧ I xs W'
  | _, _, _ => False

theorem rfBox {α : Type} {F : Fence} {n : Nat} {P : Program} {g : Operand} {ps : Array Tmp} {assign body : Code} {Q : Exit → Act → World → Prop} {a : Act} {w : World}
    (hro : F.round = none) (h1 : 1 ≤ n) {gf : Nat} {lb : Array Value} (hg : a.eval g = .func (.func gf) #[] lb) (hFg : F.fn gf) (eg : ∀ args w, (callFunc gf args).run P w = .ok (.enter gf args) w)
    {encs : α → Array Value} {keep : Nat → Prop} {T : TypeId} (xs : List α) (hseq : IterB F (n - 1) P gf lb encs keep (w.heap.size + 2) T xs w)
    (hk1 : ¬ keep (w.heap.size + 1)) (hps : ∀ x, (encs x).size = ps.size)
    (I : List α → World → Prop) (hI : Bx (w.heap.size + 2) I) (hIo : ∀ s W l o o', I s W → W.heap[l]? = some o → o.isCells = false → w.heap.size ≤ l → I s (W.putObj l o')) (h0 : I [] w)
    (Ax : α → Act → World → Prop) (hAx : ∀ x a' W l o o', Ax x a' W → W.heap[l]? = some o → o.isCells = false → Ax x a' (W.putObj l o'))
    (hassign : ∀ (l : Nat) (x : α) (W : World) (K : Act → World → Prop), (∀ a' W', Below W.heap.size W W' → Ax x a' W' → K a' W') →
      assign.wpIn (F.inRound l) (n - 1 - 1) P (Exit.then K (fun _ _ _ => False)) { tmps := (ps.zip (encs x)).foldl (fun t (p, v) => t.setIfInBounds p v) a.tmps, defers := [] } W)
    (hbody : ∀ (l : Nat) (pre : List α) (x : α) (a' : Act) (W : World), I pre W → Ax x a' W → (∃ post, xs = pre ++ x :: post) → (∃ cs f, W.heap[w.heap.size + 2]? = some (.cells cs T f)) → body.wpIn (F.inRound l) (n - 1 - 1) P (bodyB keep I (pre ++ [x]) W) a' W)
    (hdone : ∀ (D : Nat) (W : World), w.heap.size ≤ D → I xs W → W.heap[D]? = some (.deferred (some [])) → Q .normal { a with defers := { target := .collected D, args := #[] } :: a.defers } W) :
    (Code.rangeFunc g ps assign body).wpIn F n P Q a w := by
  refine wpIn_rangeFunc ?_
  intro fn hfn
  rw [hro]
  obtain ⟨rec, hrec⟩ : ∃ rec : LoopState → Option Code → Loop, rec = fun st pe => { state := st, pending := pe, fn, tmps := a.tmps, params := ps, assign, body, defers := w.heap.size } := ⟨_, rfl⟩
  obtain ⟨W1, hW1⟩ : ∃ W1, (w.alloc (.deferred (some []))).alloc (.loop (rec .ready none)) = W1 := ⟨_, rfl⟩
  have hlo : Below w.heap.size w W1 := by rw [← hW1]; exact ((Below.refl _ w).alloc (Nat.le_refl _) _).alloc (by simp) _
  have hsz : W1.heap.size = w.heap.size + 2 := by rw [← hW1]; simp
  have hL1 : W1.heap[w.heap.size + 1]? = some (.loop (rec .ready none)) := by
    rw [← hW1]
    have := World.alloc_heap_new (w.alloc (.deferred (some []))) (.loop (rec .ready none))
    rwa [World.size_alloc] at this
  have hK1 : W1.heap[w.heap.size]? = some (.deferred (some [])) := by
    rw [← hW1]
    exact (Below.heap_alloc _ _ _ (by simp)).trans (World.alloc_heap_new w _)
  refine ⟨w.heap.size + 1, [{ target := .collected w.heap.size, args := #[] }], W1, { target := .fn (.func gf) lb, args := #[.func (.yield (w.heap.size + 1)) #[] #[]] }, W1, gf,
    #[.func (.yield (w.heap.size + 1)) #[] #[]] ++ lb, W1, ?_, ?_, ?_, ?_, fun _ => h1, ?_⟩
  · rw [← hW1, hrec]; exact run_enterLoop_outer _ _ _ _ _
  · simp only [resolve, hg]
    simp [go_sem]
  · intro f' hf'
    simp [Target.leads] at hf'
    subst hf'
    exact hFg
  · simp [invoke, go_sem, eg]
  · have hsame : ∀ (W W' : World) (k : Nat) (o : Obj), Below W.heap.size W W' → W.heap[k]? = some o → W'.heap[k]? = some o := fun W W' k o hb h => (hb.block k (Array.getElem?_eq_some_iff.1 h).1).trans h
    have hput : ∀ (W : World) (p : Addr) (v : Value) (k : Nat) (o : Obj), p.block = w.heap.size + 2 → k < w.heap.size + 2 → W.heap[k]? = some o → (W.setCell p v).heap[k]? = some o := fun W p v k o hp hk h =>
      (((Below.refl (w.heap.size + 2) W).setCell (p := p) (by omega) v).block k hk).trans h
    refine (hseq (w.heap.size + 1) (fun pre W => I pre W ∧ W.heap[w.heap.size + 1]? = some (.loop (rec .ready none)) ∧ W.heap[w.heap.size]? = some (.deferred (some []))) W1 hsz hlo
      ⟨fun s W W' hs hb => ⟨hI.low s W W' hs.1 hb, hsame _ _ _ _ hb hs.2.1, hsame _ _ _ _ hb hs.2.2⟩,
       fun s W p v hs hp => ⟨hI.put s W p v hs.1 hp, hput _ _ _ _ _ hp (by omega) hs.2.1, hput _ _ _ _ _ hp (by omega) hs.2.2⟩⟩ ?_ ⟨hI.low _ _ _ h0 hlo, hL1, hK1⟩).mono ?_
    · rintro pre x W ⟨hi, hl, hk⟩ hlen hsb
      have hy := run_yield (P := P) (args := encs x) hl (by rw [hrec]; exact hps x)
      rw [hrec] at hy
      refine ⟨fn, _, assign, body, hy, roundIn_of_wpIn hfn (hassign _ x W _ ?_)⟩
      intro a' W' hb' hax
      have hl' := hsame _ _ _ _ hb' hl
      have hk' := hsame _ _ _ _ hb' hk
      have hlt : w.heap.size + 1 < W'.heap.size := (Array.getElem?_eq_some_iff.1 hl').1
      refine ⟨_, run_beginRound hl' (by rw [hrec]), ?_⟩
      have hl2 : (W'.putObj (w.heap.size + 1) (.loop { rec .ready none with state := .busy })).heap[w.heap.size + 1]? = some (.loop { rec .ready none with state := .busy }) := World.putObj_heap_same hlt
      have hk2 : (W'.putObj (w.heap.size + 1) (.loop { rec .ready none with state := .busy })).heap[w.heap.size]? = some (.deferred (some [])) := (World.putObj_heap_other (by omega)).trans hk'
      refine wpIn_mono (hbody _ pre x a' _ (hIo _ _ _ _ _ (hI.low _ _ _ hi hb') hl' rfl (by omega)) (hAx _ _ _ _ _ _ hax hl' rfl) hlen ?_) ?_
      · obtain ⟨cs, f, hsb⟩ := hsb
        exact ⟨cs, f, (World.putObj_heap_other (by omega)).trans (hsame _ _ _ _ hb' hsb)⟩
      rintro e a3 W3 hp
      cases e with
      | normal =>
        obtain ⟨hk3, hkp3, hi3⟩ := hp
        have hl3 := hk3.same _ _ hl2 rfl
        have hk3' := hk3.same _ _ hk2 rfl
        have hr := run_endRound (P := P) none hl3
        refine ⟨_, _, hr, rfl, ⟨hIo _ _ _ _ _ hi3 hl3 rfl (by omega), ?_, (World.putObj_heap_other (by omega)).trans hk3'⟩, ?_, ?_⟩
        · rw [hrec]
          exact World.putObj_heap_same (Array.getElem?_eq_some_iff.1 hl3).1
        · have h1 := hb'.size
          have h2 := hk3.size
          simp at h2 ⊢
          omega
        · intro k hkk hklt
          have hne : k ≠ w.heap.size + 1 := fun e => hk1 (e ▸ hkk)
          have e1 : W'.heap[k]? = W.heap[k]? := hb'.block k hklt
          have e2 : (W'.putObj (w.heap.size + 1) (.loop { rec .ready none with state := .busy })).heap[k]? = W'.heap[k]? := World.putObj_heap_other hne
          have e3 := hkp3 k hkk (by have := hb'.size; simp; omega)
          rw [World.putObj_heap_other hne, e3, e2, e1]
      | ret => exact hp.elim
      | exit id => exact hp.elim
      | goto t => exact hp.elim
      | panic ch => exact hp.elim
      | outgrown => exact hp.elim
    · rintro e W2 ⟨⟨v, rfl⟩, hi, hl, hk⟩
      exact ⟨none, _, by have := run_endLoop (P := P) hl (by rw [hrec]; simp); rw [hrec] at this; exact this, hdone _ _ (Nat.le_refl _) (hIo _ _ _ _ _ hi hl rfl (by omega)) ((World.putObj_heap_other (by omega)).trans hk)⟩

end Go.Proofs.YtdhjigaocamglaaDoor

/- Piece: withTimes, the iterator over a piece's events with their times. -/
namespace Go.Proofs.YtdhjigaocamglaaDoor
open Go Go.RowKit

attribute [local go_sem] Oper.semAt_some

structure EvT where
  bar : Bool
  v : Int
  d : Bool
  t : Bool
  tie : Bool
  sa : Option Addr
  sn : Nat
  sc : Nat
structure Tm where
  n : Nat
  ev : EvT
  v : Int
  d : Bool
  t : Bool
  fm : Int
  to : Int
abbrev tmV (x : Tm) : Value := .agg #[.int .i64 x.n, .bool x.ev.bar, .int .i64 x.ev.v, .bool x.ev.d, .bool x.ev.t, .bool x.ev.tie, .slice x.ev.sa x.ev.sn x.ev.sc, .int .i64 x.v, .bool x.d, .bool x.t, .int .i64 x.fm, .int .i64 x.to]
def tmL : List EvT → Nat → Int → Bool → Bool → Int → List Tm
  | [], _, _, _, _, _ => []
  | x :: r, n, v, d, t, fm =>
    if wrB x.v x.d x.t then ⟨n, x, x.v, x.d, x.t, fm, fm + tkV x.v x.d x.t⟩ :: tmL r (n + 1) x.v x.d x.t (fm + tkV x.v x.d x.t)
    else ⟨n, x, v, d, t, fm, fm + tkV v d t⟩ :: tmL r (n + 1) v d t (fm + tkV v d t)
theorem tmL_len : ∀ (E : List EvT) (n : Nat) (v : Int) (d t : Bool) (fm : Int), (tmL E n v d t fm).length = E.length
  | [], _, _, _, _, _ => rfl
  | x :: r, n, v, d, t, fm => by
    unfold tmL
    split <;> simp [tmL_len r]
theorem tbase_bd (v : Int) : 6 ≤ tbase v ∧ tbase v ≤ 384 := by
  unfold tbase
  repeat' split
  all_goals omega
theorem tkV_bd (v : Int) (d t : Bool) : 0 ≤ tkV v d t ∧ tkV v d t ≤ 576 := by
  have := tbase_bd v
  unfold tkV
  repeat' split
  all_goals omega
/-- The event k lies in its six cells. -/
def EvAt (w : World) (b off k : Nat) (x : EvT) : Prop :=
  w.cell? ⟨b, off + k * 6, none⟩ = some (.bool x.bar) ∧ w.cell? ⟨b, off + k * 6 + 1, none⟩ = some (.int .i64 x.v) ∧ w.cell? ⟨b, off + k * 6 + 2, none⟩ = some (.bool x.d) ∧ w.cell? ⟨b, off + k * 6 + 3, none⟩ = some (.bool x.t) ∧
    w.cell? ⟨b, off + k * 6 + 4, none⟩ = some (.bool x.tie) ∧ w.cell? ⟨b, off + k * 6 + 5, none⟩ = some (.slice x.sa x.sn x.sc)
theorem cell_same {w w' : World} {b o : Nat} {v : Value} (h : w'.heap[b]? = w.heap[b]?) (hc : w.cell? ⟨b, o, none⟩ = some v) : w'.cell? ⟨b, o, none⟩ = some v := by
  unfold World.cell? at hc ⊢
  simp only at hc ⊢
  rw [h]
  exact hc
theorem frozen_same {w w' : World} {b o : Nat} (h : w'.heap[b]? = w.heap[b]?) : w'.frozen? ⟨b, o, none⟩ = w.frozen? ⟨b, o, none⟩ := by
  unfold World.frozen?
  simp only
  rw [h]
theorem EvAt.same {w w' : World} {b off k : Nat} {x : EvT} (h : w'.heap[b]? = w.heap[b]?) : EvAt w b off k x → EvAt w' b off k x := fun ⟨h0, h1, h2, h3, h4, h5⟩ =>
  ⟨cell_same h h0, cell_same h h1, cell_same h h2, cell_same h h3, cell_same h h4, cell_same h h5⟩

theorem tmL_w {x : EvT} (r : List EvT) (n : Nat) (v : Int) (d t : Bool) (fm : Int) (h : wrB x.v x.d x.t = true) : tmL (x :: r) n v d t fm = ⟨n, x, x.v, x.d, x.t, fm, fm + tkV x.v x.d x.t⟩ :: tmL r (n + 1) x.v x.d x.t (fm + tkV x.v x.d x.t) := by
  rw [tmL, if_pos h]
theorem tmL_n {x : EvT} (r : List EvT) (n : Nat) (v : Int) (d t : Bool) (fm : Int) (h : wrB x.v x.d x.t = false) : tmL (x :: r) n v d t fm = ⟨n, x, v, d, t, fm, fm + tkV v d t⟩ :: tmL r (n + 1) v d t (fm + tkV v d t) := by
  rw [tmL, if_neg (by rw [h]; simp)]
theorem evCells {w w1 : World} {x : EvT} {T : TypeId} (h : Below (w.alloc (.cells #[.bool x.bar, .int .i64 x.v, .bool x.d, .bool x.t, .bool x.tie, .slice x.sa x.sn x.sc] T)).heap.size (w.alloc (.cells #[.bool x.bar, .int .i64 x.v, .bool x.d, .bool x.t, .bool x.tie, .slice x.sa x.sn x.sc] T)) w1) :
    w1.cell? ⟨w.heap.size, 0, none⟩ = some (.bool x.bar) ∧ w1.cell? ⟨w.heap.size, 1, none⟩ = some (.int .i64 x.v) ∧ w1.cell? ⟨w.heap.size, 2, none⟩ = some (.bool x.d) ∧ w1.cell? ⟨w.heap.size, 3, none⟩ = some (.bool x.t) ∧
      w1.cell? ⟨w.heap.size, 4, none⟩ = some (.bool x.tie) ∧ w1.cell? ⟨w.heap.size, 5, none⟩ = some (.slice x.sa x.sn x.sc) :=
  ⟨by simpa using (keepb h 0).1, by simpa using (keepb h 1).1, by simpa using (keepb h 2).1, by simpa using (keepb h 3).1, by simpa using (keepb h 4).1, by simpa using (keepb h 5).1⟩
/-- Behind a sign's three stores into block sb and whatever a call lays. -/
theorem afterS {sb : Nat} {w1 w3 : World} {v : Int} {d t : Bool} {u0 u1 u2 : Value} (hsb : sb < w1.heap.size) (c0 : w1.cell? ⟨sb, 0, none⟩ = some u0) (c1 : w1.cell? ⟨sb, 1, none⟩ = some u1) (c2 : w1.cell? ⟨sb, 2, none⟩ = some u2)
    (hb : Below (((w1.setCell ⟨sb, 0, none⟩ (.int .i64 v)).setCell ⟨sb, 1, none⟩ (.bool d)).setCell ⟨sb, 2, none⟩ (.bool t)).heap.size (((w1.setCell ⟨sb, 0, none⟩ (.int .i64 v)).setCell ⟨sb, 1, none⟩ (.bool d)).setCell ⟨sb, 2, none⟩ (.bool t)) w3) :
    w3.cell? ⟨sb, 0, none⟩ = some (.int .i64 v) ∧ w3.cell? ⟨sb, 1, none⟩ = some (.bool d) ∧ w3.cell? ⟨sb, 2, none⟩ = some (.bool t) ∧ (∀ o, w3.frozen? ⟨sb, o, none⟩ = w1.frozen? ⟨sb, o, none⟩) ∧
      (∀ k, k ≠ sb → k < w1.heap.size → w3.heap[k]? = w1.heap[k]?) ∧ w1.heap.size ≤ w3.heap.size ∧ (∀ cs T f, w1.heap[sb]? = some (.cells cs T f) → ∃ cs', w3.heap[sb]? = some (.cells cs' T f)) := by
  have e0 : (w1.setCell ⟨sb, 0, none⟩ (.int .i64 v)).cell? ⟨sb, 0, none⟩ = some (.int .i64 v) := World.cell?_setCell_same' _ _ _ (by rw [c0]; rfl)
  have e1 : (w1.setCell ⟨sb, 0, none⟩ (.int .i64 v)).cell? ⟨sb, 1, none⟩ = some u1 := by rw [World.cell?_setCell_other _ _ _ _ (by simp)]; exact c1
  have e2 : (w1.setCell ⟨sb, 0, none⟩ (.int .i64 v)).cell? ⟨sb, 2, none⟩ = some u2 := by rw [World.cell?_setCell_other _ _ _ _ (by simp)]; exact c2
  obtain ⟨X, hX⟩ : ∃ X, w1.setCell ⟨sb, 0, none⟩ (.int .i64 v) = X := ⟨_, rfl⟩
  rw [hX] at e0 e1 e2 hb
  have f0 : (X.setCell ⟨sb, 1, none⟩ (.bool d)).cell? ⟨sb, 0, none⟩ = some (.int .i64 v) := by rw [World.cell?_setCell_other _ _ _ _ (by simp)]; exact e0
  have f1 : (X.setCell ⟨sb, 1, none⟩ (.bool d)).cell? ⟨sb, 1, none⟩ = some (.bool d) := World.cell?_setCell_same' _ _ _ (by rw [e1]; rfl)
  have f2 : (X.setCell ⟨sb, 1, none⟩ (.bool d)).cell? ⟨sb, 2, none⟩ = some u2 := by rw [World.cell?_setCell_other _ _ _ _ (by simp)]; exact e2
  obtain ⟨Y, hY⟩ : ∃ Y, X.setCell ⟨sb, 1, none⟩ (.bool d) = Y := ⟨_, rfl⟩
  rw [hY] at f0 f1 f2 hb
  have g0 : (Y.setCell ⟨sb, 2, none⟩ (.bool t)).cell? ⟨sb, 0, none⟩ = some (.int .i64 v) := by rw [World.cell?_setCell_other _ _ _ _ (by simp)]; exact f0
  have g1 : (Y.setCell ⟨sb, 2, none⟩ (.bool t)).cell? ⟨sb, 1, none⟩ = some (.bool d) := by rw [World.cell?_setCell_other _ _ _ _ (by simp)]; exact f1
  have g2 : (Y.setCell ⟨sb, 2, none⟩ (.bool t)).cell? ⟨sb, 2, none⟩ = some (.bool t) := World.cell?_setCell_same' _ _ _ (by rw [f2]; rfl)
  have hzx : X.heap.size = w1.heap.size := by rw [← hX]; simp
  have hzy : Y.heap.size = w1.heap.size := by rw [← hY]; simp [hzx]
  have hzz : (Y.setCell ⟨sb, 2, none⟩ (.bool t)).heap.size = w1.heap.size := by simp [hzy]
  have hbb : w3.heap[sb]? = (Y.setCell ⟨sb, 2, none⟩ (.bool t)).heap[sb]? := hb.block sb (by omega)
  refine ⟨cell_same hbb g0, cell_same hbb g1, cell_same hbb g2, fun o => ?_, fun k hk hlt => ?_, by have := hb.size; omega, fun cs T f h => ?_⟩
  · rw [frozen_same hbb, World.frozen?_setCell, ← hY, World.frozen?_setCell, ← hX, World.frozen?_setCell]
  · have h1 : w3.heap[k]? = (Y.setCell ⟨sb, 2, none⟩ (.bool t)).heap[k]? := hb.block k (by omega)
    have hs : ∀ (Z : World) (o : Nat) (u : Value), (Z.setCell ⟨sb, o, none⟩ u).heap[k]? = Z.heap[k]? := fun Z o u => by simp only [World.setCell, Array.getElem?_modify]; rw [if_neg (fun e => hk e.symm)]
    rw [h1, hs, ← hY, hs, ← hX, hs]
  · have hs : ∀ (Z : World) (o : Nat) (u : Value) (cz : Array Value), Z.heap[sb]? = some (.cells cz T f) → (Z.setCell ⟨sb, o, none⟩ u).heap[sb]? = some (.cells (cz.setIfInBounds o u) T f) := fun Z o u cz hz => by
      simp only [World.setCell, Array.getElem?_modify, if_true, hz]
      rfl
    rw [hbb]
    exact ⟨_, hs _ _ _ _ (by rw [← hY]; exact hs _ _ _ _ (by rw [← hX]; exact hs _ _ _ _ h))⟩

set_option maxRecDepth 100000 in
set_option maxHeartbeats 4000000 in
theorem times_iter (n : Nat) (hn : 1 ≤ n) (Bp eb off nE cE : Nat) (E : List EvT) (hE : nE = E.length) (hlim : nE ≤ 1000000) (keep : Nat → Prop) (w : World) (hBp : Bp < w.heap.size) (heb : eb < w.heap.size) (kBp : keep Bp) (keb : keep eb)
    (sb : Nat) (hsb : w.heap.size ≤ sb) (ksb : keep sb)
    (hc : w.cell? ⟨Bp, 2, none⟩ = some (.slice (some ⟨eb, off, none⟩) nE cE)) (hev : ∀ k x, E[k]? = some x → EvAt w eb off k x) :
    IterB Fence.wide n Tryd.prog 68 #[.pointer (some ⟨Bp, 0, none⟩)] (fun x : Tm => #[tmV x]) keep sb 48 (tmL E 0 0 false false 0) w := fun l J W hW hlow hJ hY h0 => by
  have hc' : W.cell? ⟨Bp, 2, none⟩ = some (.slice (some ⟨eb, off, none⟩) nE cE) := cell_same (hlow.block Bp hBp) hc
  have hc2 : ∀ o, (W.alloc o).cell? ⟨Bp, 2, none⟩ = some (.slice (some ⟨eb, off, none⟩) nE cE) := fun o => cell_same ((ba W o).block Bp (by omega)) hc'
  refine callsIn_of_wp Tryd.func68 rfl trivial ?_ rfl
  simp only [Tryd.ntmps68, List.size_toArray, List.length_cons, List.length_nil, Nat.reduceAdd, Nat.reduceSub, Array.replicate_succ, Array.replicate_zero, List.push_toArray, List.append_toArray, List.nil_append, List.cons_append]
  gi_wp2
  gi_loopw [4, 11] (fun f i wr => ∃ (k : Nat) (pre : List Tm) (v : Int) (d t : Bool) (fm : Int), k ≤ E.length ∧ i = .int .i64 k ∧ f = .int .i64 fm ∧ 0 ≤ fm ∧ fm ≤ 576 * k ∧ tmL E 0 0 false false 0 = pre ++ tmL (E.drop k) k v d t fm ∧
      wr.heap[Bp]? = W.heap[Bp]? ∧ wr.heap[eb]? = W.heap[eb]? ∧ sb < wr.heap.size ∧ (wr.cell? ⟨sb, 0, none⟩ = some (.int .i64 v) ∧ wr.cell? ⟨sb, 1, none⟩ = some (.bool d) ∧ wr.cell? ⟨sb, 2, none⟩ = some (.bool t)) ∧
      (∀ o, o < 3 → wr.frozen? ⟨sb, o, none⟩ = false) ∧ (∃ cs f, wr.heap[sb]? = some (.cells cs 48 f)) ∧ J pre wr) (fun _ i _ => E.length - (intOf i).toNat)
  case atStart =>
    refine ⟨0, [], 0, false, false, 0, by omega, rfl, rfl, by omega, by omega, rfl, (ba W _).block Bp (by omega), (ba W _).block eb (by omega), by simp; omega, ?_, ?_, ⟨_, _, by rw [← hW]; exact World.alloc_heap_new W _⟩, hJ.low _ _ _ h0 (ba W _)⟩
    · rw [← hW]
      exact ⟨by simp, by simp, by simp⟩
    · intro o ho
      rw [← hW]
      exact (keepb (Below.refl _ _) o).2
  case round =>
    obtain ⟨k, pre, v, d, t, fm, hk, rfl, rfl, hf0, hf1, hx, hsB, hsE, hsz, ⟨s0, s1, s2⟩, hfz, ⟨tcs, tf0, hT⟩, hJp⟩ := hrel
    have hcE : k < E.length → ∃ x, E[k]? = some x ∧ E.drop k = x :: E.drop (k + 1) ∧ EvAt wr eb off k x := fun h => ⟨E[k], List.getElem?_eq_getElem h, List.drop_eq_getElem_cons h, EvAt.same (hsE.trans (hlow.block eb heb)) (hev k _ (List.getElem?_eq_getElem h))⟩
    by_cases hlt : k < E.length
    · obtain ⟨x, hxk, hd, v0, v1, v2, v3, v4, v5⟩ := hcE hlt
      have HX := Lib.hid hx
      have HD := Lib.hid hd
      have hk6 : (k : Int) ≤ 1000000 := by omega
      have z0 := hfz 0 (by omega)
      have z1 := hfz 1 (by omega)
      have z2 := hfz 2 (by omega)
      have HFZ := Lib.hid hfz
      have HSB := Lib.hid hsz
      have HT := Lib.hid hT
      have HE := Lib.hid hE
      have HB : Hid (Bp ≠ sb ∧ eb ≠ sb ∧ Bp < wr.heap.size ∧ eb < wr.heap.size) := ⟨by omega, by omega, by omega, by omega⟩
      have HEB := Lib.hid (And.intro hsB hsE)
      clear hx hd hcE hfz hxk hE hsB hsE hT
      cases hwr : wrB x.v x.d x.t with
      | true =>
        have HW := Lib.hid hwr
        clear hwr
        gi_wp2_with (refine ⟨trivial, ?_⟩; gi_at_call 69; refine (callsIn_wide.2 (written_any _ _ _ _)).mono ?_; rintro e w1 ⟨rfl, hb1⟩; rw [HW.out]; obtain ⟨e0, e1, e2, e3, e4, e5⟩ := evCells hb1; have hbx := bx hb1; have p1 := hbx.block sb HSB.out; have y0 := cell_same p1 s0; have y1 := cell_same p1 s1; have y2 := cell_same p1 s2; have x0 := (frozen_same p1).trans z0; have x1 := (frozen_same p1).trans z1; have x2 := (frozen_same p1).trans z2; have hz1 : wr.heap.size < w1.heap.size := by (have := hb1.size; simp at this; omega))
        refine ⟨trivial, ?_⟩
        gi_at_call 62
        refine (callsIn_wide.2 (ticks_any _ _ _ _)).mono ?_
        rintro e w3 ⟨rfl, hb3⟩
        obtain ⟨t0, t1, t2, tf, tk, tz, tT⟩ := afterS (Nat.lt_trans HSB.out hz1) y0 y1 y2 hb3
        have pe := tk wr.heap.size (by have := HSB.out; omega) hz1
        have q0 := cell_same pe e0
        have q1 := cell_same pe e1
        have q2 := cell_same pe e2
        have q3 := cell_same pe e3
        have q4 := cell_same pe e4
        have q5 := cell_same pe e5
        have HTF := Lib.hid tf
        have HTK := Lib.hid tk
        have hJ3 := hJ.low _ _ _ (hJ.put _ _ ⟨sb, 2, none⟩ (.bool x.t) (hJ.put _ _ ⟨sb, 1, none⟩ (.bool x.d) (hJ.put _ _ ⟨sb, 0, none⟩ (.int .i64 x.v) (hJ.low _ _ _ hJp hbx) rfl) rfl) rfl) hb3
        have hs3 : sb < w3.heap.size := by (have := HSB.out; omega)
        obtain ⟨tc3, hT3⟩ := tT _ _ _ (p1.trans HT.out)
        have HT3 := Lib.hid hT3
        clear hT3 tT
        obtain ⟨fn, tmq, asq, boq, hy, hR⟩ := hY pre ⟨k, x, x.v, x.d, x.t, fm, fm + tkV x.v x.d x.t⟩ w3 hJ3 ⟨_, by rw [HX.out, HD.out, tmL_w _ _ _ _ _ _ HW.out]⟩ ⟨_, _, HT3.out⟩
        dsimp only [tmV] at hy
        obtain ⟨b0, b1⟩ := tkV_bd x.v x.d x.t
        have HTB : Hid (0 ≤ fm + tkV x.v x.d x.t ∧ fm + tkV x.v x.d x.t ≤ 576 * (k + 1 : Nat)) := ⟨by omega, by push_cast; omega⟩
        clear tf tk pe
        gi_wp2
        refine hR.mono ?_
        rintro e W3 ⟨rfl, hJ4, hz4, hk4⟩
        gi_wp2
        go_roundw
        case rel =>
          have u := hk4 sb ksb hs3
          have hB := HB.out
          have e1 := (hk4 Bp kBp (by omega)).trans ((HTK.out Bp hB.1 (by omega)).trans ((hbx.block Bp hB.2.2.1).trans HEB.out.1))
          have e2 := (hk4 eb keb (by omega)).trans ((HTK.out eb hB.2.1 (by omega)).trans ((hbx.block eb hB.2.2.2).trans HEB.out.2))
          exact ⟨k + 1, pre ++ [⟨k, x, x.v, x.d, x.t, fm, fm + tkV x.v x.d x.t⟩], x.v, x.d, x.t, _, by omega, by simp, rfl, HTB.out.1, HTB.out.2, by rw [HX.out, HD.out, tmL_w _ _ _ _ _ _ HW.out]; simp, e1, e2, by omega, ⟨cell_same u t0, cell_same u t1, cell_same u t2⟩,
            fun o ho => (frozen_same u).trans ((HTF.out o).trans ((frozen_same (hbx.block sb HSB.out)).trans (HFZ.out o ho))), ⟨_, _, u.trans HT3.out⟩, hJ4⟩
        case measure => simp [intOf]; omega
      | false =>
        have HW := Lib.hid hwr
        clear hwr
        gi_wp2_with (refine ⟨trivial, ?_⟩; gi_at_call 69; refine (callsIn_wide.2 (written_any _ _ _ _)).mono ?_; rintro e w1 ⟨rfl, hb1⟩; rw [HW.out]; obtain ⟨e0, e1, e2, e3, e4, e5⟩ := evCells hb1; have hbx := bx hb1; have p1 := hbx.block sb HSB.out; have y0 := cell_same p1 s0; have y1 := cell_same p1 s1; have y2 := cell_same p1 s2; have x0 := (frozen_same p1).trans z0; have x1 := (frozen_same p1).trans z1; have x2 := (frozen_same p1).trans z2; have hz1 : wr.heap.size < w1.heap.size := by (have := hb1.size; simp at this; omega))
        refine ⟨trivial, ?_⟩
        gi_at_call 62
        refine (callsIn_wide.2 (ticks_any _ _ _ _)).mono ?_
        rintro e w3 ⟨rfl, hb3⟩
        have pe := hb3.block wr.heap.size hz1
        have q0 := cell_same pe e0
        have q1 := cell_same pe e1
        have q2 := cell_same pe e2
        have q3 := cell_same pe e3
        have q4 := cell_same pe e4
        have q5 := cell_same pe e5
        have ps := hb3.block sb (Nat.lt_trans HSB.out hz1)
        have t0 := cell_same ps y0
        have t1 := cell_same ps y1
        have t2 := cell_same ps y2
        have HTF : Hid (∀ o, w3.frozen? ⟨sb, o, none⟩ = w1.frozen? ⟨sb, o, none⟩) := fun o => frozen_same ps
        have HTK : Hid (∀ k, k ≠ sb → k < w1.heap.size → w3.heap[k]? = w1.heap[k]?) := fun k _ h => hb3.block k h
        have hJ3 := hJ.low _ _ _ (hJ.low _ _ _ hJp hbx) hb3
        have tz := hb3.size
        have hs3 : sb < w3.heap.size := by (have := HSB.out; omega)
        have HT3 := Lib.hid (ps.trans (p1.trans HT.out))
        obtain ⟨fn, tmq, asq, boq, hy, hR⟩ := hY pre ⟨k, x, v, d, t, fm, fm + tkV v d t⟩ w3 hJ3 ⟨_, by rw [HX.out, HD.out, tmL_n _ _ _ _ _ _ HW.out]⟩ ⟨_, _, HT3.out⟩
        dsimp only [tmV] at hy
        obtain ⟨b0, b1⟩ := tkV_bd v d t
        have HTB : Hid (0 ≤ fm + tkV v d t ∧ fm + tkV v d t ≤ 576 * (k + 1 : Nat)) := ⟨by omega, by push_cast; omega⟩
        clear pe ps
        gi_wp2
        refine hR.mono ?_
        rintro e W3 ⟨rfl, hJ4, hz4, hk4⟩
        gi_wp2
        go_roundw
        case rel =>
          have u := hk4 sb ksb hs3
          have hB := HB.out
          have e1 := (hk4 Bp kBp (by omega)).trans ((HTK.out Bp hB.1 (by omega)).trans ((hbx.block Bp hB.2.2.1).trans HEB.out.1))
          have e2 := (hk4 eb keb (by omega)).trans ((HTK.out eb hB.2.1 (by omega)).trans ((hbx.block eb hB.2.2.2).trans HEB.out.2))
          exact ⟨k + 1, pre ++ [⟨k, x, v, d, t, fm, fm + tkV v d t⟩], v, d, t, _, by omega, by simp, rfl, HTB.out.1, HTB.out.2, by rw [HX.out, HD.out, tmL_n _ _ _ _ _ _ HW.out]; simp, e1, e2, by omega, ⟨cell_same u t0, cell_same u t1, cell_same u t2⟩,
            fun o ho => (frozen_same u).trans ((HTF.out o).trans ((frozen_same (hbx.block sb HSB.out)).trans (HFZ.out o ho))), ⟨_, _, u.trans HT3.out⟩, hJ4⟩
        case measure => simp [intOf]; omega
    · obtain rfl : k = E.length := by omega
      have HX := Lib.hid hx
      clear hx hcE hE
      gi_wp2
      go_end0
      refine ⟨⟨_, rfl⟩, ?_⟩
      have := HX.out
      rw [List.drop_length] at this
      rw [this]
      simpa [tmL] using hJp

end Go.Proofs.YtdhjigaocamglaaDoor
