/- A range over a function whose iterator keeps a variable of its own in a block sb, and reads memory between two rounds: a law of ours, for bodies that always go on. -/
import Derived.Test.YtlmpoklakbjpnaaDoorTk
import Derived.RangeFuncNested
import Derived.RangeFuncBound
import Derived.RangeFuncCalls
import Derived.RangeFuncLeaves
namespace Go.Proofs.YtlmpoklakbjpnaaDoor
open Go Go.RowKit

/-- It abides new memory, and whatever is stored in block sb. -/
structure Bx {α : Type} (sb : Nat) (J : List α → World → Prop) : Prop where
  low : ∀ s W W', J s W → Below W.heap.size W W' → J s W'
  put : ∀ s W a v, J s W → a.block = sb → J s (W.setCell a v)
/-- The blocks that are to be kept lie as they lay. -/
def Kb (keep : Nat → Prop) (W W' : World) : Prop := ∀ k, keep k → k < W.heap.size → W'.heap[k]? = W.heap[k]?
/-- The iterator gives xs, to every loop body that goes on and keeps those blocks; its own variable lies in block sb. -/
def IterB {α : Type} (F : Fence) (n : Nat) (P : Program) (g : Nat) (lb : Array Value) (encs : α → Array Value) (keep : Nat → Prop) (sb : Nat) (T : TypeId) (xs : List α) (w : World) : Prop :=
  ∀ (l : Nat) (J : List α → World → Prop) (W : World), W.heap.size = sb → Below w.heap.size w W → Bx sb J →
    (∀ pre x W1, J pre W1 → (∃ post, xs = pre ++ x :: post) → (∃ cs f, W1.heap[sb]? = some (.cells cs T f)) → YieldAt F (n - 1) P l (encs x) W1 fun e W' => e = .returned (.bool true) ∧ J (pre ++ [x]) W' ∧ (W1.heap.size ≤ W'.heap.size ∧ Kb keep W1 W')) →
    J [] W → CallsIn F n P g (#[.func (.yield l) #[] #[]] ++ lb) W fun e W' => (∃ v, e = .returned v) ∧ J xs W'

def bodyB {α : Type} (keep : Nat → Prop) (I : List α → World → Prop) (xs : List α) (W : World) : Exit → Act → World → Prop
  | .normal, _, W' => KeepsOthers W W' ∧ Kb keep W W' ∧ I xs W'
  | _, _, _ => False

theorem rfBox {α : Type} {F : Fence} {n : Nat} {P : Program} {g : Operand} {ps : Array Tmp} {assign body : Code} {Q : Exit → Act → World → Prop} {a : Act} {w : World}
    (hro : F.round = none) (h1 : 1 ≤ n) {gf : Nat} {lb : Array Value} (hg : a.eval g = .func (.func gf) #[] lb) (hFg : F.fn gf) (eg : ∀ args w, (callFunc gf args).run P w = .ok (.enter gf args) w)
    {encs : α → Array Value} {keep : Nat → Prop} {T : TypeId} (xs : List α) (hseq : IterB F (n - 1) P gf lb encs keep (w.heap.size + 2) T xs w)
    (hk1 : ¬ keep (w.heap.size + 1)) (hps : ∀ x, (encs x).size = ps.size)
    (I : List α → World → Prop) (hI : Bx (w.heap.size + 2) I) (hIo : ∀ s W l o o', I s W → W.heap[l]? = some o → o.isCells = false → w.heap.size ≤ l → I s (W.putObj l o')) (h0 : I [] w)
    (Ax : α → Act → World → Prop) (hAx : ∀ x a' W l o o', Ax x a' W → W.heap[l]? = some o → o.isCells = false → Ax x a' (W.putObj l o'))
    (hassign : ∀ (l : Nat) (x : α) (W : World) (K : Act → World → Prop), (∀ a' W', Below W.heap.size W W' → Ax x a' W' → K a' W') →
      assign.wpIn (F.inRound l) (n - 1 - 1) P (Exit.then K (fun _ _ _ => False)) { tmps := (ps.zip (encs x)).foldl (fun t (p, v) => t.setIfInBounds p v) a.tmps, defers := [] } W)
    (hbody : ∀ (l : Nat) (pre : List α) (x : α) (a' : Act) (W : World), I pre W → Ax x a' W → (∃ post, xs = pre ++ x :: post) → (∃ cs f, W.heap[w.heap.size + 2]? = some (.cells cs T f)) → body.wpIn (F.inRound l) (n - 1 - 1) P (bodyB keep I (pre ++ [x]) W) a' W)
    (hdone : ∀ (D : Nat) (W : World), w.heap.size ≤ D → I xs W → W.heap[D]? = some (.deferred (some [])) → Q .normal { a with defers := { target := .collected D, args := #[] } :: a.defers } W) :
    (Code.rangeFunc g ps assign body).wpIn F n P Q a w := by
  refine wpIn_rangeFunc ?_
  intro fn hfn
  rw [hro]
  obtain ⟨rec, hrec⟩ : ∃ rec : LoopState → Option Code → Loop, rec = fun st pe => { state := st, pending := pe, fn, tmps := a.tmps, params := ps, assign, body, defers := w.heap.size } := ⟨_, rfl⟩
  obtain ⟨W1, hW1⟩ : ∃ W1, (w.alloc (.deferred (some []))).alloc (.loop (rec .ready none)) = W1 := ⟨_, rfl⟩
  have hlo : Below w.heap.size w W1 := by rw [← hW1]; exact ((Below.refl _ w).alloc (Nat.le_refl _) _).alloc (by simp) _
  have hsz : W1.heap.size = w.heap.size + 2 := by rw [← hW1]; simp
  have hL1 : W1.heap[w.heap.size + 1]? = some (.loop (rec .ready none)) := by
    rw [← hW1]
    have := World.alloc_heap_new (w.alloc (.deferred (some []))) (.loop (rec .ready none))
    rwa [World.size_alloc] at this
  have hK1 : W1.heap[w.heap.size]? = some (.deferred (some [])) := by
    rw [← hW1]
    exact (Below.heap_alloc _ _ _ (by simp)).trans (World.alloc_heap_new w _)
  refine ⟨w.heap.size + 1, [{ target := .collected w.heap.size, args := #[] }], W1, { target := .fn (.func gf) lb, args := #[.func (.yield (w.heap.size + 1)) #[] #[]] }, W1, gf,
    #[.func (.yield (w.heap.size + 1)) #[] #[]] ++ lb, W1, ?_, ?_, ?_, ?_, fun _ => h1, ?_⟩
  · rw [← hW1, hrec]; exact run_enterLoop_outer _ _ _ _ _
  · simp only [resolve, hg]
    simp [go_sem]
  · intro f' hf'
    simp [Target.leads] at hf'
    subst hf'
    exact hFg
  · simp [invoke, go_sem, eg]
  · have hsame : ∀ (W W' : World) (k : Nat) (o : Obj), Below W.heap.size W W' → W.heap[k]? = some o → W'.heap[k]? = some o := fun W W' k o hb h => (hb.block k (Array.getElem?_eq_some_iff.1 h).1).trans h
    have hput : ∀ (W : World) (p : Addr) (v : Value) (k : Nat) (o : Obj), p.block = w.heap.size + 2 → k < w.heap.size + 2 → W.heap[k]? = some o → (W.setCell p v).heap[k]? = some o := fun W p v k o hp hk h =>
      (((Below.refl (w.heap.size + 2) W).setCell (p := p) (by omega) v).block k hk).trans h
    refine (hseq (w.heap.size + 1) (fun pre W => I pre W ∧ W.heap[w.heap.size + 1]? = some (.loop (rec .ready none)) ∧ W.heap[w.heap.size]? = some (.deferred (some []))) W1 hsz hlo
      ⟨fun s W W' hs hb => ⟨hI.low s W W' hs.1 hb, hsame _ _ _ _ hb hs.2.1, hsame _ _ _ _ hb hs.2.2⟩,
       fun s W p v hs hp => ⟨hI.put s W p v hs.1 hp, hput _ _ _ _ _ hp (by omega) hs.2.1, hput _ _ _ _ _ hp (by omega) hs.2.2⟩⟩ ?_ ⟨hI.low _ _ _ h0 hlo, hL1, hK1⟩).mono ?_
    · rintro pre x W ⟨hi, hl, hk⟩ hlen hsb
      have hy := run_yield (P := P) (args := encs x) hl (by rw [hrec]; exact hps x)
      rw [hrec] at hy
      refine ⟨fn, _, assign, body, hy, roundIn_of_wpIn hfn (hassign _ x W _ ?_)⟩
      intro a' W' hb' hax
      have hl' := hsame _ _ _ _ hb' hl
      have hk' := hsame _ _ _ _ hb' hk
      have hlt : w.heap.size + 1 < W'.heap.size := (Array.getElem?_eq_some_iff.1 hl').1
      refine ⟨_, run_beginRound hl' (by rw [hrec]), ?_⟩
      have hl2 : (W'.putObj (w.heap.size + 1) (.loop { rec .ready none with state := .busy })).heap[w.heap.size + 1]? = some (.loop { rec .ready none with state := .busy }) := World.putObj_heap_same hlt
      have hk2 : (W'.putObj (w.heap.size + 1) (.loop { rec .ready none with state := .busy })).heap[w.heap.size]? = some (.deferred (some [])) := (World.putObj_heap_other (by omega)).trans hk'
      refine wpIn_mono (hbody _ pre x a' _ (hIo _ _ _ _ _ (hI.low _ _ _ hi hb') hl' rfl (by omega)) (hAx _ _ _ _ _ _ hax hl' rfl) hlen ?_) ?_
      · obtain ⟨cs, f, hsb⟩ := hsb
        exact ⟨cs, f, (World.putObj_heap_other (by omega)).trans (hsame _ _ _ _ hb' hsb)⟩
      rintro e a3 W3 hp
      cases e with
      | normal =>
        obtain ⟨hk3, hkp3, hi3⟩ := hp
        have hl3 := hk3.same _ _ hl2 rfl
        have hk3' := hk3.same _ _ hk2 rfl
        have hr := run_endRound (P := P) none hl3
        refine ⟨_, _, hr, rfl, ⟨hIo _ _ _ _ _ hi3 hl3 rfl (by omega), ?_, (World.putObj_heap_other (by omega)).trans hk3'⟩, ?_, ?_⟩
        · rw [hrec]
          exact World.putObj_heap_same (Array.getElem?_eq_some_iff.1 hl3).1
        · have h1 := hb'.size
          have h2 := hk3.size
          simp at h2 ⊢
          omega
        · intro k hkk hklt
          have hne : k ≠ w.heap.size + 1 := fun e => hk1 (e ▸ hkk)
          have e1 : W'.heap[k]? = W.heap[k]? := hb'.block k hklt
          have e2 : (W'.putObj (w.heap.size + 1) (.loop { rec .ready none with state := .busy })).heap[k]? = W'.heap[k]? := World.putObj_heap_other hne
          have e3 := hkp3 k hkk (by have := hb'.size; simp; omega)
          rw [World.putObj_heap_other hne, e3, e2, e1]
      | ret => exact hp.elim
      | exit id => exact hp.elim
      | goto t => exact hp.elim
      | panic ch => exact hp.elim
      | outgrown => exact hp.elim
    · rintro e W2 ⟨⟨v, rfl⟩, hi, hl, hk⟩
      exact ⟨none, _, by have := run_endLoop (P := P) hl (by rw [hrec]; simp); rw [hrec] at this; exact this, hdone _ _ (Nat.le_refl _) (hIo _ _ _ _ _ hi hl rfl (by omega)) ((World.putObj_heap_other (by omega)).trans hk)⟩

end Go.Proofs.YtlmpoklakbjpnaaDoor
