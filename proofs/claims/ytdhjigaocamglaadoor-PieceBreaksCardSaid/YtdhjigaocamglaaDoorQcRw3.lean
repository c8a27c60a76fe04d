/- Pieces: slices.Clone at courses, numbers, stops and events; cloneInstrument, cloneEvent. -/
import Derived.Test.YtdhjigaocamglaaDoorQcPcCopy
import Derived.Lib.SliceRun
import Derived.Test.YtdhjigaocamglaaDoorQcPcMeas2
import Derived.Deep.RegionHeldLaw
namespace Go.Proofs.YtdhjigaocamglaaDoor
open Go Go.RowKit

def RwPost (t : TypeId) (size n : Nat) (xs : List Value) (w : World) (e : Ending) (w' : World) : Prop :=
  ∃ A c, e = .returned (.slice A n c) ∧ Ow w' w.heap.size t size A n c xs ∧ Below w.heap.size w w'

set_option maxRecDepth 100000 in
set_option maxHeartbeats 1600000 in
theorem rwCloneC_any (A : Option Addr) (n c : Nat) (xs : List Value) (w : World) (hC : Sl w w.heap.size 3 A n c xs) (hb : n ≤ 1000000) :
    Calls Tryd.prog 66 #[.slice A n c] w (RwPost 60 3 n xs w) := by
  obtain ⟨i0, ii1, ii2, ii3, ii4⟩ := info_parts Tryd.info60
  have q22 : ∀ (w : World) (a : Option Addr) (n c n' c' : Nat), (binOp .eql 22 (.slice a n c) (.slice none n' c')).run Tryd.prog w = .ok (.bool a.isNone) w := fun w a n c n' c' => Lib.run_eql_slice_nil w _ _ a n c n' c' Tryd.underlying22
  cases A with
  | none =>
    have hn : n = 0 := by
      by_cases h : n = 0
      · exact h
      · obtain ⟨b, off, e, _⟩ := hC.2.2 (by omega); cases e
    subst hn
    have HX : Hid (xs = []) := List.eq_nil_of_length_eq_zero (by simpa using hC.2.1)
    clear hC
    go_enter Tryd.func66, Tryd.ntmps66
    go_wp2_with (fail)
    go_ret
    exact ⟨none, 0, rfl, by rw [HX.out]; exact ⟨Nat.le_refl _, by simp, fun h => absurd h (by omega)⟩, Below.refl _ _⟩
  | some a =>
    have HC := Lib.hid (hC.below (ba w (.cells #[] 60)))
    clear hC
    go_enter Tryd.func66, Tryd.ntmps66
    go_wp2_with (at_builtin; refine wpList_append_fresh _ rfl _ _ 22 rfl 60 i0 _ 3 24 Tryd.underlying22 ii1 ii2 ii3 ii4 rfl (by decide) ⟨w.heap.size, 0, none⟩ rfl (some a) n c xs rfl HC.out (by unfold maxLen; omega) (by omega) ?_)
    intro A1 c1 w1 hown hb1
    go_wp2_with (fail)
    go_ret
    exact ⟨A1, c1, rfl, hown.more (by simp), bx (o := .cells #[] 60) (by simpa using hb1)⟩

set_option maxRecDepth 100000 in
set_option maxHeartbeats 1600000 in
theorem rwCloneI_any (A : Option Addr) (n c : Nat) (xs : List Value) (w : World) (hC : Sl w w.heap.size 1 A n c xs) (hb : n ≤ 1000000) :
    Calls Tryd.prog 67 #[.slice A n c] w (RwPost 3 1 n xs w) := by
  obtain ⟨i0, ii1, ii2, ii3, ii4⟩ := info_parts Tryd.info3'
  have q22 : ∀ (w : World) (a : Option Addr) (n c n' c' : Nat), (binOp .eql 23 (.slice a n c) (.slice none n' c')).run Tryd.prog w = .ok (.bool a.isNone) w := fun w a n c n' c' => Lib.run_eql_slice_nil w _ _ a n c n' c' Tryd.underlying23
  cases A with
  | none =>
    have hn : n = 0 := by
      by_cases h : n = 0
      · exact h
      · obtain ⟨b, off, e, _⟩ := hC.2.2 (by omega); cases e
    subst hn
    have HX : Hid (xs = []) := List.eq_nil_of_length_eq_zero (by simpa using hC.2.1)
    clear hC
    go_enter Tryd.func67, Tryd.ntmps67
    go_wp2_with (fail)
    go_ret
    exact ⟨none, 0, rfl, by rw [HX.out]; exact ⟨Nat.le_refl _, by simp, fun h => absurd h (by omega)⟩, Below.refl _ _⟩
  | some a =>
    have HC := Lib.hid (hC.below (ba w (.cells #[] 3)))
    clear hC
    go_enter Tryd.func67, Tryd.ntmps67
    go_wp2_with (at_builtin; refine wpList_append_fresh _ rfl _ _ 23 rfl 3 i0 _ 1 8 Tryd.underlying23 ii1 ii2 ii3 ii4 rfl (by decide) ⟨w.heap.size, 0, none⟩ rfl (some a) n c xs rfl HC.out (by unfold maxLen; omega) (by omega) ?_)
    intro A1 c1 w1 hown hb1
    go_wp2_with (fail)
    go_ret
    exact ⟨A1, c1, rfl, hown.more (by simp), bx (o := .cells #[] 3) (by simpa using hb1)⟩

set_option maxRecDepth 100000 in
set_option maxHeartbeats 16000000 in
theorem cloneInst_any (A A' : Option Addr) (n c m c' : Nat) (C : List Cr) (S : List Int) (w : World) (hC : Sl w w.heap.size 3 A n c (crC C)) (hS : Sl w w.heap.size 1 A' m c' (intC S)) (hb : n ≤ 1000000) (hb2 : m ≤ 1000000) :
    Calls Tryd.prog 44 #[.agg #[.slice A n c, .slice A' m c']] w (CopyPost n m C S w) := by
  have hR0 : CopyR w A n c A' m c' (((w.alloc (iObj A n c A' m c')).alloc zIn).drew) :=
    ⟨⟨_, _, by have := heap_alloc_new (w.alloc (iObj A n c A' m c')) zIn; rw [show (w.alloc (iObj A n c A' m c')).heap.size = w.heap.size + 1 by simp] at this; exact this⟩, (ba _ _).drew⟩
  have hz0 : (((w.alloc (iObj A n c A' m c')).alloc zIn).drew).heap.size = w.heap.size + 2 := by simp
  have HC := Lib.hid hC
  have HS := Lib.hid hS
  clear hC hS
  go_enter Tryd.func44, Tryd.ntmps44
  go_wp2_with (fail)
  go_region_held3 (fun w' => w'.cell? ⟨w.heap.size, 0, none⟩ = some (.slice A n c) ∧ w'.cell? ⟨w.heap.size, 1, none⟩ = some (.slice A' m c') ∧ CopyR w A n c A' m c' w')
    (first
      | exact hR0.held
      | exact ((hR0.below hb6).below hb10).held
      | exact (hR0.below hb6).held
      | exact (CopyR.store (And.right (And.right (by assumption))) _ _).held)
    (first
      | (go_at_call 66; refine (rwCloneC_any A n c (crC C) _ (CopyR.sl hR0 HC.out) hb).mono ?_; rintro e w6 ⟨A6, c6, rfl, hown6, hb6⟩)
      | (go_at_call 67; refine (rwCloneI_any A' m c' (intC S) _ (CopyR.sl (hR0.below hb6) HS.out) hb2).mono ?_; rintro e w10 ⟨A10, c10, rfl, hown10, hb10⟩; obtain ⟨⟨u0, u1, hBk⟩, hBl⟩ := (hR0.below hb6).below hb10; have r0 := hBk.cell 0; have r1 := hBk.cell 1; have f0 := hBk.frozen 0; have f1 := hBk.frozen 1; simp at r0 r1))
  go_wp2_with (fail)
  refine bodyPost_ret (v := .agg #[.slice A6 n c6, .slice A10 m c10]) ?_ rfl ?_
  · simp [results, Tryd.results44, go_sem, r0, r1]
    done
  · have hz6 : w.heap.size + 2 ≤ w6.heap.size := by have := hb6.size; omega
    have k6 : Ow w10 (w.heap.size + 2) 60 3 A6 n c6 (crC C) := (hown6.below hb10).more (by omega)
    have k10 : Ow w10 (w.heap.size + 2) 3 1 A10 m c10 (intC S) := hown10.more hz6
    exact ⟨A6, c6, A10, c10, rfl, ((k6.other (by omega) _ _).other (by omega) _ _).more (by omega), ((k10.other (by omega) _ _).other (by omega) _ _).more (by omega), ((bx hBl).setCell (by simp) _).setCell (by simp) _⟩

end Go.Proofs.YtdhjigaocamglaaDoor

/- Pieces: rewrite, for any function that makes an event of a timed event: plain side, and what its rounds keep. -/
namespace Go.Proofs.YtdhjigaocamglaaDoor
open Go Go.RowKit

/-- A timed event, plain. -/
structure TmP where
  n : Nat
  y : EvP
  v : Int
  d : Bool
  t : Bool
  fm : Int
  to : Int
def tmPL : List EvP → Nat → Int → Bool → Bool → Int → List TmP
  | [], _, _, _, _, _ => []
  | y :: r, n, v, d, t, fm =>
    if wrB y.v y.d y.t then ⟨n, y, y.v, y.d, y.t, fm, fm + tkV y.v y.d y.t⟩ :: tmPL r (n + 1) y.v y.d y.t (fm + tkV y.v y.d y.t)
    else ⟨n, y, v, d, t, fm, fm + tkV v d t⟩ :: tmPL r (n + 1) v d t (fm + tkV v d t)
theorem tmPL_len : ∀ (P : List EvP) (n : Nat) (v : Int) (d t : Bool) (fm : Int), (tmPL P n v d t fm).length = P.length
  | [], _, _, _, _, _ => rfl
  | y :: r, n, v, d, t, fm => by
    unfold tmPL
    split <;> simp [tmPL_len r]
abbrev tpL (P : List EvP) : List TmP := tmPL P 0 0 false false 0
theorem tm_pl (w : World) : ∀ (E : List EvT) (P : List EvP) (n : Nat) (v : Int) (d t : Bool) (fm : Int), E.length = P.length → (∀ (k : Nat) (x : EvT) (y : EvP), E[k]? = some x → P[k]? = some y → EvIn w x y) →
    ∀ (j : Nat) (x : Tm), (tmL E n v d t fm)[j]? = some x → ∃ p, (tmPL P n v d t fm)[j]? = some p ∧ x.n = p.n ∧ x.v = p.v ∧ x.d = p.d ∧ x.t = p.t ∧ x.fm = p.fm ∧ x.to = p.to ∧ EvIn w x.ev p.y
  | [], _, _, _, _, _, _, _, _, j, x, hx => by simp [tmL] at hx
  | _ :: _, [], _, _, _, _, _, hl, _, _, _, _ => by simp at hl
  | e :: E, y :: P, n, v, d, t, fm, hl, h, j, x, hx => by
    have h0 := h 0 e y rfl rfl
    obtain ⟨e1, e2, e3, e4, e5, e6⟩ := h0.1
    have hr : ∀ (k : Nat) (x : EvT) (y : EvP), E[k]? = some x → P[k]? = some y → EvIn w x y := fun k x y hx hy => h (k + 1) x y (by simpa using hx) (by simpa using hy)
    have hl' : E.length = P.length := by simpa using hl
    cases hw : wrB y.v y.d y.t with
    | true =>
      rw [tmL_w _ _ _ _ _ _ (by rw [e2, e3, e4]; exact hw)] at hx
      rw [tmPL, if_pos hw]
      cases j with
      | zero =>
        obtain rfl : _ = x := by simpa using hx
        exact ⟨_, rfl, rfl, e2, e3, e4, rfl, by simp [e2, e3, e4], h0⟩
      | succ j =>
        have := tm_pl w E P (n + 1) y.v y.d y.t (fm + tkV y.v y.d y.t) hl' hr j x (by rw [← e2, ← e3, ← e4]; simpa using hx)
        simpa using this
    | false =>
      rw [tmL_n _ _ _ _ _ _ (by rw [e2, e3, e4]; exact hw)] at hx
      rw [tmPL, if_neg (by rw [hw]; simp)]
      cases j with
      | zero =>
        obtain rfl : _ = x := by simpa using hx
        exact ⟨_, rfl, rfl, rfl, rfl, rfl, rfl, rfl, h0⟩
      | succ j =>
        have := tm_pl w E P (n + 1) v d t (fm + tkV v d t) hl' hr j x (by simpa using hx)
        simpa using this
section
variable {σ : Type}
end

/-- Below block B nothing but the blocks of x has changed; what is no cells is as it was. -/
structure Kx (x : Nat → Prop) (B : Nat) (w w' : World) : Prop where
  os : w'.os = w.os
  tape : w'.tape = w.tape
  output : w'.output = w.output
  size : w.heap.size ≤ w'.heap.size
  block : ∀ k, k < B → ¬ x k → w'.heap[k]? = w.heap[k]?
  oth : ∀ (k : Nat) (o : Obj), w.heap[k]? = some o → o.isCells = false → w'.heap[k]? = some o
theorem Kx.refl (x : Nat → Prop) (B : Nat) (w : World) : Kx x B w w := ⟨rfl, rfl, rfl, Nat.le_refl _, fun _ _ _ => rfl, fun _ _ h _ => h⟩
theorem Kx.trans {x : Nat → Prop} {B : Nat} {a b c : World} (h : Kx x B a b) (k : Kx x B b c) : Kx x B a c :=
  ⟨k.os.trans h.os, k.tape.trans h.tape, k.output.trans h.output, Nat.le_trans h.size k.size, fun i hi hx => (k.block i hi hx).trans (h.block i hi hx), fun i o hi ho => k.oth i o (h.oth i o hi ho) ho⟩
theorem Kx.mono {x x' : Nat → Prop} {B B' : Nat} {w w' : World} (h : Kx x B w w') (hB : B' ≤ B) (hx : ∀ k, k < B' → x k → x' k) : Kx x' B' w w' :=
  ⟨h.os, h.tape, h.output, h.size, fun k hk hn => h.block k (Nat.lt_of_lt_of_le hk hB) (fun e => hn (hx k hk e)), h.oth⟩
theorem Kx.of_below {x : Nat → Prop} {w w' : World} (h : Below w.heap.size w w') : Kx x w.heap.size w w' :=
  ⟨h.os, h.tape, h.output, h.size, fun k hk _ => h.block k hk, fun k _ hk _ => (h.block k (Array.getElem?_eq_some_iff.1 hk).1).trans hk⟩
theorem Kx.below {x : Nat → Prop} {B : Nat} {w w' : World} (h : Kx x B w w') (hx : ∀ k, k < B → ¬ x k) : Below B w w' :=
  ⟨h.os, h.tape, h.output, h.size, fun k hk => h.block k hk (hx k hk)⟩
theorem Kx.belowB {x : Nat → Prop} {B B' : Nat} {w w' : World} (h : Kx x B w w') (hB : B' ≤ B) (hx : ∀ k, x k → B' ≤ k) : Below B' w w' :=
  ⟨h.os, h.tape, h.output, h.size, fun k hk => h.block k (by omega) (fun e => by have := hx k e; omega)⟩
theorem Kx.drew {x : Nat → Prop} {B : Nat} {w w' : World} (h : Kx x B w w') : Kx x B w w'.drew := ⟨h.os, h.tape, h.output, h.size, h.block, h.oth⟩
/-- A store into a block of cells. -/
theorem Kx.setCell {x : Nat → Prop} {B : Nat} {w w' : World} (h : Kx x B w w') {p : Addr} (hp : B ≤ p.block ∨ x p.block) {cs : Array Value} {T : TypeId} {f : Nat × Nat} (hc : w'.heap[p.block]? = some (.cells cs T f)) (u : Value) : Kx x B w (w'.setCell p u) := by
  have hs : ∀ k, k ≠ p.block → (w'.setCell p u).heap[k]? = w'.heap[k]? := fun k hk => Below.heap_setCell _ _ _ _ hk
  refine ⟨h.os, h.tape, h.output, by simpa using h.size, fun k hk hn => (hs k ?_).trans (h.block k hk hn), fun k o hk ho => (hs k ?_).trans (h.oth k o hk ho)⟩
  · rintro rfl
    rcases hp with hp | hp
    · omega
    · exact hn hp
  · rintro rfl
    have := h.oth _ _ hk ho
    rw [hc] at this
    injection this with this
    rw [← this] at ho
    cases ho
theorem Kx.setBlk {x : Nat → Prop} {B : Nat} {w w' : World} (h : Kx x B w w') {g : Nat} (hp : B ≤ g ∨ x g) {cs : Array Value} {T : TypeId} (hc : Blk w' g T cs) (i : Nat) (u : Value) : Kx x B w (w'.setCell ⟨g, i, none⟩ u) :=
  h.setCell (p := ⟨g, i, none⟩) hp hc u
/-- New memory, and the row of v. -/
theorem Kx.grown {x : Nat → Prop} {B : Nat} {w w' w2 : World} (h : Kx x B w w') {row : Option Nat} (hg : w'.grownBy w2 row) (hB : B ≤ w'.heap.size) (hr : ∀ k, row = some k → B ≤ k) (ho : ∀ k, row = some k → ∃ cs T f, w'.heap[k]? = some (.cells cs T f)) : Kx x B w w2 := by
  have hk : ∀ k (o : Obj), w'.heap[k]? = some o → some k ≠ row → w2.heap[k]? = some o := fun k o hk hn => (hg.block k (Array.getElem?_eq_some_iff.1 hk).1 hn).trans hk
  refine ⟨hg.os.trans h.os, hg.tape.trans h.tape, hg.output.trans h.output, Nat.le_trans h.size hg.size, fun k hlt hn => ?_, fun k o hk1 hk2 => ?_⟩
  · exact (hg.block k (by omega) (fun e => by have := hr k e.symm; omega)).trans (h.block k hlt hn)
  · refine hk k o (h.oth k o hk1 hk2) (fun e => ?_)
    obtain ⟨cs, T, f, hc⟩ := ho k e.symm
    rw [h.oth k o hk1 hk2] at hc
    injection hc with hc
    rw [hc] at hk2
    cases hk2

end Go.Proofs.YtdhjigaocamglaaDoor

/- Pieces: rewrite, for any function that makes an event of a timed event. -/
namespace Go.Proofs.YtdhjigaocamglaaDoor
open Go Go.RowKit

attribute [local go_sem] Oper.semAt_some

abbrev tmPV (p : TmP) (sa : Option Addr) (sc : Nat) : Value := .agg #[.int .i64 p.n, .bool p.y.bar, .int .i64 p.y.v, .bool p.y.d, .bool p.y.t, .bool p.y.tie, .slice sa p.y.L.length sc, .int .i64 p.v, .bool p.d, .bool p.t, .int .i64 p.fm, .int .i64 p.to]
/-- A piece in memory of its own: all its blocks lie from block b on. -/
structure PcOw (w : World) (b : Nat) (A : Option Addr) (n c : Nat) (A' : Option Addr) (m c' : Nat) (A2 : Option Addr) (q cq : Nat) (C : List Cr) (S : List Int) (P : List EvP) : Prop where
  crs : Ow w b 60 3 A n c (crC C)
  stp : Ow w b 3 1 A' m c' (intC S)
  hn : n = C.length
  hm : m = S.length
  hq : q = P.length
  evs : ∃ E, E.length = P.length ∧ CpE w b E P ∧ Ow w b 51 6 A2 q cq (evC E)
theorem Ow.blkB {w w' : World} {B : Nat} {t : TypeId} {size : Nat} {A : Option Addr} {n c : Nat} {xs : List Value} (h : Ow w B t size A n c xs) (hk : ∀ g cs, B ≤ g → Blk w g t cs → Blk w' g t cs) : Ow w' B t size A n c xs :=
  ⟨h.1, h.2.1, fun hn => by
    obtain ⟨g, cur, h1, h2, h3, h4⟩ := h.2.2 hn
    exact ⟨g, cur, h1, h2, hk _ _ h2 h3, h4⟩⟩
theorem CpE.blkB {w w' : World} {B : Nat} {E : List EvT} {P : List EvP} (h : CpE w B E P) (hk : ∀ g cs, B ≤ g → Blk w g 62 cs → Blk w' g 62 cs) : CpE w' B E P :=
  fun j x y hx hy => ⟨(h j x y hx hy).1, (h j x y hx hy).2.blkB hk⟩
theorem CpE.more {w : World} {B B' : Nat} {E : List EvT} {P : List EvP} (h : CpE w B E P) (hB : B' ≤ B) : CpE w B' E P := fun j x y hx hy => ⟨(h j x y hx hy).1, (h j x y hx hy).2.more hB⟩
theorem PcOw.blkB {w w' : World} {b : Nat} {A A' A2 : Option Addr} {n c m c' q cq : Nat} {C : List Cr} {S : List Int} {P : List EvP} (h : PcOw w b A n c A' m c' A2 q cq C S P) (hk : ∀ g T cs, b ≤ g → T ≠ 28 → Blk w g T cs → Blk w' g T cs) : PcOw w' b A n c A' m c' A2 q cq C S P := by
  obtain ⟨E, e1, e2, e3⟩ := h.evs
  exact ⟨h.crs.blkB (fun g cs h1 h2 => hk g _ cs h1 (by decide) h2), h.stp.blkB (fun g cs h1 h2 => hk g _ cs h1 (by decide) h2), h.hn, h.hm, h.hq, E, e1, e2.blkB (fun g cs h1 h2 => hk g _ cs h1 (by decide) h2), e3.blkB (fun g cs h1 h2 => hk g _ cs h1 (by decide) h2)⟩
theorem PcOw.below {w w' : World} {b : Nat} {A A' A2 : Option Addr} {n c m c' q cq : Nat} {C : List Cr} {S : List Int} {P : List EvP} (h : PcOw w b A n c A' m c' A2 q cq C S P) (hb : Below w.heap.size w w') : PcOw w' b A n c A' m c' A2 q cq C S P := h.blkB (fun _ _ _ _ _ h => h.below hb)
theorem PcOw.other {w : World} {b : Nat} {A A' A2 : Option Addr} {n c m c' q cq : Nat} {C : List Cr} {S : List Int} {P : List EvP} (h : PcOw w b A n c A' m c' A2 q cq C S P) {g : Nat} (hg : g < b) (i : Nat) (u : Value) : PcOw (w.setCell ⟨g, i, none⟩ u) b A n c A' m c' A2 q cq C S P :=
  h.blkB (fun _ _ _ h1 _ h2 => h2.setOther (by omega) _ _)
theorem PcOw.more {w : World} {b b' : Nat} {A A' A2 : Option Addr} {n c m c' q cq : Nat} {C : List Cr} {S : List Int} {P : List EvP} (h : PcOw w b A n c A' m c' A2 q cq C S P) (hb : b' ≤ b) : PcOw w b' A n c A' m c' A2 q cq C S P := by
  obtain ⟨E, e1, e2, e3⟩ := h.evs
  exact ⟨h.crs.more hb, h.stp.more hb, h.hn, h.hm, h.hq, E, e1, e2.more hb, e3.more hb⟩
theorem PcOw.pcIn {w : World} {b : Nat} {A A' A2 : Option Addr} {n c m c' q cq : Nat} {C : List Cr} {S : List Int} {P : List EvP} (h : PcOw w b A n c A' m c' A2 q cq C S P) : PcIn w A n c A' m c' A2 q cq C S P := by
  obtain ⟨E, e1, e2, e3⟩ := h.evs
  refine ⟨h.crs.sl, h.stp.sl, h.hn, h.hm, h.hq, E, ⟨e1, fun j x y hx hy => ?_⟩, e3.sl⟩
  obtain ⟨h1, h2⟩ := e2 j x y hx hy
  exact ⟨h1, by rw [h1.2.2.2.2.2]; exact h2.sl⟩
theorem PcOw.nil_ (w : World) (b : Nat) : PcOw w b none 0 0 none 0 0 none 0 0 [] [] [] :=
  ⟨⟨Nat.le_refl _, rfl, fun h => absurd h (by omega)⟩, ⟨Nat.le_refl _, rfl, fun h => absurd h (by omega)⟩, rfl, rfl, rfl, [], rfl, fun j x y hx _ => by simp at hx, ⟨Nat.le_refl _, rfl, fun h => absurd h (by omega)⟩⟩

abbrev zPcO : Obj := pcO none 0 0 none 0 0 none 0 0

end Go.Proofs.YtdhjigaocamglaaDoor
