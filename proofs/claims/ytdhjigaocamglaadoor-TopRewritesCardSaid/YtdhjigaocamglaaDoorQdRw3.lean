/- Pieces: slices.Clone at courses, numbers, stops and events; cloneInstrument, cloneEvent. -/
import Derived.Test.YtdhjigaocamglaaDoorQdPcCopy
import Derived.Lib.SliceRun
import Derived.Test.YtdhjigaocamglaaDoorQdPcMeas2
import Derived.Deep.RegionHeldLaw
namespace Go.Proofs.YtdhjigaocamglaaDoor
open Go Go.RowKit

def RwPost (t : TypeId) (size n : Nat) (xs : List Value) (w : World) (e : Ending) (w' : World) : Prop :=
  ∃ A c, e = .returned (.slice A n c) ∧ Ow w' w.heap.size t size A n c xs ∧ Below w.heap.size w w'

set_option maxRecDepth 100000 in
set_option maxHeartbeats 1600000 in
theorem rwCloneC_any (A : Option Addr) (n c : Nat) (xs : List Value) (w : World) (hC : Sl w w.heap.size 3 A n c xs) (hb : n ≤ 1000000) :
    Calls Tryd.prog 66 #[.slice A n c] w (RwPost 60 3 n xs w) := by
  obtain ⟨i0, ii1, ii2, ii3, ii4⟩ := info_parts Tryd.info60
  have q22 : ∀ (w : World) (a : Option Addr) (n c n' c' : Nat), (binOp .eql 22 (.slice a n c) (.slice none n' c')).run Tryd.prog w = .ok (.bool a.isNone) w := fun w a n c n' c' => Lib.run_eql_slice_nil w _ _ a n c n' c' Tryd.underlying22
  cases A with
  | none =>
    have hn : n = 0 := by
      by_cases h : n = 0
      · exact h
      · obtain ⟨b, off, e, _⟩ := hC.2.2 (by omega); cases e
    subst hn
    have HX : Hid (xs = []) := List.eq_nil_of_length_eq_zero (by simpa using hC.2.1)
    clear hC
    go_enter Tryd.func66, Tryd.ntmps66
    go_wp2_with (fail)
    go_ret
    exact ⟨none, 0, rfl, by rw [HX.out]; exact ⟨Nat.le_refl _, by simp, fun h => absurd h (by omega)⟩, Below.refl _ _⟩
  | some a =>
    have HC := Lib.hid (hC.below (ba w (.cells #[] 60)))
    clear hC
    go_enter Tryd.func66, Tryd.ntmps66
    go_wp2_with (at_builtin; refine wpList_append_fresh _ rfl _ _ 22 rfl 60 i0 _ 3 24 Tryd.underlying22 ii1 ii2 ii3 ii4 rfl (by decide) ⟨w.heap.size, 0, none⟩ rfl (some a) n c xs rfl HC.out (by unfold maxLen; omega) (by omega) ?_)
    intro A1 c1 w1 hown hb1
    go_wp2_with (fail)
    go_ret
    exact ⟨A1, c1, rfl, hown.more (by simp), bx (o := .cells #[] 60) (by simpa using hb1)⟩

set_option maxRecDepth 100000 in
set_option maxHeartbeats 1600000 in
theorem rwCloneI_any (A : Option Addr) (n c : Nat) (xs : List Value) (w : World) (hC : Sl w w.heap.size 1 A n c xs) (hb : n ≤ 1000000) :
    Calls Tryd.prog 67 #[.slice A n c] w (RwPost 3 1 n xs w) := by
  obtain ⟨i0, ii1, ii2, ii3, ii4⟩ := info_parts Tryd.info3'
  have q22 : ∀ (w : World) (a : Option Addr) (n c n' c' : Nat), (binOp .eql 23 (.slice a n c) (.slice none n' c')).run Tryd.prog w = .ok (.bool a.isNone) w := fun w a n c n' c' => Lib.run_eql_slice_nil w _ _ a n c n' c' Tryd.underlying23
  cases A with
  | none =>
    have hn : n = 0 := by
      by_cases h : n = 0
      · exact h
      · obtain ⟨b, off, e, _⟩ := hC.2.2 (by omega); cases e
    subst hn
    have HX : Hid (xs = []) := List.eq_nil_of_length_eq_zero (by simpa using hC.2.1)
    clear hC
    go_enter Tryd.func67, Tryd.ntmps67
    go_wp2_with (fail)
    go_ret
    exact ⟨none, 0, rfl, by rw [HX.out]; exact ⟨Nat.le_refl _, by simp, fun h => absurd h (by omega)⟩, Below.refl _ _⟩
  | some a =>
    have HC := Lib.hid (hC.below (ba w (.cells #[] 3)))
    clear hC
    go_enter Tryd.func67, Tryd.ntmps67
    go_wp2_with (at_builtin; refine wpList_append_fresh _ rfl _ _ 23 rfl 3 i0 _ 1 8 Tryd.underlying23 ii1 ii2 ii3 ii4 rfl (by decide) ⟨w.heap.size, 0, none⟩ rfl (some a) n c xs rfl HC.out (by unfold maxLen; omega) (by omega) ?_)
    intro A1 c1 w1 hown hb1
    go_wp2_with (fail)
    go_ret
    exact ⟨A1, c1, rfl, hown.more (by simp), bx (o := .cells #[] 3) (by simpa using hb1)⟩

set_option maxRecDepth 100000 in
set_option maxHeartbeats 1600000 in
theorem rwCloneS_any (A : Option Addr) (n c : Nat) (xs : List Value) (w : World) (hC : Sl w w.heap.size 5 A n c xs) (hb : n ≤ 1000000) :
    Calls Tryd.prog 86 #[.slice A n c] w (RwPost 62 5 n xs w) := by
  obtain ⟨i0, ii1, ii2, ii3, ii4⟩ := info_parts Tryd.infoSt
  have q22 : ∀ (w : World) (a : Option Addr) (n c n' c' : Nat), (binOp .eql 49 (.slice a n c) (.slice none n' c')).run Tryd.prog w = .ok (.bool a.isNone) w := fun w a n c n' c' => Lib.run_eql_slice_nil w _ _ a n c n' c' Tryd.underlying49
  cases A with
  | none =>
    have hn : n = 0 := by
      by_cases h : n = 0
      · exact h
      · obtain ⟨b, off, e, _⟩ := hC.2.2 (by omega); cases e
    subst hn
    have HX : Hid (xs = []) := List.eq_nil_of_length_eq_zero (by simpa using hC.2.1)
    clear hC
    go_enter Tryd.func86, Tryd.ntmps86
    go_wp2_with (fail)
    go_ret
    exact ⟨none, 0, rfl, by rw [HX.out]; exact ⟨Nat.le_refl _, by simp, fun h => absurd h (by omega)⟩, Below.refl _ _⟩
  | some a =>
    have HC := Lib.hid (hC.below (ba w (.cells #[] 62)))
    clear hC
    go_enter Tryd.func86, Tryd.ntmps86
    go_wp2_with (at_builtin; refine wpList_append_fresh _ rfl _ _ 49 rfl 62 i0 _ 5 40 Tryd.underlying49 ii1 ii2 ii3 ii4 rfl (by decide) ⟨w.heap.size, 0, none⟩ rfl (some a) n c xs rfl HC.out (by unfold maxLen; omega) (by omega) ?_)
    intro A1 c1 w1 hown hb1
    go_wp2_with (fail)
    go_ret
    exact ⟨A1, c1, rfl, hown.more (by simp), bx (o := .cells #[] 62) (by simpa using hb1)⟩

set_option maxRecDepth 100000 in
set_option maxHeartbeats 16000000 in
theorem cloneInst_any (A A' : Option Addr) (n c m c' : Nat) (C : List Cr) (S : List Int) (w : World) (hC : Sl w w.heap.size 3 A n c (crC C)) (hS : Sl w w.heap.size 1 A' m c' (intC S)) (hb : n ≤ 1000000) (hb2 : m ≤ 1000000) :
    Calls Tryd.prog 44 #[.agg #[.slice A n c, .slice A' m c']] w (CopyPost n m C S w) := by
  have hR0 : CopyR w A n c A' m c' (((w.alloc (iObj A n c A' m c')).alloc zIn).drew) :=
    ⟨⟨_, _, by have := heap_alloc_new (w.alloc (iObj A n c A' m c')) zIn; rw [show (w.alloc (iObj A n c A' m c')).heap.size = w.heap.size + 1 by simp] at this; exact this⟩, (ba _ _).drew⟩
  have hz0 : (((w.alloc (iObj A n c A' m c')).alloc zIn).drew).heap.size = w.heap.size + 2 := by simp
  have HC := Lib.hid hC
  have HS := Lib.hid hS
  clear hC hS
  go_enter Tryd.func44, Tryd.ntmps44
  go_wp2_with (fail)
  go_region_held3 (fun w' => w'.cell? ⟨w.heap.size, 0, none⟩ = some (.slice A n c) ∧ w'.cell? ⟨w.heap.size, 1, none⟩ = some (.slice A' m c') ∧ CopyR w A n c A' m c' w')
    (first
      | exact hR0.held
      | exact ((hR0.below hb6).below hb10).held
      | exact (hR0.below hb6).held
      | exact (CopyR.store (And.right (And.right (by assumption))) _ _).held)
    (first
      | (go_at_call 66; refine (rwCloneC_any A n c (crC C) _ (CopyR.sl hR0 HC.out) hb).mono ?_; rintro e w6 ⟨A6, c6, rfl, hown6, hb6⟩)
      | (go_at_call 67; refine (rwCloneI_any A' m c' (intC S) _ (CopyR.sl (hR0.below hb6) HS.out) hb2).mono ?_; rintro e w10 ⟨A10, c10, rfl, hown10, hb10⟩; obtain ⟨⟨u0, u1, hBk⟩, hBl⟩ := (hR0.below hb6).below hb10; have r0 := hBk.cell 0; have r1 := hBk.cell 1; have f0 := hBk.frozen 0; have f1 := hBk.frozen 1; simp at r0 r1))
  go_wp2_with (fail)
  refine bodyPost_ret (v := .agg #[.slice A6 n c6, .slice A10 m c10]) ?_ rfl ?_
  · simp [results, Tryd.results44, go_sem, r0, r1]
    done
  · have hz6 : w.heap.size + 2 ≤ w6.heap.size := by have := hb6.size; omega
    have k6 : Ow w10 (w.heap.size + 2) 60 3 A6 n c6 (crC C) := (hown6.below hb10).more (by omega)
    have k10 : Ow w10 (w.heap.size + 2) 3 1 A10 m c10 (intC S) := hown10.more hz6
    exact ⟨A6, c6, A10, c10, rfl, ((k6.other (by omega) _ _).other (by omega) _ _).more (by omega), ((k10.other (by omega) _ _).other (by omega) _ _).more (by omega), ((bx hBl).setCell (by simp) _).setCell (by simp) _⟩

def EvPost (t : TypeId) (bar : Bool) (v : Int) (d tr tie : Bool) (n : Nat) (L : List St) (w : World) (e : Ending) (w' : World) : Prop :=
  ∃ A c, e = .returned (evV bar v d tr tie A n c) ∧ Ow w' w.heap.size t 5 A n c (stC L) ∧ Below w.heap.size w w'
abbrev zEvO : Obj := .cells #[.bool false, .int .i64 0, .bool false, .bool false, .bool false, .slice none 0 0] 51
set_option maxRecDepth 100000 in
set_option maxHeartbeats 3200000 in
theorem cloneEvent_any (bar : Bool) (v : Int) (d tr tie : Bool) (A : Option Addr) (n c : Nat) (L : List St) (w : World) (hA : Sl w w.heap.size 5 A n c (stC L)) (hb : n ≤ 1000000) :
    Calls Tryd.prog 65 #[evV bar v d tr tie A n c] w (EvPost 62 bar v d tr tie n L w) := by
  have HA : Hid (Sl ((w.alloc (evO bar v d tr tie A n c)).alloc zEvO) ((w.alloc (evO bar v d tr tie A n c)).alloc zEvO).heap.size 5 A n c (stC L)) := hA.below (bt (ba _ _) (ba _ _))
  have HB0 : Hid (Blk ((w.alloc (evO bar v d tr tie A n c)).alloc zEvO) w.heap.size 51 #[.bool bar, .int .i64 v, .bool d, .bool tr, .bool tie, .slice A n c] ∧ Blk ((w.alloc (evO bar v d tr tie A n c)).alloc zEvO) (w.heap.size + 1) 51 #[.bool false, .int .i64 0, .bool false, .bool false, .bool false, .slice none 0 0]) := by
    have h0 : Blk (w.alloc (evO bar v d tr tie A n c)) w.heap.size 51 #[.bool bar, .int .i64 v, .bool d, .bool tr, .bool tie, .slice A n c] := heap_alloc_new w _
    have h1 := heap_alloc_new (w.alloc (evO bar v d tr tie A n c)) zEvO
    rw [World.size_alloc] at h1
    exact ⟨h0.below (ba _ _), h1⟩
  have HBB : Hid (Below w.heap.size w ((w.alloc (evO bar v d tr tie A n c)).alloc zEvO)) := bt (ba _ _) (ba _ _)
  have HZ : Hid (((w.alloc (evO bar v d tr tie A n c)).alloc zEvO).heap.size = w.heap.size + 2) := by simp [Hid]
  clear hA
  go_enter Tryd.func65, Tryd.ntmps65
  go_wp2_with (go_at_call 86; refine (rwCloneS_any A n c (stC L) _ HA.out hb).mono ?_; rintro e w1 ⟨A1, c1, rfl, hown, hb1⟩; have hB0 := HB0.out.1.below hb1; have hB1 := HB0.out.2.below hb1; have p0 := hB0.cell 0; have p1 := hB0.cell 1; have p2 := hB0.cell 2; have p3 := hB0.cell 3; have p4 := hB0.cell 4; have p5 := hB0.cell 5; have g5 := hB0.frozen 5; have r0 := hB1.cell 0; have r1 := hB1.cell 1; have r2 := hB1.cell 2; have r3 := hB1.cell 3; have r4 := hB1.cell 4; have r5 := hB1.cell 5; have f0 := hB1.frozen 0; have f1 := hB1.frozen 1; have f2 := hB1.frozen 2; have f3 := hB1.frozen 3; have f4 := hB1.frozen 4; have f5 := hB1.frozen 5; simp at p0 p1 p2 p3 p4 p5 r0 r1 r2 r3 r4 r5; have HO := Lib.hid hown; have HH := Lib.hid hb1; have HR := Lib.hid hB1; clear hown hb1 hB0 hB1)
  have hR := ((((((HR.out.setOther (show w.heap.size + 1 ≠ w.heap.size by omega) 5 (.slice A1 n c1)).set_ 0 (.bool bar)).set_ 1 (.int .i64 v)).set_ 2 (.bool d)).set_ 3 (.bool tr)).set_ 4 (.bool tie)).set_ 5 (.slice A1 n c1)
  have z0 := hR.cell 0
  have z1 := hR.cell 1
  have z2 := hR.cell 2
  have z3 := hR.cell 3
  have z4 := hR.cell 4
  have z5 := hR.cell 5
  refine bodyPost_ret (v := evV bar v d tr tie A1 n c1) ?_ rfl ?_
  · simp at z0 z1 z2 z3 z4 z5
    simp [results, Tryd.results65, go_sem, z0, z1, z2, z3, z4, z5]
  · have hz := HZ.out
    refine ⟨A1, c1, rfl, ?_, ?_⟩
    · exact ((((((((HO.out.other (by omega) _ _).other (by omega) _ _).other (by omega) _ _).other (by omega) _ _).other (by omega) _ _).other (by omega) _ _).other (by omega) _ _).more (by omega))
    · exact (((((((bt HBB.out HH.out).setCell (by simp) _).setCell (by simp) _).setCell (by simp) _).setCell (by simp) _).setCell (by simp) _).setCell (by simp) _).setCell (by simp) _

end Go.Proofs.YtdhjigaocamglaaDoor

/- Pieces: rewrite, for any function that makes an event of a timed event: plain side, and what its rounds keep. -/
namespace Go.Proofs.YtdhjigaocamglaaDoor
open Go Go.RowKit

/-- A timed event, plain. -/
structure TmP where
  n : Nat
  y : EvP
  v : Int
  d : Bool
  t : Bool
  fm : Int
  to : Int
def tmPL : List EvP → Nat → Int → Bool → Bool → Int → List TmP
  | [], _, _, _, _, _ => []
  | y :: r, n, v, d, t, fm =>
    if wrB y.v y.d y.t then ⟨n, y, y.v, y.d, y.t, fm, fm + tkV y.v y.d y.t⟩ :: tmPL r (n + 1) y.v y.d y.t (fm + tkV y.v y.d y.t)
    else ⟨n, y, v, d, t, fm, fm + tkV v d t⟩ :: tmPL r (n + 1) v d t (fm + tkV v d t)
theorem tmPL_len : ∀ (P : List EvP) (n : Nat) (v : Int) (d t : Bool) (fm : Int), (tmPL P n v d t fm).length = P.length
  | [], _, _, _, _, _ => rfl
  | y :: r, n, v, d, t, fm => by
    unfold tmPL
    split <;> simp [tmPL_len r]
abbrev tpL (P : List EvP) : List TmP := tmPL P 0 0 false false 0
theorem tm_pl (w : World) : ∀ (E : List EvT) (P : List EvP) (n : Nat) (v : Int) (d t : Bool) (fm : Int), E.length = P.length → (∀ (k : Nat) (x : EvT) (y : EvP), E[k]? = some x → P[k]? = some y → EvIn w x y) →
    ∀ (j : Nat) (x : Tm), (tmL E n v d t fm)[j]? = some x → ∃ p, (tmPL P n v d t fm)[j]? = some p ∧ x.n = p.n ∧ x.v = p.v ∧ x.d = p.d ∧ x.t = p.t ∧ x.fm = p.fm ∧ x.to = p.to ∧ EvIn w x.ev p.y
  | [], _, _, _, _, _, _, _, _, j, x, hx => by simp [tmL] at hx
  | _ :: _, [], _, _, _, _, _, hl, _, _, _, _ => by simp at hl
  | e :: E, y :: P, n, v, d, t, fm, hl, h, j, x, hx => by
    have h0 := h 0 e y rfl rfl
    obtain ⟨e1, e2, e3, e4, e5, e6⟩ := h0.1
    have hr : ∀ (k : Nat) (x : EvT) (y : EvP), E[k]? = some x → P[k]? = some y → EvIn w x y := fun k x y hx hy => h (k + 1) x y (by simpa using hx) (by simpa using hy)
    have hl' : E.length = P.length := by simpa using hl
    cases hw : wrB y.v y.d y.t with
    | true =>
      rw [tmL_w _ _ _ _ _ _ (by rw [e2, e3, e4]; exact hw)] at hx
      rw [tmPL, if_pos hw]
      cases j with
      | zero =>
        obtain rfl : _ = x := by simpa using hx
        exact ⟨_, rfl, rfl, e2, e3, e4, rfl, by simp [e2, e3, e4], h0⟩
      | succ j =>
        have := tm_pl w E P (n + 1) y.v y.d y.t (fm + tkV y.v y.d y.t) hl' hr j x (by rw [← e2, ← e3, ← e4]; simpa using hx)
        simpa using this
    | false =>
      rw [tmL_n _ _ _ _ _ _ (by rw [e2, e3, e4]; exact hw)] at hx
      rw [tmPL, if_neg (by rw [hw]; simp)]
      cases j with
      | zero =>
        obtain rfl : _ = x := by simpa using hx
        exact ⟨_, rfl, rfl, rfl, rfl, rfl, rfl, rfl, h0⟩
      | succ j =>
        have := tm_pl w E P (n + 1) v d t (fm + tkV v d t) hl' hr j x (by simpa using hx)
        simpa using this
theorem tmPL_y : ∀ (P : List EvP) (n : Nat) (v : Int) (d t : Bool) (fm : Int) (p : TmP), p ∈ tmPL P n v d t fm → p.y ∈ P
  | [], _, _, _, _, _, p, h => by simp [tmPL] at h
  | y :: r, n, v, d, t, fm, p, h => by
    unfold tmPL at h
    split at h
    all_goals
      rcases List.mem_cons.1 h with rfl | h
      · exact List.mem_cons_self
      · exact List.mem_cons_of_mem _ (tmPL_y r _ _ _ _ _ p h)

section
variable {σ : Type}
/-- The events made so far, and the state. -/
def rwO (st : σ → TmP → σ × EvP) (s : σ) (X : List TmP) : List EvP × σ := X.foldl (fun a p => (a.1 ++ [(st a.2 p).2], (st a.2 p).1)) ([], s)
theorem rwO_snoc (st : σ → TmP → σ × EvP) (s : σ) (X : List TmP) (p : TmP) : rwO st s (X ++ [p]) = ((rwO st s X).1 ++ [(st (rwO st s X).2 p).2], (st (rwO st s X).2 p).1) := by simp [rwO]
theorem rwO_len (st : σ → TmP → σ × EvP) (s : σ) : ∀ (X : List TmP), (rwO st s X).1.length = X.length := by
  have : ∀ (X : List TmP) (a : List EvP × σ), (X.foldl (fun a p => (a.1 ++ [(st a.2 p).2], (st a.2 p).1)) a).1.length = a.1.length + X.length := by
    intro X
    induction X with
    | nil => intro a; simp
    | cons p r ih => intro a; rw [List.foldl_cons, ih]; simp; omega
  intro X
  have := this X ([], s)
  simpa [rwO] using this
end

/-- Below block B nothing but the blocks of x has changed; what is no cells is as it was. -/
structure Kx (x : Nat → Prop) (B : Nat) (w w' : World) : Prop where
  os : w'.os = w.os
  tape : w'.tape = w.tape
  output : w'.output = w.output
  size : w.heap.size ≤ w'.heap.size
  block : ∀ k, k < B → ¬ x k → w'.heap[k]? = w.heap[k]?
  oth : ∀ (k : Nat) (o : Obj), w.heap[k]? = some o → o.isCells = false → w'.heap[k]? = some o
theorem Kx.refl (x : Nat → Prop) (B : Nat) (w : World) : Kx x B w w := ⟨rfl, rfl, rfl, Nat.le_refl _, fun _ _ _ => rfl, fun _ _ h _ => h⟩
theorem Kx.trans {x : Nat → Prop} {B : Nat} {a b c : World} (h : Kx x B a b) (k : Kx x B b c) : Kx x B a c :=
  ⟨k.os.trans h.os, k.tape.trans h.tape, k.output.trans h.output, Nat.le_trans h.size k.size, fun i hi hx => (k.block i hi hx).trans (h.block i hi hx), fun i o hi ho => k.oth i o (h.oth i o hi ho) ho⟩
theorem Kx.mono {x x' : Nat → Prop} {B B' : Nat} {w w' : World} (h : Kx x B w w') (hB : B' ≤ B) (hx : ∀ k, k < B' → x k → x' k) : Kx x' B' w w' :=
  ⟨h.os, h.tape, h.output, h.size, fun k hk hn => h.block k (Nat.lt_of_lt_of_le hk hB) (fun e => hn (hx k hk e)), h.oth⟩
theorem Kx.of_below {x : Nat → Prop} {w w' : World} (h : Below w.heap.size w w') : Kx x w.heap.size w w' :=
  ⟨h.os, h.tape, h.output, h.size, fun k hk _ => h.block k hk, fun k _ hk _ => (h.block k (Array.getElem?_eq_some_iff.1 hk).1).trans hk⟩
theorem Kx.below {x : Nat → Prop} {B : Nat} {w w' : World} (h : Kx x B w w') (hx : ∀ k, k < B → ¬ x k) : Below B w w' :=
  ⟨h.os, h.tape, h.output, h.size, fun k hk => h.block k hk (hx k hk)⟩
theorem Kx.belowB {x : Nat → Prop} {B B' : Nat} {w w' : World} (h : Kx x B w w') (hB : B' ≤ B) (hx : ∀ k, x k → B' ≤ k) : Below B' w w' :=
  ⟨h.os, h.tape, h.output, h.size, fun k hk => h.block k (by omega) (fun e => by have := hx k e; omega)⟩
theorem Kx.drew {x : Nat → Prop} {B : Nat} {w w' : World} (h : Kx x B w w') : Kx x B w w'.drew := ⟨h.os, h.tape, h.output, h.size, h.block, h.oth⟩
/-- A store into a block of cells. -/
theorem Kx.setCell {x : Nat → Prop} {B : Nat} {w w' : World} (h : Kx x B w w') {p : Addr} (hp : B ≤ p.block ∨ x p.block) {cs : Array Value} {T : TypeId} {f : Nat × Nat} (hc : w'.heap[p.block]? = some (.cells cs T f)) (u : Value) : Kx x B w (w'.setCell p u) := by
  have hs : ∀ k, k ≠ p.block → (w'.setCell p u).heap[k]? = w'.heap[k]? := fun k hk => Below.heap_setCell _ _ _ _ hk
  refine ⟨h.os, h.tape, h.output, by simpa using h.size, fun k hk hn => (hs k ?_).trans (h.block k hk hn), fun k o hk ho => (hs k ?_).trans (h.oth k o hk ho)⟩
  · rintro rfl
    rcases hp with hp | hp
    · omega
    · exact hn hp
  · rintro rfl
    have := h.oth _ _ hk ho
    rw [hc] at this
    injection this with this
    rw [← this] at ho
    cases ho
theorem Kx.setBlk {x : Nat → Prop} {B : Nat} {w w' : World} (h : Kx x B w w') {g : Nat} (hp : B ≤ g ∨ x g) {cs : Array Value} {T : TypeId} (hc : Blk w' g T cs) (i : Nat) (u : Value) : Kx x B w (w'.setCell ⟨g, i, none⟩ u) :=
  h.setCell (p := ⟨g, i, none⟩) hp hc u
/-- New memory, and the row of v. -/
theorem Kx.grown {x : Nat → Prop} {B : Nat} {w w' w2 : World} (h : Kx x B w w') {row : Option Nat} (hg : w'.grownBy w2 row) (hB : B ≤ w'.heap.size) (hr : ∀ k, row = some k → B ≤ k) (ho : ∀ k, row = some k → ∃ cs T f, w'.heap[k]? = some (.cells cs T f)) : Kx x B w w2 := by
  have hk : ∀ k (o : Obj), w'.heap[k]? = some o → some k ≠ row → w2.heap[k]? = some o := fun k o hk hn => (hg.block k (Array.getElem?_eq_some_iff.1 hk).1 hn).trans hk
  refine ⟨hg.os.trans h.os, hg.tape.trans h.tape, hg.output.trans h.output, Nat.le_trans h.size hg.size, fun k hlt hn => ?_, fun k o hk1 hk2 => ?_⟩
  · exact (hg.block k (by omega) (fun e => by have := hr k e.symm; omega)).trans (h.block k hlt hn)
  · refine hk k o (h.oth k o hk1 hk2) (fun e => ?_)
    obtain ⟨cs, T, f, hc⟩ := ho k e.symm
    rw [h.oth k o hk1 hk2] at hc
    injection hc with hc
    rw [hc] at hk2
    cases hk2

end Go.Proofs.YtdhjigaocamglaaDoor

/- Pieces: rewrite, for any function that makes an event of a timed event. -/
namespace Go.Proofs.YtdhjigaocamglaaDoor
open Go Go.RowKit

attribute [local go_sem] Oper.semAt_some

/-- A call of a function value in a region that draws its order. -/
theorem step_call_value {P : Program} {ops : Array Oper} {o : Oper} {a : Act} {w : World} {K : Act → World → Prop} {Q : Exit → Act → World → Prop} {E : Prop} (hgd : o.guard = none) (c x : Operand) (ts : Array TypeId)
    (ho : o.op = .call { callee := .value c, args := #[x], argTypes := ts }) (f : Nat) (lb : Array Value) (hc : a.eval c = .func (.func f) #[] lb) (v : Value) (hx : a.eval x = v) (heg : ∀ (args : Array Value) (w : World), (callFunc f args).run P w = .ok (.enter f args) w)
    (R : Ending → World → Prop) (h : Calls P f (#[v] ++ lb) w R) (hK : ∀ e w', R e w' → ∃ v, e = .returned v ∧ K (a.put o.dst v) w') : if Region.wanted o (yielded ops a.tmps) = true then Oper.wp P o a w K Q else E := by
  have hw : Region.wanted o (yielded ops a.tmps) = true := by simp [Region.wanted, hgd]
  rw [if_pos hw]
  have hm : (#[x] : Array Operand).map a.eval = #[v] := by simp [hx]
  unfold Oper.wp execOp
  simp only [ho, resolve, hc, hm]
  simp [go_sem, invoke, heg]
  refine h.mono ?_
  intro e w' he
  obtain ⟨v, rfl, hk⟩ := hK e w' he
  exact hk

abbrev tmPV (p : TmP) (sa : Option Addr) (sc : Nat) : Value := .agg #[.int .i64 p.n, .bool p.y.bar, .int .i64 p.y.v, .bool p.y.d, .bool p.y.t, .bool p.y.tie, .slice sa p.y.L.length sc, .int .i64 p.v, .bool p.d, .bool p.t, .int .i64 p.fm, .int .i64 p.to]
/-- What a function that is handed to rewrite does. -/
def RwFn {σ : Type} (f : Nat) (lb : Array Value) (x : Nat → Prop) (w : World) (TP : List TmP) (st : σ → TmP → σ × EvP) (R : σ → World → Prop) : Prop :=
  ∀ (s : σ) (p : TmP) (sa : Option Addr) (sc B : Nat) (W : World), p ∈ TP → R s W → Kx x w.heap.size w W → w.heap.size ≤ B → B ≤ W.heap.size → Ow W B 62 5 sa p.y.L.length sc (stC p.y.L) →
    Calls Tryd.prog f (#[tmPV p sa sc] ++ lb) W fun e W' => ∃ sa' sc', e = .returned (evV (st s p).2.bar (st s p).2.v (st s p).2.d (st s p).2.t (st s p).2.tie sa' (st s p).2.L.length sc') ∧ Ow W' B 62 5 sa' (st s p).2.L.length sc' (stC (st s p).2.L) ∧ Kx x W.heap.size W W' ∧ R (st s p).1 W'

/-- A piece in memory of its own: all its blocks lie from block b on. -/
structure PcOw (w : World) (b : Nat) (A : Option Addr) (n c : Nat) (A' : Option Addr) (m c' : Nat) (A2 : Option Addr) (q cq : Nat) (C : List Cr) (S : List Int) (P : List EvP) : Prop where
  crs : Ow w b 60 3 A n c (crC C)
  stp : Ow w b 3 1 A' m c' (intC S)
  hn : n = C.length
  hm : m = S.length
  hq : q = P.length
  evs : ∃ E, E.length = P.length ∧ CpE w b E P ∧ Ow w b 51 6 A2 q cq (evC E)
theorem Ow.blkB {w w' : World} {B : Nat} {t : TypeId} {size : Nat} {A : Option Addr} {n c : Nat} {xs : List Value} (h : Ow w B t size A n c xs) (hk : ∀ g cs, B ≤ g → Blk w g t cs → Blk w' g t cs) : Ow w' B t size A n c xs :=
  ⟨h.1, h.2.1, fun hn => by
    obtain ⟨g, cur, h1, h2, h3, h4⟩ := h.2.2 hn
    exact ⟨g, cur, h1, h2, hk _ _ h2 h3, h4⟩⟩
theorem CpE.blkB {w w' : World} {B : Nat} {E : List EvT} {P : List EvP} (h : CpE w B E P) (hk : ∀ g cs, B ≤ g → Blk w g 62 cs → Blk w' g 62 cs) : CpE w' B E P :=
  fun j x y hx hy => ⟨(h j x y hx hy).1, (h j x y hx hy).2.blkB hk⟩
theorem CpE.more {w : World} {B B' : Nat} {E : List EvT} {P : List EvP} (h : CpE w B E P) (hB : B' ≤ B) : CpE w B' E P := fun j x y hx hy => ⟨(h j x y hx hy).1, (h j x y hx hy).2.more hB⟩
theorem PcOw.blkB {w w' : World} {b : Nat} {A A' A2 : Option Addr} {n c m c' q cq : Nat} {C : List Cr} {S : List Int} {P : List EvP} (h : PcOw w b A n c A' m c' A2 q cq C S P) (hk : ∀ g T cs, b ≤ g → T ≠ 28 → Blk w g T cs → Blk w' g T cs) : PcOw w' b A n c A' m c' A2 q cq C S P := by
  obtain ⟨E, e1, e2, e3⟩ := h.evs
  exact ⟨h.crs.blkB (fun g cs h1 h2 => hk g _ cs h1 (by decide) h2), h.stp.blkB (fun g cs h1 h2 => hk g _ cs h1 (by decide) h2), h.hn, h.hm, h.hq, E, e1, e2.blkB (fun g cs h1 h2 => hk g _ cs h1 (by decide) h2), e3.blkB (fun g cs h1 h2 => hk g _ cs h1 (by decide) h2)⟩
theorem PcOw.below {w w' : World} {b : Nat} {A A' A2 : Option Addr} {n c m c' q cq : Nat} {C : List Cr} {S : List Int} {P : List EvP} (h : PcOw w b A n c A' m c' A2 q cq C S P) (hb : Below w.heap.size w w') : PcOw w' b A n c A' m c' A2 q cq C S P := h.blkB (fun _ _ _ _ _ h => h.below hb)
theorem PcOw.other {w : World} {b : Nat} {A A' A2 : Option Addr} {n c m c' q cq : Nat} {C : List Cr} {S : List Int} {P : List EvP} (h : PcOw w b A n c A' m c' A2 q cq C S P) {g : Nat} (hg : g < b) (i : Nat) (u : Value) : PcOw (w.setCell ⟨g, i, none⟩ u) b A n c A' m c' A2 q cq C S P :=
  h.blkB (fun _ _ _ h1 _ h2 => h2.setOther (by omega) _ _)
theorem PcOw.more {w : World} {b b' : Nat} {A A' A2 : Option Addr} {n c m c' q cq : Nat} {C : List Cr} {S : List Int} {P : List EvP} (h : PcOw w b A n c A' m c' A2 q cq C S P) (hb : b' ≤ b) : PcOw w b' A n c A' m c' A2 q cq C S P := by
  obtain ⟨E, e1, e2, e3⟩ := h.evs
  exact ⟨h.crs.more hb, h.stp.more hb, h.hn, h.hm, h.hq, E, e1, e2.more hb, e3.more hb⟩
theorem PcOw.pcIn {w : World} {b : Nat} {A A' A2 : Option Addr} {n c m c' q cq : Nat} {C : List Cr} {S : List Int} {P : List EvP} (h : PcOw w b A n c A' m c' A2 q cq C S P) : PcIn w A n c A' m c' A2 q cq C S P := by
  obtain ⟨E, e1, e2, e3⟩ := h.evs
  refine ⟨h.crs.sl, h.stp.sl, h.hn, h.hm, h.hq, E, ⟨e1, fun j x y hx hy => ?_⟩, e3.sl⟩
  obtain ⟨h1, h2⟩ := e2 j x y hx hy
  exact ⟨h1, by rw [h1.2.2.2.2.2]; exact h2.sl⟩
theorem PcOw.nil_ (w : World) (b : Nat) : PcOw w b none 0 0 none 0 0 none 0 0 [] [] [] :=
  ⟨⟨Nat.le_refl _, rfl, fun h => absurd h (by omega)⟩, ⟨Nat.le_refl _, rfl, fun h => absurd h (by omega)⟩, rfl, rfl, rfl, [], rfl, fun j x y hx _ => by simp at hx, ⟨Nat.le_refl _, rfl, fun h => absurd h (by omega)⟩⟩

def RwPostP (x : Nat → Prop) (n m q : Nat) (C : List Cr) (S : List Int) (P : List EvP) (R : World → Prop) (w : World) (e : Ending) (w' : World) : Prop :=
  ∃ B d B' d' B2 d2, e = .returned (pcV B n d B' m d' B2 q d2) ∧ PcOw w' w.heap.size B n d B' m d' B2 q d2 C S P ∧ R w' ∧ Kx x w.heap.size w w'

abbrev fnO (f : Nat) (lb : Array Value) : Obj := .cells #[.func (.func f) #[] lb] 76
abbrev zPcO : Obj := pcO none 0 0 none 0 0 none 0 0

/-- What the rounds keep. -/
def RwI {σ : Type} (x : Nat → Prop) (W5 : World) (qb sb : Nat) (u0 u1 : Value) (st : σ → TmP → σ × EvP) (s0 : σ) (R : σ → World → Prop) (TP : List TmP) (pre : List Tm) (W : World) : Prop :=
  ∃ (v : Value) (E : List EvT), Blk W qb 28 #[u0, u1, v] ∧ W.ownsRow W5.heap.size 51 6 v pre.length (evC E) ∧ v.ownBlock ≠ some sb ∧ E.length = pre.length ∧
    CpE W W5.heap.size E (rwO st s0 (TP.take pre.length)).1 ∧ (∀ y ∈ E, 0 < y.sn → ∀ a, y.sa = some a → a.block ≠ sb) ∧ R (rwO st s0 (TP.take pre.length)).2 W ∧ Kx (fun k => x k ∨ k = qb) W5.heap.size W5 W

theorem rwI_same {σ : Type} {x : Nat → Prop} {w W5 : World} {qb sb : Nat} {u0 u1 : Value} {st : σ → TmP → σ × EvP} {s0 : σ} {R : σ → World → Prop} {TP : List TmP} {pre : List Tm} {W W' : World}
    (hR : ∀ s W W', R s W → Below w.heap.size W W' → R s W') (h : RwI x W5 qb sb u0 u1 st s0 R TP pre W) (hb : Below w.heap.size W W') (hk : Kx (fun k => x k ∨ k = qb) W5.heap.size W W')
    (hq : W'.heap[qb]? = W.heap[qb]?) (ho : ∀ k cs T, k ≠ sb → Blk W k T cs → Blk W' k T cs) : RwI x W5 qb sb u0 u1 st s0 R TP pre W' := by
  obtain ⟨v, E, h1, h2, h3, h4, h5, h6, h7, h8⟩ := h
  refine ⟨v, E, hq.trans h1, ?_, h3, h4, ?_, h6, hR _ _ _ h7 hb, h8.trans hk⟩
  · refine ⟨h2.1, ?_⟩
    rcases h2.2 with h2 | ⟨g, cap, cur, e1, e2, e3, e4⟩
    · exact .inl h2
    · exact .inr ⟨g, cap, cur, e1, e2, ho g _ _ (fun e => h3 (by rw [e1, ← e]; rfl)) e3, e4⟩
  · intro j a y ha hy
    obtain ⟨g1, g2⟩ := h5 j a y ha hy
    refine ⟨g1, g2.1, g2.2.1, fun hn => ?_⟩
    obtain ⟨g, cur, e1, e2, e3, e4⟩ := g2.2.2 hn
    exact ⟨g, cur, e1, e2, ho g _ _ (h6 a (List.mem_of_getElem? ha) (by rw [g1.2.2.2.2.2]; exact hn) _ e1) e3, e4⟩

theorem rwI_bx {σ : Type} {x : Nat → Prop} {w W5 : World} {qb sb : Nat} {u0 u1 : Value} {st : σ → TmP → σ × EvP} {s0 : σ} {R : σ → World → Prop} {TP : List TmP}
    (hR : ∀ s W W', R s W → Below w.heap.size W W' → R s W') (hw : w.heap.size ≤ W5.heap.size) (hq : qb < W5.heap.size) (hs : W5.heap.size ≤ sb) : Bx sb (RwI x W5 qb sb u0 u1 st s0 R TP) := by
  constructor
  · intro s W W' h hW
    have hz : W5.heap.size ≤ W.heap.size := by obtain ⟨_, _, _, _, _, _, _, _, _, h8⟩ := h; exact h8.size
    refine rwI_same hR h (hW.mono (by omega)) ((Kx.of_below hW).mono hz (fun _ _ h => h)) (hW.block _ (by omega)) (fun k cs T _ hb => hb.below hW)
  · rintro s W ⟨b, o, sp⟩ u h hb
    dsimp only at hb
    have hz1 : Kx (fun k => x k ∨ k = qb) W5.heap.size W (W.setCell ⟨b, o, sp⟩ u) := by
      refine ⟨rfl, rfl, rfl, by simp, fun k hk hn => Below.heap_setCell _ _ _ _ (show k ≠ b by omega), fun k o' hk ho => ?_⟩
      by_cases hkb : k = b
      · subst hkb
        cases o' with
        | cells cs T f => cases ho
        | _ => simp [World.setCell, Array.getElem?_modify, hk]
      · exact (Below.heap_setCell _ _ _ _ hkb).trans hk
    refine rwI_same hR h ((Below.refl _ _).setCell (p := ⟨b, o, sp⟩) (show w.heap.size ≤ b by omega) _) hz1 (Below.heap_setCell _ _ _ _ (show qb ≠ b by omega)) (fun k cs T hk h2 => ?_)
    exact (Below.heap_setCell W ⟨b, o, sp⟩ u k (show k ≠ b by omega)).trans h2
theorem rwI_put {σ : Type} {x : Nat → Prop} {w W5 : World} {qb sb : Nat} {u0 u1 : Value} {st : σ → TmP → σ × EvP} {s0 : σ} {R : σ → World → Prop} {TP : List TmP}
    (hR : ∀ s W W', R s W → Below w.heap.size W W' → R s W') (hw : w.heap.size ≤ W5.heap.size) (s : List Tm) (W : World) (l : Nat) (o o' : Obj) (h : RwI x W5 qb sb u0 u1 st s0 R TP s W) (hl : W.heap[l]? = some o) (ho : o.isCells = false) (hll : W5.heap.size ≤ l) : RwI x W5 qb sb u0 u1 st s0 R TP s (W.putObj l o') := by
  have hne : ∀ (k : Nat) (c : Array Value) (T : TypeId) (f : Nat × Nat), W.heap[k]? = some (.cells c T f) → k ≠ l := fun k c T f hk e => by
    rw [e, hl] at hk
    injection hk with hk
    rw [hk] at ho
    cases ho
  have hb : Below W5.heap.size W (W.putObj l o') := (Below.refl _ _).grown (grownBy_putObj' W l o') (by obtain ⟨_, _, _, _, _, _, _, _, _, h8⟩ := h; exact h8.size) (fun k e => by cases e; exact hll)
  obtain ⟨v, E, h1, h2, h3, h4, h5, h6, h7, h8⟩ := h
  refine ⟨v, E, (World.putObj_heap_other (hne _ _ _ _ h1)).trans h1, ownsRow_putObj h2 _ hl ho, h3, h4, h5.blk (fun g cs hg => (World.putObj_heap_other (hne _ _ _ _ hg)).trans hg), h6, hR _ _ _ h7 (hb.mono hw), ?_⟩
  refine ⟨hb.os.trans h8.os, hb.tape.trans h8.tape, hb.output.trans h8.output, Nat.le_trans h8.size hb.size, fun k hk hn => (hb.block k hk).trans (h8.block k hk hn), fun k o2 hk ho2 => ?_⟩
  exact (hb.block k (Array.getElem?_eq_some_iff.1 hk).1).trans (h8.oth k o2 hk ho2)

theorem CpE.snoc2 {w : World} {B : Nat} {E : List EvT} {P : List EvP} {x : EvT} {y : EvP} (h : CpE w B E P) (hl : E.length = P.length) (h1 : x.bar = y.bar ∧ x.v = y.v ∧ x.d = y.d ∧ x.t = y.t ∧ x.tie = y.tie ∧ x.sn = y.L.length)
    (h2 : Ow w B 62 5 x.sa y.L.length x.sc (stC y.L)) : CpE w B (E ++ [x]) (P ++ [y]) := by
  refine CpE.snoc (y := y) ?_ (by rw [hl]; simp) h1 h2
  intro j x' y' hx' hy'
  have hj : j < E.length := (Array.getElem?_eq_some_iff.1 (by simpa using hx') : ∃ _, _).1
  rw [List.getElem?_append_left (by omega)] at hy'
  exact h j x' y' hx' hy'
/-- A block of another type than the row's stays as the row grows. -/
theorem grow_blk {W w2 : World} {base : Nat} {e : TypeId} {size n : Nat} {v : Value} {xs : List Value} (hr : W.ownsRow base e size v n xs) (hg : W.grownBy w2 v.ownBlock) {g : Nat} {T : TypeId} {cs : Array Value} (hb : Blk W g T cs) (hT : T ≠ e) : Blk w2 g T cs :=
  hb.grown hg (blk_apart hb hr hT)

/-- What the loads of a round's region read. -/
def RwS (w : World) (bq f : Nat) (lb : Array Value) (p : TmP) (sa : Option Addr) (sc : Nat) (w' : World) : Prop :=
  Blk w' (w.heap.size + 1) 76 #[.func (.func f) #[] lb] ∧ Blk w' bq 75 #[.int .i64 p.n, .bool p.y.bar, .int .i64 p.y.v, .bool p.y.d, .bool p.y.t, .bool p.y.tie, .slice sa p.y.L.length sc, .int .i64 p.v, .bool p.d, .bool p.t, .int .i64 p.fm, .int .i64 p.to]
/-- Behind a round: what it leaves. -/
theorem rw_close {σ : Type} {x : Nat → Prop} {w w0 W5 W W2 W3 W6 : World} {qb Bp bq sb : Nat} {u0 u1 v : Value} {st : σ → TmP → σ × EvP} {s0 s' : σ} {z : EvP} {R : σ → World → Prop} {TP : List TmP} {pre : List Tm} {xt : Tm} {p : TmP} {E : List EvT}
    (hR : ∀ s W W', R s W → Below w.heap.size W W' → R s W') (hw5 : w.heap.size ≤ qb) (hq5 : qb < Bp) (hB5 : Bp < W5.heap.size) (hs5 : W5.heap.size ≤ sb) (hw0 : w0.heap.size ≤ w.heap.size) (hx : ∀ k, x k → w0.heap.size ≤ k ∧ k < w.heap.size)
    (hQ : Blk W qb 28 #[u0, u1, v]) (hrow : W.ownsRow W5.heap.size 51 6 v pre.length (evC E)) (hns : v.ownBlock ≠ some sb) (hEl : E.length = pre.length) (hC : CpE W W5.heap.size E (rwO st s0 (TP.take pre.length)).1)
    (hN : ∀ y ∈ E, 0 < y.sn → ∀ a, y.sa = some a → a.block ≠ sb) (hK5 : Kx (fun k => x k ∨ k = qb) W5.heap.size W5 W) (hz : W.heap.size = bq + 1) (hTP : TP[pre.length]? = some p) (hst : st (rwO st s0 (TP.take pre.length)).2 p = (s', z))
    {scs : Array Value} {sf : Nat × Nat} (hsb : W.heap[sb]? = some (.cells scs 48 sf)) {bcs : Array Value} (hbq : Blk W bq 75 bcs)
    (h12 : Kx (fun k => k = bq) W.heap.size W W2) (h3 : Kx x W2.heap.size W2 W3)
    {sa : Option Addr} {sc : Nat} (hO : Ow W3 W.heap.size 62 5 sa z.L.length sc (stC z.L)) (hRs : R s' W3)
    {ob : Obj} {g cap : Nat} (hown : W6.ownsRow W5.heap.size 51 6 (.slice (some ⟨g, 0, none⟩) (pre.length + 1) cap) (pre.length + 1) (evC E ++ [.bool z.bar, .int .i64 z.v, .bool z.d, .bool z.t, .bool z.tie, .slice sa z.L.length sc]))
    (hgrow : (W3.alloc ob).grownBy W6 v.ownBlock) (act : Act) :
    bodyB (fun k => k < w0.heap.size ∨ k = Bp ∨ k = sb) (RwI x W5 qb sb u0 u1 st s0 R TP) (pre ++ [xt]) W .normal act (W6.setCell ⟨qb, 2, none⟩ (.slice (some ⟨g, 0, none⟩) (pre.length + 1) cap)) := by
  have z5 := hK5.size
  have hsz := (Array.getElem?_eq_some_iff.1 hsb).1
  have hqb : qb ≠ bq := hQ.ne hbq (by decide)
  have hrb : ∀ k, v.ownBlock = some k → W5.heap.size ≤ k ∧ k < W.heap.size ∧ ∃ cs, Blk W k 51 cs := fun k hk => by
    rcases hrow.2 with ⟨h1, _⟩ | ⟨g, cap, cur, h1, h2, h3, h4⟩
    · rw [h1] at hk; cases hk
    · rw [h1] at hk
      injection hk with hk
      subst hk
      exact ⟨h2, Blk.lt h3, _, h3⟩
  have hsq : sb ≠ bq := fun e => by
    rw [e] at hsb
    have h2 := hbq
    unfold Blk at h2
    rw [hsb] at h2
    injection h2 with h2
    injection h2 with _ h2
    revert h2
    decide
  have hxx : ∀ k, x k → k < w.heap.size := fun k h => (hx k h).2
  -- from W to W3
  have k3 : Kx (fun k => x k ∨ k = bq) W.heap.size W W3 := (h12.mono (Nat.le_refl _) (fun k _ h => .inr h)).trans (h3.mono h12.size (fun k _ h => .inl h))
  have k4 : Kx (fun k => x k ∨ k = bq) W.heap.size W (W3.alloc ob) := by
    have := (Kx.of_below (x := fun k => x k ∨ k = bq) (ba W3 ob)).mono k3.size (fun k _ h => h)
    exact k3.trans this
  have k6 : Kx (fun k => x k ∨ k = bq ∨ some k = v.ownBlock) W.heap.size W W6 := by
    refine ⟨hgrow.os.trans k4.os, hgrow.tape.trans k4.tape, hgrow.output.trans k4.output, Nat.le_trans k4.size hgrow.size, fun k hk hn => ?_, fun k o hk ho => ?_⟩
    · exact (hgrow.block k (Nat.lt_of_lt_of_le hk k4.size) (fun e => hn (.inr (.inr e)))).trans (k4.block k hk (fun h => hn (h.elim .inl (fun h => .inr (.inl h)))))
    · have h4 := k4.oth k o hk ho
      refine (hgrow.block k (Array.getElem?_eq_some_iff.1 h4).1 (fun e => ?_)).trans h4
      obtain ⟨_, _, cs, hb⟩ := hrb k e.symm
      unfold Blk at hb
      rw [hk] at hb
      injection hb with hb
      rw [hb] at ho
      cases ho
  have hnx : ∀ k, w.heap.size ≤ k → k ≠ bq → some k ≠ v.ownBlock → ¬ (x k ∨ k = bq ∨ some k = v.ownBlock) := fun k h1 h2 h3 h => h.elim (fun h => by have := hxx k h; omega) (fun h => h.elim h2 h3)
  have hqv : some qb ≠ v.ownBlock := blk_apart hQ hrow (by decide)
  have hQ6 : Blk W6 qb 28 #[u0, u1, v] := (k6.block qb hQ.lt (hnx qb hw5 hqb hqv)).trans hQ
  have k7 : Kx (fun k => x k ∨ k = bq ∨ some k = v.ownBlock ∨ k = qb) W.heap.size W (W6.setCell ⟨qb, 2, none⟩ (.slice (some ⟨g, 0, none⟩) (pre.length + 1) cap)) :=
    (k6.mono (Nat.le_refl _) (fun k _ h => h.elim .inl (fun h => .inr (h.elim .inl (fun h => .inr (.inl h)))))).setBlk (.inr (.inr (.inr (.inr rfl)))) hQ6 _ _
  have hgq : g ≠ qb := fun e => blk_apart hQ6 hown (by decide) (by rw [← e]; rfl)
  have hs6 : W6.heap[sb]? = W.heap[sb]? := k6.block sb hsz (hnx sb (by omega) hsq (fun e => hns e.symm))
  have hkeep : ∀ k, w.heap.size ≤ k → k < W.heap.size → k ≠ bq → some k ≠ v.ownBlock → k ≠ qb → (W6.setCell ⟨qb, 2, none⟩ (.slice (some ⟨g, 0, none⟩) (pre.length + 1) cap)).heap[k]? = W.heap[k]? := fun k h1 h2 h3 h4 h5 =>
    (Below.heap_setCell _ _ _ _ h5).trans (k6.block k h2 (hnx k h1 h3 h4))
  refine ⟨⟨k7.size, k7.oth⟩, ?_, ?_⟩
  · rintro k hk hlt
    refine k7.block k hlt ?_
    rintro (h | rfl | h | rfl)
    · have := hx k h
      rcases hk with hk | hk | hk <;> omega
    · rcases hk with hk | hk | hk <;> omega
    · have := hrb k h.symm
      rcases hk with hk | hk | hk
      · omega
      · omega
      · exact hns (by rw [← hk]; exact h.symm)
    · rcases hk with hk | hk | hk <;> omega
  · have hl : (pre ++ [xt]).length = pre.length + 1 := by simp
    have htk : TP.take (pre.length + 1) = TP.take pre.length ++ [p] := by rw [List.take_add_one, hTP]; rfl
    have hO6 : Ow (W6.setCell ⟨qb, 2, none⟩ (.slice (some ⟨g, 0, none⟩) (pre.length + 1) cap)) W5.heap.size 62 5 sa z.L.length sc (stC z.L) := by
      refine (hO.blkB (fun g2 cs hg2 hb => ?_)).more z5
      have hb6 : Blk W6 g2 62 cs := by
        refine (hgrow.block g2 (by simp; have := hb.lt; omega) (fun e => ?_)).trans (hb.below (ba _ _))
        have := (hrb g2 e.symm).2.1
        omega
      exact hb6.setOther (hb6.ne hQ6 (by decide)) _ _
    refine ⟨_, E ++ [⟨z.bar, z.v, z.d, z.t, z.tie, sa, z.L.length, sc⟩], hQ6.set_ 2 _, ?_, ?_, by rw [hl]; simp [hEl], ?_, ?_, ?_, ?_⟩
    · rw [hl, evC_snoc]
      exact ownsRow_heap hown (fun g2 hg2 => by injection hg2 with hg2; rw [← hg2]; exact Below.heap_setCell _ _ _ _ hgq)
    · intro e
      injection e with e
      rcases hown.2 with ⟨h1, _⟩ | ⟨g2, cap2, cur, h1, h2, h3, h4⟩
      · cases h1
      · injection h1 with h1
        injection h1 with h1
        injection h1 with h1
        have e2 : g = sb := e
        rw [← h1, e2, hs6, hsb] at h3
        injection h3 with h3
        injection h3 with _ h3
        revert h3
        decide
    · rw [hl, htk, rwO_snoc, hst]
      refine CpE.snoc2 (hC.blkB (fun g2 cs hg2 hb => ?_)) (by rw [hEl, rwO_len, List.length_take, Nat.min_eq_left (Nat.le_of_lt (List.getElem?_eq_some_iff.1 hTP).1)]) ⟨rfl, rfl, rfl, rfl, rfl, rfl⟩ hO6
      exact (hkeep g2 (by omega) hb.lt (hb.ne hbq (by decide)) (blk_apart hb hrow (by decide)) (hb.ne hQ (by decide))).trans hb
    · intro y hy hn a ha
      rcases List.mem_append.1 hy with hy | hy
      · exact hN y hy hn a ha
      · obtain rfl : y = _ := by simpa using hy
        dsimp only at ha hn
        have := hO.fresh hn a ha
        omega
    · rw [hl, htk, rwO_snoc, hst]
      refine hR _ _ _ hRs ?_
      have hb4 : Below w.heap.size W3 (W3.alloc ob) := (ba W3 ob).mono (by have := k3.size; omega)
      exact (hb4.grown hgrow (by have := k4.size; omega) (fun k hk => by have := (hrb k hk).1; omega)).setCell (p := ⟨qb, 2, none⟩) hw5 _
    · exact hK5.trans (k7.mono z5 (fun k hk h => h.elim .inl (fun h => h.elim (fun h => by omega) (fun h => h.elim (fun h => by have := (hrb k h.symm).1; omega) .inr))))

set_option maxRecDepth 100000 in
set_option maxHeartbeats 16000000 in
theorem rewrite_any {σ : Type} (A : Option Addr) (n c : Nat) (A' : Option Addr) (m c' : Nat) (A2 : Option Addr) (q cq : Nat) (C : List Cr) (S : List Int) (P : List EvP) (w0 w : World) (hw0 : Below w0.heap.size w0 w) (hP : PcIn w0 A n c A' m c' A2 q cq C S P) (hnb : n ≤ 1000000) (hmb : m ≤ 1000000) (hqb : q ≤ 65536) (hst : ∀ y ∈ P, y.L.length ≤ 1000000)
    (x : Nat → Prop) (hx : ∀ k, x k → w0.heap.size ≤ k ∧ k < w.heap.size) (f : Nat) (lb : Array Value) (heg : ∀ (args : Array Value) (w : World), (callFunc f args).run Tryd.prog w = .ok (.enter f args) w) (s0 : σ) (st : σ → TmP → σ × EvP) (R : σ → World → Prop) (hR : ∀ s W W', R s W → Below w.heap.size W W' → R s W') (h0 : R s0 w) (hf : RwFn f lb x w (tpL P) st R) :
    Calls Tryd.prog 36 #[pcV A n c A' m c' A2 q cq, .func (.func f) #[] lb] w (RwPostP x n m q C S (rwO st s0 (tpL P)).1 (R (rwO st s0 (tpL P)).2) w) := by
  obtain ⟨E, ⟨hE1, hE2⟩, hE3⟩ := hP.es.evs
  have HPI : Hid (∀ w', Below w.heap.size w w' → PcIn w' A n c A' m c' A2 q cq C S P) := fun w' hb => (hP.below hw0).below hb
  have HQ := Lib.hid hP.es.hq
  have hE : q = E.length := by rw [hP.es.hq, hE1]
  have HE := Lib.hid hE
  have HTM := Lib.hid (tm_pl w0 E P 0 0 false false 0 hE1 hE2)
  have HE3 := Lib.hid hE3
  have HF := Lib.hid hf
  have HR := Lib.hid hR
  have H0 := Lib.hid h0
  have HW0 := Lib.hid hw0
  have HX := Lib.hid hx
  have HST := Lib.hid hst
  have HBX : Hid (Blk (((w.alloc (pcO A n c A' m c' A2 q cq)).alloc (fnO f lb)).alloc zPcO) w.heap.size 28 #[.slice A n c, .slice A' m c', .slice A2 q cq] ∧ Blk (((w.alloc (pcO A n c A' m c' A2 q cq)).alloc (fnO f lb)).alloc zPcO) (w.heap.size + 1) 76 #[.func (.func f) #[] lb] ∧
      Blk (((w.alloc (pcO A n c A' m c' A2 q cq)).alloc (fnO f lb)).alloc zPcO) (w.heap.size + 2) 28 #[.slice none 0 0, .slice none 0 0, .slice none 0 0] ∧ Below w.heap.size w (((w.alloc (pcO A n c A' m c' A2 q cq)).alloc (fnO f lb)).alloc zPcO) ∧ (((w.alloc (pcO A n c A' m c' A2 q cq)).alloc (fnO f lb)).alloc zPcO).heap.size = w.heap.size + 3) := by
    have b0 : Blk (w.alloc (pcO A n c A' m c' A2 q cq)) w.heap.size 28 #[.slice A n c, .slice A' m c', .slice A2 q cq] := heap_alloc_new w _
    have b1 := heap_alloc_new (w.alloc (pcO A n c A' m c' A2 q cq)) (fnO f lb)
    have b2 := heap_alloc_new ((w.alloc (pcO A n c A' m c' A2 q cq)).alloc (fnO f lb)) zPcO
    rw [World.size_alloc] at b1
    rw [World.size_alloc, World.size_alloc] at b2
    exact ⟨(b0.below (ba _ _)).below (ba _ _), Blk.below b1 (ba _ _), b2, bt (ba _ _) (bt (ba _ _) (ba _ _)), by simp⟩
  clear hE hE2 hE3 hf hR h0 hw0 hx hst hP hE1
  refine (callsIn_wide (n := 3)).1 ?_
  refine callsIn_of_wp_marks Tryd.func36 rfl trivial ?_ rfl
  simp only [Tryd.ntmps36, List.size_toArray, List.length_cons, List.length_nil, Nat.reduceAdd, Nat.reduceSub, Array.replicate_succ, Array.replicate_zero, List.push_toArray, List.append_toArray, List.nil_append, List.cons_append]
  gi_wp2_with (first | (refine ⟨trivial, ?_⟩; gi_at_call 44; refine (callsIn_wide.2 (cloneInst_any A A' n c m c' C S _ (HPI.out _ (bt (ba _ _) (bt (ba _ _) (ba _ _)))).crs (HPI.out _ (bt (ba _ _) (bt (ba _ _) (ba _ _)))).stp hnb hmb)).mono ?_; rintro e w1 ⟨B, d, B', d', rfl, ho1, ho2, hb1⟩; have hB0 := (HBX.out.1.below hb1).below (ba w1 (pcO B n d B' m d' none 0 0)); have k0 := hB0.cell 0; have k1 := hB0.cell 1; have k2 := hB0.cell 2; simp at k0 k1 k2; have HO1 := Lib.hid ho1; have HO2 := Lib.hid ho2; have HB1 := Lib.hid hb1; clear hB0 ho1 ho2 hb1) | (refine ⟨trivial, ?_⟩; gi_at_call 45; refine (callsIn_wide.2 (withTimes_any _ _ _ _ _ _ _ _ _ _)).mono ?_; rintro e w2 ⟨rfl, rfl⟩))
  -- REST
  have bQ : Blk ((w1.alloc (pcO B n d B' m d' none 0 0)).alloc (pcO A n c A' m c' A2 q cq)) w1.heap.size 28 #[.slice B n d, .slice B' m d', .slice none 0 0] := Blk.below (heap_alloc_new w1 _) (ba _ _)
  have bB : Blk ((w1.alloc (pcO B n d B' m d' none 0 0)).alloc (pcO A n c A' m c' A2 q cq)) (w1.heap.size + 1) 28 #[.slice A n c, .slice A' m c', .slice A2 q cq] := by
    have := heap_alloc_new (w1.alloc (pcO B n d B' m d' none 0 0)) (pcO A n c A' m c' A2 q cq)
    rwa [World.size_alloc] at this
  have hW1 : Below w1.heap.size w1 ((w1.alloc (pcO B n d B' m d' none 0 0)).alloc (pcO A n c A' m c' A2 q cq)) := bt (ba _ _) (ba _ _)
  have hz1 : w.heap.size + 3 ≤ w1.heap.size := Nat.le_trans (Nat.le_of_eq HBX.out.2.2.2.2.symm) HB1.out.size
  have hz5 : ((w1.alloc (pcO B n d B' m d' none 0 0)).alloc (pcO A n c A' m c' A2 q cq)).heap.size = w1.heap.size + 2 := by simp
  have low5 : Below w.heap.size w ((w1.alloc (pcO B n d B' m d' none 0 0)).alloc (pcO A n c A' m c' A2 q cq)) := bt HBX.out.2.2.2.1 (bt HB1.out hW1)
  have bF : Blk ((w1.alloc (pcO B n d B' m d' none 0 0)).alloc (pcO A n c A' m c' A2 q cq)) (w.heap.size + 1) 76 #[.func (.func f) #[] lb] := (HBX.out.2.1.below HB1.out).below hW1
  have bR : Blk ((w1.alloc (pcO B n d B' m d' none 0 0)).alloc (pcO A n c A' m c' A2 q cq)) (w.heap.size + 2) 28 #[.slice none 0 0, .slice none 0 0, .slice none 0 0] := (HBX.out.2.2.1.below HB1.out).below hW1
  have oC := (HO1.out.below hW1).more (Nat.le_of_eq HBX.out.2.2.2.2.symm)
  have oS := (HO2.out.below hW1).more (Nat.le_of_eq HBX.out.2.2.2.2.symm)
  obtain ⟨W5, hW5⟩ : ∃ W5, (w1.alloc (pcO B n d B' m d' none 0 0)).alloc (pcO A n c A' m c' A2 q cq) = W5 := ⟨_, rfl⟩
  rw [hW5] at bQ bB hW1 hz5 low5 bF bR oC oS ⊢
  clear hW5 k0 k1 k2
  have HOC := Lib.hid oC
  have HOS := Lib.hid oS
  have HBF := Lib.hid bF
  have HBR := Lib.hid bR
  clear oC oS bF bR
  obtain ⟨i0, hi, hi0, hi1, hi2⟩ := info_parts Tryd.infoEv
  have hlenE : (tmL E 0 0 false false 0).length = q := (tmL_len _ _ _ _ _ _).trans HE.out.symm
  have hw0s := HW0.out.size
  refine rfBox (F := Fence.wide) (n := 3) rfl (by omega) (gf := 68) (lb := #[.pointer (some ⟨w1.heap.size + 1, 0, none⟩)]) rfl trivial (enters_of Tryd.func68 (by kernel_rfl) rfl)
    (encs := fun x : Tm => #[tmV x]) (keep := fun k => k < w0.heap.size ∨ k = w1.heap.size + 1 ∨ k = W5.heap.size + 2) (T := 48) (tmL E 0 0 false false 0)
    (times_any _ (by omega) (w1.heap.size + 1) A2 q cq E HE.out (by omega) _ W5 (by omega) (.inr (.inl rfl)) (W5.heap.size + 2) (by omega) (.inr (.inr rfl)) (by have := bB.cell 2; simpa using this) (fun h0 => by
      obtain ⟨eb, off, e1, e2, e3⟩ := HE3.out.2.2 h0
      refine ⟨eb, off, e1, by omega, .inl e2, fun k x hk => ?_⟩
      have hs : W5.heap[eb]? = w0.heap[eb]? := (low5.block eb (by omega)).trans (HW0.out.block eb e2)
      obtain ⟨i0, i1, i2, i3, i4, i5⟩ := evC_at E k x hk
      exact EvAt.same hs ⟨e3 _ _ i0, by have := e3 _ _ i1; rwa [← Nat.add_assoc] at this, by have := e3 _ _ i2; rwa [← Nat.add_assoc] at this, by have := e3 _ _ i3; rwa [← Nat.add_assoc] at this, by have := e3 _ _ i4; rwa [← Nat.add_assoc] at this, by have := e3 _ _ i5; rwa [← Nat.add_assoc] at this⟩))
    (by omega) (fun _ => rfl) (RwI x W5 w1.heap.size (W5.heap.size + 2) (.slice B n d) (.slice B' m d') st s0 R (tpL P)) (rwI_bx HR.out (by omega) (by omega) (by omega)) (fun s W l o o' h hl ho hw => rwI_put HR.out (by omega) s W l o o' h hl ho hw)
    ⟨.slice none 0 0, [], bQ, World.ownsRow_nil _ _ _ _, by simp [Value.ownBlock], rfl, (fun j x y hx _ => by simp at hx), (fun y hy => by cases hy), HR.out _ _ _ H0.out low5, Kx.refl _ _ _⟩
    (fun x a' W => ∃ bq, a' = { tmps := #[pcV A n c A' m c' A2 q cq, .func (.func f) #[] lb, .pointer (some ⟨w.heap.size, 0, none⟩), .pointer (some ⟨w.heap.size + 1, 0, none⟩), .pointer (some ⟨w.heap.size + 1 + 1, 0, none⟩), .pointer (some ⟨w1.heap.size, 0, none⟩), .pointer (some ⟨bq, 0, none⟩), .pointer (some ⟨w.heap.size, 0, none⟩), .agg #[.slice A n c, .slice A' m c'], .agg #[.slice B n d, .slice B' m d'], .agg #[.slice B n d, .slice B' m d', .slice none 0 0], pcV A n c A' m c' A2 q cq, .func (.func 68) #[] #[.pointer (some ⟨w1.heap.size + 1, 0, none⟩)], tmV x, undef, undef, undef, undef, undef, undef, undef, undef, undef, undef, undef, undef, undef], defers := [] } ∧ Blk W bq 75 (tmA x) ∧ W.heap.size = bq + 1)
    (fun x a' W l o o' ⟨bq, h, hq, hz⟩ hl ho => ⟨bq, h, blk_put hq hl ho, by simpa using hz⟩) ?assign ?body ?done
  case assign =>
    intro l x W K hK
    gi_wp2
    exact hK _ _ (ba W _) ⟨W.heap.size, rfl, heap_alloc_new W _, by simp⟩
  case body =>
    rintro l pre xt a' W ⟨v, E', hQ, hrow, hns, hEl, hC, hN, hRs, hK5⟩ ⟨bq, rfl, hq, hzW⟩ ⟨post, hpost⟩ ⟨cs2, f2, hsb⟩
    obtain ⟨p, hTP, e1, e2, e3, e4, e5, e6, ⟨g1, g2, g3, g4, g5, g6⟩, hsl⟩ := HTM.out pre.length xt (by rw [hpost]; simp)
    have hpl : pre.length < q := by
      have := congrArg List.length hpost
      simp [hlenE] at this
      omega
    obtain ⟨xn, ⟨xb, xv, xd, xt', xi, xa, xl, xc⟩, yv, yd, yt, xfm, xto⟩ := xt
    dsimp only at e1 e2 e3 e4 e5 e6 g1 g2 g3 g4 g5 g6 hsl
    subst e1 e2 e3 e4 e5 e6 g1 g2 g3 g4 g5 g6
    have hsz := (Array.getElem?_eq_some_iff.1 hsb).1
    have hB0W : Below w0.heap.size w0 W := ((HW0.out.trans (low5.mono hw0s)).trans (hK5.belowB (by omega) (fun k h => h.elim (fun h => (HX.out k h).1) (fun h => by omega))))
    have hSL : Sl W W.heap.size 5 xa p.y.L.length xc (stC p.y.L) := hsl.below hB0W
    have hbF : Blk W (w.heap.size + 1) 76 #[.func (.func f) #[] lb] := (hK5.block _ (by omega) (fun h => h.elim (fun h => by have := (HX.out _ h).2; omega) (fun h => by omega))).trans HBF.out
    have hln : p.y.L.length ≤ 1000000 := HST.out _ (tmPL_y P 0 0 false false 0 p (List.mem_of_getElem? hTP))
    have y1 := hq.cell 1
    have y2 := hq.cell 2
    have y3 := hq.cell 3
    have y4 := hq.cell 4
    have y5 := hq.cell 5
    have y6 := hq.cell 6
    simp at y1 y2 y3 y4 y5 y6
    have HI0 := Lib.hid (And.intro hQ (And.intro hrow (And.intro hns (And.intro hEl (And.intro hC (And.intro hN (And.intro hK5 (And.intro hTP (And.intro hsb hq)))))))))
    have HMEM := Lib.hid (List.mem_of_getElem? hTP)
    have HRS := Lib.hid hRs
    have HBFW := Lib.hid hbF
    have HSL := Lib.hid hSL
    clear hQ hrow hns hEl hC hN hRs hK5 hTP hsb hpost hsl hSL hbF hB0W
    gi_wp2_with (refine ⟨trivial, ?_⟩; gi_at_call 65; refine (callsIn_wide.2 (cloneEvent_any _ _ _ _ _ _ _ _ _ W HSL.out hln)).mono ?_; rintro e W1 ⟨A1, c1, rfl, hown1, hb1⟩; have hq1 := hq.below hb1; have g1 := hq1.frozen 1; have g2 := hq1.frozen 2; have g3 := hq1.frozen 3; have g4 := hq1.frozen 4; have g5 := hq1.frozen 5; have g6 := hq1.frozen 6; have u1 := hq1.cell 1; have u2 := hq1.cell 2; have u3 := hq1.cell 3; have u4 := hq1.cell 4; have u5 := hq1.cell 5; have u6 := hq1.cell 6; simp at u1 u2 u3 u4 u5 u6; have HB1W := Lib.hid (And.intro hown1 (And.intro hb1 hq1)); clear hown1 hb1 hq1)
    have hq2 := ((((((HB1W.out.2.2.set_ 1 (.bool p.y.bar)).set_ 2 (.int .i64 p.y.v)).set_ 3 (.bool p.y.d)).set_ 4 (.bool p.y.t)).set_ 5 (.bool p.y.tie)).set_ 6 (.slice A1 p.y.L.length c1))
    have hk2 : Kx (fun k => k = bq) W.heap.size W ((((((W1.setCell ⟨bq, 1, none⟩ (.bool p.y.bar)).setCell ⟨bq, 2, none⟩ (.int .i64 p.y.v)).setCell ⟨bq, 3, none⟩ (.bool p.y.d)).setCell ⟨bq, 4, none⟩ (.bool p.y.t)).setCell ⟨bq, 5, none⟩ (.bool p.y.tie)).setCell ⟨bq, 6, none⟩ (.slice A1 p.y.L.length c1)) :=
      ((((((Kx.of_below (x := fun k => k = bq) HB1W.out.2.1).setBlk (.inr rfl) HB1W.out.2.2 _ _).setBlk (.inr rfl) (HB1W.out.2.2.set_ 1 _) _ _).setBlk (.inr rfl) ((HB1W.out.2.2.set_ 1 _).set_ 2 _) _ _).setBlk (.inr rfl) (((HB1W.out.2.2.set_ 1 _).set_ 2 _).set_ 3 _) _ _).setBlk (.inr rfl) ((((HB1W.out.2.2.set_ 1 _).set_ 2 _).set_ 3 _).set_ 4 _) _ _).setBlk (.inr rfl) (((((HB1W.out.2.2.set_ 1 _).set_ 2 _).set_ 3 _).set_ 4 _).set_ 5 _) _ _
    have ho2 : Ow ((((((W1.setCell ⟨bq, 1, none⟩ (.bool p.y.bar)).setCell ⟨bq, 2, none⟩ (.int .i64 p.y.v)).setCell ⟨bq, 3, none⟩ (.bool p.y.d)).setCell ⟨bq, 4, none⟩ (.bool p.y.t)).setCell ⟨bq, 5, none⟩ (.bool p.y.tie)).setCell ⟨bq, 6, none⟩ (.slice A1 p.y.L.length c1)) W.heap.size 62 5 A1 p.y.L.length c1 (stC p.y.L) :=
      (((((HB1W.out.1.other (by omega) _ _).other (by omega) _ _).other (by omega) _ _).other (by omega) _ _).other (by omega) _ _).other (by omega) _ _
    obtain ⟨W2, hW2⟩ : ∃ W2, ((((((W1.setCell ⟨bq, 1, none⟩ (.bool p.y.bar)).setCell ⟨bq, 2, none⟩ (.int .i64 p.y.v)).setCell ⟨bq, 3, none⟩ (.bool p.y.d)).setCell ⟨bq, 4, none⟩ (.bool p.y.t)).setCell ⟨bq, 5, none⟩ (.bool p.y.tie)).setCell ⟨bq, 6, none⟩ (.slice A1 p.y.L.length c1)) = W2 := ⟨_, rfl⟩
    rw [hW2] at hq2 hk2 ho2 ⊢
    clear hW2 y1 y2 y3 y4 y5 y6 u1 u2 u3 u4 u5 u6 g1 g2 g3 g4 g5 g6
    simp at hq2
    have HQ2 := Lib.hid hq2
    have HK2 := Lib.hid hk2
    have HO2W := Lib.hid ho2
    clear hq2 hk2 ho2
    obtain ⟨⟨s', zb, zv, zd, zt, zi, zL⟩, hz⟩ : ∃ sz : σ × EvP, st (rwO st s0 ((tpL P).take pre.length)).2 p = sz := ⟨_, rfl⟩
    have hBw2 : Below w.heap.size W W2 := HK2.out.belowB (by have := low5.size; omega) (fun k h => by have := low5.size; omega)
    have HKX : Hid (Kx x w.heap.size w W2.drew) := by
      have h1 : Kx x w.heap.size w W := (Kx.of_below low5).trans (HI0.out.2.2.2.2.2.2.1.mono low5.size (fun k hk h => h.elim id (fun e => by omega)))
      exact (h1.trans (HK2.out.mono (by have := low5.size; omega) (fun k hk h => by have := low5.size; omega))).drew
    have HC4 := HF.out (rwO st s0 ((tpL P).take pre.length)).2 p A1 c1 W.heap.size W2.drew HMEM.out (HR.out _ _ _ HRS.out hBw2.drew) HKX.out (by have := low5.size; omega) HK2.out.size (HO2W.out.blk (fun g cs h => h))
    rw [hz] at HC4
    replace HC4 := Lib.hid HC4
    have HZ := Lib.hid hz
    clear hz
    have hzq : w1.heap.size ≠ bq := by omega
    have hs0 : RwS w bq f lb p A1 c1 W2.drew := ⟨(HK2.out.block _ (by have := low5.size; omega) (by have := low5.size; omega)).trans HBFW.out, HQ2.out⟩
    have hqX : Blk W2.drew w1.heap.size 28 #[.slice B n d, .slice B' m d', v] := (HK2.out.block _ (by have := low5.size; omega) hzq).trans HI0.out.1
    have hzX : W.heap.size ≤ W2.heap.size := HK2.out.size
    have HK3 : Hid (∀ W3, Kx x W2.drew.heap.size W2.drew W3 → RwS w bq f lb p A1 c1 W3 ∧ Blk W3 w1.heap.size 28 #[.slice B n d, .slice B' m d', v]) := fun W3 h => by
      have hb : ∀ g T cs, w.heap.size ≤ g → Blk W2.drew g T cs → Blk W3 g T cs := fun g T cs hg hc => (h.block g hc.lt (fun e => by have := (HX.out g e).2; omega)).trans hc
      exact ⟨⟨hb _ _ _ (by omega) hs0.1, hb _ _ _ (by have := low5.size; omega) hs0.2⟩, hb _ _ _ (by omega) hqX⟩
    have HROW : Hid (∀ W3 ob, Kx x W2.drew.heap.size W2.drew W3 → (W3.alloc ob).ownsRow W5.heap.size 51 6 v pre.length (evC E')) := fun W3 ob h => by
      refine ownsRow_heap HI0.out.2.1 (fun g hg => ?_)
      have hg2 : W5.heap.size ≤ g ∧ g < W.heap.size ∧ g ≠ bq := by
        have hne := blk_apart HI0.out.2.2.2.2.2.2.2.2.2 HI0.out.2.1 (by decide)
        rcases HI0.out.2.1.2 with ⟨h1, _⟩ | ⟨g', cap, cur, h1, h2, h3, _⟩
        · rw [h1] at hg; cases hg
        · rw [h1] at hg
          injection hg with hg
          subst hg
          exact ⟨h2, Blk.lt h3, fun e => hne (by rw [h1, ← e]; rfl)⟩
      have hl5 := low5.size
      exact ((ba W3 ob).block g (by have := h.size; simp at this; omega)).trans ((h.block g (by simp; omega) (fun e => by have := (HX.out g e).2; omega)).trans (HK2.out.block g hg2.2.1 hg2.2.2))
    have HZ3 : Hid (∀ W3 ob, Kx x W2.drew.heap.size W2.drew W3 → W5.heap.size ≤ (W3.alloc ob).heap.size) := fun W3 ob h => by
      have h1 := h.size
      have h2 := HI0.out.2.2.2.2.2.2.1.size
      simp at h1 ⊢
      omega
    have HNE : Hid (w.heap.size + 1 ≠ w1.heap.size ∧ bq ≠ w1.heap.size) := ⟨by omega, fun e => hzq e.symm⟩
    have hml : pre.length + 1 ≤ maxLen := Nat.le_trans (show pre.length + 1 ≤ 1000002 by omega) (by decide)
    have HONE : Hid (∀ (sa : Option Addr) (sc : Nat), ∀ u ∈ [Value.bool zb, .int .i64 zv, .bool zd, .bool zt, .bool zi, .slice sa zL.length sc], u.oneCell' = true) := fun sa sc u hu => by
      simp at hu
      (repeat' (rcases hu with rfl | hu)) <;> first | rfl | (subst hu; rfl)
    have c2 := hqX.cell 2
    simp at c2
    have hmix : Tryd.prog.follows .mixedOrders = true := by kernel_rfl
    refine wpIn_round_held (S := RwS w bq f lb p A1 c1) hmix (by rfl) ?hno hs0 ?_
    case hno => exact fun ⟨_, _, h⟩ => (show False from h)
    intro hHeld
    change wpAnyH _ _ _ _ _ 9 #[false, false, false, false, false, false, false, false, false] _ _
    refine wpAnyH_take (i := 0) (v := ?_) rfl (by kernel_rfl) (by kernel_rfl) (by kernel_rfl) (fun _ _ _ h => h) (Or.inl ⟨by rfl, ?_⟩) (by assumption) ?_
    rotate_left
    · intro w hSw
      skip
      go_simp
      try with_reducible rfl
    (try simp only [Act.put, List.getElem_toArray, List.getElem_cons_zero, List.setIfInBounds_toArray, List.set_cons_zero, List.set_cons_succ])
    refine wpAnyH_take (i := 2) (v := ?_) rfl (by kernel_rfl) (by kernel_rfl) (by kernel_rfl) (fun _ _ _ h => h) (Or.inl ⟨by rfl, ?_⟩) (by assumption) ?_
    rotate_left
    · intro w hSw
      have f0 := hSw.1.cell 0
      simp at f0
      go_simp
      try with_reducible rfl
    (try simp only [Act.put, List.getElem_toArray, List.getElem_cons_succ, List.getElem_cons_zero, List.setIfInBounds_toArray, List.set_cons_zero, List.set_cons_succ])
    refine wpAnyH_take (i := 3) (v := ?_) rfl (by kernel_rfl) (by kernel_rfl) (by kernel_rfl) (fun _ _ _ h => h) (Or.inl ⟨by rfl, ?_⟩) (by assumption) ?_
    rotate_left
    · intro w hSw
      have t0 := hSw.2.cell 0
      have t1 := hSw.2.cell 1
      have t2 := hSw.2.cell 2
      have t3 := hSw.2.cell 3
      have t4 := hSw.2.cell 4
      have t5 := hSw.2.cell 5
      have t6 := hSw.2.cell 6
      have t7 := hSw.2.cell 7
      have t8 := hSw.2.cell 8
      have t9 := hSw.2.cell 9
      have t10 := hSw.2.cell 10
      have t11 := hSw.2.cell 11
      simp at t0 t1 t2 t3 t4 t5 t6 t7 t8 t9 t10 t11
      go_simp
      try with_reducible rfl
    (try simp only [Act.put, List.getElem_toArray, List.getElem_cons_succ, List.getElem_cons_zero, List.setIfInBounds_toArray, List.set_cons_zero, List.set_cons_succ])
    refine wpAnyH_ready (rs := [1, 4]) (by kernel_rfl) (by simp) ?_
    refine AllReadyH.cons rfl (fun K hK => ?_) ?_
    · go_simp
      refine hK.out _ _ (hs0) (fun hHeld => ?_)
      clear hK K
      (try simp only [List.setIfInBounds_toArray, List.set_cons_zero, List.set_cons_succ])
      refine wpAnyH_ready (rs := [4]) (by kernel_rfl) (by simp) ?_
      refine AllReadyH.cons rfl (fun K hK => ?_) ?_
      · refine step_call_value rfl (.tmp 20) (.tmp 21) #[75] rfl f lb rfl (tmPV p A1 c1) rfl heg _ HC4.out ?_
        rintro e W3 ⟨sa, sc, rfl, hO, h3, hR3⟩
        refine ⟨_, rfl, ?_⟩
        obtain ⟨hs3, hq3⟩ := HK3.out W3 h3
        have c2 := hq3.cell 2
        simp at c2
        have HO := Lib.hid (And.intro hO (And.intro h3 hR3))
        have HQ3 := Lib.hid hq3
        clear hO h3 hR3
        refine hK.out _ _ (hs3) (fun hHeld => ?_)
        clear hK K
        (try simp only [List.setIfInBounds_toArray, List.set_cons_zero, List.set_cons_succ])
        refine wpAnyH_ready (rs := [5]) (by kernel_rfl) (by simp) ?_
        refine AllReadyH.cons rfl (fun K hK => ?_) ?_
        · go_simp
          refine hK.out _ _ (⟨hs3.1.below (ba _ _), hs3.2.below (ba _ _)⟩) (fun hHeld => ?_)
          clear hK K
          (try simp only [List.setIfInBounds_toArray, List.set_cons_zero, List.set_cons_succ])
          refine wpAnyH_ready (rs := [6]) (by kernel_rfl) (by simp) ?_
          refine AllReadyH.cons rfl (fun K hK => ?_) ?_
          · refine step_append_lies _ rfl (.tmp 19) (.tmp 23) 26 rfl W5.heap.size 51 i0 _ 6 56 Tryd.underlying26 hi hi0 hi1 hi2 rfl (by decide) v pre.length (evC E') rfl (HROW.out W3 _ HO.out.2.1) ⟨W3.heap.size, 0, none⟩ 1 1 [.bool zb, .int .i64 zv, .bool zd, .bool zt, .bool zi, .slice sa zL.length sc] rfl rfl (World.news_of_block (heap_alloc_new W3 _)) (HONE.out sa sc) (by omega) hml (by omega) (HZ3.out W3 _ HO.out.2.1) _ rfl ?_
            intro g cap W6 hown hgrow _ _
            have hs6 : RwS w bq f lb p A1 c1 W6 := ⟨(grow_blk (HROW.out W3 _ HO.out.2.1) hgrow (hs3.1.below (ba _ _)) (by decide)), (grow_blk (HROW.out W3 _ HO.out.2.1) hgrow (hs3.2.below (ba _ _)) (by decide))⟩
            have hq6 := grow_blk (HROW.out W3 _ HO.out.2.1) hgrow (HQ3.out.below (ba _ _)) (by decide)
            have d2 := hq6.cell 2
            have f2 := hq6.frozen 2
            simp at d2
            have HEND := Lib.hid (And.intro hown hgrow)
            clear hown hgrow
            refine hK.out _ _ (hs6) (fun hHeld => ?_)
            clear hK K
            (try simp only [List.setIfInBounds_toArray, List.set_cons_zero, List.set_cons_succ])
            refine wpAnyH_take (i := 7) (v := ?_) rfl (by kernel_rfl) (by kernel_rfl) (by kernel_rfl) (fun _ _ _ h => h) (Or.inl ⟨by rfl, ?_⟩) (by assumption) ?_
            rotate_left
            · intro w hSw
              skip
              go_simp
              try with_reducible rfl
            (try simp only [Act.put, List.getElem_toArray, List.getElem_cons_succ, List.getElem_cons_zero, List.setIfInBounds_toArray, List.set_cons_zero, List.set_cons_succ])
            refine wpAnyH_ready (rs := [8]) (by kernel_rfl) (by simp) ?_
            refine AllReadyH.cons rfl (fun K hK => ?_) ?_
            · go_simp
              refine hK.out _ _ (⟨hs6.1.setOther HNE.out.1 _ _, hs6.2.setOther HNE.out.2 _ _⟩) (fun hHeld => ?_)
              clear hK K
              (try simp only [List.setIfInBounds_toArray, List.set_cons_zero, List.set_cons_succ])
              refine wpAnyH_done (by kernel_rfl) ?_ _
              exact rw_close HR.out (by omega) (by omega) (by omega) (by omega) hw0s HX.out HI0.out.1 HI0.out.2.1 HI0.out.2.2.1 HI0.out.2.2.2.1 HI0.out.2.2.2.2.1 HI0.out.2.2.2.2.2.1 HI0.out.2.2.2.2.2.2.1 hzW HI0.out.2.2.2.2.2.2.2.1 HZ.out HI0.out.2.2.2.2.2.2.2.2.1 HI0.out.2.2.2.2.2.2.2.2.2 HK2.out.drew HO.out.2.1 HO.out.1 HO.out.2.2 HEND.out.1 HEND.out.2 { tmps := #[], defers := [] }
            exact AllReadyH.nil
          exact AllReadyH.nil
        exact AllReadyH.nil
      exact AllReadyH.nil
    refine AllReadyH.cons rfl (fun K hK => ?_) ?_
    · refine step_call_value rfl (.tmp 20) (.tmp 21) #[75] rfl f lb rfl (tmPV p A1 c1) rfl heg _ HC4.out ?_
      rintro e W3 ⟨sa, sc, rfl, hO, h3, hR3⟩
      refine ⟨_, rfl, ?_⟩
      obtain ⟨hs3, hq3⟩ := HK3.out W3 h3
      have c2 := hq3.cell 2
      simp at c2
      have HO := Lib.hid (And.intro hO (And.intro h3 hR3))
      have HQ3 := Lib.hid hq3
      clear hO h3 hR3
      refine hK.out _ _ (hs3) (fun hHeld => ?_)
      clear hK K
      (try simp only [List.setIfInBounds_toArray, List.set_cons_zero, List.set_cons_succ])
      refine wpAnyH_ready (rs := [1, 5]) (by kernel_rfl) (by simp) ?_
      refine AllReadyH.cons rfl (fun K hK => ?_) ?_
      · go_simp
        refine hK.out _ _ (hs3) (fun hHeld => ?_)
        clear hK K
        (try simp only [List.setIfInBounds_toArray, List.set_cons_zero, List.set_cons_succ])
        refine wpAnyH_ready (rs := [5]) (by kernel_rfl) (by simp) ?_
        refine AllReadyH.cons rfl (fun K hK => ?_) ?_
        · go_simp
          refine hK.out _ _ (⟨hs3.1.below (ba _ _), hs3.2.below (ba _ _)⟩) (fun hHeld => ?_)
          clear hK K
          (try simp only [List.setIfInBounds_toArray, List.set_cons_zero, List.set_cons_succ])
          refine wpAnyH_ready (rs := [6]) (by kernel_rfl) (by simp) ?_
          refine AllReadyH.cons rfl (fun K hK => ?_) ?_
          · refine step_append_lies _ rfl (.tmp 19) (.tmp 23) 26 rfl W5.heap.size 51 i0 _ 6 56 Tryd.underlying26 hi hi0 hi1 hi2 rfl (by decide) v pre.length (evC E') rfl (HROW.out W3 _ HO.out.2.1) ⟨W3.heap.size, 0, none⟩ 1 1 [.bool zb, .int .i64 zv, .bool zd, .bool zt, .bool zi, .slice sa zL.length sc] rfl rfl (World.news_of_block (heap_alloc_new W3 _)) (HONE.out sa sc) (by omega) hml (by omega) (HZ3.out W3 _ HO.out.2.1) _ rfl ?_
            intro g cap W6 hown hgrow _ _
            have hs6 : RwS w bq f lb p A1 c1 W6 := ⟨(grow_blk (HROW.out W3 _ HO.out.2.1) hgrow (hs3.1.below (ba _ _)) (by decide)), (grow_blk (HROW.out W3 _ HO.out.2.1) hgrow (hs3.2.below (ba _ _)) (by decide))⟩
            have hq6 := grow_blk (HROW.out W3 _ HO.out.2.1) hgrow (HQ3.out.below (ba _ _)) (by decide)
            have d2 := hq6.cell 2
            have f2 := hq6.frozen 2
            simp at d2
            have HEND := Lib.hid (And.intro hown hgrow)
            clear hown hgrow
            refine hK.out _ _ (hs6) (fun hHeld => ?_)
            clear hK K
            (try simp only [List.setIfInBounds_toArray, List.set_cons_zero, List.set_cons_succ])
            refine wpAnyH_take (i := 7) (v := ?_) rfl (by kernel_rfl) (by kernel_rfl) (by kernel_rfl) (fun _ _ _ h => h) (Or.inl ⟨by rfl, ?_⟩) (by assumption) ?_
            rotate_left
            · intro w hSw
              skip
              go_simp
              try with_reducible rfl
            (try simp only [Act.put, List.getElem_toArray, List.getElem_cons_succ, List.getElem_cons_zero, List.setIfInBounds_toArray, List.set_cons_zero, List.set_cons_succ])
            refine wpAnyH_ready (rs := [8]) (by kernel_rfl) (by simp) ?_
            refine AllReadyH.cons rfl (fun K hK => ?_) ?_
            · go_simp
              refine hK.out _ _ (⟨hs6.1.setOther HNE.out.1 _ _, hs6.2.setOther HNE.out.2 _ _⟩) (fun hHeld => ?_)
              clear hK K
              (try simp only [List.setIfInBounds_toArray, List.set_cons_zero, List.set_cons_succ])
              refine wpAnyH_done (by kernel_rfl) ?_ _
              exact rw_close HR.out (by omega) (by omega) (by omega) (by omega) hw0s HX.out HI0.out.1 HI0.out.2.1 HI0.out.2.2.1 HI0.out.2.2.2.1 HI0.out.2.2.2.2.1 HI0.out.2.2.2.2.2.1 HI0.out.2.2.2.2.2.2.1 hzW HI0.out.2.2.2.2.2.2.2.1 HZ.out HI0.out.2.2.2.2.2.2.2.2.1 HI0.out.2.2.2.2.2.2.2.2.2 HK2.out.drew HO.out.2.1 HO.out.1 HO.out.2.2 HEND.out.1 HEND.out.2 { tmps := #[], defers := [] }
            exact AllReadyH.nil
          exact AllReadyH.nil
        exact AllReadyH.nil
      refine AllReadyH.cons rfl (fun K hK => ?_) ?_
      · go_simp
        refine hK.out _ _ (⟨hs3.1.below (ba _ _), hs3.2.below (ba _ _)⟩) (fun hHeld => ?_)
        clear hK K
        (try simp only [List.setIfInBounds_toArray, List.set_cons_zero, List.set_cons_succ])
        have d2 := (HQ3.out.below (ba W3 (.cells #[.bool zb, .int .i64 zv, .bool zd, .bool zt, .bool zi, .slice sa zL.length sc] 51))).cell 2
        simp at d2
        refine wpAnyH_ready (rs := [1]) (by kernel_rfl) (by simp) ?_
        refine AllReadyH.cons rfl (fun K hK => ?_) ?_
        · go_simp
          refine hK.out _ _ (⟨hs3.1.below (ba _ _), hs3.2.below (ba _ _)⟩) (fun hHeld => ?_)
          clear hK K
          (try simp only [List.setIfInBounds_toArray, List.set_cons_zero, List.set_cons_succ])
          refine wpAnyH_ready (rs := [6]) (by kernel_rfl) (by simp) ?_
          refine AllReadyH.cons rfl (fun K hK => ?_) ?_
          · refine step_append_lies _ rfl (.tmp 19) (.tmp 23) 26 rfl W5.heap.size 51 i0 _ 6 56 Tryd.underlying26 hi hi0 hi1 hi2 rfl (by decide) v pre.length (evC E') rfl (HROW.out W3 _ HO.out.2.1) ⟨W3.heap.size, 0, none⟩ 1 1 [.bool zb, .int .i64 zv, .bool zd, .bool zt, .bool zi, .slice sa zL.length sc] rfl rfl (World.news_of_block (heap_alloc_new W3 _)) (HONE.out sa sc) (by omega) hml (by omega) (HZ3.out W3 _ HO.out.2.1) _ rfl ?_
            intro g cap W6 hown hgrow _ _
            have hs6 : RwS w bq f lb p A1 c1 W6 := ⟨(grow_blk (HROW.out W3 _ HO.out.2.1) hgrow (hs3.1.below (ba _ _)) (by decide)), (grow_blk (HROW.out W3 _ HO.out.2.1) hgrow (hs3.2.below (ba _ _)) (by decide))⟩
            have hq6 := grow_blk (HROW.out W3 _ HO.out.2.1) hgrow (HQ3.out.below (ba _ _)) (by decide)
            have d2 := hq6.cell 2
            have f2 := hq6.frozen 2
            simp at d2
            have HEND := Lib.hid (And.intro hown hgrow)
            clear hown hgrow
            refine hK.out _ _ (hs6) (fun hHeld => ?_)
            clear hK K
            (try simp only [List.setIfInBounds_toArray, List.set_cons_zero, List.set_cons_succ])
            refine wpAnyH_take (i := 7) (v := ?_) rfl (by kernel_rfl) (by kernel_rfl) (by kernel_rfl) (fun _ _ _ h => h) (Or.inl ⟨by rfl, ?_⟩) (by assumption) ?_
            rotate_left
            · intro w hSw
              skip
              go_simp
              try with_reducible rfl
            (try simp only [Act.put, List.getElem_toArray, List.getElem_cons_succ, List.getElem_cons_zero, List.setIfInBounds_toArray, List.set_cons_zero, List.set_cons_succ])
            refine wpAnyH_ready (rs := [8]) (by kernel_rfl) (by simp) ?_
            refine AllReadyH.cons rfl (fun K hK => ?_) ?_
            · go_simp
              refine hK.out _ _ (⟨hs6.1.setOther HNE.out.1 _ _, hs6.2.setOther HNE.out.2 _ _⟩) (fun hHeld => ?_)
              clear hK K
              (try simp only [List.setIfInBounds_toArray, List.set_cons_zero, List.set_cons_succ])
              refine wpAnyH_done (by kernel_rfl) ?_ _
              exact rw_close HR.out (by omega) (by omega) (by omega) (by omega) hw0s HX.out HI0.out.1 HI0.out.2.1 HI0.out.2.2.1 HI0.out.2.2.2.1 HI0.out.2.2.2.2.1 HI0.out.2.2.2.2.2.1 HI0.out.2.2.2.2.2.2.1 hzW HI0.out.2.2.2.2.2.2.2.1 HZ.out HI0.out.2.2.2.2.2.2.2.2.1 HI0.out.2.2.2.2.2.2.2.2.2 HK2.out.drew HO.out.2.1 HO.out.1 HO.out.2.2 HEND.out.1 HEND.out.2 { tmps := #[], defers := [] }
            exact AllReadyH.nil
          exact AllReadyH.nil
        exact AllReadyH.nil
      exact AllReadyH.nil
    exact AllReadyH.nil
  case done =>
    rintro D W hD ⟨v, E', hQ, hrow, _, hEl, hC, _, hRs, hK5⟩ hK
    obtain ⟨B2, d2, rfl⟩ := own_slice hrow
    rw [hlenE] at hrow
    have hnx : ∀ k, w.heap.size ≤ k → k ≠ w1.heap.size → ¬ (x k ∨ k = w1.heap.size) := fun k h1 h2 h => h.elim (fun h => by have := (HX.out _ h).2; omega) h2
    have hBR : Blk W (w.heap.size + 2) 28 #[.slice none 0 0, .slice none 0 0, .slice none 0 0] := (hK5.block _ (by omega) (hnx _ (by omega) (by omega))).trans HBR.out
    have q0 := hQ.cell 0
    have q1 := hQ.cell 1
    have q2 := hQ.cell 2
    have r0 := hBR.cell 0
    have r1 := hBR.cell 1
    have r2 := hBR.cell 2
    have g0 := hBR.frozen 0
    have g1 := hBR.frozen 1
    have g2 := hBR.frozen 2
    simp at q0 q1 q2 r0 r1 r2
    have hD2 : D ≠ w.heap.size + 2 := by omega
    gi_wp2
    have hK' : (((W.setCell ⟨w.heap.size + 1 + 1, 0, none⟩ (.slice B n d)).setCell ⟨w.heap.size + 1 + 1, 1, none⟩ (.slice B' m d')).setCell ⟨w.heap.size + 1 + 1, 2, none⟩ (.slice B2 q d2)).heap[D]? = some (.deferred (some [])) := by
      rw [Below.heap_setCell _ _ _ _ hD2, Below.heap_setCell _ _ _ _ hD2, Below.heap_setCell _ _ _ _ hD2]
      exact hK
    refine ⟨by simp, .inl ⟨_, _, rfl, run_takeDeferred hK', ?_⟩⟩
    have hR3 := blk_put (l := D) (o' := .deferred none) (((hBR.set_ 0 (.slice B n d)).set_ 1 (.slice B' m d')).set_ 2 (.slice B2 q d2)) hK' rfl
    have z0 := hR3.cell 0
    have z1 := hR3.cell 1
    have z2 := hR3.cell 2
    simp at z0 z1 z2
    have hlow : Below w.heap.size W ((((W.setCell ⟨w.heap.size + 1 + 1, 0, none⟩ (.slice B n d)).setCell ⟨w.heap.size + 1 + 1, 1, none⟩ (.slice B' m d')).setCell ⟨w.heap.size + 1 + 1, 2, none⟩ (.slice B2 q d2)).putObj D (.deferred none)) := by
      have hb := (((Below.refl w.heap.size W).setCell (p := ⟨w.heap.size + 1 + 1, 0, none⟩) (by simp; omega) (.slice B n d)).setCell (p := ⟨w.heap.size + 1 + 1, 1, none⟩) (by simp; omega) (.slice B' m d')).setCell (p := ⟨w.heap.size + 1 + 1, 2, none⟩) (by simp; omega) (.slice B2 q d2)
      exact hb.grown (grownBy_putObj' _ D _) (by have := hK5.size; have := low5.size; simp; omega) (fun k e => by cases e; omega)
    have hkW : ∀ (g : Nat) (T : TypeId) (cs : Array Value), g ≠ w.heap.size + 2 → Blk W g T cs → Blk ((((W.setCell ⟨w.heap.size + 1 + 1, 0, none⟩ (.slice B n d)).setCell ⟨w.heap.size + 1 + 1, 1, none⟩ (.slice B' m d')).setCell ⟨w.heap.size + 1 + 1, 2, none⟩ (.slice B2 q d2)).putObj D (.deferred none)) g T cs := fun g T cs hg hb =>
      blk_put (((hb.setOther hg _ _).setOther hg _ _).setOther hg _ _) hK' rfl
    refine ⟨pcV B n d B' m d' B2 q d2, ?_, ?_⟩
    · simp [results, Tryd.results36, go_sem, z0, z1, z2]
    · have hTP : (tpL P).take (tmL E 0 0 false false 0).length = tpL P := List.take_of_length_le (by rw [tmPL_len, hlenE, HQ.out]; exact Nat.le_refl _)
      rw [hTP] at hC hRs
      have hP0 := HPI.out w (Below.refl _ _)
      have hkO : ∀ (g : Nat) (T : TypeId) (cs : Array Value), w.heap.size + 3 ≤ g → T ≠ 28 → Blk W5 g T cs → Blk W g T cs := fun g T cs h1 h2 h3 => (hK5.block g h3.lt (hnx g (by omega) (h3.ne bQ h2))).trans h3
      have l5 := low5.size
      refine ⟨B, d, B', d', B2, d2, rfl, ⟨?_, ?_, hP0.hn, hP0.hm, ?_, E', ?_, ?_, ?_⟩, HR.out _ _ _ hRs hlow, ?_⟩
      · exact (HOC.out.blkB (fun g cs hg hb => hkW g _ _ (by omega) (hkO g _ _ hg (by decide) hb))).more (by omega)
      · exact (HOS.out.blkB (fun g cs hg hb => hkW g _ _ (by omega) (hkO g _ _ hg (by decide) hb))).more (by omega)
      · rw [rwO_len, tmPL_len]; exact HQ.out
      · rw [rwO_len, tmPL_len, hEl, hlenE]; exact HQ.out
      · exact (hC.blkB (fun g cs hg hb => hkW g _ _ (by omega) hb)).more l5
      · exact ((Ow.of_own hrow).blkB (fun g cs hg hb => hkW g _ _ (by omega) hb)).more l5
      · have h1 : Kx x w.heap.size w W := (Kx.of_below low5).trans (hK5.mono low5.size (fun k hk h => h.elim id (fun e => by omega)))
        exact ⟨hlow.os.trans h1.os, hlow.tape.trans h1.tape, hlow.output.trans h1.output, Nat.le_trans h1.size hlow.size, fun k hk hn => (hlow.block k hk).trans (h1.block k hk hn), fun k o hk ho => (hlow.block k (Array.getElem?_eq_some_iff.1 hk).1).trans (h1.oth k o hk ho)⟩

end Go.Proofs.YtdhjigaocamglaaDoor
