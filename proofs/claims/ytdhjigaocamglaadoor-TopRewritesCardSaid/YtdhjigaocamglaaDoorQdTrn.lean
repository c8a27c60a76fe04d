/- Pieces: the reference's Terse. -/
import Derived.Test.YtdhjigaocamglaaDoorQdRr2
import Derived.Test.YtdhjigaocamglaaDoorQdSameI2
import Derived.Test.YtdhjigaocamglaaDoorQdRw8
import Derived.Test.YtdhjigaocamglaaDoorQdWorks2
namespace Go.Proofs.YtdhjigaocamglaaDoor
open Go Go.RowKit

def sqE (a b : Sg) : Bool := a.v == b.v && (a.d == b.d && a.t == b.t)
theorem sqE_eq {a b : Sg} (h : sqE a b = true) : a.v = b.v ∧ a.d = b.d ∧ a.t = b.t := by simpa [sqE] using h
/-- The signs of a terse piece, out of those in force. -/
def terG : Bool → Sg → List Sg → List Sg
  | _, _, [] => []
  | b, pv, s :: r => (if (b && sqE s pv) = true then s0g else s) :: terG true s r
theorem RpR.drewN {w : World} {b qb : Nat} {u0 u1 u2 : Value} {A : Option Addr} {n c : Nat} {A' : Option Addr} {m c' : Nat} {A2 : Option Addr} {q cq : Nat} {C : List Cr} {S : List Int} {P : List EvP} {Bf : Option Addr} {df : Nat} {F : List Sg} {wr : World}
    (h : RpR w b qb u0 u1 u2 A n c A' m c' A2 q cq C S P Bf df F wr) (k : Nat) : RpR w b qb u0 u1 u2 A n c A' m c' A2 q cq C S P Bf df F (wr.drewN k) := by
  obtain ⟨E, hE⟩ := h.pc
  have hb : Below wr.heap.size wr (wr.drewN k) := bd (Below.refl _ _) k
  exact ⟨⟨E, hE.below hb⟩, h.fs.below hb, h.qx.below hb, h.rs.below hb, bt h.lo hb⟩

end Go.Proofs.YtdhjigaocamglaaDoor

/- Pieces, plain: Plain and Terse change the signs alone and undo each other. -/
namespace Go.Proofs.YtdhjigaocamglaaDoor
open Go Go.RowKit

/-- Each sign is right; one that is none has the value 0. -/
def SgR (P : List EvP) : Prop := ∀ y ∈ P, wrB y.v y.d y.t = !decide (y.v = 0) ∧ (y.v ≠ 0 → okB y.v y.d y.t = true)
theorem sgr_of {C : List Cr} {S : List Int} {P : List EvP} (h : pcErr C S P = 0) : SgR P := fun y hy => by
  obtain ⟨j, hj⟩ := List.mem_iff_getElem?.1 hy
  have hs := ((pcErr_ok h).2.2 j _ hj).1
  refine ⟨sgn_wr hs, fun hv => ?_⟩
  have hw := sgn_wr hs
  unfold sgnB at hs
  rw [hw] at hs
  cases hk : okB y.v y.d y.t with
  | true => rfl
  | false => rw [hk] at hs; simp [hv] at hs
theorem sgr_head {C : List Cr} {S : List Int} {y : EvP} {P : List EvP} (h : pcErr C S (y :: P) = 0) : y.v ≠ 0 := by
  have hs := ((pcErr_ok h).2.2 0 y rfl).1
  intro e
  unfold sgnB at hs
  cases hw : wrB y.v y.d y.t with
  | true => rw [hw] at hs; simp [okB, e] at hs
  | false => rw [hw] at hs; simp at hs
/-! ### What the program's functions make, as lists -/
theorem rwO_plain (X : List TmP) : (rwO plainSt () X).1 = X.map fun p => upS p.y ⟨p.v, p.d, p.t⟩ := by
  have : ∀ (X : List TmP) (o : List EvP), (X.foldl (fun a p => (a.1 ++ [(plainSt a.2 p).2], (plainSt a.2 p).1)) (o, ())).1 = o ++ X.map fun p => upS p.y ⟨p.v, p.d, p.t⟩ := by
    intro X
    induction X with
    | nil => intro o; simp
    | cons p r ih =>
      intro o
      rw [List.foldl_cons]
      show (List.foldl _ (o ++ [(plainSt () p).2], ()) r).1 = _
      rw [ih]
      simp [plainSt, upS]
  unfold rwO
  rw [this]
  simp
theorem tm_plain : ∀ (P : List EvP) (n : Nat) (v : Int) (d t : Bool) (fm : Int), SgR P → (tmPL P n v d t fm).map (fun p => upS p.y ⟨p.v, p.d, p.t⟩) = setG P (frcL ⟨v, d, t⟩ P)
  | [], _, _, _, _, _, _ => rfl
  | y :: P, n, v, d, t, fm, hP => by
    have hw := (hP y List.mem_cons_self).1
    have hP' : SgR P := fun z hz => hP z (List.mem_cons_of_mem _ hz)
    by_cases h0 : y.v = 0
    · have e : sgF y ⟨v, d, t⟩ = ⟨v, d, t⟩ := if_pos h0
      rw [tmPL, if_neg (by rw [hw]; simp [h0]), List.map_cons, tm_plain P _ v d t _ hP', frcL, e]
      rfl
    · have e : sgF y ⟨v, d, t⟩ = ⟨y.v, y.d, y.t⟩ := if_neg h0
      rw [tmPL, if_pos (by rw [hw]; simp [h0]), List.map_cons, tm_plain P _ y.v y.d y.t _ hP', frcL, e]
      rfl
theorem plain_out {P : List EvP} (hP : SgR P) : (rwO plainSt () (tpL P)).1 = setG P (frcL s0g P) := by
  rw [rwO_plain, tm_plain P 0 0 false false 0 hP]
  rfl
theorem terSt_eq (s : Sg) (p : TmP) : terseSt s p = (⟨p.v, p.d, p.t⟩, if sqE ⟨p.v, p.d, p.t⟩ s = true then upS p.y s0g else p.y) := by
  unfold terseSt
  by_cases h : p.v = s.v ∧ p.d = s.d ∧ p.t = s.t
  · rw [if_pos h, if_pos (by simp [sqE, h])]
    rfl
  · rw [if_neg h, if_neg (fun e => h (sqE_eq e))]
theorem tm_terse : ∀ (P : List EvP) (n : Nat) (v : Int) (d t : Bool) (fm : Int) (o : List EvP), SgR P →
    ((tmPL P n v d t fm).foldl (fun a p => (a.1 ++ [(terseSt a.2 p).2], (terseSt a.2 p).1)) (o, (⟨v, d, t⟩ : Sg))).1 = o ++ setG P (terG true ⟨v, d, t⟩ (frcL ⟨v, d, t⟩ P))
  | [], _, _, _, _, _, o, _ => by simp [tmPL, setG]
  | y :: P, n, v, d, t, fm, o, hP => by
    have hw := (hP y List.mem_cons_self).1
    have hP' : SgR P := fun z hz => hP z (List.mem_cons_of_mem _ hz)
    by_cases h0 : y.v = 0
    · have e : sgF y ⟨v, d, t⟩ = ⟨v, d, t⟩ := if_pos h0
      rw [tmPL, if_neg (by rw [hw]; simp [h0]), List.foldl_cons]
      simp only [terSt_eq]
      have hs : sqE ⟨v, d, t⟩ ⟨v, d, t⟩ = true := by simp [sqE]
      have := tm_terse P (n + 1) v d t (fm + tkV v d t) (o ++ [upS y s0g]) hP'
      simp only [terSt_eq] at this
      rw [if_pos hs, this, frcL, e, terG, hs]
      simp [setG]
    · have e : sgF y ⟨v, d, t⟩ = ⟨y.v, y.d, y.t⟩ := if_neg h0
      rw [tmPL, if_pos (by rw [hw]; simp [h0]), List.foldl_cons]
      simp only [terSt_eq]
      by_cases hs : sqE ⟨y.v, y.d, y.t⟩ ⟨v, d, t⟩ = true
      · have := tm_terse P (n + 1) y.v y.d y.t (fm + tkV y.v y.d y.t) (o ++ [upS y s0g]) hP'
        simp only [terSt_eq] at this
        rw [if_pos hs, this, frcL, e, terG, hs]
        simp [setG]
      · have hs' : sqE ⟨y.v, y.d, y.t⟩ ⟨v, d, t⟩ = false := by simpa using hs
        have := tm_terse P (n + 1) y.v y.d y.t (fm + tkV y.v y.d y.t) (o ++ [y]) hP'
        simp only [terSt_eq] at this
        rw [if_neg hs, this, frcL, e, terG, hs']
        simp [setG, upS]
theorem terse_out {C : List Cr} {S : List Int} {P : List EvP} (h : pcErr C S P = 0) : (rwO terseSt s0g (tpL P)).1 = setG P (terG false s0g (frcL s0g P)) := by
  have hR := sgr_of h
  unfold rwO
  cases P with
  | nil => rfl
  | cons y P =>
    have hv := sgr_head h
    have hw := (hR y List.mem_cons_self).1
    have hP' : SgR P := fun z hz => hR z (List.mem_cons_of_mem _ hz)
    have e : sgF y s0g = ⟨y.v, y.d, y.t⟩ := if_neg hv
    have hs : sqE ⟨y.v, y.d, y.t⟩ s0g = false := by simp [sqE, s0g, hv]
    show (List.foldl _ ([], s0g) (tmPL (y :: P) 0 0 false false 0)).1 = _
    rw [tmPL, if_pos (by rw [hw]; simp [hv]), List.foldl_cons]
    simp only [terSt_eq]
    have := tm_terse P (0 + 1) y.v y.d y.t (0 + tkV y.v y.d y.t) ([] ++ [y]) hP'
    simp only [terSt_eq] at this
    rw [if_neg (by rw [hs]; simp), this, frcL, e, terG, hs]
    simp [setG, upS]

/-! ### Signs in force of the results -/
end Go.Proofs.YtdhjigaocamglaaDoor

/- Pieces: Cut of the program, for any piece and numbers. -/
namespace Go.Proofs.YtdhjigaocamglaaDoor
open Go Go.RowKit

/-- A stretch of a slice. -/
theorem Sl.sub {w : World} {B size n c : Nat} {A : Option Addr} {xs : List Value} (h : Sl w B size A n c xs) {f t : Nat} (h1 : f ≤ t) (h2 : t ≤ n) : Sl w B size (if c = f then A else A.map (fun a => a.add (f * size))) (t - f) (c - f) ((xs.drop (f * size)).take ((t - f) * size)) := by
  obtain ⟨hc, hl, hx⟩ := h
  refine ⟨by omega, ?_, fun h0 => ?_⟩
  · rw [List.length_take, List.length_drop, hl, ← Nat.sub_mul]
    exact Nat.min_eq_left (Nat.mul_le_mul_right _ (by omega))
  · obtain ⟨b, off, rfl, hb, hcell⟩ := hx (by omega)
    rw [if_neg (by omega)]
    refine ⟨b, off + f * size, by rw [Option.map_some, Go.WideShapes.add_plain], hb, fun j u hu => ?_⟩
    rw [List.getElem?_take] at hu
    split at hu
    · rw [List.getElem?_drop] at hu
      have := hcell _ _ hu
      rwa [← Nat.add_assoc] at this
    · cases hu
theorem CpE.sub {w : World} {B : Nat} {E : List EvT} {P : List EvP} (h : CpE w B E P) (f k : Nat) : CpE w B ((E.drop f).take k) ((P.drop f).take k) := fun j x y hx hy => by
  rw [List.getElem?_take] at hx hy
  split at hx
  · rename_i hj
    rw [if_pos hj] at hy
    rw [List.getElem?_drop] at hx hy
    exact h _ x y hx hy
  · cases hx
/-- The slice of a stretch of a piece's own events. -/
def CutSl (w : World) (A2 : Option Addr) (d f t : Nat) (E : List EvT) : Prop := ∀ W, Below w.heap.size w W →
    (d = f → Sl W W.heap.size 6 A2 (t - f) 0 (evC ((E.drop f).take (t - f)))) ∧ (¬ d = f → Sl W W.heap.size 6 (A2.map (fun x => x.add (f * 6))) (t - f) (d - f) (evC ((E.drop f).take (t - f))))
theorem CutSl.eq {w W : World} {A2 : Option Addr} {d f t : Nat} {E : List EvT} (h : CutSl w A2 d f t E) (hb : Below w.heap.size w W) (e : d = f) : Sl W W.heap.size 6 A2 (t - f) 0 (evC ((E.drop f).take (t - f))) := (h W hb).1 e
theorem CutSl.ne {w W : World} {A2 : Option Addr} {d f t : Nat} {E : List EvT} (h : CutSl w A2 d f t E) (hb : Below w.heap.size w W) (e : ¬ d = f) : Sl W W.heap.size 6 (A2.map (fun x => x.add (f * 6))) (t - f) (d - f) (evC ((E.drop f).take (t - f))) := (h W hb).2 e
end Go.Proofs.YtdhjigaocamglaaDoor

/- Pieces: the reference's Bare. -/
namespace Go.Proofs.YtdhjigaocamglaaDoor
open Go Go.RowKit

theorem stC_set5 : ∀ (L : List St) (k : Nat) (s : St), k < L.length → (((((stC L).set (k * 5) (.int .i64 s.c)).set (k * 5 + 1) (.int .i64 s.f)).set (k * 5 + 2) (.int .i64 s.r)).set (k * 5 + 3) (.int .i64 s.g)).set (k * 5 + 4) (.int .i64 s.h) = stC (L.set k s)
  | [], k, s, h => by simp at h
  | x :: L, 0, s, h => rfl
  | x :: L, k + 1, s, h => by
    have := stC_set5 L k s (by simpa using h)
    have e0 : stC (x :: L) = .int .i64 x.c :: .int .i64 x.f :: .int .i64 x.r :: .int .i64 x.g :: .int .i64 x.h :: stC L := rfl
    rw [e0, show (k + 1) * 5 = k * 5 + 5 by omega, show k * 5 + 5 + 1 = k * 5 + 1 + 5 by omega, show k * 5 + 5 + 2 = k * 5 + 2 + 5 by omega, show k * 5 + 5 + 3 = k * 5 + 3 + 5 by omega, show k * 5 + 5 + 4 = k * 5 + 4 + 5 by omega]
    simp only [List.set_cons_succ, this]
    rfl
theorem stC_setH : ∀ (L : List St) (k : Nat) (s : St) (v : Int), L[k]? = some s → (stC L).set (k * 5 + 4) (.int .i64 v) = stC (L.set k ⟨s.c, s.f, s.r, s.g, v⟩)
  | [], k, s, v, h => by simp at h
  | x :: L, 0, s, v, h => by
    obtain rfl : x = s := by simpa using h
    rfl
  | x :: L, k + 1, s, v, h => by
    have := stC_setH L k s v (by simpa using h)
    have e0 : stC (x :: L) = .int .i64 x.c :: .int .i64 x.f :: .int .i64 x.r :: .int .i64 x.g :: .int .i64 x.h :: stC L := rfl
    rw [e0, show (k + 1) * 5 + 4 = k * 5 + 4 + 5 by omega]
    simp only [List.set_cons_succ, this]
    rfl
/-- The stops of one event have changed, in their own block g. -/
theorem PcOE.stops {w w' : World} {b : Nat} {A A' A2 : Option Addr} {n c m c' q cq : Nat} {C : List Cr} {S : List Int} {P : List EvP} {E : List EvT} (h : PcOE w b A n c A' m c' A2 q cq C S P E) {i g : Nat} {y : EvP} {x : EvT} (hy : P[i]? = some y) (hx : E[i]? = some x)
    (hg : x.sa = some ⟨g, 0, none⟩) (h0 : 0 < y.L.length) {cs : Array Value} (hB : Blk w g 62 cs) (hk : ∀ k, k ≠ g → w'.heap[k]? = w.heap[k]?) {L' : List St} (hl : L'.length = y.L.length) (hO : Ow w' b 62 5 x.sa L'.length x.sc (stC L')) :
    PcOE w' b A n c A' m c' A2 q cq C S (P.set i { y with L := L' }) E := by
  have hkb : ∀ (g2 : Nat) (T : TypeId) (cs2 : Array Value), T ≠ 62 → Blk w g2 T cs2 → Blk w' g2 T cs2 := fun g2 T cs2 hT h2 => (hk g2 (h2.ne hB hT)).trans h2
  have hiP : i < P.length := (List.getElem?_eq_some_iff.1 hy).1
  obtain ⟨j1, j2⟩ := h.e2 i x y hx hy
  refine ⟨⟨h.o3.crs.blk (fun g2 cs h2 => hkb g2 _ cs (by decide) h2), h.o3.stp.blk (fun g2 cs h2 => hkb g2 _ cs (by decide) h2), h.o3.hn, h.o3.hm, by rw [List.length_set]; exact h.o3.hq⟩, by rw [List.length_set]; exact h.e1, ?_, h.e3.blk (fun g2 cs h2 => hkb g2 _ cs (by decide) h2), h.dst⟩
  intro j x' y' hx' hy'
  by_cases hj : j = i
  · subst hj
    rw [hx] at hx'
    injection hx' with hx'
    subst hx'
    rw [List.getElem?_set_self hiP] at hy'
    injection hy' with hy'
    subst hy'
    exact ⟨⟨j1.1, j1.2.1, j1.2.2.1, j1.2.2.2.1, j1.2.2.2.2.1, by rw [j1.2.2.2.2.2]; exact hl.symm⟩, hO⟩
  · rw [List.getElem?_set_ne (fun e => hj e.symm)] at hy'
    obtain ⟨k1, k2⟩ := h.e2 j x' y' hx' hy'
    refine ⟨k1, k2.1, k2.2.1, fun hn => ?_⟩
    obtain ⟨g2, cur, e1, e2, e3, e4⟩ := k2.2.2 hn
    refine ⟨g2, cur, e1, e2, (hk g2 (fun e => ?_)).trans e3, e4⟩
    subst e
    have hs1 : 0 < x'.sn := by rw [k1.2.2.2.2.2]; exact hn
    have hs2 : 0 < x.sn := by rw [j1.2.2.2.2.2]; exact h0
    rcases Nat.lt_or_gt_of_ne hj with hlt | hgt
    · exact h.dst j i x' x hlt hx' hx hs1 hs2 (e1.trans hg.symm)
    · exact h.dst i j x x' hgt hx hx' hs2 hs1 (hg.trans e1.symm)
/-- One stop of one event: its cells, and what a store into it makes. -/
theorem PcOE.stop {w : World} {b : Nat} {A A' A2 : Option Addr} {n c m c' q cq : Nat} {C : List Cr} {S : List Int} {P : List EvP} {E : List EvT} (h : PcOE w b A n c A' m c' A2 q cq C S P E) {i k : Nat} {y : EvP} (hy : P[i]? = some y) {s : St} (hs : y.L[k]? = some s) :
    ∃ ge x g, A2 = some ⟨ge, 0, none⟩ ∧ b ≤ ge ∧ ge < w.heap.size ∧ E[i]? = some x ∧ w.cell? ⟨ge, i * 6 + 5, none⟩ = some (.slice (some ⟨g, 0, none⟩) y.L.length x.sc) ∧ b ≤ g ∧ g < w.heap.size ∧ ge ≠ g ∧ g ≠ ge ∧
      (w.cell? ⟨g, k * 5, none⟩ = some (.int .i64 s.c) ∧ w.cell? ⟨g, k * 5 + 1, none⟩ = some (.int .i64 s.f) ∧ w.cell? ⟨g, k * 5 + 2, none⟩ = some (.int .i64 s.r) ∧ w.cell? ⟨g, k * 5 + 3, none⟩ = some (.int .i64 s.g) ∧ w.cell? ⟨g, k * 5 + 4, none⟩ = some (.int .i64 s.h)) ∧ (∀ j, w.frozen? ⟨g, j, none⟩ = false) ∧ (∃ cs, Blk w g 62 cs) ∧
      (∀ t : St, PcOE (((((w.setCell ⟨g, k * 5, none⟩ (.int .i64 t.c)).setCell ⟨g, k * 5 + 1, none⟩ (.int .i64 t.f)).setCell ⟨g, k * 5 + 2, none⟩ (.int .i64 t.r)).setCell ⟨g, k * 5 + 3, none⟩ (.int .i64 t.g)).setCell ⟨g, k * 5 + 4, none⟩ (.int .i64 t.h)) b A n c A' m c' A2 q cq C S (P.set i { y with L := y.L.set k t }) E) ∧
      (∀ v : Int, PcOE (w.setCell ⟨g, k * 5 + 4, none⟩ (.int .i64 v)) b A n c A' m c' A2 q cq C S (P.set i { y with L := y.L.set k ⟨s.c, s.f, s.r, s.g, v⟩ }) E) := by
  obtain ⟨ge, x, rfl, hb, hl, hx, ⟨_, _, _, _, _, c5⟩, _, ⟨cse, hBe⟩, _, _⟩ := h.sign hy
  obtain ⟨j1, j2⟩ := h.e2 i x y hx hy
  have hkl : k < y.L.length := (List.getElem?_eq_some_iff.1 hs).1
  obtain ⟨g, cur, e1, e2, hB, e4, e5⟩ := j2.2.2 (by omega)
  have hsd : y.L.getD k z5 = s := by simp [List.getD_eq_getElem?_getD, hs]
  obtain ⟨i0, i1, i2, i3, i4⟩ := stC_at y.L k hkl
  rw [hsd] at i0 i1 i2 i3 i4
  have hne := hB.ne hBe (by decide)
  rw [e1] at c5
  have j2' := j2
  rw [e1] at j2'
  refine ⟨ge, x, g, rfl, hb, hl, hx, c5, e2, hB.lt, fun e => hne e.symm, hne, ⟨hB.cellOf e5 i0, hB.cellOf e5 i1, hB.cellOf e5 i2, hB.cellOf e5 i3, hB.cellOf e5 i4⟩, fun j => hB.frozen j, ⟨_, hB⟩, fun t => ?_, fun v => ?_⟩
  · refine h.stops hy hx e1 (by omega) hB (fun k2 hk2 => ?_) (by rw [List.length_set]) ?_
    · rw [Below.heap_setCell _ _ _ _ hk2, Below.heap_setCell _ _ _ _ hk2, Below.heap_setCell _ _ _ _ hk2, Below.heap_setCell _ _ _ _ hk2, Below.heap_setCell _ _ _ _ hk2]
    · have := ((((j2'.set_ (k * 5) (.int .i64 t.c)).set_ (k * 5 + 1) (.int .i64 t.f)).set_ (k * 5 + 2) (.int .i64 t.r)).set_ (k * 5 + 3) (.int .i64 t.g)).set_ (k * 5 + 4) (.int .i64 t.h)
      rw [stC_set5 y.L k t hkl] at this
      rw [List.length_set, e1]
      exact this
  · refine h.stops hy hx e1 (by omega) hB (fun k2 hk2 => Below.heap_setCell _ _ _ _ hk2) (by rw [List.length_set]) ?_
    have := j2'.set_ (k * 5 + 4) (.int .i64 v)
    rw [stC_setH y.L k s v hs] at this
    rw [List.length_set, e1]
    exact this
/-- The number of stops of one event. -/
theorem PcOE.slen {w : World} {b : Nat} {A A' A2 : Option Addr} {n c m c' q cq : Nat} {C : List Cr} {S : List Int} {P : List EvP} {E : List EvT} (h : PcOE w b A n c A' m c' A2 q cq C S P E) {i : Nat} {y : EvP} (hy : P[i]? = some y) :
    ∃ ge x, A2 = some ⟨ge, 0, none⟩ ∧ ge < w.heap.size ∧ E[i]? = some x ∧ w.cell? ⟨ge, i * 6 + 5, none⟩ = some (.slice x.sa y.L.length x.sc) := by
  obtain ⟨ge, x, e, _, hl, hx, ⟨_, _, _, _, _, c5⟩, _⟩ := h.sign hy
  exact ⟨ge, x, e, hl, hx, c5⟩

theorem RpA.below {w : World} {b qb rb : Nat} {A : Option Addr} {n c : Nat} {A' : Option Addr} {m c' : Nat} {A2 : Option Addr} {q cq : Nat} {C : List Cr} {S : List Int} {P : List EvP} {wr wx : World}
    (h : RpA w b qb rb A n c A' m c' A2 q cq C S P wr) (hb : Below wr.heap.size wr wx) : RpA w b qb rb A n c A' m c' A2 q cq C S P wx := by
  obtain ⟨E, hE⟩ := h.pc
  exact ⟨⟨E, hE.below hb⟩, h.qx.below hb, h.rs.below hb, bt h.lo hb⟩
/-- One stop of one event of the copy. -/
theorem RpA.stop {w : World} {b qb rb : Nat} {A : Option Addr} {n c : Nat} {A' : Option Addr} {m c' : Nat} {A2 : Option Addr} {q cq : Nat} {C : List Cr} {S : List Int} {P : List EvP} {wr : World}
    (h : RpA w b qb rb A n c A' m c' A2 q cq C S P wr) (hb : w.heap.size ≤ b) {i k : Nat} {y : EvP} (hy : P[i]? = some y) {s : St} (hs : y.L[k]? = some s) :
    ∃ ge g sc, A2 = some ⟨ge, 0, none⟩ ∧ ge < wr.heap.size ∧ wr.cell? ⟨ge, i * 6 + 5, none⟩ = some (.slice (some ⟨g, 0, none⟩) y.L.length sc) ∧ g < wr.heap.size ∧ (ge ≠ g ∧ g ≠ ge ∧ g ≠ qb ∧ qb ≠ g) ∧
      (wr.cell? ⟨g, k * 5, none⟩ = some (.int .i64 s.c) ∧ wr.cell? ⟨g, k * 5 + 1, none⟩ = some (.int .i64 s.f) ∧ wr.cell? ⟨g, k * 5 + 2, none⟩ = some (.int .i64 s.r) ∧ wr.cell? ⟨g, k * 5 + 3, none⟩ = some (.int .i64 s.g) ∧ wr.cell? ⟨g, k * 5 + 4, none⟩ = some (.int .i64 s.h)) ∧ (∀ j, wr.frozen? ⟨g, j, none⟩ = false) ∧
      (∀ t : St, RpA w b qb rb A n c A' m c' A2 q cq C S (P.set i { y with L := y.L.set k t }) (((((wr.setCell ⟨g, k * 5, none⟩ (.int .i64 t.c)).setCell ⟨g, k * 5 + 1, none⟩ (.int .i64 t.f)).setCell ⟨g, k * 5 + 2, none⟩ (.int .i64 t.r)).setCell ⟨g, k * 5 + 3, none⟩ (.int .i64 t.g)).setCell ⟨g, k * 5 + 4, none⟩ (.int .i64 t.h))) := by
  obtain ⟨E, hE⟩ := h.pc
  obtain ⟨ge, x, g, rfl, hbe, hle, hx, c5, hbg, hlg, n1, n2, cc, hf, ⟨cs, hB⟩, ht, _⟩ := hE.stop hy hs
  have hq := hB.ne h.qx (by decide)
  have hr := hB.ne h.rs (by decide)
  refine ⟨ge, g, x.sc, rfl, hle, c5, hlg, ⟨n1, n2, hq, fun e => hq e.symm⟩, cc, hf, fun t => ?_⟩
  have hk5 : ∀ (g2 : Nat) (T : TypeId) (cs2 : Array Value), g ≠ g2 → Blk wr g2 T cs2 → Blk (((((wr.setCell ⟨g, k * 5, none⟩ (.int .i64 t.c)).setCell ⟨g, k * 5 + 1, none⟩ (.int .i64 t.f)).setCell ⟨g, k * 5 + 2, none⟩ (.int .i64 t.r)).setCell ⟨g, k * 5 + 3, none⟩ (.int .i64 t.g)).setCell ⟨g, k * 5 + 4, none⟩ (.int .i64 t.h)) g2 T cs2 := fun g2 T cs2 hne h2 =>
    ((((h2.setOther (fun e => hne e.symm) _ _).setOther (fun e => hne e.symm) _ _).setOther (fun e => hne e.symm) _ _).setOther (fun e => hne e.symm) _ _).setOther (fun e => hne e.symm) _ _
  have hbb : w.heap.size ≤ g := Nat.le_trans hb hbg
  exact ⟨⟨E, ht t⟩, hk5 _ _ _ hq h.qx, hk5 _ _ _ hr h.rs, ((((h.lo.setCell (p := ⟨g, k * 5, none⟩) hbb _).setCell (p := ⟨g, k * 5 + 1, none⟩) hbb _).setCell (p := ⟨g, k * 5 + 2, none⟩) hbb _).setCell (p := ⟨g, k * 5 + 3, none⟩) hbb _).setCell (p := ⟨g, k * 5 + 4, none⟩) hbb _⟩
theorem RpA.slen {w : World} {b qb rb : Nat} {A : Option Addr} {n c : Nat} {A' : Option Addr} {m c' : Nat} {A2 : Option Addr} {q cq : Nat} {C : List Cr} {S : List Int} {P : List EvP} {wr : World}
    (h : RpA w b qb rb A n c A' m c' A2 q cq C S P wr) {i : Nat} {y : EvP} (hy : P[i]? = some y) : ∃ ge sa sc, A2 = some ⟨ge, 0, none⟩ ∧ ge < wr.heap.size ∧ wr.cell? ⟨ge, i * 6 + 5, none⟩ = some (.slice sa y.L.length sc) := by
  obtain ⟨E, hE⟩ := h.pc
  obtain ⟨ge, x, e, hl, _, c5⟩ := hE.slen hy
  exact ⟨ge, x.sa, x.sc, e, hl, c5⟩

def bareE (y : EvP) : EvP := { y with L := y.L.map bareS }
end Go.Proofs.YtdhjigaocamglaaDoor

/- Pieces: the reference's Cut. -/
namespace Go.Proofs.YtdhjigaocamglaaDoor
open Go Go.RowKit

/-- The reference's loop over the events: what it keeps. -/
structure CtR (w : World) (b b3 qb ob rb pb : Nat) (PX : Array Value) (A : Option Addr) (n c : Nat) (A' : Option Addr) (m c' : Nat) (A2 : Option Addr) (q cq : Nat) (C : List Cr) (S : List Int) (P : List EvP) (E : List EvT) (B3 : Option Addr) (k d3 : Nat) (Eo : List EvT) (wr : World) : Prop where
  pc : PcOE wr b A n c A' m c' A2 q cq C S P E
  bl : 0 < q → ∀ g, A2 = some ⟨g, 0, none⟩ → g < b3
  row : wr.ownsRow b3 51 6 (.slice B3 k d3) k (evC Eo)
  qx : Blk wr qb 28 #[.slice A n c, .slice A' m c', .slice A2 q cq]
  ox : Blk wr ob 28 #[.slice A n c, .slice A' m c', .slice B3 k d3]
  rs : Blk wr rb 28 #[.slice none 0 0, .slice none 0 0, .slice none 0 0]
  px : Blk wr pb 28 PX
  lo : Below w.heap.size w wr
theorem CtR.below {w : World} {b b3 qb ob rb pb : Nat} {PX : Array Value} {A : Option Addr} {n c : Nat} {A' : Option Addr} {m c' : Nat} {A2 : Option Addr} {q cq : Nat} {C : List Cr} {S : List Int} {P : List EvP} {E : List EvT} {B3 : Option Addr} {k d3 : Nat} {Eo : List EvT} {wr wx : World}
    (h : CtR w b b3 qb ob rb pb PX A n c A' m c' A2 q cq C S P E B3 k d3 Eo wr) (hb : Below wr.heap.size wr wx) : CtR w b b3 qb ob rb pb PX A n c A' m c' A2 q cq C S P E B3 k d3 Eo wx :=
  ⟨h.pc.below hb, h.bl, own_below h.row hb, h.qx.below hb, h.ox.below hb, h.rs.below hb, h.px.below hb, bt h.lo hb⟩
/-- One stop of one event: its hold. -/
theorem CtR.stop {w : World} {b b3 qb ob rb pb : Nat} {PX : Array Value} {A : Option Addr} {n c : Nat} {A' : Option Addr} {m c' : Nat} {A2 : Option Addr} {q cq : Nat} {C : List Cr} {S : List Int} {P : List EvP} {E : List EvT} {B3 : Option Addr} {k d3 : Nat} {Eo : List EvT} {wr : World}
    (h : CtR w b b3 qb ob rb pb PX A n c A' m c' A2 q cq C S P E B3 k d3 Eo wr) (hb : w.heap.size ≤ b) {i j : Nat} {y : EvP} (hy : P[i]? = some y) {s : St} (hs : y.L[j]? = some s) :
    ∃ x g, E[i]? = some x ∧ x.sa = some ⟨g, 0, none⟩ ∧ x.sn = y.L.length ∧ g < wr.heap.size ∧ wr.cell? ⟨g, j * 5 + 4, none⟩ = some (.int .i64 s.h) ∧ (∀ j, wr.frozen? ⟨g, j, none⟩ = false) ∧ (∃ cs, Blk wr g 62 cs) ∧
      (∀ v : Int, CtR w b b3 qb ob rb pb PX A n c A' m c' A2 q cq C S (P.set i { y with L := y.L.set j ⟨s.c, s.f, s.r, s.g, v⟩ }) E B3 k d3 Eo (wr.setCell ⟨g, j * 5 + 4, none⟩ (.int .i64 v))) := by
  obtain ⟨ge, x, g, e, hbe, hle, hx, c5, hbg, hlg, n1, n2, ⟨_, _, _, _, c4⟩, hf, ⟨cs, hB⟩, _, hv⟩ := h.pc.stop hy hs
  obtain ⟨j1, j2⟩ := h.pc.e2 i x y hx hy
  have hkl : j < y.L.length := (List.getElem?_eq_some_iff.1 hs).1
  obtain ⟨g', cur, e1, _⟩ := j2.2.2 (by omega)
  have hsa : x.sa = some ⟨g, 0, none⟩ := by
    obtain ⟨ge2, x2, e2, _, hx2, cc⟩ := h.pc.slen hy
    rw [hx] at hx2
    injection hx2 with hx2
    subst hx2
    rw [e] at e2
    injection e2 with e2
    injection e2 with e2
    subst e2
    rw [c5] at cc
    injection cc with cc
    injection cc with cc
    exact cc.symm
  have hkb : ∀ (v : Value) (g2 : Nat) (T : TypeId) (cs2 : Array Value), T ≠ 62 → Blk wr g2 T cs2 → Blk (wr.setCell ⟨g, j * 5 + 4, none⟩ v) g2 T cs2 := fun v g2 T cs2 hT h2 => h2.setOther (h2.ne hB hT) _ _
  refine ⟨x, g, hx, hsa, j1.2.2.2.2.2, hlg, c4, hf, ⟨_, hB⟩, fun v => ⟨hv v, h.bl, ?_, hkb _ _ _ _ (by decide) h.qx, hkb _ _ _ _ (by decide) h.ox, hkb _ _ _ _ (by decide) h.rs, hkb _ _ _ _ (by decide) h.px, h.lo.setCell (p := ⟨g, j * 5 + 4, none⟩) (Nat.le_trans hb hbg) _⟩⟩
  exact ownsRow_heap h.row (fun g2 hg2 => set_other _ _ _ _ _ (fun e => blk_apart hB h.row (by decide) (by rw [← e]; exact hg2.symm)))
theorem setG_mapL : ∀ (P : List EvP) (F : List Sg), (setG P F).map EvP.L = P.map EvP.L
  | [], [] => rfl
  | [], _ :: _ => rfl
  | _ :: _, [] => rfl
  | y :: P, s :: F => by simp [setG, setG_mapL P F, upS]
theorem HP0.cells {w : World} {g : Nat} {a b c : Value} (h : Blk w g 28 #[a, b, c]) : w.cell? ⟨g, 0, none⟩ = some a ∧ w.cell? ⟨g, 1, none⟩ = some b ∧ w.cell? ⟨g, 2, none⟩ = some c :=
  ⟨by simpa using h.cell 0, by simpa using h.cell 1, by simpa using h.cell 2⟩
theorem err_retW {fn : Func} {a : Act} (w W : World) (X : Int) {C : List Cr} {S : List Int} {P : List EvP} (hb : Below w.heap.size w W) (hX : X ≠ 0)
    (hrr : (results fn a.tmps).run Tryd.prog W = .ok (.tuple #[pcV none 0 0 none 0 0 none 0 0, .int .i64 X]) W) (hd : a.defers = [] := by rfl) : bodyPost Tryd.prog fn (PcRes X C S P w) .ret a W := by
  refine bodyPost_ret hrr hd ⟨none, 0, 0, none, 0, 0, none, 0, 0, rfl, ?_, hb⟩
  rw [oC_no hX, oC_no hX, oC_no hX]
  exact PcOw.nil_ _ _
end Go.Proofs.YtdhjigaocamglaaDoor

/- The law PieceCuts returns true for every piece and numbers. -/
namespace Go.Proofs.YtdhjigaocamglaaDoor
open Go Go.RowKit

theorem setG_L (P : List EvP) (F : List Sg) (i : Nat) : ((setG P F).getD i z6).L = (P.getD i z6).L := by
  have := congrArg (fun M => M[i]?) (setG_mapL P F)
  simp only [List.getElem?_map] at this
  simp only [List.getD_eq_getElem?_getD]
  cases h1 : (setG P F)[i]? <;> cases h2 : P[i]? <;> rw [h1, h2] at this <;> simp at this ⊢
  exact this
theorem oC_same {α : Type} {er : Int} {L L' : List α} (h : er = 0 → L = L') : oC er L = oC er L' := by
  by_cases h0 : er = 0
  · rw [h h0]
  · rw [oC_no h0, oC_no h0]
theorem PcRes.sub {er : Int} {C : List Cr} {S : List Int} {P P' : List EvP} {w : World} {e : Ending} {w' : World} (h : PcRes er C S P w e w') (hp : er = 0 → P = P') : PcRes er C S P' w e w' := by
  unfold PcRes at h ⊢
  rwa [oC_same hp] at h
end Go.Proofs.YtdhjigaocamglaaDoor

/- Pieces that are cut in two and put together again: what is valid, what is played (plain). -/
namespace Go.Proofs.YtdhjigaocamglaaDoor
open Go Go.RowKit

end Go.Proofs.YtdhjigaocamglaaDoor
