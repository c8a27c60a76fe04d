/- Pieces: the reference's Copy, with all that its result owns. -/
import Derived.Test.YtdhjigaocamglaaDoorQbRw8
namespace Go.Proofs.YtdhjigaocamglaaDoor
open Go Go.RowKit

/-- No two events have their stops in one block. -/
def DstE (E : List EvT) : Prop := ∀ (i j : Nat) (x y : EvT), i < j → E[i]? = some x → E[j]? = some y → 0 < x.sn → 0 < y.sn → x.sa ≠ y.sa
structure PcO3 (w : World) (b : Nat) (A : Option Addr) (n c : Nat) (A' : Option Addr) (m c' : Nat) (q : Nat) (C : List Cr) (S : List Int) (P : List EvP) : Prop where
  crs : Ow w b 60 3 A n c (crC C)
  stp : Ow w b 3 1 A' m c' (intC S)
  hn : n = C.length
  hm : m = S.length
  hq : q = P.length
/-- A piece in memory of its own, its events E. -/
structure PcOE (w : World) (b : Nat) (A : Option Addr) (n c : Nat) (A' : Option Addr) (m c' : Nat) (A2 : Option Addr) (q cq : Nat) (C : List Cr) (S : List Int) (P : List EvP) (E : List EvT) : Prop where
  o3 : PcO3 w b A n c A' m c' q C S P
  e1 : E.length = P.length
  e2 : CpE w b E P
  e3 : Ow w b 51 6 A2 q cq (evC E)
  dst : DstE E
theorem PcOE.blkB {w w' : World} {b : Nat} {A A' A2 : Option Addr} {n c m c' q cq : Nat} {C : List Cr} {S : List Int} {P : List EvP} {E : List EvT} (h : PcOE w b A n c A' m c' A2 q cq C S P E) (hk : ∀ g T cs, b ≤ g → T ≠ 28 → Blk w g T cs → Blk w' g T cs) : PcOE w' b A n c A' m c' A2 q cq C S P E :=
  ⟨⟨h.o3.crs.blkB (fun g cs h1 h2 => hk g _ cs h1 (by decide) h2), h.o3.stp.blkB (fun g cs h1 h2 => hk g _ cs h1 (by decide) h2), h.o3.hn, h.o3.hm, h.o3.hq⟩, h.e1, h.e2.blkB (fun g cs h1 h2 => hk g _ cs h1 (by decide) h2), h.e3.blkB (fun g cs h1 h2 => hk g _ cs h1 (by decide) h2), h.dst⟩
theorem PcOE.below {w w' : World} {b : Nat} {A A' A2 : Option Addr} {n c m c' q cq : Nat} {C : List Cr} {S : List Int} {P : List EvP} {E : List EvT} (h : PcOE w b A n c A' m c' A2 q cq C S P E) (hb : Below w.heap.size w w') : PcOE w' b A n c A' m c' A2 q cq C S P E := h.blkB (fun _ _ _ _ _ h => h.below hb)

end Go.Proofs.YtdhjigaocamglaaDoor

/- Pieces: the reference's Plain. -/
namespace Go.Proofs.YtdhjigaocamglaaDoor
open Go Go.RowKit

def upS (y : EvP) (s : Sg) : EvP := { y with v := s.v, d := s.d, t := s.t }
def upT (x : EvT) (s : Sg) : EvT := { x with v := s.v, d := s.d, t := s.t }
def setG : List EvP → List Sg → List EvP
  | y :: P, s :: G => upS y s :: setG P G
  | P, _ => P
theorem setG_len : ∀ (P : List EvP) (G : List Sg), (setG P G).length = P.length
  | [], [] => rfl
  | [], _ :: _ => rfl
  | _ :: _, [] => rfl
  | y :: P, s :: G => by simp [setG, setG_len P G]

theorem evC_upT : ∀ (E : List EvT) (k : Nat) (x : EvT) (s : Sg), E[k]? = some x → (((evC E).set (k * 6 + 1) (.int .i64 s.v)).set (k * 6 + 2) (.bool s.d)).set (k * 6 + 3) (.bool s.t) = evC (E.set k (upT x s))
  | [], k, x, s, h => by simp at h
  | e :: E, 0, x, s, h => by
    obtain rfl : e = x := by simpa using h
    rfl
  | e :: E, k + 1, x, s, h => by
    have := evC_upT E k x s (by simpa using h)
    have e0 : evC (e :: E) = .bool e.bar :: .int .i64 e.v :: .bool e.d :: .bool e.t :: .bool e.tie :: .slice e.sa e.sn e.sc :: evC E := rfl
    rw [e0, show (k + 1) * 6 + 1 = k * 6 + 1 + 6 by omega, show (k + 1) * 6 + 2 = k * 6 + 2 + 6 by omega, show (k + 1) * 6 + 3 = k * 6 + 3 + 6 by omega]
    simp only [List.set_cons_succ, this]
    rfl
theorem evC_upV : ∀ (E : List EvT) (k : Nat) (x : EvT) (v : Int), E[k]? = some x → (evC E).set (k * 6 + 1) (.int .i64 v) = evC (E.set k (upT x ⟨v, x.d, x.t⟩))
  | [], k, x, v, h => by simp at h
  | e :: E, 0, x, v, h => by
    obtain rfl : e = x := by simpa using h
    rfl
  | e :: E, k + 1, x, v, h => by
    have := evC_upV E k x v (by simpa using h)
    have e0 : evC (e :: E) = .bool e.bar :: .int .i64 e.v :: .bool e.d :: .bool e.t :: .bool e.tie :: .slice e.sa e.sn e.sc :: evC E := rfl
    rw [e0, show (k + 1) * 6 + 1 = k * 6 + 1 + 6 by omega]
    simp only [List.set_cons_succ, this]
    rfl
/-- An event's sign is written. -/
theorem PcOE.sign {w : World} {b : Nat} {A A' A2 : Option Addr} {n c m c' q cq : Nat} {C : List Cr} {S : List Int} {P : List EvP} {E : List EvT} (h : PcOE w b A n c A' m c' A2 q cq C S P E) {k : Nat} {y : EvP} (hy : P[k]? = some y) :
    ∃ g x, A2 = some ⟨g, 0, none⟩ ∧ b ≤ g ∧ g < w.heap.size ∧ E[k]? = some x ∧ (w.cell? ⟨g, k * 6, none⟩ = some (.bool y.bar) ∧ w.cell? ⟨g, k * 6 + 1, none⟩ = some (.int .i64 y.v) ∧ w.cell? ⟨g, k * 6 + 2, none⟩ = some (.bool y.d) ∧ w.cell? ⟨g, k * 6 + 3, none⟩ = some (.bool y.t) ∧ w.cell? ⟨g, k * 6 + 4, none⟩ = some (.bool y.tie) ∧ w.cell? ⟨g, k * 6 + 5, none⟩ = some (.slice x.sa y.L.length x.sc)) ∧
      (∀ j, w.frozen? ⟨g, j, none⟩ = false) ∧ (∃ cs, Blk w g 51 cs) ∧
      (∀ s : Sg, PcOE (((w.setCell ⟨g, k * 6 + 1, none⟩ (.int .i64 s.v)).setCell ⟨g, k * 6 + 2, none⟩ (.bool s.d)).setCell ⟨g, k * 6 + 3, none⟩ (.bool s.t)) b A n c A' m c' A2 q cq C S (P.set k (upS y s)) (E.set k (upT x s))) ∧
      (∀ v : Int, PcOE (w.setCell ⟨g, k * 6 + 1, none⟩ (.int .i64 v)) b A n c A' m c' A2 q cq C S (P.set k (upS y ⟨v, y.d, y.t⟩)) (E.set k (upT x ⟨v, y.d, y.t⟩))) := by
  have hkP : k < P.length := (List.getElem?_eq_some_iff.1 hy).1
  have hkE : k < E.length := by rw [h.e1]; exact hkP
  have hxe := List.getElem?_eq_getElem hkE
  obtain ⟨k1, k2⟩ := h.e2 k E[k] y hxe hy
  obtain ⟨g, cur, rfl, hb, hB, hcs, htk⟩ := h.e3.2.2 (by rw [h.o3.hq]; omega)
  obtain ⟨i0, i1, i2, i3, i4, i5⟩ := evC_at E k E[k] hxe
  have hc : ∀ j u, (evC E)[j]? = some u → w.cell? ⟨g, j, none⟩ = some u := fun j u hu => hB.cellOf htk hu
  have hkeep : ∀ (g2 : Nat) (T : TypeId) (cs : Array Value) (j : Nat) (u : Value) (W : World), Blk W g 51 cs → T ≠ 51 → ∀ cs2, Blk W g2 T cs2 → Blk (W.setCell ⟨g, j, none⟩ u) g2 T cs2 := fun g2 T cs j u W hg hT cs2 h2 => h2.setOther (h2.ne hg hT) _ _
  have hup : ∀ s : Sg, CpE w b (E.set k (upT E[k] s)) (P.set k (upS y s)) := fun s j x' y' hx' hy' => by
    by_cases hj : j = k
    · subst hj
      rw [List.getElem?_set_self hkE] at hx'
      rw [List.getElem?_set_self hkP] at hy'
      injection hx' with hx'
      injection hy' with hy'
      subst hx' hy'
      exact ⟨⟨k1.1, rfl, rfl, rfl, k1.2.2.2.2.1, k1.2.2.2.2.2⟩, k2⟩
    · rw [List.getElem?_set_ne (fun e => hj e.symm)] at hx' hy'
      exact h.e2 j x' y' hx' hy'
  have hdst : ∀ s : Sg, DstE (E.set k (upT E[k] s)) := fun s i j x' y' hij hx' hy' h1 h2 => by
    have hf : ∀ (i : Nat) (x' : EvT), (E.set k (upT E[k] s))[i]? = some x' → ∃ x0, E[i]? = some x0 ∧ x0.sa = x'.sa ∧ x0.sn = x'.sn := fun i x' hx' => by
      by_cases hi : i = k
      · subst hi
        rw [List.getElem?_set_self hkE] at hx'
        injection hx' with hx'
        subst hx'
        exact ⟨_, hxe, rfl, rfl⟩
      · rw [List.getElem?_set_ne (fun e => hi e.symm)] at hx'
        exact ⟨x', hx', rfl, rfl⟩
    obtain ⟨a, a1, a2, a3⟩ := hf i x' hx'
    obtain ⟨d, d1, d2, d3⟩ := hf j y' hy'
    rw [← a2, ← d2]
    exact h.dst i j a d hij a1 d1 (by omega) (by omega)
  rw [k1.1] at i0
  rw [k1.2.1] at i1
  rw [k1.2.2.1] at i2
  rw [k1.2.2.2.1] at i3
  rw [k1.2.2.2.2.1] at i4
  rw [k1.2.2.2.2.2] at i5
  refine ⟨g, E[k], rfl, hb, hB.lt, hxe, ⟨hc _ _ i0, hc _ _ i1, hc _ _ i2, hc _ _ i3, hc _ _ i4, hc _ _ i5⟩, fun j => hB.frozen j, ⟨_, hB⟩, fun s => ?_, fun v => ?_⟩
  · have hk3 : ∀ (g2 : Nat) (T : TypeId) (cs : Array Value), T ≠ 51 → Blk w g2 T cs → Blk (((w.setCell ⟨g, k * 6 + 1, none⟩ (.int .i64 s.v)).setCell ⟨g, k * 6 + 2, none⟩ (.bool s.d)).setCell ⟨g, k * 6 + 3, none⟩ (.bool s.t)) g2 T cs := fun g2 T cs hT h2 => by
      have hne := h2.ne hB hT
      exact ((h2.setOther hne _ _).setOther hne _ _).setOther hne _ _
    refine ⟨⟨h.o3.crs.blk (fun g2 cs h2 => hk3 g2 _ cs (by decide) h2), h.o3.stp.blk (fun g2 cs h2 => hk3 g2 _ cs (by decide) h2), h.o3.hn, h.o3.hm, by rw [List.length_set]; exact h.o3.hq⟩, by rw [List.length_set, List.length_set]; exact h.e1, (hup s).blk (fun g2 cs h2 => hk3 g2 _ cs (by decide) h2), ?_, hdst s⟩
    have := ((h.e3.set_ (k * 6 + 1) (.int .i64 s.v)).set_ (k * 6 + 2) (.bool s.d)).set_ (k * 6 + 3) (.bool s.t)
    rwa [evC_upT E k E[k] s hxe] at this
  · have hk3 : ∀ (g2 : Nat) (T : TypeId) (cs : Array Value), T ≠ 51 → Blk w g2 T cs → Blk (w.setCell ⟨g, k * 6 + 1, none⟩ (.int .i64 v)) g2 T cs := fun g2 T cs hT h2 => h2.setOther (h2.ne hB hT) _ _
    refine ⟨⟨h.o3.crs.blk (fun g2 cs h2 => hk3 g2 _ cs (by decide) h2), h.o3.stp.blk (fun g2 cs h2 => hk3 g2 _ cs (by decide) h2), h.o3.hn, h.o3.hm, by rw [List.length_set]; exact h.o3.hq⟩, by rw [List.length_set, List.length_set]; exact h.e1, (hup _).blk (fun g2 cs h2 => hk3 g2 _ cs (by decide) h2), ?_, hdst _⟩
    have h1 := h.e3.set_ (k * 6 + 1) (.int .i64 v)
    rw [evC_upV E k E[k] v hxe, k1.2.2.1, k1.2.2.2.1] at h1
    exact h1

/-- The reference's loop over the signs: what it keeps. -/
structure RpR (w : World) (b qb : Nat) (u0 u1 u2 : Value) (A : Option Addr) (n c : Nat) (A' : Option Addr) (m c' : Nat) (A2 : Option Addr) (q cq : Nat) (C : List Cr) (S : List Int) (P : List EvP) (Bf : Option Addr) (df : Nat) (F : List Sg) (wr : World) : Prop where
  pc : ∃ E, PcOE wr b A n c A' m c' A2 q cq C S P E
  fs : Ow wr b 48 3 Bf q df (sfC F)
  qx : Blk wr qb 28 #[.slice A n c, .slice A' m c', .slice A2 q cq]
  rs : Blk wr (w.heap.size + 1) 28 #[u0, u1, u2]
  lo : Below w.heap.size w wr
theorem RpR.sign {w : World} {b qb : Nat} {u0 u1 u2 : Value} {A : Option Addr} {n c : Nat} {A' : Option Addr} {m c' : Nat} {A2 : Option Addr} {q cq : Nat} {C : List Cr} {S : List Int} {P : List EvP} {Bf : Option Addr} {df : Nat} {F : List Sg} {wr : World}
    (h : RpR w b qb u0 u1 u2 A n c A' m c' A2 q cq C S P Bf df F wr) (hb : w.heap.size ≤ b) {k : Nat} {y : EvP} (hy : P[k]? = some y) :
    ∃ g, A2 = some ⟨g, 0, none⟩ ∧ g < wr.heap.size ∧ (wr.cell? ⟨g, k * 6 + 1, none⟩ = some (.int .i64 y.v) ∧ wr.cell? ⟨g, k * 6 + 2, none⟩ = some (.bool y.d) ∧ wr.cell? ⟨g, k * 6 + 3, none⟩ = some (.bool y.t)) ∧ (∀ j, wr.frozen? ⟨g, j, none⟩ = false) ∧ g ≠ qb ∧ qb ≠ g ∧
      (∀ s : Sg, RpR w b qb u0 u1 u2 A n c A' m c' A2 q cq C S (P.set k (upS y s)) Bf df F (((wr.setCell ⟨g, k * 6 + 1, none⟩ (.int .i64 s.v)).setCell ⟨g, k * 6 + 2, none⟩ (.bool s.d)).setCell ⟨g, k * 6 + 3, none⟩ (.bool s.t))) := by
  obtain ⟨E, hE⟩ := h.pc
  obtain ⟨g, x, rfl, h1, h2, _, ⟨_, c1, c2, c3, _, _⟩, hf, ⟨cs, hB⟩, hs, _⟩ := hE.sign hy
  have hq := hB.ne h.qx (by decide)
  refine ⟨g, rfl, h2, ⟨c1, c2, c3⟩, hf, hq, fun e => hq e.symm, fun s => ?_⟩
  have hk3 : ∀ (g2 : Nat) (T : TypeId) (cs : Array Value), T ≠ 51 → Blk wr g2 T cs → Blk (((wr.setCell ⟨g, k * 6 + 1, none⟩ (.int .i64 s.v)).setCell ⟨g, k * 6 + 2, none⟩ (.bool s.d)).setCell ⟨g, k * 6 + 3, none⟩ (.bool s.t)) g2 T cs := fun g2 T cs hT h2 => by
    have hne := h2.ne hB hT
    exact ((h2.setOther hne _ _).setOther hne _ _).setOther hne _ _
  exact ⟨⟨_, hs s⟩, h.fs.blk (fun g2 cs h2 => hk3 g2 _ cs (by decide) h2), hk3 _ _ _ (by decide) h.qx, hk3 _ _ _ (by decide) h.rs, ((h.lo.setCell (p := ⟨g, k * 6 + 1, none⟩) (Nat.le_trans hb h1) _).setCell (p := ⟨g, k * 6 + 2, none⟩) (Nat.le_trans hb h1) _).setCell (p := ⟨g, k * 6 + 3, none⟩) (Nat.le_trans hb h1) _⟩
theorem RpR.drew {w : World} {b qb : Nat} {u0 u1 u2 : Value} {A : Option Addr} {n c : Nat} {A' : Option Addr} {m c' : Nat} {A2 : Option Addr} {q cq : Nat} {C : List Cr} {S : List Int} {P : List EvP} {Bf : Option Addr} {df : Nat} {F : List Sg} {wr : World}
    (h : RpR w b qb u0 u1 u2 A n c A' m c' A2 q cq C S P Bf df F wr) : RpR w b qb u0 u1 u2 A n c A' m c' A2 q cq C S P Bf df F wr.drew := by
  obtain ⟨E, hE⟩ := h.pc
  have hb : Below wr.heap.size wr wr.drew := (Below.refl _ _).drew
  exact ⟨⟨E, hE.below hb⟩, h.fs.below hb, h.qx.below hb, h.rs.below hb, bt h.lo hb⟩
/-- A sign of the list. -/
theorem sg_at {w : World} {B : Nat} {Bf : Option Addr} {q df : Nat} {F : List Sg} (h : Ow w B 48 3 Bf q df (sfC F)) {k : Nat} (hk : k < q) (hF : F.length = q) :
    ∃ g, Bf = some ⟨g, 0, none⟩ ∧ g < w.heap.size ∧ F[k]? = some (F.getD k s0g) ∧ w.cell? ⟨g, k * 3, none⟩ = some (.int .i64 (F.getD k s0g).v) ∧ w.cell? ⟨g, k * 3 + 1, none⟩ = some (.bool (F.getD k s0g).d) ∧ w.cell? ⟨g, k * 3 + 2, none⟩ = some (.bool (F.getD k s0g).t) := by
  obtain ⟨g, cur, rfl, hb, hB, hcs, htk⟩ := h.2.2 (by omega)
  obtain ⟨i0, i1, i2⟩ := sfC_at F k (by omega)
  refine ⟨g, rfl, hB.lt, ?_, hB.cellOf htk i0, hB.cellOf htk i1, hB.cellOf htk i2⟩
  have hk2 : k < F.length := by omega
  simp [List.getD_eq_getElem?_getD, List.getElem?_eq_getElem hk2]

theorem PcOE.other {w : World} {b : Nat} {A A' A2 : Option Addr} {n c m c' q cq : Nat} {C : List Cr} {S : List Int} {P : List EvP} {E : List EvT} (h : PcOE w b A n c A' m c' A2 q cq C S P E) {g : Nat} (hg : g < b) (i : Nat) (u : Value) : PcOE (w.setCell ⟨g, i, none⟩ u) b A n c A' m c' A2 q cq C S P E :=
  h.blkB (fun _ _ _ h1 _ h2 => h2.setOther (by omega) _ _)
theorem PcOE.more {w : World} {b b' : Nat} {A A' A2 : Option Addr} {n c m c' q cq : Nat} {C : List Cr} {S : List Int} {P : List EvP} {E : List EvT} (h : PcOE w b A n c A' m c' A2 q cq C S P E) (hb : b' ≤ b) : PcOE w b' A n c A' m c' A2 q cq C S P E :=
  ⟨⟨h.o3.crs.more hb, h.o3.stp.more hb, h.o3.hn, h.o3.hm, h.o3.hq⟩, h.e1, h.e2.more hb, h.e3.more hb, h.dst⟩
theorem PcOE.nil_ (w : World) (b : Nat) : PcOE w b none 0 0 none 0 0 none 0 0 [] [] [] [] :=
  ⟨⟨⟨Nat.le_refl _, rfl, fun h => absurd h (by omega)⟩, ⟨Nat.le_refl _, rfl, fun h => absurd h (by omega)⟩, rfl, rfl, rfl⟩, rfl, fun j x y hx _ => by simp at hx, ⟨Nat.le_refl _, rfl, fun h => absurd h (by omega)⟩, fun i j x y _ hx => by simp at hx⟩
end Go.Proofs.YtdhjigaocamglaaDoor
