/- Pieces: the reference's Copy, with all that its result owns. -/
import Derived.Test.YtdhjigaocamglaaDoorQdRw8
namespace Go.Proofs.YtdhjigaocamglaaDoor
open Go Go.RowKit

/-- No two events have their stops in one block. -/
def DstE (E : List EvT) : Prop := ∀ (i j : Nat) (x y : EvT), i < j → E[i]? = some x → E[j]? = some y → 0 < x.sn → 0 < y.sn → x.sa ≠ y.sa
theorem DstE.snoc {w w' : World} {B : Nat} {E : List EvT} {P : List EvP} {x : EvT} {xs : List Value} {n c : Nat} (h : DstE E) (hC : CpE w B E P) (hl : E.length ≤ P.length) (hO : Ow w' w.heap.size 62 5 x.sa n c xs) (hn : x.sn = n := by rfl) : DstE (E ++ [x]) := fun i j y z hij hy hz h1 h2 => by
  by_cases hj : j < E.length
  · rw [List.getElem?_append_left (by omega)] at hy
    rw [List.getElem?_append_left hj] at hz
    exact h i j y z hij hy hz h1 h2
  · by_cases hj2 : j = E.length
    · subst hj2
      obtain rfl : x = z := by simpa using hz
      rw [List.getElem?_append_left (by omega)] at hy
      obtain ⟨k1, k2⟩ := hC i y _ hy (List.getElem?_eq_getElem (by omega))
      obtain ⟨g, cur, e1, e2, e3, _⟩ := k2.2.2 (by rw [← k1.2.2.2.2.2]; exact h1)
      obtain ⟨g', cur', e1', e2', _⟩ := hO.2.2 (by rw [← hn]; exact h2)
      rw [e1, e1']
      intro e
      injection e with e
      injection e with e
      have := e3.lt
      omega
    · rw [List.getElem?_eq_none (by simp; omega)] at hz
      cases hz
structure PcO3 (w : World) (b : Nat) (A : Option Addr) (n c : Nat) (A' : Option Addr) (m c' : Nat) (q : Nat) (C : List Cr) (S : List Int) (P : List EvP) : Prop where
  crs : Ow w b 60 3 A n c (crC C)
  stp : Ow w b 3 1 A' m c' (intC S)
  hn : n = C.length
  hm : m = S.length
  hq : q = P.length
/-- A piece in memory of its own, its events E. -/
structure PcOE (w : World) (b : Nat) (A : Option Addr) (n c : Nat) (A' : Option Addr) (m c' : Nat) (A2 : Option Addr) (q cq : Nat) (C : List Cr) (S : List Int) (P : List EvP) (E : List EvT) : Prop where
  o3 : PcO3 w b A n c A' m c' q C S P
  e1 : E.length = P.length
  e2 : CpE w b E P
  e3 : Ow w b 51 6 A2 q cq (evC E)
  dst : DstE E
theorem PcOE.pcOw {w : World} {b : Nat} {A A' A2 : Option Addr} {n c m c' q cq : Nat} {C : List Cr} {S : List Int} {P : List EvP} {E : List EvT} (h : PcOE w b A n c A' m c' A2 q cq C S P E) : PcOw w b A n c A' m c' A2 q cq C S P :=
  ⟨h.o3.crs, h.o3.stp, h.o3.hn, h.o3.hm, h.o3.hq, E, h.e1, h.e2, h.e3⟩
theorem PcOE.blkB {w w' : World} {b : Nat} {A A' A2 : Option Addr} {n c m c' q cq : Nat} {C : List Cr} {S : List Int} {P : List EvP} {E : List EvT} (h : PcOE w b A n c A' m c' A2 q cq C S P E) (hk : ∀ g T cs, b ≤ g → T ≠ 28 → Blk w g T cs → Blk w' g T cs) : PcOE w' b A n c A' m c' A2 q cq C S P E :=
  ⟨⟨h.o3.crs.blkB (fun g cs h1 h2 => hk g _ cs h1 (by decide) h2), h.o3.stp.blkB (fun g cs h1 h2 => hk g _ cs h1 (by decide) h2), h.o3.hn, h.o3.hm, h.o3.hq⟩, h.e1, h.e2.blkB (fun g cs h1 h2 => hk g _ cs h1 (by decide) h2), h.e3.blkB (fun g cs h1 h2 => hk g _ cs h1 (by decide) h2), h.dst⟩
theorem PcOE.below {w w' : World} {b : Nat} {A A' A2 : Option Addr} {n c m c' q cq : Nat} {C : List Cr} {S : List Int} {P : List EvP} {E : List EvT} (h : PcOE w b A n c A' m c' A2 q cq C S P E) (hb : Below w.heap.size w w') : PcOE w' b A n c A' m c' A2 q cq C S P E := h.blkB (fun _ _ _ _ _ h => h.below hb)

set_option maxRecDepth 100000 in
set_option maxHeartbeats 8000000 in
theorem pcopyO_any (A : Option Addr) (n c : Nat) (A' : Option Addr) (m c' : Nat) (A2 : Option Addr) (q cq : Nat) (C : List Cr) (S : List Int) (P : List EvP) (w : World) (hP : PcIn w A n c A' m c' A2 q cq C S P) (hnb : n ≤ 65536) (hmb : m ≤ 65536) (hq : q ≤ 65536) (hst : ∀ y ∈ P, y.L.length ≤ 65536) :
    Calls Tryd.prog 10 #[pcV A n c A' m c' A2 q cq] w fun e w' => ∃ B d B' d' B2 d2 E, e = .returned (pcV B n d B' m d' B2 q d2) ∧ PcOE w' w.heap.size B n d B' m d' B2 q d2 C S P E ∧ Below w.heap.size w w' := by
  have HP : Hid (∀ w', Below w.heap.size w w' → PcIn w' A n c A' m c' A2 q cq C S P) := fun w' hb => hP.below hb
  have HL := Lib.hid hP.es.hq
  have HST := Lib.hid hst
  obtain ⟨i0, ii1, ii2, ii3, ii4⟩ := info_parts Tryd.infoEv
  obtain ⟨j0, jj1, jj2, jj3, jj4⟩ := info_parts Tryd.infoSt
  clear hP hst
  go_enter Tryd.func10, Tryd.ntmps10
  go_wp2_with (go_at_call 34; refine (rcopy_any A A' n c m c' C S _ (HP.out _ (bt (ba w _) (ba _ _))).crs (HP.out _ (bt (ba w _) (ba _ _))).stp hnb hmb).mono ?_; rintro e w1 ⟨B, d, B', d', rfl, ho1, ho2, hb1⟩)
  have HA := Lib.hid (And.intro ho1 ho2)
  have HB1 := Lib.hid hb1
  have hz1 : w.heap.size + 1 < w1.heap.size := by have := hb1.size; simp at this; omega
  clear ho1 ho2 hb1
  go_loopw [4] (fun i wr => ∃ (k : Nat) (B2 : Option Addr) (d2 : Nat) (E : List EvT), k ≤ q ∧ i = .int .i64 k ∧ E.length = k ∧ Own1 w1 wr 51 6 B2 k d2 (evC E) ∧ CpE wr w1.heap.size E P ∧ Blk wr w1.heap.size 28 #[.slice B n d, .slice B' m d', .slice B2 k d2] ∧ DstE E) (fun i _ => q - (intOf i).toNat)
  case atStart => exact ⟨0, none, 0, [], by omega, rfl, rfl, Own1.start (ba w1 _) _ _, fun j x y hx _ => by simp at hx, heap_alloc_new _ _, fun i j x y _ hx => by simp at hx⟩
  case round =>
    obtain ⟨k, B2, d2, E, hk, rfl, hE, hO, hC, hQ, hD⟩ := hrel
    have HD := Lib.hid hD
    clear hD
    have HO := Lib.hid hO
    have HCp := Lib.hid hC
    have HQ := Lib.hid hQ
    have HEl := Lib.hid hE
    obtain ⟨p0, p1, p2⟩ := cell3 (bt (ba _ _) (bt HB1.out HO.out.low))
    have q0 := hQ.cell 0
    have q1 := hQ.cell 1
    have q2 := hQ.cell 2
    have f2 := hQ.frozen 2
    have hzr : w1.heap.size < wr.heap.size := hQ.lt
    have hz0 : w.heap.size < wr.heap.size := by omega
    have hne : w1.heap.size ≠ wr.heap.size := by omega
    have hne2 : wr.heap.size ≠ w1.heap.size := by omega
    have HWR : Hid (Below w.heap.size w wr) := bx (bx (bt HB1.out HO.out.low))
    clear hO hC hQ hE
    by_cases hlt : k < q
    · obtain ⟨b, off, sa, sc, rfl, hbl, hPk, _, ⟨c0, c1, c2, c3, c4, c5⟩, hS⟩ := (HP.out _ HWR.out).es.at hlt
      have HS := Lib.hid hS
      have HY := Lib.hid hPk
      have hL : (P.getD k z6).L.length ≤ 65536 := HST.out _ (List.mem_of_getElem? hPk)
      clear hS hPk
      generalize P.getD k z6 = y at *
      obtain ⟨bar, v, dt, tr, tie, L⟩ := y
      dsimp only at c0 c1 c2 c3 c4 c5 hL HS
      go_wp2_with (first
        | (at_builtin; (refine wpList_append_fresh _ rfl _ _ 49 rfl 62 j0 _ 5 40 Tryd.underlying49 jj1 jj2 jj3 jj4 rfl (by decide) _ rfl sa L.length sc (stC L) rfl (HS.out.below (bt (ba wr _) (ba _ _))) (by unfold maxLen; omega) (by omega) ?_); (intro A5 c5' w5 hown5 hb5); (have hT5 := bx (bx hb5); obtain ⟨x0, x1, x2, x3, x4, x5⟩ := cell6 (bt (ba _ _) hb5); have fx := (keepb (bt (ba _ _) hb5) 5).2; have r0 := cell_same (hT5.block w1.heap.size hzr) q0; have r1 := cell_same (hT5.block w1.heap.size hzr) q1; have r2 := cell_same (hT5.block w1.heap.size hzr) q2; have g2 := (frozen_same (hT5.block w1.heap.size hzr)).trans f2; have hT7 := hT5); (have hz5 : wr.heap.size + 1 < w5.heap.size := by (have := hb5.size; simp at this; omega)); (have hT6 : Below wr.heap.size wr (w5.setCell ⟨wr.heap.size, 5, none⟩ (.slice A5 L.length c5')) := hT5.setCell (Nat.le_refl _) _))
        | (at_builtin; (refine wpList_append_own _ rfl _ _ 26 rfl w1.heap.size 51 i0 _ 6 56 Tryd.underlying26 ii1 ii2 ii3 ii4 rfl (by decide) (.slice B2 k d2) k _ rfl ((own_below HO.out.own hT6).alloc _) ⟨w5.heap.size, 0, none⟩ 1 1 [.bool bar, .int .i64 v, .bool dt, .bool tr, .bool tie, .slice A5 L.length c5'] rfl rfl ?d1 ?d2 ?d3 ?d4 ?d5 ?_)))
      case d1 =>
        have := World.news_of_block (cs := #[.bool bar, .int .i64 v, .bool dt, .bool tr, .bool tie, .slice A5 L.length c5']) (t := 51) (fr := (0, 0)) (heap_alloc_new (w5.setCell ⟨wr.heap.size, 5, none⟩ (.slice A5 L.length c5')) _)
        simpa using this
      case d2 =>
        intro u hu
        simp at hu
        (repeat' (rcases hu with rfl | hu)) <;> first | rfl | (subst hu; rfl)
      case d3 => unfold maxLen; omega
      case d4 => omega
      case d5 => simp; omega
      intro v' w7 hown' hgrow _
      obtain ⟨_, _, _, _, hkeep⟩ := Own1.step (HO.out.below hT6) (Below.refl _ _) rfl hown' hgrow
      obtain ⟨B3, d3, rfl, hO3, _⟩ := Own1.step HO.out hT6 rfl hown' hgrow
      have hQ7 := hkeep _ _ _ (by decide) (HQ.out.below hT6)
      have s0 := hQ7.cell 0
      have s1 := hQ7.cell 1
      have s2 := hQ7.cell 2
      have t2 := hQ7.frozen 2
      have hO6 : Ow w7 w1.heap.size 62 5 A5 L.length c5' (stC L) := ((hown5.other (by simp; omega) 5 (.slice A5 L.length c5')).blk (fun g cs h => hkeep g _ cs (by decide) h)).more (by simp; omega)
      have hC7 : CpE w7 w1.heap.size E P := HCp.out.blk (fun g cs h => hkeep g _ cs (by decide) (h.below hT6))
      have hC8 : CpE (w7.setCell ⟨w1.heap.size, 2, none⟩ (.slice B3 (k + 1) d3)) w1.heap.size (E ++ [⟨bar, v, dt, tr, tie, A5, L.length, c5'⟩]) P := by
        refine CpE.snoc (y := ⟨bar, v, dt, tr, tie, L⟩) ?_ (by rw [HEl.out]; exact HY.out) ⟨rfl, rfl, rfl, rfl, rfl, rfl⟩ ?_
        · exact hC7.blk (fun g cs h => h.setOther (h.ne hQ7 (by decide)) _ _)
        · exact hO6.blk (fun g cs h => h.setOther (h.ne hQ7 (by decide)) _ _)
      have hO8 : Own1 w1 (w7.setCell ⟨w1.heap.size, 2, none⟩ (.slice B3 (k + 1) d3)) 51 6 B3 (k + 1) d3 (evC (E ++ [⟨bar, v, dt, tr, tie, A5, L.length, c5'⟩])) := by
        rw [evC_snoc]
        refine ⟨ownsRow_heap hO3.own (fun g hg => ?_), hO3.low.setCell (Nat.le_refl _) _⟩
        exact set_other _ _ _ _ _ (fun e => blk_apart hQ7 hO3.own (by decide) (by rw [← e]; exact hg.symm))
      have hQ8 : Blk (w7.setCell ⟨w1.heap.size, 2, none⟩ (.slice B3 (k + 1) d3)) w1.heap.size 28 #[.slice B n d, .slice B' m d', .slice B3 (k + 1) d3] := hQ7.set_ 2 _
      have hD8 : DstE (E ++ [⟨bar, v, dt, tr, tie, A5, L.length, c5'⟩]) := HD.out.snoc HCp.out (by rw [HEl.out]; exact Nat.le_of_lt (List.getElem?_eq_some_iff.1 HY.out).1) (hown5.more (show wr.heap.size ≤ _ by simp; omega))
      have HX8 := Lib.hid (And.intro hO8 (And.intro hC8 (And.intro hQ8 hD8)))
      clear hown' hgrow hkeep hO3 hO6 hC7 hC8 hO8 hQ8 hD8 hown5 hb5 hT5 hT6 x0 x1 x2 x3 x4 x5 fx r0 r1 r2 g2 q0 q1 q2 f2 p0 p1 p2
      go_wp2_with (fail)
      go_roundw
      case rel => exact ⟨k + 1, _, _, _, by omega, by first | rfl | go_num, by simp [HEl.out], HX8.out.1, HX8.out.2.1, HX8.out.2.2.1, HX8.out.2.2.2⟩
      case measure => simp [intOf]; omega
    · obtain rfl : k = q := by omega
      have hk0 : w1.heap.size ≠ w.heap.size + 1 := by omega
      have hk1 : w.heap.size + 1 ≠ w1.heap.size := by omega
      have hR : Blk wr (w.heap.size + 1) 28 #[.slice none 0 0, .slice none 0 0, .slice none 0 0] := by
        have h0 : Blk ((w.alloc (pcO A n c A' m c' A2 k cq)).alloc (pcO none 0 0 none 0 0 none 0 0)) (w.heap.size + 1) 28 #[.slice none 0 0, .slice none 0 0, .slice none 0 0] := by
          have := heap_alloc_new (w.alloc (pcO A n c A' m c' A2 k cq)) (pcO none 0 0 none 0 0 none 0 0)
          rwa [World.size_alloc] at this
        exact (h0.below HB1.out).below HO.out.low
      have u0 := hR.cell 0
      have u1 := hR.cell 1
      have u2 := hR.cell 2
      have v0 := hR.frozen 0
      have v1 := hR.frozen 1
      have v2 := hR.frozen 2
      have HR := Lib.hid hR
      clear hR p0 p1
      go_wp2_with (fail)
      have hR3 := ((HR.out.set_ 0 (.slice B n d)).set_ 1 (.slice B' m d')).set_ 2 (.slice B2 k d2)
      have z0 := hR3.cell 0
      have z1 := hR3.cell 1
      have z2 := hR3.cell 2
      refine bodyPost_ret (v := pcV B n d B' m d' B2 k d2) ?_ rfl ?_
      · simp at z0 z1 z2
        simp [results, Tryd.results10, go_sem, z0, z1, z2]
      · have hP := HP.out _ (Below.refl _ _)
        have hk3 : ∀ (t : TypeId) (g : Nat) (cs : Array Value), t ≠ 28 → Blk wr g t cs → Blk (((wr.setCell ⟨w.heap.size + 1, 0, none⟩ (.slice B n d)).setCell ⟨w.heap.size + 1, 1, none⟩ (.slice B' m d')).setCell ⟨w.heap.size + 1, 2, none⟩ (.slice B2 k d2)) g t cs := fun t g cs ht h => by
          have hne := h.ne HR.out ht
          exact ((h.setOther hne _ _).setOther hne _ _).setOther hne _ _
        refine ⟨B, d, B', d', B2, d2, E, rfl, ⟨⟨?_, ?_, hP.hn, hP.hm, hP.es.hq⟩, by rw [HEl.out]; exact hP.es.hq, ?_, ?_, HD.out⟩, ((HWR.out.setCell (by simp) _).setCell (by simp) _).setCell (by simp) _⟩
        · exact ((HA.out.1.below HO.out.low).blk (fun g cs h => hk3 _ g cs (by decide) h)).more (by simp; omega)
        · exact ((HA.out.2.below HO.out.low).blk (fun g cs h => hk3 _ g cs (by decide) h)).more (by simp; omega)
        · exact (HCp.out.blk (fun g cs h => hk3 _ g cs (by decide) h)).more (by omega)
        · exact ((Ow.of_own HO.out.own).blk (fun g cs h => hk3 _ g cs (by decide) h)).more (by omega)

end Go.Proofs.YtdhjigaocamglaaDoor

/- Pieces: the reference's Plain. -/
namespace Go.Proofs.YtdhjigaocamglaaDoor
open Go Go.RowKit

def upS (y : EvP) (s : Sg) : EvP := { y with v := s.v, d := s.d, t := s.t }
def upT (x : EvT) (s : Sg) : EvT := { x with v := s.v, d := s.d, t := s.t }
def setG : List EvP → List Sg → List EvP
  | y :: P, s :: G => upS y s :: setG P G
  | P, _ => P
theorem setG_len : ∀ (P : List EvP) (G : List Sg), (setG P G).length = P.length
  | [], [] => rfl
  | [], _ :: _ => rfl
  | _ :: _, [] => rfl
  | y :: P, s :: G => by simp [setG, setG_len P G]

theorem evC_upT : ∀ (E : List EvT) (k : Nat) (x : EvT) (s : Sg), E[k]? = some x → (((evC E).set (k * 6 + 1) (.int .i64 s.v)).set (k * 6 + 2) (.bool s.d)).set (k * 6 + 3) (.bool s.t) = evC (E.set k (upT x s))
  | [], k, x, s, h => by simp at h
  | e :: E, 0, x, s, h => by
    obtain rfl : e = x := by simpa using h
    rfl
  | e :: E, k + 1, x, s, h => by
    have := evC_upT E k x s (by simpa using h)
    have e0 : evC (e :: E) = .bool e.bar :: .int .i64 e.v :: .bool e.d :: .bool e.t :: .bool e.tie :: .slice e.sa e.sn e.sc :: evC E := rfl
    rw [e0, show (k + 1) * 6 + 1 = k * 6 + 1 + 6 by omega, show (k + 1) * 6 + 2 = k * 6 + 2 + 6 by omega, show (k + 1) * 6 + 3 = k * 6 + 3 + 6 by omega]
    simp only [List.set_cons_succ, this]
    rfl
theorem evC_upV : ∀ (E : List EvT) (k : Nat) (x : EvT) (v : Int), E[k]? = some x → (evC E).set (k * 6 + 1) (.int .i64 v) = evC (E.set k (upT x ⟨v, x.d, x.t⟩))
  | [], k, x, v, h => by simp at h
  | e :: E, 0, x, v, h => by
    obtain rfl : e = x := by simpa using h
    rfl
  | e :: E, k + 1, x, v, h => by
    have := evC_upV E k x v (by simpa using h)
    have e0 : evC (e :: E) = .bool e.bar :: .int .i64 e.v :: .bool e.d :: .bool e.t :: .bool e.tie :: .slice e.sa e.sn e.sc :: evC E := rfl
    rw [e0, show (k + 1) * 6 + 1 = k * 6 + 1 + 6 by omega]
    simp only [List.set_cons_succ, this]
    rfl
/-- An event's sign is written. -/
theorem PcOE.sign {w : World} {b : Nat} {A A' A2 : Option Addr} {n c m c' q cq : Nat} {C : List Cr} {S : List Int} {P : List EvP} {E : List EvT} (h : PcOE w b A n c A' m c' A2 q cq C S P E) {k : Nat} {y : EvP} (hy : P[k]? = some y) :
    ∃ g x, A2 = some ⟨g, 0, none⟩ ∧ b ≤ g ∧ g < w.heap.size ∧ E[k]? = some x ∧ (w.cell? ⟨g, k * 6, none⟩ = some (.bool y.bar) ∧ w.cell? ⟨g, k * 6 + 1, none⟩ = some (.int .i64 y.v) ∧ w.cell? ⟨g, k * 6 + 2, none⟩ = some (.bool y.d) ∧ w.cell? ⟨g, k * 6 + 3, none⟩ = some (.bool y.t) ∧ w.cell? ⟨g, k * 6 + 4, none⟩ = some (.bool y.tie) ∧ w.cell? ⟨g, k * 6 + 5, none⟩ = some (.slice x.sa y.L.length x.sc)) ∧
      (∀ j, w.frozen? ⟨g, j, none⟩ = false) ∧ (∃ cs, Blk w g 51 cs) ∧
      (∀ s : Sg, PcOE (((w.setCell ⟨g, k * 6 + 1, none⟩ (.int .i64 s.v)).setCell ⟨g, k * 6 + 2, none⟩ (.bool s.d)).setCell ⟨g, k * 6 + 3, none⟩ (.bool s.t)) b A n c A' m c' A2 q cq C S (P.set k (upS y s)) (E.set k (upT x s))) ∧
      (∀ v : Int, PcOE (w.setCell ⟨g, k * 6 + 1, none⟩ (.int .i64 v)) b A n c A' m c' A2 q cq C S (P.set k (upS y ⟨v, y.d, y.t⟩)) (E.set k (upT x ⟨v, y.d, y.t⟩))) := by
  have hkP : k < P.length := (List.getElem?_eq_some_iff.1 hy).1
  have hkE : k < E.length := by rw [h.e1]; exact hkP
  have hxe := List.getElem?_eq_getElem hkE
  obtain ⟨k1, k2⟩ := h.e2 k E[k] y hxe hy
  obtain ⟨g, cur, rfl, hb, hB, hcs, htk⟩ := h.e3.2.2 (by rw [h.o3.hq]; omega)
  obtain ⟨i0, i1, i2, i3, i4, i5⟩ := evC_at E k E[k] hxe
  have hc : ∀ j u, (evC E)[j]? = some u → w.cell? ⟨g, j, none⟩ = some u := fun j u hu => hB.cellOf htk hu
  have hkeep : ∀ (g2 : Nat) (T : TypeId) (cs : Array Value) (j : Nat) (u : Value) (W : World), Blk W g 51 cs → T ≠ 51 → ∀ cs2, Blk W g2 T cs2 → Blk (W.setCell ⟨g, j, none⟩ u) g2 T cs2 := fun g2 T cs j u W hg hT cs2 h2 => h2.setOther (h2.ne hg hT) _ _
  have hup : ∀ s : Sg, CpE w b (E.set k (upT E[k] s)) (P.set k (upS y s)) := fun s j x' y' hx' hy' => by
    by_cases hj : j = k
    · subst hj
      rw [List.getElem?_set_self hkE] at hx'
      rw [List.getElem?_set_self hkP] at hy'
      injection hx' with hx'
      injection hy' with hy'
      subst hx' hy'
      exact ⟨⟨k1.1, rfl, rfl, rfl, k1.2.2.2.2.1, k1.2.2.2.2.2⟩, k2⟩
    · rw [List.getElem?_set_ne (fun e => hj e.symm)] at hx' hy'
      exact h.e2 j x' y' hx' hy'
  have hdst : ∀ s : Sg, DstE (E.set k (upT E[k] s)) := fun s i j x' y' hij hx' hy' h1 h2 => by
    have hf : ∀ (i : Nat) (x' : EvT), (E.set k (upT E[k] s))[i]? = some x' → ∃ x0, E[i]? = some x0 ∧ x0.sa = x'.sa ∧ x0.sn = x'.sn := fun i x' hx' => by
      by_cases hi : i = k
      · subst hi
        rw [List.getElem?_set_self hkE] at hx'
        injection hx' with hx'
        subst hx'
        exact ⟨_, hxe, rfl, rfl⟩
      · rw [List.getElem?_set_ne (fun e => hi e.symm)] at hx'
        exact ⟨x', hx', rfl, rfl⟩
    obtain ⟨a, a1, a2, a3⟩ := hf i x' hx'
    obtain ⟨d, d1, d2, d3⟩ := hf j y' hy'
    rw [← a2, ← d2]
    exact h.dst i j a d hij a1 d1 (by omega) (by omega)
  rw [k1.1] at i0
  rw [k1.2.1] at i1
  rw [k1.2.2.1] at i2
  rw [k1.2.2.2.1] at i3
  rw [k1.2.2.2.2.1] at i4
  rw [k1.2.2.2.2.2] at i5
  refine ⟨g, E[k], rfl, hb, hB.lt, hxe, ⟨hc _ _ i0, hc _ _ i1, hc _ _ i2, hc _ _ i3, hc _ _ i4, hc _ _ i5⟩, fun j => hB.frozen j, ⟨_, hB⟩, fun s => ?_, fun v => ?_⟩
  · have hk3 : ∀ (g2 : Nat) (T : TypeId) (cs : Array Value), T ≠ 51 → Blk w g2 T cs → Blk (((w.setCell ⟨g, k * 6 + 1, none⟩ (.int .i64 s.v)).setCell ⟨g, k * 6 + 2, none⟩ (.bool s.d)).setCell ⟨g, k * 6 + 3, none⟩ (.bool s.t)) g2 T cs := fun g2 T cs hT h2 => by
      have hne := h2.ne hB hT
      exact ((h2.setOther hne _ _).setOther hne _ _).setOther hne _ _
    refine ⟨⟨h.o3.crs.blk (fun g2 cs h2 => hk3 g2 _ cs (by decide) h2), h.o3.stp.blk (fun g2 cs h2 => hk3 g2 _ cs (by decide) h2), h.o3.hn, h.o3.hm, by rw [List.length_set]; exact h.o3.hq⟩, by rw [List.length_set, List.length_set]; exact h.e1, (hup s).blk (fun g2 cs h2 => hk3 g2 _ cs (by decide) h2), ?_, hdst s⟩
    have := ((h.e3.set_ (k * 6 + 1) (.int .i64 s.v)).set_ (k * 6 + 2) (.bool s.d)).set_ (k * 6 + 3) (.bool s.t)
    rwa [evC_upT E k E[k] s hxe] at this
  · have hk3 : ∀ (g2 : Nat) (T : TypeId) (cs : Array Value), T ≠ 51 → Blk w g2 T cs → Blk (w.setCell ⟨g, k * 6 + 1, none⟩ (.int .i64 v)) g2 T cs := fun g2 T cs hT h2 => h2.setOther (h2.ne hB hT) _ _
    refine ⟨⟨h.o3.crs.blk (fun g2 cs h2 => hk3 g2 _ cs (by decide) h2), h.o3.stp.blk (fun g2 cs h2 => hk3 g2 _ cs (by decide) h2), h.o3.hn, h.o3.hm, by rw [List.length_set]; exact h.o3.hq⟩, by rw [List.length_set, List.length_set]; exact h.e1, (hup _).blk (fun g2 cs h2 => hk3 g2 _ cs (by decide) h2), ?_, hdst _⟩
    have h1 := h.e3.set_ (k * 6 + 1) (.int .i64 v)
    rw [evC_upV E k E[k] v hxe, k1.2.2.1, k1.2.2.2.1] at h1
    exact h1

/-- The reference's loop over the signs: what it keeps. -/
structure RpR (w : World) (b qb : Nat) (u0 u1 u2 : Value) (A : Option Addr) (n c : Nat) (A' : Option Addr) (m c' : Nat) (A2 : Option Addr) (q cq : Nat) (C : List Cr) (S : List Int) (P : List EvP) (Bf : Option Addr) (df : Nat) (F : List Sg) (wr : World) : Prop where
  pc : ∃ E, PcOE wr b A n c A' m c' A2 q cq C S P E
  fs : Ow wr b 48 3 Bf q df (sfC F)
  qx : Blk wr qb 28 #[.slice A n c, .slice A' m c', .slice A2 q cq]
  rs : Blk wr (w.heap.size + 1) 28 #[u0, u1, u2]
  lo : Below w.heap.size w wr
theorem RpR.sign {w : World} {b qb : Nat} {u0 u1 u2 : Value} {A : Option Addr} {n c : Nat} {A' : Option Addr} {m c' : Nat} {A2 : Option Addr} {q cq : Nat} {C : List Cr} {S : List Int} {P : List EvP} {Bf : Option Addr} {df : Nat} {F : List Sg} {wr : World}
    (h : RpR w b qb u0 u1 u2 A n c A' m c' A2 q cq C S P Bf df F wr) (hb : w.heap.size ≤ b) {k : Nat} {y : EvP} (hy : P[k]? = some y) :
    ∃ g, A2 = some ⟨g, 0, none⟩ ∧ g < wr.heap.size ∧ (wr.cell? ⟨g, k * 6 + 1, none⟩ = some (.int .i64 y.v) ∧ wr.cell? ⟨g, k * 6 + 2, none⟩ = some (.bool y.d) ∧ wr.cell? ⟨g, k * 6 + 3, none⟩ = some (.bool y.t)) ∧ (∀ j, wr.frozen? ⟨g, j, none⟩ = false) ∧ g ≠ qb ∧ qb ≠ g ∧
      (∀ s : Sg, RpR w b qb u0 u1 u2 A n c A' m c' A2 q cq C S (P.set k (upS y s)) Bf df F (((wr.setCell ⟨g, k * 6 + 1, none⟩ (.int .i64 s.v)).setCell ⟨g, k * 6 + 2, none⟩ (.bool s.d)).setCell ⟨g, k * 6 + 3, none⟩ (.bool s.t))) := by
  obtain ⟨E, hE⟩ := h.pc
  obtain ⟨g, x, rfl, h1, h2, _, ⟨_, c1, c2, c3, _, _⟩, hf, ⟨cs, hB⟩, hs, _⟩ := hE.sign hy
  have hq := hB.ne h.qx (by decide)
  refine ⟨g, rfl, h2, ⟨c1, c2, c3⟩, hf, hq, fun e => hq e.symm, fun s => ?_⟩
  have hk3 : ∀ (g2 : Nat) (T : TypeId) (cs : Array Value), T ≠ 51 → Blk wr g2 T cs → Blk (((wr.setCell ⟨g, k * 6 + 1, none⟩ (.int .i64 s.v)).setCell ⟨g, k * 6 + 2, none⟩ (.bool s.d)).setCell ⟨g, k * 6 + 3, none⟩ (.bool s.t)) g2 T cs := fun g2 T cs hT h2 => by
    have hne := h2.ne hB hT
    exact ((h2.setOther hne _ _).setOther hne _ _).setOther hne _ _
  exact ⟨⟨_, hs s⟩, h.fs.blk (fun g2 cs h2 => hk3 g2 _ cs (by decide) h2), hk3 _ _ _ (by decide) h.qx, hk3 _ _ _ (by decide) h.rs, ((h.lo.setCell (p := ⟨g, k * 6 + 1, none⟩) (Nat.le_trans hb h1) _).setCell (p := ⟨g, k * 6 + 2, none⟩) (Nat.le_trans hb h1) _).setCell (p := ⟨g, k * 6 + 3, none⟩) (Nat.le_trans hb h1) _⟩
theorem RpR.drew {w : World} {b qb : Nat} {u0 u1 u2 : Value} {A : Option Addr} {n c : Nat} {A' : Option Addr} {m c' : Nat} {A2 : Option Addr} {q cq : Nat} {C : List Cr} {S : List Int} {P : List EvP} {Bf : Option Addr} {df : Nat} {F : List Sg} {wr : World}
    (h : RpR w b qb u0 u1 u2 A n c A' m c' A2 q cq C S P Bf df F wr) : RpR w b qb u0 u1 u2 A n c A' m c' A2 q cq C S P Bf df F wr.drew := by
  obtain ⟨E, hE⟩ := h.pc
  have hb : Below wr.heap.size wr wr.drew := (Below.refl _ _).drew
  exact ⟨⟨E, hE.below hb⟩, h.fs.below hb, h.qx.below hb, h.rs.below hb, bt h.lo hb⟩
/-- A sign of the list. -/
theorem sg_at {w : World} {B : Nat} {Bf : Option Addr} {q df : Nat} {F : List Sg} (h : Ow w B 48 3 Bf q df (sfC F)) {k : Nat} (hk : k < q) (hF : F.length = q) :
    ∃ g, Bf = some ⟨g, 0, none⟩ ∧ g < w.heap.size ∧ F[k]? = some (F.getD k s0g) ∧ w.cell? ⟨g, k * 3, none⟩ = some (.int .i64 (F.getD k s0g).v) ∧ w.cell? ⟨g, k * 3 + 1, none⟩ = some (.bool (F.getD k s0g).d) ∧ w.cell? ⟨g, k * 3 + 2, none⟩ = some (.bool (F.getD k s0g).t) := by
  obtain ⟨g, cur, rfl, hb, hB, hcs, htk⟩ := h.2.2 (by omega)
  obtain ⟨i0, i1, i2⟩ := sfC_at F k (by omega)
  refine ⟨g, rfl, hB.lt, ?_, hB.cellOf htk i0, hB.cellOf htk i1, hB.cellOf htk i2⟩
  have hk2 : k < F.length := by omega
  simp [List.getD_eq_getElem?_getD, List.getElem?_eq_getElem hk2]

theorem PcOE.other {w : World} {b : Nat} {A A' A2 : Option Addr} {n c m c' q cq : Nat} {C : List Cr} {S : List Int} {P : List EvP} {E : List EvT} (h : PcOE w b A n c A' m c' A2 q cq C S P E) {g : Nat} (hg : g < b) (i : Nat) (u : Value) : PcOE (w.setCell ⟨g, i, none⟩ u) b A n c A' m c' A2 q cq C S P E :=
  h.blkB (fun _ _ _ h1 _ h2 => h2.setOther (by omega) _ _)
theorem PcOE.more {w : World} {b b' : Nat} {A A' A2 : Option Addr} {n c m c' q cq : Nat} {C : List Cr} {S : List Int} {P : List EvP} {E : List EvT} (h : PcOE w b A n c A' m c' A2 q cq C S P E) (hb : b' ≤ b) : PcOE w b' A n c A' m c' A2 q cq C S P E :=
  ⟨⟨h.o3.crs.more hb, h.o3.stp.more hb, h.o3.hn, h.o3.hm, h.o3.hq⟩, h.e1, h.e2.more hb, h.e3.more hb, h.dst⟩
theorem PcOE.nil_ (w : World) (b : Nat) : PcOE w b none 0 0 none 0 0 none 0 0 [] [] [] [] :=
  ⟨⟨⟨Nat.le_refl _, rfl, fun h => absurd h (by omega)⟩, ⟨Nat.le_refl _, rfl, fun h => absurd h (by omega)⟩, rfl, rfl, rfl⟩, rfl, fun j x y hx _ => by simp at hx, ⟨Nat.le_refl _, rfl, fun h => absurd h (by omega)⟩, fun i j x y _ hx => by simp at hx⟩
end Go.Proofs.YtdhjigaocamglaaDoor
