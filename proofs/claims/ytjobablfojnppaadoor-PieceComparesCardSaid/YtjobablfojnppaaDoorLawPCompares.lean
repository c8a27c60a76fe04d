/- The law PieceCompares returns true for every two pieces. -/
import Derived.Test.YtjobablfojnppaaDoorCmp9C
import Derived.Test.YtjobablfojnppaaDoorCmp9
import Derived.Deep.CutRange
import Derived.Test.YtjobablfojnppaaDoorWorks2
import Derived.Test.YtjobablfojnppaaDoorSameI2
import Derived.Test.YtjobablfojnppaaDoorPcCopy
namespace Go.Proofs.YtjobablfojnppaaDoor
open Go Go.RowKit

theorem PcOw.atPc {w : World} {b : Nat} {A A' A2 : Option Addr} {n c m c' q cq : Nat} {C : List Cr} {S : List Int} {P : List EvP} (h : PcOw w b A n c A' m c' A2 q cq C S P) {g : Nat} {cs : Array Value} (hb : Blk w g 28 cs) (i : Nat) (u : Value) : PcOw (w.setCell ⟨g, i, none⟩ u) b A n c A' m c' A2 q cq C S P :=
  h.blkB (fun g2 T cs2 _ hT h2 => h2.setOther (fun e => by
    unfold Blk at hb h2
    subst e
    rw [hb] at h2
    injection h2 with h2
    injection h2 with _ h3 _
    exact hT h3.symm) _ _)
/-- Two boxes with two pieces of their own. -/
def CmR (W2 : World) (wx : World) (g5 g6 : Nat) (Ba : Option Addr) (n ka : Nat) (Ba' : Option Addr) (m ka' : Nat) (Ba2 : Option Addr) (q ka2 : Nat) (Bb : Option Addr) (n2 kb : Nat) (Bb' : Option Addr) (m2 kb' : Nat) (Bb2 : Option Addr) (q2 kb2 : Nat) (C : List Cr) (S : List Int) (P : List EvP) (D : List Cr) (U : List Int) (Q : List EvP) : Prop :=
  Blk wx g5 28 #[.slice Ba n ka, .slice Ba' m ka', .slice Ba2 q ka2] ∧ Blk wx g6 28 #[.slice Bb n2 kb, .slice Bb' m2 kb', .slice Bb2 q2 kb2] ∧ PcIn wx Ba n ka Ba' m ka' Ba2 q ka2 C S P ∧ PcIn wx Bb n2 kb Bb' m2 kb' Bb2 q2 kb2 D U Q ∧ Below W2.heap.size W2 wx
theorem cmp_leaf {W2 wx : World} {g5 g6 b1 b2 : Nat} {Ba : Option Addr} {n ka : Nat} {Ba' : Option Addr} {m ka' : Nat} {Ba2 : Option Addr} {q ka2 : Nat} {Bb : Option Addr} {n2 kb : Nat} {Bb' : Option Addr} {m2 kb' : Nat} {Bb2 : Option Addr} {q2 kb2 : Nat} {C : List Cr} {S : List Int} {P : List EvP} {D : List Cr} {U : List Int} {Q : List EvP}
    (hne : g5 ≠ g6) (lo5 : W2.heap.size ≤ g5) (lo6 : W2.heap.size ≤ g6) (bk5 : Blk wx g5 28 #[.slice none 0 0, .slice none 0 0, .slice none 0 0]) (bk6 : Blk wx g6 28 #[.slice none 0 0, .slice none 0 0, .slice none 0 0]) (hpa : PcOw wx b1 Ba n ka Ba' m ka' Ba2 q ka2 C S P) (hpb : PcOw wx b2 Bb n2 kb Bb' m2 kb' Bb2 q2 kb2 D U Q) (hs : Below W2.heap.size W2 wx) :
    CmR W2 ((((((wx.setCell ⟨g5, 0, none⟩ (.slice Ba n ka)).setCell ⟨g5, 1, none⟩ (.slice Ba' m ka')).setCell ⟨g5, 2, none⟩ (.slice Ba2 q ka2)).setCell ⟨g6, 0, none⟩ (.slice Bb n2 kb)).setCell ⟨g6, 1, none⟩ (.slice Bb' m2 kb')).setCell ⟨g6, 2, none⟩ (.slice Bb2 q2 kb2)) g5 g6 Ba n ka Ba' m ka' Ba2 q ka2 Bb n2 kb Bb' m2 kb' Bb2 q2 kb2 C S P D U Q := by
  have a1 := bk5.set_ 0 (.slice Ba n ka)
  have a2 := a1.set_ 1 (.slice Ba' m ka')
  have a3 := a2.set_ 2 (.slice Ba2 q ka2)
  have d0 := ((bk6.setOther hne.symm 0 (.slice Ba n ka)).setOther hne.symm 1 (.slice Ba' m ka')).setOther hne.symm 2 (.slice Ba2 q ka2)
  have d1 := d0.set_ 0 (.slice Bb n2 kb)
  have d2 := d1.set_ 1 (.slice Bb' m2 kb')
  have d3 := d2.set_ 2 (.slice Bb2 q2 kb2)
  refine ⟨?_, by simpa using d3, ?_, ?_, (((((hs.setCell (p := ⟨g5, 0, none⟩) lo5 _).setCell (p := ⟨g5, 1, none⟩) lo5 _).setCell (p := ⟨g5, 2, none⟩) lo5 _).setCell (p := ⟨g6, 0, none⟩) lo6 _).setCell (p := ⟨g6, 1, none⟩) lo6 _).setCell (p := ⟨g6, 2, none⟩) lo6 _⟩
  · have := ((a3.setOther hne 0 (.slice Bb n2 kb)).setOther hne 1 (.slice Bb' m2 kb')).setOther hne 2 (.slice Bb2 q2 kb2)
    simpa using this
  · exact ((((((hpa.atPc bk5 0 (.slice Ba n ka)).atPc a1 1 (.slice Ba' m ka')).atPc a2 2 (.slice Ba2 q ka2)).atPc d0 0 (.slice Bb n2 kb)).atPc d1 1 (.slice Bb' m2 kb')).atPc d2 2 (.slice Bb2 q2 kb2)).pcIn
  · exact ((((((hpb.atPc bk5 0 (.slice Ba n ka)).atPc a1 1 (.slice Ba' m ka')).atPc a2 2 (.slice Ba2 q ka2)).atPc d0 0 (.slice Bb n2 kb)).atPc d1 1 (.slice Bb' m2 kb')).atPc d2 2 (.slice Bb2 q2 kb2)).pcIn
set_option maxRecDepth 100000 in
set_option maxHeartbeats 3200000 in
theorem law_pcompares (A : Option Addr) (n c : Nat) (A' : Option Addr) (m c' : Nat) (A2 : Option Addr) (q cq : Nat) (C : List Cr) (S : List Int) (P : List EvP) (B : Option Addr) (n2 d : Nat) (B' : Option Addr) (m2 d' : Nat) (B2 : Option Addr) (q2 dq : Nat) (D : List Cr) (U : List Int) (Q : List EvP) (w : World) (E : SgT w) (hP : PcIn w A n c A' m c' A2 q cq C S P) (hQ : PcIn w B n2 d B' m2 d' B2 q2 dq D U Q) :
    Calls Tryd.prog 11 #[pcV A n c A' m c' A2 q cq, pcV B n2 d B' m2 d' B2 q2 dq] w fun e w' => e = .returned (.bool true) ∧ Below w.heap.size w w' := by
  have HE : Hid (∀ w', Below ((w.alloc (pcO A n c A' m c' A2 q cq)).alloc (pcO B n2 d B' m2 d' B2 q2 dq)).heap.size ((w.alloc (pcO A n c A' m c' A2 q cq)).alloc (pcO B n2 d B' m2 d' B2 q2 dq)) w' → PcIn w' A n c A' m c' A2 q cq C S P ∧ PcIn w' B n2 d B' m2 d' B2 q2 dq D U Q) :=
    fun w' h => ⟨(hP.below (bt (ba _ _) (ba _ _))).below h, (hQ.below (bt (ba _ _) (ba _ _))).below h⟩
  have HC : Hid (∀ w', Below ((w.alloc (pcO A n c A' m c' A2 q cq)).alloc (pcO B n2 d B' m2 d' B2 q2 dq)).heap.size ((w.alloc (pcO A n c A' m c' A2 q cq)).alloc (pcO B n2 d B' m2 d' B2 q2 dq)) w' → (w'.cell? ⟨w.heap.size, 0, none⟩ = some (.slice A n c) ∧ w'.cell? ⟨w.heap.size, 1, none⟩ = some (.slice A' m c') ∧ w'.cell? ⟨w.heap.size, 2, none⟩ = some (.slice A2 q cq)) ∧ (w'.cell? ⟨w.heap.size + 1, 0, none⟩ = some (.slice B n2 d) ∧ w'.cell? ⟨w.heap.size + 1, 1, none⟩ = some (.slice B' m2 d') ∧ w'.cell? ⟨w.heap.size + 1, 2, none⟩ = some (.slice B2 q2 dq)) ∧ w.heap.size + 1 < w'.heap.size) := fun w' hb => by
    have p := cell3 (bt (ba _ _) hb)
    have r := cell3 hb
    simp only [World.size_alloc] at r
    exact ⟨p, r, by have := hb.size; simp at this; omega⟩
  have HBB : Hid (Below w.heap.size w ((w.alloc (pcO A n c A' m c' A2 q cq)).alloc (pcO B n2 d B' m2 d' B2 q2 dq))) := bt (ba _ _) (ba _ _)
  have HG : Hid (SgT ((w.alloc (pcO A n c A' m c' A2 q cq)).alloc (pcO B n2 d B' m2 d' B2 q2 dq))) := E.below HBB.out
  have BA := Lib.hid (fun w' (h : PcIn w' A n c A' m c' A2 q cq C S P) => pbig_any A n c A' m c' A2 q cq P w' h.es)
  have BB := Lib.hid (fun w' (h : PcIn w' B n2 d B' m2 d' B2 q2 dq D U Q) => pbig_any B n2 d B' m2 d' B2 q2 dq Q w' h.es)
  have HQ1 := Lib.hid hP.es.hq
  have HQ2 := Lib.hid hQ.es.hq
  clear hP hQ
  have T := Below.refl ((w.alloc (pcO A n c A' m c' A2 q cq)).alloc (pcO B n2 d B' m2 d' B2 q2 dq)).heap.size ((w.alloc (pcO A n c A' m c' A2 q cq)).alloc (pcO B n2 d B' m2 d' B2 q2 dq))
  obtain ⟨⟨x0, x1, x2⟩, ⟨y0, y1, y2⟩, hz⟩ := HC.out _ T
  cases hbg : pbigB n m P with
  | true =>
    rw [hbg] at BA
    clear hbg
    go_enter Tryd.func11, Tryd.ntmps11
    go_wp2_with (first
      | (go_at_call 14; with_reducible refine (BA.out _ (HE.out _ T).1).mono ?_; rintro e w1 ⟨rfl, hb1⟩; replace T := bt T hb1; clear hb1; clear x0 x1 x2 y0 y1 y2 hz; obtain ⟨⟨x0, x1, x2⟩, ⟨y0, y1, y2⟩, hz⟩ := HC.out _ T)
      | (go_at_call 14; with_reducible refine (BB.out _ (HE.out _ T).2).mono ?_; rintro e w2 ⟨rfl, hb2⟩; replace T := bt T hb2; clear hb2; clear x0 x1 x2 y0 y1 y2 hz; obtain ⟨⟨x0, x1, x2⟩, ⟨y0, y1, y2⟩, hz⟩ := HC.out _ T)
      | (go_at_call 15; refine (works2 _ (HG.out.below T)).mono ?_; rintro e wz ⟨rfl, hbz⟩))
    go_ret
    exact ⟨rfl, bt HBB.out (bt T hbz)⟩
  | false =>
  rw [hbg] at BA
  obtain ⟨l1, l2, l3, l4⟩ := pbigB_no hbg
  clear hbg
  cases hbg : pbigB n2 m2 Q with
  | true =>
    rw [hbg] at BB
    clear hbg
    go_enter Tryd.func11, Tryd.ntmps11
    go_wp2_with (first
      | (go_at_call 14; with_reducible refine (BA.out _ (HE.out _ T).1).mono ?_; rintro e w1 ⟨rfl, hb1⟩; replace T := bt T hb1; clear hb1; clear x0 x1 x2 y0 y1 y2 hz; obtain ⟨⟨x0, x1, x2⟩, ⟨y0, y1, y2⟩, hz⟩ := HC.out _ T)
      | (go_at_call 14; with_reducible refine (BB.out _ (HE.out _ T).2).mono ?_; rintro e w2 ⟨rfl, hb2⟩; replace T := bt T hb2; clear hb2; clear x0 x1 x2 y0 y1 y2 hz; obtain ⟨⟨x0, x1, x2⟩, ⟨y0, y1, y2⟩, hz⟩ := HC.out _ T)
      | (go_at_call 15; refine (works2 _ (HG.out.below T)).mono ?_; rintro e wz ⟨rfl, hbz⟩))
    go_ret
    exact ⟨rfl, bt HBB.out (bt T hbz)⟩
  | false =>
    rw [hbg] at BB
    obtain ⟨m1, m3, m4, m5⟩ := pbigB_no hbg
    clear hbg
    have HSP : Hid (∀ y ∈ P, y.L.length ≤ 65536) := fun y hy => Nat.le_trans (l4 y hy) (by omega)
    have HSQ : Hid (∀ y ∈ Q, y.L.length ≤ 65536) := fun y hy => Nat.le_trans (m5 y hy) (by omega)
    have hqb1 : q ≤ 65536 := by have := HQ1.out; omega
    have hqb2 : q2 ≤ 65536 := by have := HQ2.out; omega
    have CA := Lib.hid (fun w' (h : PcIn w' A n c A' m c' A2 q cq C S P) => pcopyO_any A n c A' m c' A2 q cq C S P w' h (by omega) (by omega) (by omega) HSP.out)
    have CB := Lib.hid (fun w' (h : PcIn w' B n2 d B' m2 d' B2 q2 dq D U Q) => pcopyO_any B n2 d B' m2 d' B2 q2 dq D U Q w' h (by omega) (by omega) (by omega) HSQ.out)
    clear l3 l4 m4 m5
    go_enter Tryd.func11, Tryd.ntmps11
    go_upto_region 3 with (first
      | (go_at_call 14; with_reducible refine (BA.out _ (HE.out _ T).1).mono ?_; rintro e w1 ⟨rfl, hb1⟩; replace T := bt T hb1; clear hb1; clear x0 x1 x2 y0 y1 y2 hz; obtain ⟨⟨x0, x1, x2⟩, ⟨y0, y1, y2⟩, hz⟩ := HC.out _ T)
      | (go_at_call 14; with_reducible refine (BB.out _ (HE.out _ T).2).mono ?_; rintro e w2 ⟨rfl, hb2⟩; replace T := bt T hb2; clear hb2; clear x0 x1 x2 y0 y1 y2 hz; obtain ⟨⟨x0, x1, x2⟩, ⟨y0, y1, y2⟩, hz⟩ := HC.out _ T)
      | (go_at_call 15; refine (works2 _ (HG.out.below T)).mono ?_; rintro e wz ⟨rfl, hbz⟩))
    have HT0 := Lib.hid T
    have HP0 : Hid (∀ w', Below w2.heap.size w2 w' → PcIn w' A n c A' m c' A2 q cq C S P ∧ PcIn w' B n2 d B' m2 d' B2 q2 dq D U Q) := fun w' h => HE.out _ (bt HT0.out h)
    have HC0 : Hid (∀ w', Below w2.heap.size w2 w' → (w'.cell? ⟨w.heap.size, 0, none⟩ = some (.slice A n c) ∧ w'.cell? ⟨w.heap.size, 1, none⟩ = some (.slice A' m c') ∧ w'.cell? ⟨w.heap.size, 2, none⟩ = some (.slice A2 q cq)) ∧ (w'.cell? ⟨w.heap.size + 1, 0, none⟩ = some (.slice B n2 d) ∧ w'.cell? ⟨w.heap.size + 1, 1, none⟩ = some (.slice B' m2 d') ∧ w'.cell? ⟨w.heap.size + 1, 2, none⟩ = some (.slice B2 q2 dq))) := fun w' h => ⟨(HC.out _ (bt HT0.out h)).1, (HC.out _ (bt HT0.out h)).2.1⟩
    clear T x0 x1 x2 y0 y1 y2 hz
    go_cut [5, 6] from 14 to 18 (fun s5 s6 wx => ∃ g5 g6 Ba ka Ba' ka' Ba2 ka2 Bb kb Bb' kb' Bb2 kb2, s5 = .pointer (some ⟨g5, 0, none⟩) ∧ s6 = .pointer (some ⟨g6, 0, none⟩) ∧ Hid (CmR w2 wx g5 g6 Ba n ka Ba' m ka' Ba2 q ka2 Bb n2 kb Bb' m2 kb' Bb2 q2 kb2 C S P D U Q))
    case first =>
      have hs : Below w2.heap.size w2 w2.drew := (Below.refl _ _).drew
      refine wp_region_held_drew (S := fun w' => Below w2.heap.size w2 w') (by kernel_rfl) hs (fun hHeld => ?_)
      change wpAnyH _ _ _ _ _ 8 #[false, false, false, false, false, false, false, false] _ _
      refine wpAnyH_take (i := 0) (v := ?_) rfl (by kernel_rfl) (by kernel_rfl) (by kernel_rfl) (fun _ _ _ h => h) (Or.inl ⟨by rfl, ?_⟩) (by assumption) ?_
      rotate_left
      · intro w' hSw
        obtain ⟨⟨x0, x1, x2⟩, ⟨y0, y1, y2⟩⟩ := HC0.out _ hSw
        go_simp
        try with_reducible rfl
      (try simp only [Act.put, List.getElem_toArray, List.getElem_cons_zero, List.setIfInBounds_toArray, List.set_cons_zero, List.set_cons_succ])
      refine wpAnyH_take (i := 2) (v := ?_) rfl (by kernel_rfl) (by kernel_rfl) (by kernel_rfl) (fun _ _ _ h => h) (Or.inl ⟨by rfl, ?_⟩) (by assumption) ?_
      rotate_left
      · intro w' hSw
        obtain ⟨⟨x0, x1, x2⟩, ⟨y0, y1, y2⟩⟩ := HC0.out _ hSw
        go_simp
        try with_reducible rfl
      (try simp only [Act.put, List.getElem_toArray, List.getElem_cons_succ, List.getElem_cons_zero, List.setIfInBounds_toArray, List.set_cons_zero, List.set_cons_succ])
      clear hHeld
      obtain ⟨W_0, hW_0⟩ : ∃ W, w2.drew = W := ⟨_, rfl⟩
      rw [hW_0] at hs ⊢
      clear hW_0
      refine wpAnyH_ready (rs := [1, 4, 5]) (by kernel_rfl) (by simp) ?_
      refine AllReadyH.cons rfl (fun K hK => ?_) ?_
      · go_simp
        go_wp2_with (go_at_call 16; (with_reducible refine (CA.out W_0 (HP0.out _ hs).1).mono ?_); rintro e W_1 ⟨Ba, ka, Ba', ka', Ba2, ka2, Ea, rfl, hpa0, hst⟩)
        refine hK.out _ _ (bt hs hst) (fun hHeld => ?_)
        clear hK K
        (try simp only [List.setIfInBounds_toArray, List.set_cons_zero, List.set_cons_succ])
        have hpa := hpa0.pcOw
        have hsn := bt hs hst
        clear hs hpa0 hHeld
        have hs := hsn
        clear hsn hst
        refine wpAnyH_ready (rs := [3, 4, 5]) (by kernel_rfl) (by simp) ?_
        refine AllReadyH.cons rfl (fun K hK => ?_) ?_
        · go_simp
          go_wp2_with (go_at_call 16; (with_reducible refine (CB.out W_1 (HP0.out _ hs).2).mono ?_); rintro e W_2 ⟨Bb, kb, Bb', kb', Bb2, kb2, Eb, rfl, hpb0, hst⟩)
          refine hK.out _ _ (bt hs hst) (fun hHeld => ?_)
          clear hK K
          (try simp only [List.setIfInBounds_toArray, List.set_cons_zero, List.set_cons_succ])
          have hpb := hpb0.pcOw
          replace hpa := hpa.below hst
          have hsn := bt hs hst
          clear hs hpb0 hHeld
          have hs := hsn
          clear hsn hst
          refine wpAnyH_ready (rs := [4, 5]) (by kernel_rfl) (by simp) ?_
          refine AllReadyH.cons rfl (fun K hK => ?_) ?_
          · go_simp
            refine hK.out _ _ (bt hs (ba _ _)) (fun hHeld => ?_)
            clear hK K
            (try simp only [List.setIfInBounds_toArray, List.set_cons_zero, List.set_cons_succ])
            have nb := heap_alloc_new W_2 zPcO
            have lo5 := hs.size
            have hsn := bt hs (ba W_2 zPcO)
            have hst := ba W_2 zPcO
            obtain ⟨g5, hg5⟩ : ∃ g, W_2.heap.size = g := ⟨_, rfl⟩
            replace hpa := hpa.below hst
            replace hpb := hpb.below hst
            obtain ⟨W_3, hW⟩ : ∃ W, W_2.alloc zPcO = W := ⟨_, rfl⟩
            rw [hW] at nb hsn hpa hpb ⊢
            rw [hg5] at nb lo5 ⊢
            have bk5 : Blk W_3 g5 28 #[.slice none 0 0, .slice none 0 0, .slice none 0 0] := nb
            clear nb hst hs hHeld
            have hs := hsn
            clear hsn hW hg5
            refine wpAnyH_ready (rs := [5]) (by kernel_rfl) (by simp) ?_
            refine AllReadyH.cons rfl (fun K hK => ?_) ?_
            · go_simp
              refine hK.out _ _ (bt hs (ba _ _)) (fun hHeld => ?_)
              clear hK K
              (try simp only [List.setIfInBounds_toArray, List.set_cons_zero, List.set_cons_succ])
              have nb := heap_alloc_new W_3 zPcO
              have lo6 := hs.size
              have hsn := bt hs (ba W_3 zPcO)
              have hst := ba W_3 zPcO
              obtain ⟨g6, hg6⟩ : ∃ g, W_3.heap.size = g := ⟨_, rfl⟩
              have ne56 : g5 < g6 := by have := bk5.lt; omega
              replace bk5 := Blk.below bk5 hst
              replace hpa := hpa.below hst
              replace hpb := hpb.below hst
              obtain ⟨W_4, hW⟩ : ∃ W, W_3.alloc zPcO = W := ⟨_, rfl⟩
              rw [hW] at nb hsn bk5 hpa hpb ⊢
              rw [hg6] at nb lo6 ⊢
              have bk6 : Blk W_4 g6 28 #[.slice none 0 0, .slice none 0 0, .slice none 0 0] := nb
              clear nb hst hs hHeld
              have hs := hsn
              clear hsn hW hg6
              have hne : g5 ≠ g6 := by have := ne56; omega
              have c50 := bk5.cell 0
              have c51 := bk5.cell 1
              have c52 := bk5.cell 2
              have f50 := bk5.frozen 0
              have f51 := bk5.frozen 1
              have f52 := bk5.frozen 2
              simp at c50 c51 c52
              have HLF := Lib.hid (cmp_leaf hne lo5 lo6 bk5 bk6 hpa hpb hs)
              refine wpAnyH_ready (rs := [6]) (by kernel_rfl) (by simp) ?_
              refine AllReadyH.cons rfl (fun K hK => ?_) ?_
              · go_simp
                refine hK.out _ _ (((hs.setCell (p := ⟨g5, 0, none⟩) lo5 _).setCell (p := ⟨g5, 1, none⟩) lo5 _).setCell (p := ⟨g5, 2, none⟩) lo5 _) (fun hHeld => ?_)
                clear hK K
                (try simp only [List.setIfInBounds_toArray, List.set_cons_zero, List.set_cons_succ])
                have bk6s := ((bk6.setOther hne.symm 0 (.slice Ba n ka)).setOther hne.symm 1 (.slice Ba' m ka')).setOther hne.symm 2 (.slice Ba2 q ka2)
                have c60 := bk6s.cell 0
                have c61 := bk6s.cell 1
                have c62 := bk6s.cell 2
                have f60 := bk6s.frozen 0
                have f61 := bk6s.frozen 1
                have f62 := bk6s.frozen 2
                simp at c60 c61 c62
                refine wpAnyH_ready (rs := [7]) (by kernel_rfl) (by simp) ?_
                refine AllReadyH.cons rfl (fun K hK => ?_) ?_
                · go_simp
                  refine hK.out _ _ HLF.out.2.2.2.2 (fun hHeld => ?_)
                  clear hK K
                  (try simp only [List.setIfInBounds_toArray, List.set_cons_zero, List.set_cons_succ])
                  refine wpAnyH_done (by kernel_rfl) ?_ _
                  go_wp2_with (fail)
                  go_meet
                  exact ⟨g5, g6, Ba, ka, Ba', ka', Ba2, ka2, Bb, kb, Bb', kb', Bb2, kb2, rfl, rfl, HLF.out⟩
                exact AllReadyH.nil
              exact AllReadyH.nil
            exact AllReadyH.nil
          refine AllReadyH.cons rfl (fun K hK => ?_) ?_
          · go_simp
            refine hK.out _ _ (bt hs (ba _ _)) (fun hHeld => ?_)
            clear hK K
            (try simp only [List.setIfInBounds_toArray, List.set_cons_zero, List.set_cons_succ])
            have nb := heap_alloc_new W_2 zPcO
            have lo6 := hs.size
            have hsn := bt hs (ba W_2 zPcO)
            have hst := ba W_2 zPcO
            obtain ⟨g6, hg6⟩ : ∃ g, W_2.heap.size = g := ⟨_, rfl⟩
            replace hpa := hpa.below hst
            replace hpb := hpb.below hst
            obtain ⟨W_3, hW⟩ : ∃ W, W_2.alloc zPcO = W := ⟨_, rfl⟩
            rw [hW] at nb hsn hpa hpb ⊢
            rw [hg6] at nb lo6 ⊢
            have bk6 : Blk W_3 g6 28 #[.slice none 0 0, .slice none 0 0, .slice none 0 0] := nb
            clear nb hst hs hHeld
            have hs := hsn
            clear hsn hW hg6
            refine wpAnyH_ready (rs := [4]) (by kernel_rfl) (by simp) ?_
            refine AllReadyH.cons rfl (fun K hK => ?_) ?_
            · go_simp
              refine hK.out _ _ (bt hs (ba _ _)) (fun hHeld => ?_)
              clear hK K
              (try simp only [List.setIfInBounds_toArray, List.set_cons_zero, List.set_cons_succ])
              have nb := heap_alloc_new W_3 zPcO
              have lo5 := hs.size
              have hsn := bt hs (ba W_3 zPcO)
              have hst := ba W_3 zPcO
              obtain ⟨g5, hg5⟩ : ∃ g, W_3.heap.size = g := ⟨_, rfl⟩
              have ne56 : g6 < g5 := by have := bk6.lt; omega
              replace bk6 := Blk.below bk6 hst
              replace hpa := hpa.below hst
              replace hpb := hpb.below hst
              obtain ⟨W_4, hW⟩ : ∃ W, W_3.alloc zPcO = W := ⟨_, rfl⟩
              rw [hW] at nb hsn bk6 hpa hpb ⊢
              rw [hg5] at nb lo5 ⊢
              have bk5 : Blk W_4 g5 28 #[.slice none 0 0, .slice none 0 0, .slice none 0 0] := nb
              clear nb hst hs hHeld
              have hs := hsn
              clear hsn hW hg5
              have hne : g5 ≠ g6 := by have := ne56; omega
              have c50 := bk5.cell 0
              have c51 := bk5.cell 1
              have c52 := bk5.cell 2
              have f50 := bk5.frozen 0
              have f51 := bk5.frozen 1
              have f52 := bk5.frozen 2
              simp at c50 c51 c52
              have HLF := Lib.hid (cmp_leaf hne lo5 lo6 bk5 bk6 hpa hpb hs)
              refine wpAnyH_ready (rs := [6]) (by kernel_rfl) (by simp) ?_
              refine AllReadyH.cons rfl (fun K hK => ?_) ?_
              · go_simp
                refine hK.out _ _ (((hs.setCell (p := ⟨g5, 0, none⟩) lo5 _).setCell (p := ⟨g5, 1, none⟩) lo5 _).setCell (p := ⟨g5, 2, none⟩) lo5 _) (fun hHeld => ?_)
                clear hK K
                (try simp only [List.setIfInBounds_toArray, List.set_cons_zero, List.set_cons_succ])
                have bk6s := ((bk6.setOther hne.symm 0 (.slice Ba n ka)).setOther hne.symm 1 (.slice Ba' m ka')).setOther hne.symm 2 (.slice Ba2 q ka2)
                have c60 := bk6s.cell 0
                have c61 := bk6s.cell 1
                have c62 := bk6s.cell 2
                have f60 := bk6s.frozen 0
                have f61 := bk6s.frozen 1
                have f62 := bk6s.frozen 2
                simp at c60 c61 c62
                refine wpAnyH_ready (rs := [7]) (by kernel_rfl) (by simp) ?_
                refine AllReadyH.cons rfl (fun K hK => ?_) ?_
                · go_simp
                  refine hK.out _ _ HLF.out.2.2.2.2 (fun hHeld => ?_)
                  clear hK K
                  (try simp only [List.setIfInBounds_toArray, List.set_cons_zero, List.set_cons_succ])
                  refine wpAnyH_done (by kernel_rfl) ?_ _
                  go_wp2_with (fail)
                  go_meet
                  exact ⟨g5, g6, Ba, ka, Ba', ka', Ba2, ka2, Bb, kb, Bb', kb', Bb2, kb2, rfl, rfl, HLF.out⟩
                exact AllReadyH.nil
              exact AllReadyH.nil
            exact AllReadyH.nil
          exact AllReadyH.nil
        refine AllReadyH.cons rfl (fun K hK => ?_) ?_
        · go_simp
          refine hK.out _ _ (bt hs (ba _ _)) (fun hHeld => ?_)
          clear hK K
          (try simp only [List.setIfInBounds_toArray, List.set_cons_zero, List.set_cons_succ])
          have nb := heap_alloc_new W_1 zPcO
          have lo5 := hs.size
          have hsn := bt hs (ba W_1 zPcO)
          have hst := ba W_1 zPcO
          obtain ⟨g5, hg5⟩ : ∃ g, W_1.heap.size = g := ⟨_, rfl⟩
          replace hpa := hpa.below hst
          obtain ⟨W_2, hW⟩ : ∃ W, W_1.alloc zPcO = W := ⟨_, rfl⟩
          rw [hW] at nb hsn hpa ⊢
          rw [hg5] at nb lo5 ⊢
          have bk5 : Blk W_2 g5 28 #[.slice none 0 0, .slice none 0 0, .slice none 0 0] := nb
          clear nb hst hs hHeld
          have hs := hsn
          clear hsn hW hg5
          refine wpAnyH_ready (rs := [3, 5]) (by kernel_rfl) (by simp) ?_
          refine AllReadyH.cons rfl (fun K hK => ?_) ?_
          · go_simp
            go_wp2_with (go_at_call 16; (with_reducible refine (CB.out W_2 (HP0.out _ hs).2).mono ?_); rintro e W_3 ⟨Bb, kb, Bb', kb', Bb2, kb2, Eb, rfl, hpb0, hst⟩)
            refine hK.out _ _ (bt hs hst) (fun hHeld => ?_)
            clear hK K
            (try simp only [List.setIfInBounds_toArray, List.set_cons_zero, List.set_cons_succ])
            have hpb := hpb0.pcOw
            replace bk5 := Blk.below bk5 hst
            replace hpa := hpa.below hst
            have hsn := bt hs hst
            clear hs hpb0 hHeld
            have hs := hsn
            clear hsn hst
            refine wpAnyH_ready (rs := [5]) (by kernel_rfl) (by simp) ?_
            refine AllReadyH.cons rfl (fun K hK => ?_) ?_
            · go_simp
              refine hK.out _ _ (bt hs (ba _ _)) (fun hHeld => ?_)
              clear hK K
              (try simp only [List.setIfInBounds_toArray, List.set_cons_zero, List.set_cons_succ])
              have nb := heap_alloc_new W_3 zPcO
              have lo6 := hs.size
              have hsn := bt hs (ba W_3 zPcO)
              have hst := ba W_3 zPcO
              obtain ⟨g6, hg6⟩ : ∃ g, W_3.heap.size = g := ⟨_, rfl⟩
              have ne56 : g5 < g6 := by have := bk5.lt; omega
              replace bk5 := Blk.below bk5 hst
              replace hpa := hpa.below hst
              replace hpb := hpb.below hst
              obtain ⟨W_4, hW⟩ : ∃ W, W_3.alloc zPcO = W := ⟨_, rfl⟩
              rw [hW] at nb hsn bk5 hpa hpb ⊢
              rw [hg6] at nb lo6 ⊢
              have bk6 : Blk W_4 g6 28 #[.slice none 0 0, .slice none 0 0, .slice none 0 0] := nb
              clear nb hst hs hHeld
              have hs := hsn
              clear hsn hW hg6
              have hne : g5 ≠ g6 := by have := ne56; omega
              have c50 := bk5.cell 0
              have c51 := bk5.cell 1
              have c52 := bk5.cell 2
              have f50 := bk5.frozen 0
              have f51 := bk5.frozen 1
              have f52 := bk5.frozen 2
              simp at c50 c51 c52
              have HLF := Lib.hid (cmp_leaf hne lo5 lo6 bk5 bk6 hpa hpb hs)
              refine wpAnyH_ready (rs := [6]) (by kernel_rfl) (by simp) ?_
              refine AllReadyH.cons rfl (fun K hK => ?_) ?_
              · go_simp
                refine hK.out _ _ (((hs.setCell (p := ⟨g5, 0, none⟩) lo5 _).setCell (p := ⟨g5, 1, none⟩) lo5 _).setCell (p := ⟨g5, 2, none⟩) lo5 _) (fun hHeld => ?_)
                clear hK K
                (try simp only [List.setIfInBounds_toArray, List.set_cons_zero, List.set_cons_succ])
                have bk6s := ((bk6.setOther hne.symm 0 (.slice Ba n ka)).setOther hne.symm 1 (.slice Ba' m ka')).setOther hne.symm 2 (.slice Ba2 q ka2)
                have c60 := bk6s.cell 0
                have c61 := bk6s.cell 1
                have c62 := bk6s.cell 2
                have f60 := bk6s.frozen 0
                have f61 := bk6s.frozen 1
                have f62 := bk6s.frozen 2
                simp at c60 c61 c62
                refine wpAnyH_ready (rs := [7]) (by kernel_rfl) (by simp) ?_
                refine AllReadyH.cons rfl (fun K hK => ?_) ?_
                · go_simp
                  refine hK.out _ _ HLF.out.2.2.2.2 (fun hHeld => ?_)
                  clear hK K
                  (try simp only [List.setIfInBounds_toArray, List.set_cons_zero, List.set_cons_succ])
                  refine wpAnyH_done (by kernel_rfl) ?_ _
                  go_wp2_with (fail)
                  go_meet
                  exact ⟨g5, g6, Ba, ka, Ba', ka', Ba2, ka2, Bb, kb, Bb', kb', Bb2, kb2, rfl, rfl, HLF.out⟩
                exact AllReadyH.nil
              exact AllReadyH.nil
            exact AllReadyH.nil
          refine AllReadyH.cons rfl (fun K hK => ?_) ?_
          · go_simp
            refine hK.out _ _ (bt hs (ba _ _)) (fun hHeld => ?_)
            clear hK K
            (try simp only [List.setIfInBounds_toArray, List.set_cons_zero, List.set_cons_succ])
            have nb := heap_alloc_new W_2 zPcO
            have lo6 := hs.size
            have hsn := bt hs (ba W_2 zPcO)
            have hst := ba W_2 zPcO
            obtain ⟨g6, hg6⟩ : ∃ g, W_2.heap.size = g := ⟨_, rfl⟩
            have ne56 : g5 < g6 := by have := bk5.lt; omega
            replace bk5 := Blk.below bk5 hst
            replace hpa := hpa.below hst
            obtain ⟨W_3, hW⟩ : ∃ W, W_2.alloc zPcO = W := ⟨_, rfl⟩
            rw [hW] at nb hsn bk5 hpa ⊢
            rw [hg6] at nb lo6 ⊢
            have bk6 : Blk W_3 g6 28 #[.slice none 0 0, .slice none 0 0, .slice none 0 0] := nb
            clear nb hst hs hHeld
            have hs := hsn
            clear hsn hW hg6
            refine wpAnyH_ready (rs := [3]) (by kernel_rfl) (by simp) ?_
            refine AllReadyH.cons rfl (fun K hK => ?_) ?_
            · go_simp
              go_wp2_with (go_at_call 16; (with_reducible refine (CB.out W_3 (HP0.out _ hs).2).mono ?_); rintro e W_4 ⟨Bb, kb, Bb', kb', Bb2, kb2, Eb, rfl, hpb0, hst⟩)
              refine hK.out _ _ (bt hs hst) (fun hHeld => ?_)
              clear hK K
              (try simp only [List.setIfInBounds_toArray, List.set_cons_zero, List.set_cons_succ])
              have hpb := hpb0.pcOw
              replace bk5 := Blk.below bk5 hst
              replace bk6 := Blk.below bk6 hst
              replace hpa := hpa.below hst
              have hsn := bt hs hst
              clear hs hpb0 hHeld
              have hs := hsn
              clear hsn hst
              have hne : g5 ≠ g6 := by have := ne56; omega
              have c50 := bk5.cell 0
              have c51 := bk5.cell 1
              have c52 := bk5.cell 2
              have f50 := bk5.frozen 0
              have f51 := bk5.frozen 1
              have f52 := bk5.frozen 2
              simp at c50 c51 c52
              have HLF := Lib.hid (cmp_leaf hne lo5 lo6 bk5 bk6 hpa hpb hs)
              refine wpAnyH_ready (rs := [6]) (by kernel_rfl) (by simp) ?_
              refine AllReadyH.cons rfl (fun K hK => ?_) ?_
              · go_simp
                refine hK.out _ _ (((hs.setCell (p := ⟨g5, 0, none⟩) lo5 _).setCell (p := ⟨g5, 1, none⟩) lo5 _).setCell (p := ⟨g5, 2, none⟩) lo5 _) (fun hHeld => ?_)
                clear hK K
                (try simp only [List.setIfInBounds_toArray, List.set_cons_zero, List.set_cons_succ])
                have bk6s := ((bk6.setOther hne.symm 0 (.slice Ba n ka)).setOther hne.symm 1 (.slice Ba' m ka')).setOther hne.symm 2 (.slice Ba2 q ka2)
                have c60 := bk6s.cell 0
                have c61 := bk6s.cell 1
                have c62 := bk6s.cell 2
                have f60 := bk6s.frozen 0
                have f61 := bk6s.frozen 1
                have f62 := bk6s.frozen 2
                simp at c60 c61 c62
                refine wpAnyH_ready (rs := [7]) (by kernel_rfl) (by simp) ?_
                refine AllReadyH.cons rfl (fun K hK => ?_) ?_
                · go_simp
                  refine hK.out _ _ HLF.out.2.2.2.2 (fun hHeld => ?_)
                  clear hK K
                  (try simp only [List.setIfInBounds_toArray, List.set_cons_zero, List.set_cons_succ])
                  refine wpAnyH_done (by kernel_rfl) ?_ _
                  go_wp2_with (fail)
                  go_meet
                  exact ⟨g5, g6, Ba, ka, Ba', ka', Ba2, ka2, Bb, kb, Bb', kb', Bb2, kb2, rfl, rfl, HLF.out⟩
                exact AllReadyH.nil
              exact AllReadyH.nil
            exact AllReadyH.nil
          exact AllReadyH.nil
        refine AllReadyH.cons rfl (fun K hK => ?_) ?_
        · go_simp
          refine hK.out _ _ (bt hs (ba _ _)) (fun hHeld => ?_)
          clear hK K
          (try simp only [List.setIfInBounds_toArray, List.set_cons_zero, List.set_cons_succ])
          have nb := heap_alloc_new W_1 zPcO
          have lo6 := hs.size
          have hsn := bt hs (ba W_1 zPcO)
          have hst := ba W_1 zPcO
          obtain ⟨g6, hg6⟩ : ∃ g, W_1.heap.size = g := ⟨_, rfl⟩
          replace hpa := hpa.below hst
          obtain ⟨W_2, hW⟩ : ∃ W, W_1.alloc zPcO = W := ⟨_, rfl⟩
          rw [hW] at nb hsn hpa ⊢
          rw [hg6] at nb lo6 ⊢
          have bk6 : Blk W_2 g6 28 #[.slice none 0 0, .slice none 0 0, .slice none 0 0] := nb
          clear nb hst hs hHeld
          have hs := hsn
          clear hsn hW hg6
          refine wpAnyH_ready (rs := [3, 4]) (by kernel_rfl) (by simp) ?_
          refine AllReadyH.cons rfl (fun K hK => ?_) ?_
          · go_simp
            go_wp2_with (go_at_call 16; (with_reducible refine (CB.out W_2 (HP0.out _ hs).2).mono ?_); rintro e W_3 ⟨Bb, kb, Bb', kb', Bb2, kb2, Eb, rfl, hpb0, hst⟩)
            refine hK.out _ _ (bt hs hst) (fun hHeld => ?_)
            clear hK K
            (try simp only [List.setIfInBounds_toArray, List.set_cons_zero, List.set_cons_succ])
            have hpb := hpb0.pcOw
            replace bk6 := Blk.below bk6 hst
            replace hpa := hpa.below hst
            have hsn := bt hs hst
            clear hs hpb0 hHeld
            have hs := hsn
            clear hsn hst
            refine wpAnyH_ready (rs := [4]) (by kernel_rfl) (by simp) ?_
            refine AllReadyH.cons rfl (fun K hK => ?_) ?_
            · go_simp
              refine hK.out _ _ (bt hs (ba _ _)) (fun hHeld => ?_)
              clear hK K
              (try simp only [List.setIfInBounds_toArray, List.set_cons_zero, List.set_cons_succ])
              have nb := heap_alloc_new W_3 zPcO
              have lo5 := hs.size
              have hsn := bt hs (ba W_3 zPcO)
              have hst := ba W_3 zPcO
              obtain ⟨g5, hg5⟩ : ∃ g, W_3.heap.size = g := ⟨_, rfl⟩
              have ne56 : g6 < g5 := by have := bk6.lt; omega
              replace bk6 := Blk.below bk6 hst
              replace hpa := hpa.below hst
              replace hpb := hpb.below hst
              obtain ⟨W_4, hW⟩ : ∃ W, W_3.alloc zPcO = W := ⟨_, rfl⟩
              rw [hW] at nb hsn bk6 hpa hpb ⊢
              rw [hg5] at nb lo5 ⊢
              have bk5 : Blk W_4 g5 28 #[.slice none 0 0, .slice none 0 0, .slice none 0 0] := nb
              clear nb hst hs hHeld
              have hs := hsn
              clear hsn hW hg5
              have hne : g5 ≠ g6 := by have := ne56; omega
              have c50 := bk5.cell 0
              have c51 := bk5.cell 1
              have c52 := bk5.cell 2
              have f50 := bk5.frozen 0
              have f51 := bk5.frozen 1
              have f52 := bk5.frozen 2
              simp at c50 c51 c52
              have HLF := Lib.hid (cmp_leaf hne lo5 lo6 bk5 bk6 hpa hpb hs)
              refine wpAnyH_ready (rs := [6]) (by kernel_rfl) (by simp) ?_
              refine AllReadyH.cons rfl (fun K hK => ?_) ?_
              · go_simp
                refine hK.out _ _ (((hs.setCell (p := ⟨g5, 0, none⟩) lo5 _).setCell (p := ⟨g5, 1, none⟩) lo5 _).setCell (p := ⟨g5, 2, none⟩) lo5 _) (fun hHeld => ?_)
                clear hK K
                (try simp only [List.setIfInBounds_toArray, List.set_cons_zero, List.set_cons_succ])
                have bk6s := ((bk6.setOther hne.symm 0 (.slice Ba n ka)).setOther hne.symm 1 (.slice Ba' m ka')).setOther hne.symm 2 (.slice Ba2 q ka2)
                have c60 := bk6s.cell 0
                have c61 := bk6s.cell 1
                have c62 := bk6s.cell 2
                have f60 := bk6s.frozen 0
                have f61 := bk6s.frozen 1
                have f62 := bk6s.frozen 2
                simp at c60 c61 c62
                refine wpAnyH_ready (rs := [7]) (by kernel_rfl) (by simp) ?_
                refine AllReadyH.cons rfl (fun K hK => ?_) ?_
                · go_simp
                  refine hK.out _ _ HLF.out.2.2.2.2 (fun hHeld => ?_)
                  clear hK K
                  (try simp only [List.setIfInBounds_toArray, List.set_cons_zero, List.set_cons_succ])
                  refine wpAnyH_done (by kernel_rfl) ?_ _
                  go_wp2_with (fail)
                  go_meet
                  exact ⟨g5, g6, Ba, ka, Ba', ka', Ba2, ka2, Bb, kb, Bb', kb', Bb2, kb2, rfl, rfl, HLF.out⟩
                exact AllReadyH.nil
              exact AllReadyH.nil
            exact AllReadyH.nil
          refine AllReadyH.cons rfl (fun K hK => ?_) ?_
          · go_simp
            refine hK.out _ _ (bt hs (ba _ _)) (fun hHeld => ?_)
            clear hK K
            (try simp only [List.setIfInBounds_toArray, List.set_cons_zero, List.set_cons_succ])
            have nb := heap_alloc_new W_2 zPcO
            have lo5 := hs.size
            have hsn := bt hs (ba W_2 zPcO)
            have hst := ba W_2 zPcO
            obtain ⟨g5, hg5⟩ : ∃ g, W_2.heap.size = g := ⟨_, rfl⟩
            have ne56 : g6 < g5 := by have := bk6.lt; omega
            replace bk6 := Blk.below bk6 hst
            replace hpa := hpa.below hst
            obtain ⟨W_3, hW⟩ : ∃ W, W_2.alloc zPcO = W := ⟨_, rfl⟩
            rw [hW] at nb hsn bk6 hpa ⊢
            rw [hg5] at nb lo5 ⊢
            have bk5 : Blk W_3 g5 28 #[.slice none 0 0, .slice none 0 0, .slice none 0 0] := nb
            clear nb hst hs hHeld
            have hs := hsn
            clear hsn hW hg5
            refine wpAnyH_ready (rs := [3]) (by kernel_rfl) (by simp) ?_
            refine AllReadyH.cons rfl (fun K hK => ?_) ?_
            · go_simp
              go_wp2_with (go_at_call 16; (with_reducible refine (CB.out W_3 (HP0.out _ hs).2).mono ?_); rintro e W_4 ⟨Bb, kb, Bb', kb', Bb2, kb2, Eb, rfl, hpb0, hst⟩)
              refine hK.out _ _ (bt hs hst) (fun hHeld => ?_)
              clear hK K
              (try simp only [List.setIfInBounds_toArray, List.set_cons_zero, List.set_cons_succ])
              have hpb := hpb0.pcOw
              replace bk5 := Blk.below bk5 hst
              replace bk6 := Blk.below bk6 hst
              replace hpa := hpa.below hst
              have hsn := bt hs hst
              clear hs hpb0 hHeld
              have hs := hsn
              clear hsn hst
              have hne : g5 ≠ g6 := by have := ne56; omega
              have c50 := bk5.cell 0
              have c51 := bk5.cell 1
              have c52 := bk5.cell 2
              have f50 := bk5.frozen 0
              have f51 := bk5.frozen 1
              have f52 := bk5.frozen 2
              simp at c50 c51 c52
              have HLF := Lib.hid (cmp_leaf hne lo5 lo6 bk5 bk6 hpa hpb hs)
              refine wpAnyH_ready (rs := [6]) (by kernel_rfl) (by simp) ?_
              refine AllReadyH.cons rfl (fun K hK => ?_) ?_
              · go_simp
                refine hK.out _ _ (((hs.setCell (p := ⟨g5, 0, none⟩) lo5 _).setCell (p := ⟨g5, 1, none⟩) lo5 _).setCell (p := ⟨g5, 2, none⟩) lo5 _) (fun hHeld => ?_)
                clear hK K
                (try simp only [List.setIfInBounds_toArray, List.set_cons_zero, List.set_cons_succ])
                have bk6s := ((bk6.setOther hne.symm 0 (.slice Ba n ka)).setOther hne.symm 1 (.slice Ba' m ka')).setOther hne.symm 2 (.slice Ba2 q ka2)
                have c60 := bk6s.cell 0
                have c61 := bk6s.cell 1
                have c62 := bk6s.cell 2
                have f60 := bk6s.frozen 0
                have f61 := bk6s.frozen 1
                have f62 := bk6s.frozen 2
                simp at c60 c61 c62
                refine wpAnyH_ready (rs := [7]) (by kernel_rfl) (by simp) ?_
                refine AllReadyH.cons rfl (fun K hK => ?_) ?_
                · go_simp
                  refine hK.out _ _ HLF.out.2.2.2.2 (fun hHeld => ?_)
                  clear hK K
                  (try simp only [List.setIfInBounds_toArray, List.set_cons_zero, List.set_cons_succ])
                  refine wpAnyH_done (by kernel_rfl) ?_ _
                  go_wp2_with (fail)
                  go_meet
                  exact ⟨g5, g6, Ba, ka, Ba', ka', Ba2, ka2, Bb, kb, Bb', kb', Bb2, kb2, rfl, rfl, HLF.out⟩
                exact AllReadyH.nil
              exact AllReadyH.nil
            exact AllReadyH.nil
          exact AllReadyH.nil
        exact AllReadyH.nil
      refine AllReadyH.cons rfl (fun K hK => ?_) ?_
      · go_simp
        refine hK.out _ _ (bt hs (ba _ _)) (fun hHeld => ?_)
        clear hK K
        (try simp only [List.setIfInBounds_toArray, List.set_cons_zero, List.set_cons_succ])
        have nb := heap_alloc_new W_0 zPcO
        have lo5 := hs.size
        have hsn := bt hs (ba W_0 zPcO)
        have hst := ba W_0 zPcO
        obtain ⟨g5, hg5⟩ : ∃ g, W_0.heap.size = g := ⟨_, rfl⟩
        obtain ⟨W_1, hW⟩ : ∃ W, W_0.alloc zPcO = W := ⟨_, rfl⟩
        rw [hW] at nb hsn  ⊢
        rw [hg5] at nb lo5 ⊢
        have bk5 : Blk W_1 g5 28 #[.slice none 0 0, .slice none 0 0, .slice none 0 0] := nb
        clear nb hst hs hHeld
        have hs := hsn
        clear hsn hW hg5
        refine wpAnyH_ready (rs := [1, 5]) (by kernel_rfl) (by simp) ?_
        refine AllReadyH.cons rfl (fun K hK => ?_) ?_
        · go_simp
          go_wp2_with (go_at_call 16; (with_reducible refine (CA.out W_1 (HP0.out _ hs).1).mono ?_); rintro e W_2 ⟨Ba, ka, Ba', ka', Ba2, ka2, Ea, rfl, hpa0, hst⟩)
          refine hK.out _ _ (bt hs hst) (fun hHeld => ?_)
          clear hK K
          (try simp only [List.setIfInBounds_toArray, List.set_cons_zero, List.set_cons_succ])
          have hpa := hpa0.pcOw
          replace bk5 := Blk.below bk5 hst
          have hsn := bt hs hst
          clear hs hpa0 hHeld
          have hs := hsn
          clear hsn hst
          refine wpAnyH_ready (rs := [3, 5]) (by kernel_rfl) (by simp) ?_
          refine AllReadyH.cons rfl (fun K hK => ?_) ?_
          · go_simp
            go_wp2_with (go_at_call 16; (with_reducible refine (CB.out W_2 (HP0.out _ hs).2).mono ?_); rintro e W_3 ⟨Bb, kb, Bb', kb', Bb2, kb2, Eb, rfl, hpb0, hst⟩)
            refine hK.out _ _ (bt hs hst) (fun hHeld => ?_)
            clear hK K
            (try simp only [List.setIfInBounds_toArray, List.set_cons_zero, List.set_cons_succ])
            have hpb := hpb0.pcOw
            replace bk5 := Blk.below bk5 hst
            replace hpa := hpa.below hst
            have hsn := bt hs hst
            clear hs hpb0 hHeld
            have hs := hsn
            clear hsn hst
            refine wpAnyH_ready (rs := [5]) (by kernel_rfl) (by simp) ?_
            refine AllReadyH.cons rfl (fun K hK => ?_) ?_
            · go_simp
              refine hK.out _ _ (bt hs (ba _ _)) (fun hHeld => ?_)
              clear hK K
              (try simp only [List.setIfInBounds_toArray, List.set_cons_zero, List.set_cons_succ])
              have nb := heap_alloc_new W_3 zPcO
              have lo6 := hs.size
              have hsn := bt hs (ba W_3 zPcO)
              have hst := ba W_3 zPcO
              obtain ⟨g6, hg6⟩ : ∃ g, W_3.heap.size = g := ⟨_, rfl⟩
              have ne56 : g5 < g6 := by have := bk5.lt; omega
              replace bk5 := Blk.below bk5 hst
              replace hpa := hpa.below hst
              replace hpb := hpb.below hst
              obtain ⟨W_4, hW⟩ : ∃ W, W_3.alloc zPcO = W := ⟨_, rfl⟩
              rw [hW] at nb hsn bk5 hpa hpb ⊢
              rw [hg6] at nb lo6 ⊢
              have bk6 : Blk W_4 g6 28 #[.slice none 0 0, .slice none 0 0, .slice none 0 0] := nb
              clear nb hst hs hHeld
              have hs := hsn
              clear hsn hW hg6
              have hne : g5 ≠ g6 := by have := ne56; omega
              have c50 := bk5.cell 0
              have c51 := bk5.cell 1
              have c52 := bk5.cell 2
              have f50 := bk5.frozen 0
              have f51 := bk5.frozen 1
              have f52 := bk5.frozen 2
              simp at c50 c51 c52
              have HLF := Lib.hid (cmp_leaf hne lo5 lo6 bk5 bk6 hpa hpb hs)
              refine wpAnyH_ready (rs := [6]) (by kernel_rfl) (by simp) ?_
              refine AllReadyH.cons rfl (fun K hK => ?_) ?_
              · go_simp
                refine hK.out _ _ (((hs.setCell (p := ⟨g5, 0, none⟩) lo5 _).setCell (p := ⟨g5, 1, none⟩) lo5 _).setCell (p := ⟨g5, 2, none⟩) lo5 _) (fun hHeld => ?_)
                clear hK K
                (try simp only [List.setIfInBounds_toArray, List.set_cons_zero, List.set_cons_succ])
                have bk6s := ((bk6.setOther hne.symm 0 (.slice Ba n ka)).setOther hne.symm 1 (.slice Ba' m ka')).setOther hne.symm 2 (.slice Ba2 q ka2)
                have c60 := bk6s.cell 0
                have c61 := bk6s.cell 1
                have c62 := bk6s.cell 2
                have f60 := bk6s.frozen 0
                have f61 := bk6s.frozen 1
                have f62 := bk6s.frozen 2
                simp at c60 c61 c62
                refine wpAnyH_ready (rs := [7]) (by kernel_rfl) (by simp) ?_
                refine AllReadyH.cons rfl (fun K hK => ?_) ?_
                · go_simp
                  refine hK.out _ _ HLF.out.2.2.2.2 (fun hHeld => ?_)
                  clear hK K
                  (try simp only [List.setIfInBounds_toArray, List.set_cons_zero, List.set_cons_succ])
                  refine wpAnyH_done (by kernel_rfl) ?_ _
                  go_wp2_with (fail)
                  go_meet
                  exact ⟨g5, g6, Ba, ka, Ba', ka', Ba2, ka2, Bb, kb, Bb', kb', Bb2, kb2, rfl, rfl, HLF.out⟩
                exact AllReadyH.nil
              exact AllReadyH.nil
            exact AllReadyH.nil
          refine AllReadyH.cons rfl (fun K hK => ?_) ?_
          · go_simp
            refine hK.out _ _ (bt hs (ba _ _)) (fun hHeld => ?_)
            clear hK K
            (try simp only [List.setIfInBounds_toArray, List.set_cons_zero, List.set_cons_succ])
            have nb := heap_alloc_new W_2 zPcO
            have lo6 := hs.size
            have hsn := bt hs (ba W_2 zPcO)
            have hst := ba W_2 zPcO
            obtain ⟨g6, hg6⟩ : ∃ g, W_2.heap.size = g := ⟨_, rfl⟩
            have ne56 : g5 < g6 := by have := bk5.lt; omega
            replace bk5 := Blk.below bk5 hst
            replace hpa := hpa.below hst
            obtain ⟨W_3, hW⟩ : ∃ W, W_2.alloc zPcO = W := ⟨_, rfl⟩
            rw [hW] at nb hsn bk5 hpa ⊢
            rw [hg6] at nb lo6 ⊢
            have bk6 : Blk W_3 g6 28 #[.slice none 0 0, .slice none 0 0, .slice none 0 0] := nb
            clear nb hst hs hHeld
            have hs := hsn
            clear hsn hW hg6
            refine wpAnyH_ready (rs := [3]) (by kernel_rfl) (by simp) ?_
            refine AllReadyH.cons rfl (fun K hK => ?_) ?_
            · go_simp
              go_wp2_with (go_at_call 16; (with_reducible refine (CB.out W_3 (HP0.out _ hs).2).mono ?_); rintro e W_4 ⟨Bb, kb, Bb', kb', Bb2, kb2, Eb, rfl, hpb0, hst⟩)
              refine hK.out _ _ (bt hs hst) (fun hHeld => ?_)
              clear hK K
              (try simp only [List.setIfInBounds_toArray, List.set_cons_zero, List.set_cons_succ])
              have hpb := hpb0.pcOw
              replace bk5 := Blk.below bk5 hst
              replace bk6 := Blk.below bk6 hst
              replace hpa := hpa.below hst
              have hsn := bt hs hst
              clear hs hpb0 hHeld
              have hs := hsn
              clear hsn hst
              have hne : g5 ≠ g6 := by have := ne56; omega
              have c50 := bk5.cell 0
              have c51 := bk5.cell 1
              have c52 := bk5.cell 2
              have f50 := bk5.frozen 0
              have f51 := bk5.frozen 1
              have f52 := bk5.frozen 2
              simp at c50 c51 c52
              have HLF := Lib.hid (cmp_leaf hne lo5 lo6 bk5 bk6 hpa hpb hs)
              refine wpAnyH_ready (rs := [6]) (by kernel_rfl) (by simp) ?_
              refine AllReadyH.cons rfl (fun K hK => ?_) ?_
              · go_simp
                refine hK.out _ _ (((hs.setCell (p := ⟨g5, 0, none⟩) lo5 _).setCell (p := ⟨g5, 1, none⟩) lo5 _).setCell (p := ⟨g5, 2, none⟩) lo5 _) (fun hHeld => ?_)
                clear hK K
                (try simp only [List.setIfInBounds_toArray, List.set_cons_zero, List.set_cons_succ])
                have bk6s := ((bk6.setOther hne.symm 0 (.slice Ba n ka)).setOther hne.symm 1 (.slice Ba' m ka')).setOther hne.symm 2 (.slice Ba2 q ka2)
                have c60 := bk6s.cell 0
                have c61 := bk6s.cell 1
                have c62 := bk6s.cell 2
                have f60 := bk6s.frozen 0
                have f61 := bk6s.frozen 1
                have f62 := bk6s.frozen 2
                simp at c60 c61 c62
                refine wpAnyH_ready (rs := [7]) (by kernel_rfl) (by simp) ?_
                refine AllReadyH.cons rfl (fun K hK => ?_) ?_
                · go_simp
                  refine hK.out _ _ HLF.out.2.2.2.2 (fun hHeld => ?_)
                  clear hK K
                  (try simp only [List.setIfInBounds_toArray, List.set_cons_zero, List.set_cons_succ])
                  refine wpAnyH_done (by kernel_rfl) ?_ _
                  go_wp2_with (fail)
                  go_meet
                  exact ⟨g5, g6, Ba, ka, Ba', ka', Ba2, ka2, Bb, kb, Bb', kb', Bb2, kb2, rfl, rfl, HLF.out⟩
                exact AllReadyH.nil
              exact AllReadyH.nil
            exact AllReadyH.nil
          exact AllReadyH.nil
        refine AllReadyH.cons rfl (fun K hK => ?_) ?_
        · go_simp
          refine hK.out _ _ (bt hs (ba _ _)) (fun hHeld => ?_)
          clear hK K
          (try simp only [List.setIfInBounds_toArray, List.set_cons_zero, List.set_cons_succ])
          have nb := heap_alloc_new W_1 zPcO
          have lo6 := hs.size
          have hsn := bt hs (ba W_1 zPcO)
          have hst := ba W_1 zPcO
          obtain ⟨g6, hg6⟩ : ∃ g, W_1.heap.size = g := ⟨_, rfl⟩
          have ne56 : g5 < g6 := by have := bk5.lt; omega
          replace bk5 := Blk.below bk5 hst
          obtain ⟨W_2, hW⟩ : ∃ W, W_1.alloc zPcO = W := ⟨_, rfl⟩
          rw [hW] at nb hsn bk5 ⊢
          rw [hg6] at nb lo6 ⊢
          have bk6 : Blk W_2 g6 28 #[.slice none 0 0, .slice none 0 0, .slice none 0 0] := nb
          clear nb hst hs hHeld
          have hs := hsn
          clear hsn hW hg6
          refine wpAnyH_ready (rs := [1]) (by kernel_rfl) (by simp) ?_
          refine AllReadyH.cons rfl (fun K hK => ?_) ?_
          · go_simp
            go_wp2_with (go_at_call 16; (with_reducible refine (CA.out W_2 (HP0.out _ hs).1).mono ?_); rintro e W_3 ⟨Ba, ka, Ba', ka', Ba2, ka2, Ea, rfl, hpa0, hst⟩)
            refine hK.out _ _ (bt hs hst) (fun hHeld => ?_)
            clear hK K
            (try simp only [List.setIfInBounds_toArray, List.set_cons_zero, List.set_cons_succ])
            have hpa := hpa0.pcOw
            replace bk5 := Blk.below bk5 hst
            replace bk6 := Blk.below bk6 hst
            have hsn := bt hs hst
            clear hs hpa0 hHeld
            have hs := hsn
            clear hsn hst
            refine wpAnyH_ready (rs := [3]) (by kernel_rfl) (by simp) ?_
            refine AllReadyH.cons rfl (fun K hK => ?_) ?_
            · go_simp
              go_wp2_with (go_at_call 16; (with_reducible refine (CB.out W_3 (HP0.out _ hs).2).mono ?_); rintro e W_4 ⟨Bb, kb, Bb', kb', Bb2, kb2, Eb, rfl, hpb0, hst⟩)
              refine hK.out _ _ (bt hs hst) (fun hHeld => ?_)
              clear hK K
              (try simp only [List.setIfInBounds_toArray, List.set_cons_zero, List.set_cons_succ])
              have hpb := hpb0.pcOw
              replace bk5 := Blk.below bk5 hst
              replace bk6 := Blk.below bk6 hst
              replace hpa := hpa.below hst
              have hsn := bt hs hst
              clear hs hpb0 hHeld
              have hs := hsn
              clear hsn hst
              have hne : g5 ≠ g6 := by have := ne56; omega
              have c50 := bk5.cell 0
              have c51 := bk5.cell 1
              have c52 := bk5.cell 2
              have f50 := bk5.frozen 0
              have f51 := bk5.frozen 1
              have f52 := bk5.frozen 2
              simp at c50 c51 c52
              have HLF := Lib.hid (cmp_leaf hne lo5 lo6 bk5 bk6 hpa hpb hs)
              refine wpAnyH_ready (rs := [6]) (by kernel_rfl) (by simp) ?_
              refine AllReadyH.cons rfl (fun K hK => ?_) ?_
              · go_simp
                refine hK.out _ _ (((hs.setCell (p := ⟨g5, 0, none⟩) lo5 _).setCell (p := ⟨g5, 1, none⟩) lo5 _).setCell (p := ⟨g5, 2, none⟩) lo5 _) (fun hHeld => ?_)
                clear hK K
                (try simp only [List.setIfInBounds_toArray, List.set_cons_zero, List.set_cons_succ])
                have bk6s := ((bk6.setOther hne.symm 0 (.slice Ba n ka)).setOther hne.symm 1 (.slice Ba' m ka')).setOther hne.symm 2 (.slice Ba2 q ka2)
                have c60 := bk6s.cell 0
                have c61 := bk6s.cell 1
                have c62 := bk6s.cell 2
                have f60 := bk6s.frozen 0
                have f61 := bk6s.frozen 1
                have f62 := bk6s.frozen 2
                simp at c60 c61 c62
                refine wpAnyH_ready (rs := [7]) (by kernel_rfl) (by simp) ?_
                refine AllReadyH.cons rfl (fun K hK => ?_) ?_
                · go_simp
                  refine hK.out _ _ HLF.out.2.2.2.2 (fun hHeld => ?_)
                  clear hK K
                  (try simp only [List.setIfInBounds_toArray, List.set_cons_zero, List.set_cons_succ])
                  refine wpAnyH_done (by kernel_rfl) ?_ _
                  go_wp2_with (fail)
                  go_meet
                  exact ⟨g5, g6, Ba, ka, Ba', ka', Ba2, ka2, Bb, kb, Bb', kb', Bb2, kb2, rfl, rfl, HLF.out⟩
                exact AllReadyH.nil
              exact AllReadyH.nil
            exact AllReadyH.nil
          exact AllReadyH.nil
        exact AllReadyH.nil
      refine AllReadyH.cons rfl (fun K hK => ?_) ?_
      · go_simp
        refine hK.out _ _ (bt hs (ba _ _)) (fun hHeld => ?_)
        clear hK K
        (try simp only [List.setIfInBounds_toArray, List.set_cons_zero, List.set_cons_succ])
        have nb := heap_alloc_new W_0 zPcO
        have lo6 := hs.size
        have hsn := bt hs (ba W_0 zPcO)
        have hst := ba W_0 zPcO
        obtain ⟨g6, hg6⟩ : ∃ g, W_0.heap.size = g := ⟨_, rfl⟩
        obtain ⟨W_1, hW⟩ : ∃ W, W_0.alloc zPcO = W := ⟨_, rfl⟩
        rw [hW] at nb hsn  ⊢
        rw [hg6] at nb lo6 ⊢
        have bk6 : Blk W_1 g6 28 #[.slice none 0 0, .slice none 0 0, .slice none 0 0] := nb
        clear nb hst hs hHeld
        have hs := hsn
        clear hsn hW hg6
        refine wpAnyH_ready (rs := [1, 4]) (by kernel_rfl) (by simp) ?_
        refine AllReadyH.cons rfl (fun K hK => ?_) ?_
        · go_simp
          go_wp2_with (go_at_call 16; (with_reducible refine (CA.out W_1 (HP0.out _ hs).1).mono ?_); rintro e W_2 ⟨Ba, ka, Ba', ka', Ba2, ka2, Ea, rfl, hpa0, hst⟩)
          refine hK.out _ _ (bt hs hst) (fun hHeld => ?_)
          clear hK K
          (try simp only [List.setIfInBounds_toArray, List.set_cons_zero, List.set_cons_succ])
          have hpa := hpa0.pcOw
          replace bk6 := Blk.below bk6 hst
          have hsn := bt hs hst
          clear hs hpa0 hHeld
          have hs := hsn
          clear hsn hst
          refine wpAnyH_ready (rs := [3, 4]) (by kernel_rfl) (by simp) ?_
          refine AllReadyH.cons rfl (fun K hK => ?_) ?_
          · go_simp
            go_wp2_with (go_at_call 16; (with_reducible refine (CB.out W_2 (HP0.out _ hs).2).mono ?_); rintro e W_3 ⟨Bb, kb, Bb', kb', Bb2, kb2, Eb, rfl, hpb0, hst⟩)
            refine hK.out _ _ (bt hs hst) (fun hHeld => ?_)
            clear hK K
            (try simp only [List.setIfInBounds_toArray, List.set_cons_zero, List.set_cons_succ])
            have hpb := hpb0.pcOw
            replace bk6 := Blk.below bk6 hst
            replace hpa := hpa.below hst
            have hsn := bt hs hst
            clear hs hpb0 hHeld
            have hs := hsn
            clear hsn hst
            refine wpAnyH_ready (rs := [4]) (by kernel_rfl) (by simp) ?_
            refine AllReadyH.cons rfl (fun K hK => ?_) ?_
            · go_simp
              refine hK.out _ _ (bt hs (ba _ _)) (fun hHeld => ?_)
              clear hK K
              (try simp only [List.setIfInBounds_toArray, List.set_cons_zero, List.set_cons_succ])
              have nb := heap_alloc_new W_3 zPcO
              have lo5 := hs.size
              have hsn := bt hs (ba W_3 zPcO)
              have hst := ba W_3 zPcO
              obtain ⟨g5, hg5⟩ : ∃ g, W_3.heap.size = g := ⟨_, rfl⟩
              have ne56 : g6 < g5 := by have := bk6.lt; omega
              replace bk6 := Blk.below bk6 hst
              replace hpa := hpa.below hst
              replace hpb := hpb.below hst
              obtain ⟨W_4, hW⟩ : ∃ W, W_3.alloc zPcO = W := ⟨_, rfl⟩
              rw [hW] at nb hsn bk6 hpa hpb ⊢
              rw [hg5] at nb lo5 ⊢
              have bk5 : Blk W_4 g5 28 #[.slice none 0 0, .slice none 0 0, .slice none 0 0] := nb
              clear nb hst hs hHeld
              have hs := hsn
              clear hsn hW hg5
              have hne : g5 ≠ g6 := by have := ne56; omega
              have c50 := bk5.cell 0
              have c51 := bk5.cell 1
              have c52 := bk5.cell 2
              have f50 := bk5.frozen 0
              have f51 := bk5.frozen 1
              have f52 := bk5.frozen 2
              simp at c50 c51 c52
              have HLF := Lib.hid (cmp_leaf hne lo5 lo6 bk5 bk6 hpa hpb hs)
              refine wpAnyH_ready (rs := [6]) (by kernel_rfl) (by simp) ?_
              refine AllReadyH.cons rfl (fun K hK => ?_) ?_
              · go_simp
                refine hK.out _ _ (((hs.setCell (p := ⟨g5, 0, none⟩) lo5 _).setCell (p := ⟨g5, 1, none⟩) lo5 _).setCell (p := ⟨g5, 2, none⟩) lo5 _) (fun hHeld => ?_)
                clear hK K
                (try simp only [List.setIfInBounds_toArray, List.set_cons_zero, List.set_cons_succ])
                have bk6s := ((bk6.setOther hne.symm 0 (.slice Ba n ka)).setOther hne.symm 1 (.slice Ba' m ka')).setOther hne.symm 2 (.slice Ba2 q ka2)
                have c60 := bk6s.cell 0
                have c61 := bk6s.cell 1
                have c62 := bk6s.cell 2
                have f60 := bk6s.frozen 0
                have f61 := bk6s.frozen 1
                have f62 := bk6s.frozen 2
                simp at c60 c61 c62
                refine wpAnyH_ready (rs := [7]) (by kernel_rfl) (by simp) ?_
                refine AllReadyH.cons rfl (fun K hK => ?_) ?_
                · go_simp
                  refine hK.out _ _ HLF.out.2.2.2.2 (fun hHeld => ?_)
                  clear hK K
                  (try simp only [List.setIfInBounds_toArray, List.set_cons_zero, List.set_cons_succ])
                  refine wpAnyH_done (by kernel_rfl) ?_ _
                  go_wp2_with (fail)
                  go_meet
                  exact ⟨g5, g6, Ba, ka, Ba', ka', Ba2, ka2, Bb, kb, Bb', kb', Bb2, kb2, rfl, rfl, HLF.out⟩
                exact AllReadyH.nil
              exact AllReadyH.nil
            exact AllReadyH.nil
          refine AllReadyH.cons rfl (fun K hK => ?_) ?_
          · go_simp
            refine hK.out _ _ (bt hs (ba _ _)) (fun hHeld => ?_)
            clear hK K
            (try simp only [List.setIfInBounds_toArray, List.set_cons_zero, List.set_cons_succ])
            have nb := heap_alloc_new W_2 zPcO
            have lo5 := hs.size
            have hsn := bt hs (ba W_2 zPcO)
            have hst := ba W_2 zPcO
            obtain ⟨g5, hg5⟩ : ∃ g, W_2.heap.size = g := ⟨_, rfl⟩
            have ne56 : g6 < g5 := by have := bk6.lt; omega
            replace bk6 := Blk.below bk6 hst
            replace hpa := hpa.below hst
            obtain ⟨W_3, hW⟩ : ∃ W, W_2.alloc zPcO = W := ⟨_, rfl⟩
            rw [hW] at nb hsn bk6 hpa ⊢
            rw [hg5] at nb lo5 ⊢
            have bk5 : Blk W_3 g5 28 #[.slice none 0 0, .slice none 0 0, .slice none 0 0] := nb
            clear nb hst hs hHeld
            have hs := hsn
            clear hsn hW hg5
            refine wpAnyH_ready (rs := [3]) (by kernel_rfl) (by simp) ?_
            refine AllReadyH.cons rfl (fun K hK => ?_) ?_
            · go_simp
              go_wp2_with (go_at_call 16; (with_reducible refine (CB.out W_3 (HP0.out _ hs).2).mono ?_); rintro e W_4 ⟨Bb, kb, Bb', kb', Bb2, kb2, Eb, rfl, hpb0, hst⟩)
              refine hK.out _ _ (bt hs hst) (fun hHeld => ?_)
              clear hK K
              (try simp only [List.setIfInBounds_toArray, List.set_cons_zero, List.set_cons_succ])
              have hpb := hpb0.pcOw
              replace bk5 := Blk.below bk5 hst
              replace bk6 := Blk.below bk6 hst
              replace hpa := hpa.below hst
              have hsn := bt hs hst
              clear hs hpb0 hHeld
              have hs := hsn
              clear hsn hst
              have hne : g5 ≠ g6 := by have := ne56; omega
              have c50 := bk5.cell 0
              have c51 := bk5.cell 1
              have c52 := bk5.cell 2
              have f50 := bk5.frozen 0
              have f51 := bk5.frozen 1
              have f52 := bk5.frozen 2
              simp at c50 c51 c52
              have HLF := Lib.hid (cmp_leaf hne lo5 lo6 bk5 bk6 hpa hpb hs)
              refine wpAnyH_ready (rs := [6]) (by kernel_rfl) (by simp) ?_
              refine AllReadyH.cons rfl (fun K hK => ?_) ?_
              · go_simp
                refine hK.out _ _ (((hs.setCell (p := ⟨g5, 0, none⟩) lo5 _).setCell (p := ⟨g5, 1, none⟩) lo5 _).setCell (p := ⟨g5, 2, none⟩) lo5 _) (fun hHeld => ?_)
                clear hK K
                (try simp only [List.setIfInBounds_toArray, List.set_cons_zero, List.set_cons_succ])
                have bk6s := ((bk6.setOther hne.symm 0 (.slice Ba n ka)).setOther hne.symm 1 (.slice Ba' m ka')).setOther hne.symm 2 (.slice Ba2 q ka2)
                have c60 := bk6s.cell 0
                have c61 := bk6s.cell 1
                have c62 := bk6s.cell 2
                have f60 := bk6s.frozen 0
                have f61 := bk6s.frozen 1
                have f62 := bk6s.frozen 2
                simp at c60 c61 c62
                refine wpAnyH_ready (rs := [7]) (by kernel_rfl) (by simp) ?_
                refine AllReadyH.cons rfl (fun K hK => ?_) ?_
                · go_simp
                  refine hK.out _ _ HLF.out.2.2.2.2 (fun hHeld => ?_)
                  clear hK K
                  (try simp only [List.setIfInBounds_toArray, List.set_cons_zero, List.set_cons_succ])
                  refine wpAnyH_done (by kernel_rfl) ?_ _
                  go_wp2_with (fail)
                  go_meet
                  exact ⟨g5, g6, Ba, ka, Ba', ka', Ba2, ka2, Bb, kb, Bb', kb', Bb2, kb2, rfl, rfl, HLF.out⟩
                exact AllReadyH.nil
              exact AllReadyH.nil
            exact AllReadyH.nil
          exact AllReadyH.nil
        refine AllReadyH.cons rfl (fun K hK => ?_) ?_
        · go_simp
          refine hK.out _ _ (bt hs (ba _ _)) (fun hHeld => ?_)
          clear hK K
          (try simp only [List.setIfInBounds_toArray, List.set_cons_zero, List.set_cons_succ])
          have nb := heap_alloc_new W_1 zPcO
          have lo5 := hs.size
          have hsn := bt hs (ba W_1 zPcO)
          have hst := ba W_1 zPcO
          obtain ⟨g5, hg5⟩ : ∃ g, W_1.heap.size = g := ⟨_, rfl⟩
          have ne56 : g6 < g5 := by have := bk6.lt; omega
          replace bk6 := Blk.below bk6 hst
          obtain ⟨W_2, hW⟩ : ∃ W, W_1.alloc zPcO = W := ⟨_, rfl⟩
          rw [hW] at nb hsn bk6 ⊢
          rw [hg5] at nb lo5 ⊢
          have bk5 : Blk W_2 g5 28 #[.slice none 0 0, .slice none 0 0, .slice none 0 0] := nb
          clear nb hst hs hHeld
          have hs := hsn
          clear hsn hW hg5
          refine wpAnyH_ready (rs := [1]) (by kernel_rfl) (by simp) ?_
          refine AllReadyH.cons rfl (fun K hK => ?_) ?_
          · go_simp
            go_wp2_with (go_at_call 16; (with_reducible refine (CA.out W_2 (HP0.out _ hs).1).mono ?_); rintro e W_3 ⟨Ba, ka, Ba', ka', Ba2, ka2, Ea, rfl, hpa0, hst⟩)
            refine hK.out _ _ (bt hs hst) (fun hHeld => ?_)
            clear hK K
            (try simp only [List.setIfInBounds_toArray, List.set_cons_zero, List.set_cons_succ])
            have hpa := hpa0.pcOw
            replace bk5 := Blk.below bk5 hst
            replace bk6 := Blk.below bk6 hst
            have hsn := bt hs hst
            clear hs hpa0 hHeld
            have hs := hsn
            clear hsn hst
            refine wpAnyH_ready (rs := [3]) (by kernel_rfl) (by simp) ?_
            refine AllReadyH.cons rfl (fun K hK => ?_) ?_
            · go_simp
              go_wp2_with (go_at_call 16; (with_reducible refine (CB.out W_3 (HP0.out _ hs).2).mono ?_); rintro e W_4 ⟨Bb, kb, Bb', kb', Bb2, kb2, Eb, rfl, hpb0, hst⟩)
              refine hK.out _ _ (bt hs hst) (fun hHeld => ?_)
              clear hK K
              (try simp only [List.setIfInBounds_toArray, List.set_cons_zero, List.set_cons_succ])
              have hpb := hpb0.pcOw
              replace bk5 := Blk.below bk5 hst
              replace bk6 := Blk.below bk6 hst
              replace hpa := hpa.below hst
              have hsn := bt hs hst
              clear hs hpb0 hHeld
              have hs := hsn
              clear hsn hst
              have hne : g5 ≠ g6 := by have := ne56; omega
              have c50 := bk5.cell 0
              have c51 := bk5.cell 1
              have c52 := bk5.cell 2
              have f50 := bk5.frozen 0
              have f51 := bk5.frozen 1
              have f52 := bk5.frozen 2
              simp at c50 c51 c52
              have HLF := Lib.hid (cmp_leaf hne lo5 lo6 bk5 bk6 hpa hpb hs)
              refine wpAnyH_ready (rs := [6]) (by kernel_rfl) (by simp) ?_
              refine AllReadyH.cons rfl (fun K hK => ?_) ?_
              · go_simp
                refine hK.out _ _ (((hs.setCell (p := ⟨g5, 0, none⟩) lo5 _).setCell (p := ⟨g5, 1, none⟩) lo5 _).setCell (p := ⟨g5, 2, none⟩) lo5 _) (fun hHeld => ?_)
                clear hK K
                (try simp only [List.setIfInBounds_toArray, List.set_cons_zero, List.set_cons_succ])
                have bk6s := ((bk6.setOther hne.symm 0 (.slice Ba n ka)).setOther hne.symm 1 (.slice Ba' m ka')).setOther hne.symm 2 (.slice Ba2 q ka2)
                have c60 := bk6s.cell 0
                have c61 := bk6s.cell 1
                have c62 := bk6s.cell 2
                have f60 := bk6s.frozen 0
                have f61 := bk6s.frozen 1
                have f62 := bk6s.frozen 2
                simp at c60 c61 c62
                refine wpAnyH_ready (rs := [7]) (by kernel_rfl) (by simp) ?_
                refine AllReadyH.cons rfl (fun K hK => ?_) ?_
                · go_simp
                  refine hK.out _ _ HLF.out.2.2.2.2 (fun hHeld => ?_)
                  clear hK K
                  (try simp only [List.setIfInBounds_toArray, List.set_cons_zero, List.set_cons_succ])
                  refine wpAnyH_done (by kernel_rfl) ?_ _
                  go_wp2_with (fail)
                  go_meet
                  exact ⟨g5, g6, Ba, ka, Ba', ka', Ba2, ka2, Bb, kb, Bb', kb', Bb2, kb2, rfl, rfl, HLF.out⟩
                exact AllReadyH.nil
              exact AllReadyH.nil
            exact AllReadyH.nil
          exact AllReadyH.nil
        exact AllReadyH.nil
      exact AllReadyH.nil

    case rest =>
      obtain ⟨g5, g6, Ba, ka, Ba', ka', Ba2, ka2, Bb, kb, Bb', kb', Bb2, kb2, rfl, rfl, HCM⟩ := hcut
      have HTW : Hid (Below ((w.alloc (pcO A n c A' m c' A2 q cq)).alloc (pcO B n2 d B' m2 d' B2 q2 dq)).heap.size ((w.alloc (pcO A n c A' m c' A2 q cq)).alloc (pcO B n2 d B' m2 d' B2 q2 dq)) wc) := bt HT0.out HCM.out.2.2.2.2
      have HPW : Hid (∀ w', Below wc.heap.size wc w' → (PcIn w' A n c A' m c' A2 q cq C S P ∧ PcIn w' B n2 d B' m2 d' B2 q2 dq D U Q) ∧ (PcIn w' Ba n ka Ba' m ka' Ba2 q ka2 C S P ∧ PcIn w' Bb n2 kb Bb' m2 kb' Bb2 q2 kb2 D U Q) ∧ SgT w') := fun w' h =>
        ⟨HE.out _ (bt HTW.out h), ⟨HCM.out.2.2.1.below h, HCM.out.2.2.2.1.below h⟩, HG.out.below (bt HTW.out h)⟩
      have HCW : Hid (∀ w', Below wc.heap.size wc w' → ((w'.cell? ⟨w.heap.size, 0, none⟩ = some (.slice A n c) ∧ w'.cell? ⟨w.heap.size, 1, none⟩ = some (.slice A' m c') ∧ w'.cell? ⟨w.heap.size, 2, none⟩ = some (.slice A2 q cq)) ∧ (w'.cell? ⟨w.heap.size + 1, 0, none⟩ = some (.slice B n2 d) ∧ w'.cell? ⟨w.heap.size + 1, 1, none⟩ = some (.slice B' m2 d') ∧ w'.cell? ⟨w.heap.size + 1, 2, none⟩ = some (.slice B2 q2 dq))) ∧ (w'.cell? ⟨g5, 0, none⟩ = some (.slice Ba n ka) ∧ w'.cell? ⟨g5, 1, none⟩ = some (.slice Ba' m ka') ∧ w'.cell? ⟨g5, 2, none⟩ = some (.slice Ba2 q ka2)) ∧ (w'.cell? ⟨g6, 0, none⟩ = some (.slice Bb n2 kb) ∧ w'.cell? ⟨g6, 1, none⟩ = some (.slice Bb' m2 kb') ∧ w'.cell? ⟨g6, 2, none⟩ = some (.slice Bb2 q2 kb2))) := fun w' h => by
        have k1 := Blk.below (g := g5) (t := 28) (cs := #[.slice Ba n ka, .slice Ba' m ka', .slice Ba2 q ka2]) HCM.out.1 h
        have k2 := Blk.below (g := g6) (t := 28) (cs := #[.slice Bb n2 kb, .slice Bb' m2 kb', .slice Bb2 q2 kb2]) HCM.out.2.1 h
        have z := HC.out _ (bt HTW.out h)
        exact ⟨⟨z.1, z.2.1⟩, ⟨by simpa using k1.cell 0, by simpa using k1.cell 1, by simpa using k1.cell 2⟩, ⟨by simpa using k2.cell 0, by simpa using k2.cell 1, by simpa using k2.cell 2⟩⟩
      have HZP : Hid (∀ y ∈ P, y.L.length ≤ 1000000) := fun y hy => Nat.le_trans (HSP.out y hy) (by omega)
      have HZQ : Hid (∀ y ∈ Q, y.L.length ≤ 1000000) := fun y hy => Nat.le_trans (HSQ.out y hy) (by omega)
      have e1 : n ≤ 65536 := by omega
      have e2 : m ≤ 65536 := by omega
      have e3 : n2 ≤ 65536 := by omega
      have e4 : m2 ≤ 65536 := by omega
      have SM : Hid (∀ w', Below wc.heap.size wc w' → Calls Tryd.prog 28 #[pcV Ba n ka Ba' m ka' Ba2 q ka2, pcV Bb n2 kb Bb' m2 kb' Bb2 q2 kb2] w' fun e w2 => e = .returned (.bool (pcEqB C S P D U Q)) ∧ Below w'.heap.size w' w2) := fun w' h => pcSame_any _ _ _ _ _ _ _ _ _ _ _ _ _ _ _ _ _ _ C S P D U Q w' (HPW.out _ h).2.1.1 (HPW.out _ h).2.1.2 e1 e2 hqb1 e3 e4 hqb2 HZP.out HZQ.out
      have RS : Hid (∀ w', Below wc.heap.size wc w' → Calls Tryd.prog 19 #[pcV A n c A' m c' A2 q cq, pcV B n2 d B' m2 d' B2 q2 dq] w' fun e w2 => e = .returned (.bool (pcEqB C S P D U Q)) ∧ Below w'.heap.size w' w2) := fun w' h => rSamePc_any _ _ _ _ _ _ _ _ _ _ _ _ _ _ _ _ _ _ C S P D U Q w' (HPW.out _ h).1.1 (HPW.out _ h).1.2 e1 e2 hqb1 e3 e4 hqb2 HZP.out HZQ.out
      have AL : Hid (∀ w', Below wc.heap.size wc w' → Calls Tryd.prog 27 #[pcV Ba n ka Ba' m ka' Ba2 q ka2, pcV Bb n2 kb Bb' m2 kb' Bb2 q2 kb2] w' fun e w2 => e = .returned (.bool (alikeB C S P D U Q)) ∧ Below w'.heap.size w' w2) := fun w' h => pcAlike_any _ _ _ _ _ _ _ _ _ _ _ _ _ _ _ _ _ _ C S P D U Q w' (HPW.out _ h).2.1.1 (HPW.out _ h).2.1.2 e1 e2 hqb1 e3 e4 hqb2 HZP.out HZQ.out
      have RA : Hid (∀ w', Below wc.heap.size wc w' → Calls Tryd.prog 44 #[pcV A n c A' m c' A2 q cq, pcV B n2 d B' m2 d' B2 q2 dq] w' fun e w2 => e = .returned (.bool (alikeB C S P D U Q)) ∧ Below w'.heap.size w' w2) := fun w' h => rAlike_any _ _ _ _ _ _ _ _ _ _ _ _ _ _ _ _ _ _ C S P D U Q w' (HPW.out _ h).1.1 (HPW.out _ h).1.2 e1 e2 hqb1 e3 e4 hqb2 HZP.out HZQ.out
      have SA : Hid (∀ w', Below wc.heap.size wc w' → Calls Tryd.prog 28 #[pcV Ba n ka Ba' m ka' Ba2 q ka2, pcV Ba n ka Ba' m ka' Ba2 q ka2] w' fun e w2 => e = .returned (.bool true) ∧ Below w'.heap.size w' w2) := fun w' h => by
        have := pcSame_any _ _ _ _ _ _ _ _ _ _ _ _ _ _ _ _ _ _ C S P C S P w' (HPW.out _ h).2.1.1 (HPW.out _ h).2.1.1 e1 e2 hqb1 e1 e2 hqb1 HZP.out HZP.out
        rwa [pcEqB_refl] at this
      have AB : Hid (∀ w', Below wc.heap.size wc w' → Calls Tryd.prog 27 #[pcV Bb n2 kb Bb' m2 kb' Bb2 q2 kb2, pcV Bb n2 kb Bb' m2 kb' Bb2 q2 kb2] w' fun e w2 => e = .returned (.bool (pcErr D U Q == 0)) ∧ Below w'.heap.size w' w2) := fun w' h => by
        have := pcAlike_any _ _ _ _ _ _ _ _ _ _ _ _ _ _ _ _ _ _ D U Q D U Q w' (HPW.out _ h).2.1.2 (HPW.out _ h).2.1.2 e3 e4 hqb2 e3 e4 hqb2 HZQ.out HZQ.out
        rwa [alikeB_refl] at this
      have CK : Hid (∀ w', Below wc.heap.size wc w' → Calls Tryd.prog 26 #[pcV B n2 d B' m2 d' B2 q2 dq] w' fun e w2 => e = .returned (.int .i64 (pcErr D U Q)) ∧ Below w'.heap.size w' w2) := fun w' h => rpcheck_any _ _ _ _ _ _ _ _ _ D U Q w' (HPW.out _ h).1.2 (by omega) (by omega) (by omega) HZQ.out
      have WK : Hid (∀ w', Below wc.heap.size wc w' → Calls Tryd.prog 15 #[] w' fun e w2 => e = .returned (.bool true) ∧ Below w'.heap.size w' w2) := fun w' h => works2 _ (HPW.out _ h).2.2
      generalize pcEqB C S P D U Q = X at SM RS
      generalize alikeB C S P D U Q = Y at AL RA
      generalize pcErr D U Q = Z at AB CK
      have hxx : (X == X) = true := by simp
      have hyy : (Y == Y) = true := by simp
      have hzz : ((Z == 0) == (Z == 0)) = true := by simp
      clear HSP HSQ CA CB HP0 HC0 HPW HCM HC HE HG HT0 HZP HZQ BA BB HQ1 HQ2 E
      obtain ⟨⟨⟨x0, x1, x2⟩, ⟨y0, y1, y2⟩⟩, ⟨a0, a1, a2⟩, ⟨b0, b1, b2⟩⟩ := HCW.out _ (Below.refl _ _)
      go_wp2_with (fail)
      have T := (Below.refl wc.heap.size wc).drew
      clear x0 x1 x2 y0 y1 y2 a0 a1 a2 b0 b1 b2
      go_region_held_law (fun w' => ((w'.cell? ⟨w.heap.size, 0, none⟩ = some (.slice A n c) ∧ w'.cell? ⟨w.heap.size, 1, none⟩ = some (.slice A' m c') ∧ w'.cell? ⟨w.heap.size, 2, none⟩ = some (.slice A2 q cq)) ∧ (w'.cell? ⟨w.heap.size + 1, 0, none⟩ = some (.slice B n2 d) ∧ w'.cell? ⟨w.heap.size + 1, 1, none⟩ = some (.slice B' m2 d') ∧ w'.cell? ⟨w.heap.size + 1, 2, none⟩ = some (.slice B2 q2 dq))) ∧ (w'.cell? ⟨g5, 0, none⟩ = some (.slice Ba n ka) ∧ w'.cell? ⟨g5, 1, none⟩ = some (.slice Ba' m ka') ∧ w'.cell? ⟨g5, 2, none⟩ = some (.slice Ba2 q ka2)) ∧ (w'.cell? ⟨g6, 0, none⟩ = some (.slice Bb n2 kb) ∧ w'.cell? ⟨g6, 1, none⟩ = some (.slice Bb' m2 kb') ∧ w'.cell? ⟨g6, 2, none⟩ = some (.slice Bb2 q2 kb2)))
        (exact HCW.out _ T)
        (first
          | (go_at_call 28; (with_reducible refine (SM.out _ T).mono ?_); rintro e wk ⟨rfl, hbk⟩; replace T := bt T hbk; clear hbk)
          | (go_at_call 28; (with_reducible refine (SA.out _ T).mono ?_); rintro e wk ⟨rfl, hbk⟩; replace T := bt T hbk; clear hbk)
          | (go_at_call 19; (with_reducible refine (RS.out _ T).mono ?_); rintro e wk ⟨rfl, hbk⟩; replace T := bt T hbk; clear hbk)
          | (go_at_call 27; (with_reducible refine (AL.out _ T).mono ?_); rintro e wk ⟨rfl, hbk⟩; replace T := bt T hbk; clear hbk)
          | (go_at_call 27; (with_reducible refine (AB.out _ T).mono ?_); rintro e wk ⟨rfl, hbk⟩; replace T := bt T hbk; clear hbk)
          | (go_at_call 44; (with_reducible refine (RA.out _ T).mono ?_); rintro e wk ⟨rfl, hbk⟩; replace T := bt T hbk; clear hbk)
          | (go_at_call 26; (with_reducible refine (CK.out _ T).mono ?_); rintro e wk ⟨rfl, hbk⟩; replace T := bt T hbk; clear hbk)
          | (go_at_call 15; (with_reducible refine (WK.out _ T).mono ?_); rintro e wk ⟨rfl, hbk⟩; replace T := bt T hbk; clear hbk))
      go_wp2_with (fail)
      go_ret
      exact ⟨rfl, bt HBB.out (bt HTW.out T)⟩

end Go.Proofs.YtjobablfojnppaaDoor
