/- The law PieceAppends returns true for every two pieces. -/
import Derived.Test.YtjobablfojnppaaDoorCmp9C
import Derived.Test.YtjobablfojnppaaDoorAp3
import Derived.Test.YtjobablfojnppaaDoorCmp9
import Derived.Test.YtjobablfojnppaaDoorSameI2
import Derived.Test.YtjobablfojnppaaDoorWorks2
import Derived.Deep.CutRange
import Derived.Test.YtjobablfojnppaaDoorEnvS
import Derived.Test.YtjobablfojnppaaDoorPcOpen
import Derived.Test.YtjobablfojnppaaDoorTie
import Derived.Test.YtjobablfojnppaaDoorCards
import Derived.SevenTiedAt
import Derived.ChangeMaps5
import Derived.Lib.SmallJoins
namespace Go.Proofs.YtjobablfojnppaaDoor
open Go Go.RowKit

theorem PcOw.onPc {w : World} {b : Nat} {A A' A2 : Option Addr} {n c m c' q cq : Nat} {C : List Cr} {S : List Int} {P : List EvP} (h : PcOw w b A n c A' m c' A2 q cq C S P) {g : Nat} {cs : Array Value} (hb : Blk w g 28 cs) (i : Nat) (u : Value) : PcOw (w.setCell ⟨g, i, none⟩ u) b A n c A' m c' A2 q cq C S P :=
  h.blkB (fun _ _ _ _ hT h2 => h2.setOther (h2.ne hb hT) _ _)
/-- A box with a piece of its own. -/
def ApR (W2 : World) (wx : World) (g5 : Nat) (Ba : Option Addr) (na da : Nat) (Ba' : Option Addr) (ma da' : Nat) (Ba2 : Option Addr) (qa da2 : Nat) (C : List Cr) (S : List Int) (P : List EvP) : Prop :=
  Blk wx g5 28 #[.slice Ba na da, .slice Ba' ma da', .slice Ba2 qa da2] ∧ PcIn wx Ba na da Ba' ma da' Ba2 qa da2 C S P ∧ (na = C.length ∧ ma = S.length ∧ qa = P.length) ∧ Below W2.heap.size W2 wx
theorem ap_leaf {W2 wx : World} {g5 b1 : Nat} {Ba : Option Addr} {na da : Nat} {Ba' : Option Addr} {ma da' : Nat} {Ba2 : Option Addr} {qa da2 : Nat} {C : List Cr} {S : List Int} {P : List EvP}
    (lo5 : W2.heap.size ≤ g5) (bk5 : Blk wx g5 28 #[.slice none 0 0, .slice none 0 0, .slice none 0 0]) (hpa : PcOw wx b1 Ba na da Ba' ma da' Ba2 qa da2 C S P) (hs : Below W2.heap.size W2 wx) :
    ApR W2 (((wx.setCell ⟨g5, 0, none⟩ (.slice Ba na da)).setCell ⟨g5, 1, none⟩ (.slice Ba' ma da')).setCell ⟨g5, 2, none⟩ (.slice Ba2 qa da2)) g5 Ba na da Ba' ma da' Ba2 qa da2 C S P := by
  have a1 := bk5.set_ 0 (.slice Ba na da)
  have a2 := a1.set_ 1 (.slice Ba' ma da')
  have a3 := a2.set_ 2 (.slice Ba2 qa da2)
  refine ⟨by simpa using a3, (((hpa.onPc bk5 0 (.slice Ba na da)).onPc a1 1 (.slice Ba' ma da')).onPc a2 2 (.slice Ba2 qa da2)).pcIn, ⟨hpa.hn, hpa.hm, hpa.hq⟩, ((hs.setCell (p := ⟨g5, 0, none⟩) lo5 _).setCell (p := ⟨g5, 1, none⟩) lo5 _).setCell (p := ⟨g5, 2, none⟩) lo5 _⟩
theorem appErr_ok {X1 X2 : Int} {sm : Bool} {k : Nat} (h : appErr X1 X2 sm k = 0) : k ≤ 400 := by
  unfold appErr at h
  split at h
  · rename_i h1; exact absurd h h1
  · split at h
    · rename_i h1; exact absurd h h1
    · split at h
      · simp at h
      · split at h
        · simp at h
        · omega
theorem oC_le {α : Type} {er : Int} {L : List α} {N : Nat} (h : er = 0 → L.length ≤ N) : (oC er L).length ≤ N := by
  by_cases h0 : er = 0
  · rw [h0, oC_ok]; exact h h0
  · rw [oC_no h0]; simp
theorem PcRes.use2 {er : Int} {C : List Cr} {S : List Int} {P : List EvP} {w : World} {e : Ending} {w' : World} (h : PcRes er C S P w e w') (h1 : C.length ≤ 65536) (h2 : S.length ≤ 65536) (h3 : er = 0 → P.length ≤ 65536) : PcUse er (oC er C) (oC er S) (oC er P) w e w' := by
  obtain ⟨B, n, d, B', m, d', B2, q, d2, e1, h, hb⟩ := h
  exact ⟨B, n, d, B', m, d', B2, q, d2, e1, h.pcIn, ⟨by rw [h.hn]; exact Nat.le_trans (oC_len _ _) h1, by rw [h.hm]; exact Nat.le_trans (oC_len _ _) h2, by rw [h.hq]; exact oC_le h3⟩, hb⟩
set_option maxRecDepth 100000 in
set_option maxHeartbeats 3200000 in
theorem law_pappends (A : Option Addr) (n c : Nat) (A' : Option Addr) (m c' : Nat) (A2 : Option Addr) (q cq : Nat) (C : List Cr) (S : List Int) (P : List EvP) (B : Option Addr) (n2 d : Nat) (B' : Option Addr) (m2 d' : Nat) (B2 : Option Addr) (q2 dq : Nat) (D : List Cr) (U : List Int) (Q : List EvP) (w : World) (E : SgT w) (hP : PcIn w A n c A' m c' A2 q cq C S P) (hQ : PcIn w B n2 d B' m2 d' B2 q2 dq D U Q) :
    Calls Tryd.prog 8 #[pcV A n c A' m c' A2 q cq, pcV B n2 d B' m2 d' B2 q2 dq] w fun e w' => e = .returned (.bool true) ∧ Below w.heap.size w w' := by
  have HE : Hid (∀ w', Below ((w.alloc (pcO A n c A' m c' A2 q cq)).alloc (pcO B n2 d B' m2 d' B2 q2 dq)).heap.size ((w.alloc (pcO A n c A' m c' A2 q cq)).alloc (pcO B n2 d B' m2 d' B2 q2 dq)) w' → PcIn w' A n c A' m c' A2 q cq C S P ∧ PcIn w' B n2 d B' m2 d' B2 q2 dq D U Q) :=
    fun w' h => ⟨(hP.below (bt (ba _ _) (ba _ _))).below h, (hQ.below (bt (ba _ _) (ba _ _))).below h⟩
  have HC : Hid (∀ w', Below ((w.alloc (pcO A n c A' m c' A2 q cq)).alloc (pcO B n2 d B' m2 d' B2 q2 dq)).heap.size ((w.alloc (pcO A n c A' m c' A2 q cq)).alloc (pcO B n2 d B' m2 d' B2 q2 dq)) w' → (w'.cell? ⟨w.heap.size, 0, none⟩ = some (.slice A n c) ∧ w'.cell? ⟨w.heap.size, 1, none⟩ = some (.slice A' m c') ∧ w'.cell? ⟨w.heap.size, 2, none⟩ = some (.slice A2 q cq)) ∧ (w'.cell? ⟨w.heap.size + 1, 0, none⟩ = some (.slice B n2 d) ∧ w'.cell? ⟨w.heap.size + 1, 1, none⟩ = some (.slice B' m2 d') ∧ w'.cell? ⟨w.heap.size + 1, 2, none⟩ = some (.slice B2 q2 dq)) ∧ w.heap.size + 1 < w'.heap.size) := fun w' hb => by
    have p := cell3 (bt (ba _ _) hb)
    have r := cell3 hb
    simp only [World.size_alloc] at r
    exact ⟨p, r, by have := hb.size; simp at this; omega⟩
  have HBB : Hid (Below w.heap.size w ((w.alloc (pcO A n c A' m c' A2 q cq)).alloc (pcO B n2 d B' m2 d' B2 q2 dq))) := bt (ba _ _) (ba _ _)
  have HG : Hid (SgT ((w.alloc (pcO A n c A' m c' A2 q cq)).alloc (pcO B n2 d B' m2 d' B2 q2 dq))) := E.below HBB.out
  have BA := Lib.hid (fun w' (h : PcIn w' A n c A' m c' A2 q cq C S P) => pbig_any A n c A' m c' A2 q cq P w' h.es)
  have BB := Lib.hid (fun w' (h : PcIn w' B n2 d B' m2 d' B2 q2 dq D U Q) => pbig_any B n2 d B' m2 d' B2 q2 dq Q w' h.es)
  have HQ1 := Lib.hid (And.intro hP.hn (And.intro hP.hm hP.es.hq))
  have HQ2 := Lib.hid (And.intro hQ.hn (And.intro hQ.hm hQ.es.hq))
  clear hP hQ
  have T := Below.refl ((w.alloc (pcO A n c A' m c' A2 q cq)).alloc (pcO B n2 d B' m2 d' B2 q2 dq)).heap.size ((w.alloc (pcO A n c A' m c' A2 q cq)).alloc (pcO B n2 d B' m2 d' B2 q2 dq))
  obtain ⟨⟨x0, x1, x2⟩, ⟨y0, y1, y2⟩, hz⟩ := HC.out _ T
  cases hbg : pbigB n m P with
  | true =>
    rw [hbg] at BA
    clear hbg
    go_enter Tryd.func8, Tryd.ntmps8
    go_wp2_with (first
      | (go_at_call 14; with_reducible refine (BA.out _ (HE.out _ T).1).mono ?_; rintro e w1 ⟨rfl, hb1⟩; replace T := bt T hb1; clear hb1; clear x0 x1 x2 y0 y1 y2 hz; obtain ⟨⟨x0, x1, x2⟩, ⟨y0, y1, y2⟩, hz⟩ := HC.out _ T)
      | (go_at_call 14; with_reducible refine (BB.out _ (HE.out _ T).2).mono ?_; rintro e w2 ⟨rfl, hb2⟩; replace T := bt T hb2; clear hb2; clear x0 x1 x2 y0 y1 y2 hz; obtain ⟨⟨x0, x1, x2⟩, ⟨y0, y1, y2⟩, hz⟩ := HC.out _ T)
      | (go_at_call 15; refine (works2 _ (HG.out.below T)).mono ?_; rintro e wz ⟨rfl, hbz⟩))
    go_ret
    exact ⟨rfl, bt HBB.out (bt T hbz)⟩
  | false =>
  rw [hbg] at BA
  obtain ⟨l1, l2, l3, l4⟩ := pbigB_no hbg
  clear hbg
  cases hbg : pbigB n2 m2 Q with
  | true =>
    rw [hbg] at BB
    clear hbg
    go_enter Tryd.func8, Tryd.ntmps8
    go_wp2_with (first
      | (go_at_call 14; with_reducible refine (BA.out _ (HE.out _ T).1).mono ?_; rintro e w1 ⟨rfl, hb1⟩; replace T := bt T hb1; clear hb1; clear x0 x1 x2 y0 y1 y2 hz; obtain ⟨⟨x0, x1, x2⟩, ⟨y0, y1, y2⟩, hz⟩ := HC.out _ T)
      | (go_at_call 14; with_reducible refine (BB.out _ (HE.out _ T).2).mono ?_; rintro e w2 ⟨rfl, hb2⟩; replace T := bt T hb2; clear hb2; clear x0 x1 x2 y0 y1 y2 hz; obtain ⟨⟨x0, x1, x2⟩, ⟨y0, y1, y2⟩, hz⟩ := HC.out _ T)
      | (go_at_call 15; refine (works2 _ (HG.out.below T)).mono ?_; rintro e wz ⟨rfl, hbz⟩))
    go_ret
    exact ⟨rfl, bt HBB.out (bt T hbz)⟩
  | false =>
    rw [hbg] at BB
    obtain ⟨m1, m3, m4, m5⟩ := pbigB_no hbg
    clear hbg
    have HSP : Hid (∀ y ∈ P, y.L.length ≤ 65536) := fun y hy => Nat.le_trans (l4 y hy) (by omega)
    have HSQ : Hid (∀ y ∈ Q, y.L.length ≤ 65536) := fun y hy => Nat.le_trans (m5 y hy) (by omega)
    have hqb1 : q ≤ 65536 := by have := HQ1.out; omega
    have hqb2 : q2 ≤ 65536 := by have := HQ2.out; omega
    have CA := Lib.hid (fun w' (h : PcIn w' A n c A' m c' A2 q cq C S P) => pcopy_any A n c A' m c' A2 q cq C S P w' h (by omega) (by omega) (by omega) HSP.out)
    have CB := Lib.hid (fun w' (h : PcIn w' B n2 d B' m2 d' B2 q2 dq D U Q) => pcopy_any B n2 d B' m2 d' B2 q2 dq D U Q w' h (by omega) (by omega) (by omega) HSQ.out)
    obtain ⟨E1, hE1⟩ : ∃ E1, appErr (pcErr C S P) (pcErr D U Q) (sameB C S D U) (q + q2) = E1 := ⟨_, rfl⟩
    have hL : E1 = 0 → (P ++ Q).length ≤ 65536 := fun h => by
      rw [h] at hE1
      have := appErr_ok hE1
      have := HQ1.out
      have := HQ2.out
      rw [List.length_append]
      omega
    have AG1 : Hid (∀ (F : Option Addr) (f : Nat) (F' : Option Addr) (f' : Nat) (F2 : Option Addr) (f2 : Nat) (G : Option Addr) (g : Nat) (G' : Option Addr) (g' : Nat) (G2 : Option Addr) (g2 : Nat) w' (_ : PcIn w' F n f F' m f' F2 q f2 C S P) (_ : PcIn w' G n2 g G' m2 g' G2 q2 g2 D U Q), Calls Tryd.prog 38 #[pcV F n f F' m f' F2 q f2, pcV G n2 g G' m2 g' G2 q2 g2] w' (PcRes E1 C S (P ++ Q) w')) := fun F f F' f' F2 f2 G g G' g' G2 g2 w' h1 h2 => by
      have := append_any F n f F' m f' F2 q f2 G n2 g G' m2 g' G2 q2 g2 C S P D U Q w' h1 h2 (by omega) (by omega) hqb1 (by omega) (by omega) hqb2 HSP.out HSQ.out
      rwa [hE1] at this
    have RG : Hid (∀ w' (_ : PcIn w' A n c A' m c' A2 q cq C S P) (_ : PcIn w' B n2 d B' m2 d' B2 q2 dq D U Q), Calls Tryd.prog 39 #[pcV A n c A' m c' A2 q cq, pcV B n2 d B' m2 d' B2 q2 dq] w' (PcUse E1 (oC E1 C) (oC E1 S) (oC E1 (P ++ Q)) w')) := fun w' h1 h2 => by
      refine (rappend_any A n c A' m c' A2 q cq B n2 d B' m2 d' B2 q2 dq C S P D U Q w' h1 h2 (by omega) (by omega) hqb1 (by omega) (by omega) hqb2 HSP.out HSQ.out).mono (fun e w2 hr => ?_)
      rw [hE1] at hr
      exact hr.use2 (by have := HQ1.out; omega) (by have := HQ1.out; omega) hL
    have HST1 : Hid (∀ y ∈ oC E1 (P ++ Q), y.L.length ≤ 1000000) := fun y hy => by
      rcases List.mem_append.1 (oC_mem hy) with h | h
      · exact Nat.le_trans (HSP.out y h) (by omega)
      · exact Nat.le_trans (HSQ.out y h) (by omega)
    have HLB : Hid ((oC E1 C).length ≤ 65536 ∧ (oC E1 S).length ≤ 65536 ∧ (oC E1 (P ++ Q)).length ≤ 65536) := ⟨Nat.le_trans (oC_len _ _) (by have := HQ1.out; omega), Nat.le_trans (oC_len _ _) (by have := HQ1.out; omega), oC_le hL⟩
    clear l3 l4 m4 m5 hE1 hL
    unfold PcRes at AG1
    unfold PcUse at RG
    generalize oC E1 C = C1 at *
    generalize oC E1 S = S1 at *
    generalize oC E1 (P ++ Q) = P1 at *
    go_enter Tryd.func8, Tryd.ntmps8
    go_upto_region 3 with (first
      | (go_at_call 14; with_reducible refine (BA.out _ (HE.out _ T).1).mono ?_; rintro e w1 ⟨rfl, hb1⟩; replace T := bt T hb1; clear hb1; clear x0 x1 x2 y0 y1 y2 hz; obtain ⟨⟨x0, x1, x2⟩, ⟨y0, y1, y2⟩, hz⟩ := HC.out _ T)
      | (go_at_call 14; with_reducible refine (BB.out _ (HE.out _ T).2).mono ?_; rintro e w2 ⟨rfl, hb2⟩; replace T := bt T hb2; clear hb2; clear x0 x1 x2 y0 y1 y2 hz; obtain ⟨⟨x0, x1, x2⟩, ⟨y0, y1, y2⟩, hz⟩ := HC.out _ T)
      | (go_at_call 15; refine (works2 _ (HG.out.below T)).mono ?_; rintro e wz ⟨rfl, hbz⟩))
    have HT0 := Lib.hid T
    have HP0 : Hid (∀ w', Below w2.heap.size w2 w' → PcIn w' A n c A' m c' A2 q cq C S P ∧ PcIn w' B n2 d B' m2 d' B2 q2 dq D U Q) := fun w' h => HE.out _ (bt HT0.out h)
    have HC0 : Hid (∀ w', Below w2.heap.size w2 w' → (w'.cell? ⟨w.heap.size, 0, none⟩ = some (.slice A n c) ∧ w'.cell? ⟨w.heap.size, 1, none⟩ = some (.slice A' m c') ∧ w'.cell? ⟨w.heap.size, 2, none⟩ = some (.slice A2 q cq)) ∧ (w'.cell? ⟨w.heap.size + 1, 0, none⟩ = some (.slice B n2 d) ∧ w'.cell? ⟨w.heap.size + 1, 1, none⟩ = some (.slice B' m2 d') ∧ w'.cell? ⟨w.heap.size + 1, 2, none⟩ = some (.slice B2 q2 dq))) := fun w' h => ⟨(HC.out _ (bt HT0.out h)).1, (HC.out _ (bt HT0.out h)).2.1⟩
    clear T x0 x1 x2 y0 y1 y2 hz
    go_cut [5, 6] from 16 to 23 (fun s5 s6 wx => ∃ g5 Ba na da Ba' ma da' Ba2 qa da2, s5 = .pointer (some ⟨g5, 0, none⟩) ∧ s6 = .int .i64 E1 ∧ Hid (ApR w2 wx g5 Ba na da Ba' ma da' Ba2 qa da2 C1 S1 P1))
    case first =>
      have hs : Below w2.heap.size w2 w2.drew := (Below.refl _ _).drew
      refine wp_region_held_drew (S := fun w' => Below w2.heap.size w2 w') (by kernel_rfl) hs (fun hHeld => ?_)
      change wpAnyH _ _ _ _ _ 11 #[false, false, false, false, false, false, false, false, false, false, false] _ _
      refine wpAnyH_take (i := 0) (v := ?_) rfl (by kernel_rfl) (by kernel_rfl) (by kernel_rfl) (fun _ _ _ h => h) (Or.inl ⟨by rfl, ?_⟩) (by assumption) ?_
      rotate_left
      · intro w' hSw
        obtain ⟨⟨x0, x1, x2⟩, ⟨y0, y1, y2⟩⟩ := HC0.out _ hSw
        go_simp
        try with_reducible rfl
      (try simp only [Act.put, List.getElem_toArray, List.getElem_cons_zero, List.setIfInBounds_toArray, List.set_cons_zero, List.set_cons_succ])
      refine wpAnyH_take (i := 2) (v := ?_) rfl (by kernel_rfl) (by kernel_rfl) (by kernel_rfl) (fun _ _ _ h => h) (Or.inl ⟨by rfl, ?_⟩) (by assumption) ?_
      rotate_left
      · intro w' hSw
        obtain ⟨⟨x0, x1, x2⟩, ⟨y0, y1, y2⟩⟩ := HC0.out _ hSw
        go_simp
        try with_reducible rfl
      (try simp only [Act.put, List.getElem_toArray, List.getElem_cons_succ, List.getElem_cons_zero, List.setIfInBounds_toArray, List.set_cons_zero, List.set_cons_succ])
      clear hHeld
      obtain ⟨W_0, hW_0⟩ : ∃ W, w2.drew = W := ⟨_, rfl⟩
      rw [hW_0] at hs ⊢
      clear hW_0
      refine wpAnyH_ready (rs := [1, 8]) (by kernel_rfl) (by simp) ?_
      refine AllReadyH.cons rfl (fun K hK => ?_) ?_
      · go_simp
        go_wp2_with (go_at_call 16; (with_reducible refine (CA.out W_0 (HP0.out _ hs).1).mono ?_); rintro e W_1 ⟨Bc1, dc1, Bc1', dc1', Bc12, dc12, rfl, hp1, hst⟩)
        refine hK.out _ _ (bt hs hst) (fun hHeld => ?_)
        clear hK K
        (try simp only [List.setIfInBounds_toArray, List.set_cons_zero, List.set_cons_succ])
        have hsn := bt hs hst
        clear hs hHeld
        have hs := hsn
        clear hsn hst
        refine wpAnyH_ready (rs := [3, 8]) (by kernel_rfl) (by simp) ?_
        refine AllReadyH.cons rfl (fun K hK => ?_) ?_
        · go_simp
          go_wp2_with (go_at_call 16; (with_reducible refine (CB.out W_1 (HP0.out _ hs).2).mono ?_); rintro e W_2 ⟨Bc2, dc2, Bc2', dc2', Bc22, dc22, rfl, hp2, hst⟩)
          refine hK.out _ _ (bt hs hst) (fun hHeld => ?_)
          clear hK K
          (try simp only [List.setIfInBounds_toArray, List.set_cons_zero, List.set_cons_succ])
          replace hp1 := hp1.below hst
          have hsn := bt hs hst
          clear hs hHeld
          have hs := hsn
          clear hsn hst
          refine wpAnyH_ready (rs := [4, 8]) (by kernel_rfl) (by simp) ?_
          refine AllReadyH.cons rfl (fun K hK => ?_) ?_
          · go_simp
            go_wp2_with (go_at_call 38; (with_reducible refine (AG1.out _ _ _ _ _ _ _ _ _ _ _ _ W_2 hp1 hp2).mono ?_); rintro e W_3 ⟨Ba, na, da, Ba', ma, da', Ba2, qa, da2, rfl, hpo, hst⟩)
            refine hK.out _ _ (bt hs hst) (fun hHeld => ?_)
            clear hK K
            (try simp only [List.setIfInBounds_toArray, List.set_cons_zero, List.set_cons_succ])
            replace hp1 := hp1.below hst
            replace hp2 := hp2.below hst
            have hsn := bt hs hst
            clear hs hHeld hp1 hp2
            have hs := hsn
            clear hsn hst
            refine wpAnyH_take (i := 5) (v := ?_) rfl (by kernel_rfl) (by kernel_rfl) (by kernel_rfl) (fun _ _ _ h => h) (Or.inl ⟨by rfl, ?_⟩) (by assumption) ?_
            rotate_left
            · intro w' hSw
              go_simp
              try with_reducible rfl
            (try simp only [Act.put, List.getElem_toArray, List.getElem_cons_succ, List.getElem_cons_zero, List.setIfInBounds_toArray, List.set_cons_zero, List.set_cons_succ])
            refine wpAnyH_take (i := 6) (v := ?_) rfl (by kernel_rfl) (by kernel_rfl) (by kernel_rfl) (fun _ _ _ h => h) (Or.inl ⟨by rfl, ?_⟩) (by assumption) ?_
            rotate_left
            · intro w' hSw
              go_simp
              try with_reducible rfl
            (try simp only [Act.put, List.getElem_toArray, List.getElem_cons_succ, List.getElem_cons_zero, List.setIfInBounds_toArray, List.set_cons_zero, List.set_cons_succ])
            refine wpAnyH_take (i := 7) (v := ?_) rfl (by kernel_rfl) (by kernel_rfl) (by kernel_rfl) (fun _ _ _ h => h) (Or.inl ⟨by rfl, ?_⟩) (by assumption) ?_
            rotate_left
            · intro w' hSw
              go_simp
              try with_reducible rfl
            (try simp only [Act.put, List.getElem_toArray, List.getElem_cons_succ, List.getElem_cons_zero, List.setIfInBounds_toArray, List.set_cons_zero, List.set_cons_succ])
            refine wpAnyH_ready (rs := [8]) (by kernel_rfl) (by simp) ?_
            refine AllReadyH.cons rfl (fun K hK => ?_) ?_
            · go_simp
              refine hK.out _ _ (bt hs (ba _ _)) (fun hHeld => ?_)
              clear hK K
              (try simp only [List.setIfInBounds_toArray, List.set_cons_zero, List.set_cons_succ])
              have nb := heap_alloc_new W_3 zPcO
              have lo5 := hs.size
              have hsn := bt hs (ba W_3 zPcO)
              have hst := ba W_3 zPcO
              replace hpo := hpo.below hst
              obtain ⟨g5, hg5⟩ : ∃ g, W_3.heap.size = g := ⟨_, rfl⟩
              obtain ⟨W_4, hW⟩ : ∃ W, W_3.alloc zPcO = W := ⟨_, rfl⟩
              rw [hW] at nb hsn hpo ⊢
              rw [hg5] at nb lo5 ⊢
              have bk5 : Blk W_4 g5 28 #[.slice none 0 0, .slice none 0 0, .slice none 0 0] := nb
              clear nb hst hs hHeld
              have hs := hsn
              clear hsn hW hg5
              have c50 := bk5.cell 0
              have c51 := bk5.cell 1
              have c52 := bk5.cell 2
              have f50 := bk5.frozen 0
              have f51 := bk5.frozen 1
              have f52 := bk5.frozen 2
              simp at c50 c51 c52
              have HLF := Lib.hid (ap_leaf lo5 bk5 hpo hs)
              refine wpAnyH_ready (rs := [9]) (by kernel_rfl) (by simp) ?_
              refine AllReadyH.cons rfl (fun K hK => ?_) ?_
              · go_simp
                refine hK.out _ _ HLF.out.2.2.2 (fun hHeld => ?_)
                clear hK K
                (try simp only [List.setIfInBounds_toArray, List.set_cons_zero, List.set_cons_succ])
                refine wpAnyH_ready (rs := [10]) (by kernel_rfl) (by simp) ?_
                refine AllReadyH.cons rfl (fun K hK => ?_) ?_
                · go_simp
                  refine hK.out _ _ HLF.out.2.2.2 (fun hHeld => ?_)
                  clear hK K
                  (try simp only [List.setIfInBounds_toArray, List.set_cons_zero, List.set_cons_succ])
                  refine wpAnyH_done (by kernel_rfl) ?_ _
                  go_wp2_with (fail)
                  go_meet
                  exact ⟨g5, Ba, na, da, Ba', ma, da', Ba2, qa, da2, rfl, rfl, HLF.out⟩
                exact AllReadyH.nil
              exact AllReadyH.nil
            exact AllReadyH.nil
          refine AllReadyH.cons rfl (fun K hK => ?_) ?_
          · go_simp
            refine hK.out _ _ (bt hs (ba _ _)) (fun hHeld => ?_)
            clear hK K
            (try simp only [List.setIfInBounds_toArray, List.set_cons_zero, List.set_cons_succ])
            have nb := heap_alloc_new W_2 zPcO
            have lo5 := hs.size
            have hsn := bt hs (ba W_2 zPcO)
            have hst := ba W_2 zPcO
            replace hp1 := hp1.below hst
            replace hp2 := hp2.below hst
            obtain ⟨g5, hg5⟩ : ∃ g, W_2.heap.size = g := ⟨_, rfl⟩
            obtain ⟨W_3, hW⟩ : ∃ W, W_2.alloc zPcO = W := ⟨_, rfl⟩
            rw [hW] at nb hsn hp1 hp2 ⊢
            rw [hg5] at nb lo5 ⊢
            have bk5 : Blk W_3 g5 28 #[.slice none 0 0, .slice none 0 0, .slice none 0 0] := nb
            clear nb hst hs hHeld
            have hs := hsn
            clear hsn hW hg5
            refine wpAnyH_ready (rs := [4]) (by kernel_rfl) (by simp) ?_
            refine AllReadyH.cons rfl (fun K hK => ?_) ?_
            · go_simp
              go_wp2_with (go_at_call 38; (with_reducible refine (AG1.out _ _ _ _ _ _ _ _ _ _ _ _ W_3 hp1 hp2).mono ?_); rintro e W_4 ⟨Ba, na, da, Ba', ma, da', Ba2, qa, da2, rfl, hpo, hst⟩)
              refine hK.out _ _ (bt hs hst) (fun hHeld => ?_)
              clear hK K
              (try simp only [List.setIfInBounds_toArray, List.set_cons_zero, List.set_cons_succ])
              replace bk5 := Blk.below bk5 hst
              replace hp1 := hp1.below hst
              replace hp2 := hp2.below hst
              have hsn := bt hs hst
              clear hs hHeld hp1 hp2
              have hs := hsn
              clear hsn hst
              refine wpAnyH_take (i := 5) (v := ?_) rfl (by kernel_rfl) (by kernel_rfl) (by kernel_rfl) (fun _ _ _ h => h) (Or.inl ⟨by rfl, ?_⟩) (by assumption) ?_
              rotate_left
              · intro w' hSw
                go_simp
                try with_reducible rfl
              (try simp only [Act.put, List.getElem_toArray, List.getElem_cons_succ, List.getElem_cons_zero, List.setIfInBounds_toArray, List.set_cons_zero, List.set_cons_succ])
              refine wpAnyH_take (i := 6) (v := ?_) rfl (by kernel_rfl) (by kernel_rfl) (by kernel_rfl) (fun _ _ _ h => h) (Or.inl ⟨by rfl, ?_⟩) (by assumption) ?_
              rotate_left
              · intro w' hSw
                go_simp
                try with_reducible rfl
              (try simp only [Act.put, List.getElem_toArray, List.getElem_cons_succ, List.getElem_cons_zero, List.setIfInBounds_toArray, List.set_cons_zero, List.set_cons_succ])
              refine wpAnyH_take (i := 7) (v := ?_) rfl (by kernel_rfl) (by kernel_rfl) (by kernel_rfl) (fun _ _ _ h => h) (Or.inl ⟨by rfl, ?_⟩) (by assumption) ?_
              rotate_left
              · intro w' hSw
                go_simp
                try with_reducible rfl
              (try simp only [Act.put, List.getElem_toArray, List.getElem_cons_succ, List.getElem_cons_zero, List.setIfInBounds_toArray, List.set_cons_zero, List.set_cons_succ])
              have c50 := bk5.cell 0
              have c51 := bk5.cell 1
              have c52 := bk5.cell 2
              have f50 := bk5.frozen 0
              have f51 := bk5.frozen 1
              have f52 := bk5.frozen 2
              simp at c50 c51 c52
              have HLF := Lib.hid (ap_leaf lo5 bk5 hpo hs)
              refine wpAnyH_ready (rs := [9]) (by kernel_rfl) (by simp) ?_
              refine AllReadyH.cons rfl (fun K hK => ?_) ?_
              · go_simp
                refine hK.out _ _ HLF.out.2.2.2 (fun hHeld => ?_)
                clear hK K
                (try simp only [List.setIfInBounds_toArray, List.set_cons_zero, List.set_cons_succ])
                refine wpAnyH_ready (rs := [10]) (by kernel_rfl) (by simp) ?_
                refine AllReadyH.cons rfl (fun K hK => ?_) ?_
                · go_simp
                  refine hK.out _ _ HLF.out.2.2.2 (fun hHeld => ?_)
                  clear hK K
                  (try simp only [List.setIfInBounds_toArray, List.set_cons_zero, List.set_cons_succ])
                  refine wpAnyH_done (by kernel_rfl) ?_ _
                  go_wp2_with (fail)
                  go_meet
                  exact ⟨g5, Ba, na, da, Ba', ma, da', Ba2, qa, da2, rfl, rfl, HLF.out⟩
                exact AllReadyH.nil
              exact AllReadyH.nil
            exact AllReadyH.nil
          exact AllReadyH.nil
        refine AllReadyH.cons rfl (fun K hK => ?_) ?_
        · go_simp
          refine hK.out _ _ (bt hs (ba _ _)) (fun hHeld => ?_)
          clear hK K
          (try simp only [List.setIfInBounds_toArray, List.set_cons_zero, List.set_cons_succ])
          have nb := heap_alloc_new W_1 zPcO
          have lo5 := hs.size
          have hsn := bt hs (ba W_1 zPcO)
          have hst := ba W_1 zPcO
          replace hp1 := hp1.below hst
          obtain ⟨g5, hg5⟩ : ∃ g, W_1.heap.size = g := ⟨_, rfl⟩
          obtain ⟨W_2, hW⟩ : ∃ W, W_1.alloc zPcO = W := ⟨_, rfl⟩
          rw [hW] at nb hsn hp1 ⊢
          rw [hg5] at nb lo5 ⊢
          have bk5 : Blk W_2 g5 28 #[.slice none 0 0, .slice none 0 0, .slice none 0 0] := nb
          clear nb hst hs hHeld
          have hs := hsn
          clear hsn hW hg5
          refine wpAnyH_ready (rs := [3]) (by kernel_rfl) (by simp) ?_
          refine AllReadyH.cons rfl (fun K hK => ?_) ?_
          · go_simp
            go_wp2_with (go_at_call 16; (with_reducible refine (CB.out W_2 (HP0.out _ hs).2).mono ?_); rintro e W_3 ⟨Bc2, dc2, Bc2', dc2', Bc22, dc22, rfl, hp2, hst⟩)
            refine hK.out _ _ (bt hs hst) (fun hHeld => ?_)
            clear hK K
            (try simp only [List.setIfInBounds_toArray, List.set_cons_zero, List.set_cons_succ])
            replace bk5 := Blk.below bk5 hst
            replace hp1 := hp1.below hst
            have hsn := bt hs hst
            clear hs hHeld
            have hs := hsn
            clear hsn hst
            refine wpAnyH_ready (rs := [4]) (by kernel_rfl) (by simp) ?_
            refine AllReadyH.cons rfl (fun K hK => ?_) ?_
            · go_simp
              go_wp2_with (go_at_call 38; (with_reducible refine (AG1.out _ _ _ _ _ _ _ _ _ _ _ _ W_3 hp1 hp2).mono ?_); rintro e W_4 ⟨Ba, na, da, Ba', ma, da', Ba2, qa, da2, rfl, hpo, hst⟩)
              refine hK.out _ _ (bt hs hst) (fun hHeld => ?_)
              clear hK K
              (try simp only [List.setIfInBounds_toArray, List.set_cons_zero, List.set_cons_succ])
              replace bk5 := Blk.below bk5 hst
              replace hp1 := hp1.below hst
              replace hp2 := hp2.below hst
              have hsn := bt hs hst
              clear hs hHeld hp1 hp2
              have hs := hsn
              clear hsn hst
              refine wpAnyH_take (i := 5) (v := ?_) rfl (by kernel_rfl) (by kernel_rfl) (by kernel_rfl) (fun _ _ _ h => h) (Or.inl ⟨by rfl, ?_⟩) (by assumption) ?_
              rotate_left
              · intro w' hSw
                go_simp
                try with_reducible rfl
              (try simp only [Act.put, List.getElem_toArray, List.getElem_cons_succ, List.getElem_cons_zero, List.setIfInBounds_toArray, List.set_cons_zero, List.set_cons_succ])
              refine wpAnyH_take (i := 6) (v := ?_) rfl (by kernel_rfl) (by kernel_rfl) (by kernel_rfl) (fun _ _ _ h => h) (Or.inl ⟨by rfl, ?_⟩) (by assumption) ?_
              rotate_left
              · intro w' hSw
                go_simp
                try with_reducible rfl
              (try simp only [Act.put, List.getElem_toArray, List.getElem_cons_succ, List.getElem_cons_zero, List.setIfInBounds_toArray, List.set_cons_zero, List.set_cons_succ])
              refine wpAnyH_take (i := 7) (v := ?_) rfl (by kernel_rfl) (by kernel_rfl) (by kernel_rfl) (fun _ _ _ h => h) (Or.inl ⟨by rfl, ?_⟩) (by assumption) ?_
              rotate_left
              · intro w' hSw
                go_simp
                try with_reducible rfl
              (try simp only [Act.put, List.getElem_toArray, List.getElem_cons_succ, List.getElem_cons_zero, List.setIfInBounds_toArray, List.set_cons_zero, List.set_cons_succ])
              have c50 := bk5.cell 0
              have c51 := bk5.cell 1
              have c52 := bk5.cell 2
              have f50 := bk5.frozen 0
              have f51 := bk5.frozen 1
              have f52 := bk5.frozen 2
              simp at c50 c51 c52
              have HLF := Lib.hid (ap_leaf lo5 bk5 hpo hs)
              refine wpAnyH_ready (rs := [9]) (by kernel_rfl) (by simp) ?_
              refine AllReadyH.cons rfl (fun K hK => ?_) ?_
              · go_simp
                refine hK.out _ _ HLF.out.2.2.2 (fun hHeld => ?_)
                clear hK K
                (try simp only [List.setIfInBounds_toArray, List.set_cons_zero, List.set_cons_succ])
                refine wpAnyH_ready (rs := [10]) (by kernel_rfl) (by simp) ?_
                refine AllReadyH.cons rfl (fun K hK => ?_) ?_
                · go_simp
                  refine hK.out _ _ HLF.out.2.2.2 (fun hHeld => ?_)
                  clear hK K
                  (try simp only [List.setIfInBounds_toArray, List.set_cons_zero, List.set_cons_succ])
                  refine wpAnyH_done (by kernel_rfl) ?_ _
                  go_wp2_with (fail)
                  go_meet
                  exact ⟨g5, Ba, na, da, Ba', ma, da', Ba2, qa, da2, rfl, rfl, HLF.out⟩
                exact AllReadyH.nil
              exact AllReadyH.nil
            exact AllReadyH.nil
          exact AllReadyH.nil
        exact AllReadyH.nil
      refine AllReadyH.cons rfl (fun K hK => ?_) ?_
      · go_simp
        refine hK.out _ _ (bt hs (ba _ _)) (fun hHeld => ?_)
        clear hK K
        (try simp only [List.setIfInBounds_toArray, List.set_cons_zero, List.set_cons_succ])
        have nb := heap_alloc_new W_0 zPcO
        have lo5 := hs.size
        have hsn := bt hs (ba W_0 zPcO)
        have hst := ba W_0 zPcO
        obtain ⟨g5, hg5⟩ : ∃ g, W_0.heap.size = g := ⟨_, rfl⟩
        obtain ⟨W_1, hW⟩ : ∃ W, W_0.alloc zPcO = W := ⟨_, rfl⟩
        rw [hW] at nb hsn  ⊢
        rw [hg5] at nb lo5 ⊢
        have bk5 : Blk W_1 g5 28 #[.slice none 0 0, .slice none 0 0, .slice none 0 0] := nb
        clear nb hst hs hHeld
        have hs := hsn
        clear hsn hW hg5
        refine wpAnyH_ready (rs := [1]) (by kernel_rfl) (by simp) ?_
        refine AllReadyH.cons rfl (fun K hK => ?_) ?_
        · go_simp
          go_wp2_with (go_at_call 16; (with_reducible refine (CA.out W_1 (HP0.out _ hs).1).mono ?_); rintro e W_2 ⟨Bc1, dc1, Bc1', dc1', Bc12, dc12, rfl, hp1, hst⟩)
          refine hK.out _ _ (bt hs hst) (fun hHeld => ?_)
          clear hK K
          (try simp only [List.setIfInBounds_toArray, List.set_cons_zero, List.set_cons_succ])
          replace bk5 := Blk.below bk5 hst
          have hsn := bt hs hst
          clear hs hHeld
          have hs := hsn
          clear hsn hst
          refine wpAnyH_ready (rs := [3]) (by kernel_rfl) (by simp) ?_
          refine AllReadyH.cons rfl (fun K hK => ?_) ?_
          · go_simp
            go_wp2_with (go_at_call 16; (with_reducible refine (CB.out W_2 (HP0.out _ hs).2).mono ?_); rintro e W_3 ⟨Bc2, dc2, Bc2', dc2', Bc22, dc22, rfl, hp2, hst⟩)
            refine hK.out _ _ (bt hs hst) (fun hHeld => ?_)
            clear hK K
            (try simp only [List.setIfInBounds_toArray, List.set_cons_zero, List.set_cons_succ])
            replace bk5 := Blk.below bk5 hst
            replace hp1 := hp1.below hst
            have hsn := bt hs hst
            clear hs hHeld
            have hs := hsn
            clear hsn hst
            refine wpAnyH_ready (rs := [4]) (by kernel_rfl) (by simp) ?_
            refine AllReadyH.cons rfl (fun K hK => ?_) ?_
            · go_simp
              go_wp2_with (go_at_call 38; (with_reducible refine (AG1.out _ _ _ _ _ _ _ _ _ _ _ _ W_3 hp1 hp2).mono ?_); rintro e W_4 ⟨Ba, na, da, Ba', ma, da', Ba2, qa, da2, rfl, hpo, hst⟩)
              refine hK.out _ _ (bt hs hst) (fun hHeld => ?_)
              clear hK K
              (try simp only [List.setIfInBounds_toArray, List.set_cons_zero, List.set_cons_succ])
              replace bk5 := Blk.below bk5 hst
              replace hp1 := hp1.below hst
              replace hp2 := hp2.below hst
              have hsn := bt hs hst
              clear hs hHeld hp1 hp2
              have hs := hsn
              clear hsn hst
              refine wpAnyH_take (i := 5) (v := ?_) rfl (by kernel_rfl) (by kernel_rfl) (by kernel_rfl) (fun _ _ _ h => h) (Or.inl ⟨by rfl, ?_⟩) (by assumption) ?_
              rotate_left
              · intro w' hSw
                go_simp
                try with_reducible rfl
              (try simp only [Act.put, List.getElem_toArray, List.getElem_cons_succ, List.getElem_cons_zero, List.setIfInBounds_toArray, List.set_cons_zero, List.set_cons_succ])
              refine wpAnyH_take (i := 6) (v := ?_) rfl (by kernel_rfl) (by kernel_rfl) (by kernel_rfl) (fun _ _ _ h => h) (Or.inl ⟨by rfl, ?_⟩) (by assumption) ?_
              rotate_left
              · intro w' hSw
                go_simp
                try with_reducible rfl
              (try simp only [Act.put, List.getElem_toArray, List.getElem_cons_succ, List.getElem_cons_zero, List.setIfInBounds_toArray, List.set_cons_zero, List.set_cons_succ])
              refine wpAnyH_take (i := 7) (v := ?_) rfl (by kernel_rfl) (by kernel_rfl) (by kernel_rfl) (fun _ _ _ h => h) (Or.inl ⟨by rfl, ?_⟩) (by assumption) ?_
              rotate_left
              · intro w' hSw
                go_simp
                try with_reducible rfl
              (try simp only [Act.put, List.getElem_toArray, List.getElem_cons_succ, List.getElem_cons_zero, List.setIfInBounds_toArray, List.set_cons_zero, List.set_cons_succ])
              have c50 := bk5.cell 0
              have c51 := bk5.cell 1
              have c52 := bk5.cell 2
              have f50 := bk5.frozen 0
              have f51 := bk5.frozen 1
              have f52 := bk5.frozen 2
              simp at c50 c51 c52
              have HLF := Lib.hid (ap_leaf lo5 bk5 hpo hs)
              refine wpAnyH_ready (rs := [9]) (by kernel_rfl) (by simp) ?_
              refine AllReadyH.cons rfl (fun K hK => ?_) ?_
              · go_simp
                refine hK.out _ _ HLF.out.2.2.2 (fun hHeld => ?_)
                clear hK K
                (try simp only [List.setIfInBounds_toArray, List.set_cons_zero, List.set_cons_succ])
                refine wpAnyH_ready (rs := [10]) (by kernel_rfl) (by simp) ?_
                refine AllReadyH.cons rfl (fun K hK => ?_) ?_
                · go_simp
                  refine hK.out _ _ HLF.out.2.2.2 (fun hHeld => ?_)
                  clear hK K
                  (try simp only [List.setIfInBounds_toArray, List.set_cons_zero, List.set_cons_succ])
                  refine wpAnyH_done (by kernel_rfl) ?_ _
                  go_wp2_with (fail)
                  go_meet
                  exact ⟨g5, Ba, na, da, Ba', ma, da', Ba2, qa, da2, rfl, rfl, HLF.out⟩
                exact AllReadyH.nil
              exact AllReadyH.nil
            exact AllReadyH.nil
          exact AllReadyH.nil
        exact AllReadyH.nil
      exact AllReadyH.nil

    case rest =>
      obtain ⟨g5, Ba, na, da, Ba', ma, da', Ba2, qa, da2, rfl, rfl, HAR⟩ := hcut
      have HTW : Hid (Below ((w.alloc (pcO A n c A' m c' A2 q cq)).alloc (pcO B n2 d B' m2 d' B2 q2 dq)).heap.size ((w.alloc (pcO A n c A' m c' A2 q cq)).alloc (pcO B n2 d B' m2 d' B2 q2 dq)) wc) := bt HT0.out HAR.out.2.2.2
      have HPW : Hid (∀ w', Below wc.heap.size wc w' → (PcIn w' A n c A' m c' A2 q cq C S P ∧ PcIn w' B n2 d B' m2 d' B2 q2 dq D U Q) ∧ SgT w') := fun w' h => ⟨HE.out _ (bt HTW.out h), HG.out.below (bt HTW.out h)⟩
      have HC1 : Hid (∀ w', Below wc.heap.size wc w' → (w'.cell? ⟨w.heap.size, 0, none⟩ = some (.slice A n c) ∧ w'.cell? ⟨w.heap.size, 1, none⟩ = some (.slice A' m c') ∧ w'.cell? ⟨w.heap.size, 2, none⟩ = some (.slice A2 q cq)) ∧ (w'.cell? ⟨w.heap.size + 1, 0, none⟩ = some (.slice B n2 d) ∧ w'.cell? ⟨w.heap.size + 1, 1, none⟩ = some (.slice B' m2 d') ∧ w'.cell? ⟨w.heap.size + 1, 2, none⟩ = some (.slice B2 q2 dq))) := fun w' h => ⟨(HC.out _ (bt HTW.out h)).1, (HC.out _ (bt HTW.out h)).2.1⟩
      have HAP : Hid (Blk wc g5 28 #[.slice Ba na da, .slice Ba' ma da', .slice Ba2 qa da2] ∧ PcIn wc Ba na da Ba' ma da' Ba2 qa da2 C1 S1 P1 ∧ (na ≤ 65536 ∧ ma ≤ 65536 ∧ qa ≤ 65536) ∧ True) := ⟨HAR.out.1, HAR.out.2.1, by have h1 := HAR.out.2.2.1; have h2 := HLB.out; omega, trivial⟩
      have T := Below.refl wc.heap.size wc
      obtain ⟨⟨x0, x1, x2⟩, y0, y1, y2⟩ := HC1.out _ T
      obtain ⟨a0, a1, a2⟩ := ap_cells HAP.out.1
      have hg5 := Blk.lt HAP.out.1
      have hz := (HC.out _ HTW.out).2.2
      clear HAR HT0 HP0 HC0 CA CB AG1 BA BB HSP HSQ HLB HE HG HQ1 HQ2 E
      go_wp2_with (first
        | (go_at_call 39; (with_reducible refine (RG.out _ (HPW.out _ T).1.1 (HPW.out _ T).1.2).mono ?_); rintro e wb ⟨Bb, nb, db, Bb', mb, db', Bb2, qb, db2, rfl, hPb, hbb, hlb⟩; have hl2 := bt hlb (ba wb (pcO Bb nb db Bb' mb db' Bb2 qb db2)); replace T := bt T hl2; clear a0 a1 a2 hg5; have hBA := Blk.below HAP.out.1 T; have a0 := hBA.cell 0; have a1 := hBA.cell 1; have a2 := hBA.cell 2; simp at a0 a1 a2; have hg5 := hBA.lt; have HAB := Lib.hid (And.intro (HAP.out.2.1.below T) (And.intro HAP.out.2.2.1 (And.intro (hPb.below (ba wb (pcO Bb nb db Bb' mb db' Bb2 qb db2))) hbb))); clear hPb hbb hlb hl2 hBA; clear x0 x1 x2 y0 y1 y2; obtain ⟨⟨x0, x1, x2⟩, y0, y1, y2⟩ := HC1.out _ T)
        | (go_at_call 19; (with_reducible refine (same_true HAB.out.1 HAB.out.2.2.1 HAB.out.2.1 HAB.out.2.2.2 HST1.out).mono ?_); rintro e ws ⟨rfl, hbs⟩; replace T := bt T hbs; clear hbs a0 a1 a2; clear x0 x1 x2 y0 y1 y2; obtain ⟨⟨x0, x1, x2⟩, y0, y1, y2⟩ := HC1.out _ T)
        | (go_at_call 15; refine (works2 _ (HPW.out _ T).2).mono ?_; rintro e wz ⟨rfl, hbz⟩))
      go_ret
      exact ⟨rfl, bt HBB.out (bt HTW.out (bt T hbz))⟩

end Go.Proofs.YtjobablfojnppaaDoor

/- PieceAppends: for every input the law returns true, and its arguments read behind the call as they read before; the card ties the tables that it reads to the program's text. -/
namespace Go.Proofs.YtjobablfojnppaaDoor
open Go.ChangeShapes Go.WideShapes Go.ChangeAt Go.RowKit Go.Deep

set_option maxRecDepth 100000 in
theorem pappends_lifted (os : Os) (started : os.Started) (H : Type) (enc : TypeId × Value → H) :
    ReturnsInHanded {} Tryd.checked os 8 .any (fun w args => (Rows.pieceAppendsSpec.pre enc Tryd.prog Tryd.f8 Rows.pieceAppendsRow.domain false w args ∧ laidMetH Tryd.prog Rows.pieceAppendsRow.laid w) ∧ sizedMet enc Tryd.prog Tryd.f8 (OpenSpec.ofChange Rows.pieceAppendsSpec) false w args)
      (Rows.pieceAppendsSpec.post enc Tryd.prog Tryd.f8 false true false false) := by
  refine lift (C := Tryd.checked) own started Tryd.func8 (by kernel_rfl) (fun w h => by rwa [MakeChecks.laidMetH_plain _ _ _ (by kernel_rfl)] at h)
    (ChangeSpec.witness_shaped (enc := enc) (C := Tryd.checked) (os := os) (X := fun w _ => laidMetH Tryd.prog Rows.pieceAppendsRow.laid w) false (World.laidAll Tryd.prog os Rows.pieceAppendsRow.laid) #[.agg #[.slice none 0 0, .slice none 0 0, .slice none 0 0], .agg #[.slice none 0 0, .slice none 0 0, .slice none 0 0]] 8 (World.laidAll_os _ _ _)
      (World.shaped_of_ZipB (by kernel_rfl) (by kernel_rfl)) (by kernel_rfl) (by kernel_rfl) (by kernel_rfl)
      (by rw [MakeChecks.laidMetH_plain _ _ _ (by kernel_rfl)]; exact laidMet_laidAll _ (by kernel_rfl) (by kernel_rfl))) ?_
  intro W base args ds gs before hval0 hW hL hsh
  have hval : ∀ (j : Nat) t v, Tryd.f8.params[j]? = some t → args[j]? = some v → Value.okWide Tryd.prog W .any base t v := hval0
  have hW' := hW
  obtain ⟨p, q, hA0, hV, rfl, hfz, hnd⟩ := hW
  have hA : DataW.TrodAll enc Tryd.prog W 0 (fun _ => true) true Tryd.f8.params.toList args.toList ds p := hA0
  rw [Tryd.params8] at hA hval
  obtain ⟨v0, v1, d0, d1, p0, p1, rfl, rfl, rfl, h0, h1⟩ := trodAll_two hA
  obtain ⟨rfl, rfl⟩ := trodVars_none hV
  obtain ⟨A0, n0, c0, B0, m0, k0, D0, q0, e0, C0, S0, P0, rfl, hP0, _, _, _⟩ := open_piece (hval 0 28 v0 rfl rfl) h0
  obtain ⟨A1, n1, c1, B1, m1, k1, D1, q1, e1, C1, S1, P1, rfl, hP1, _, _, _⟩ := open_piece (hval 1 28 v1 rfl rfl) h1
  have E := sgt_of hL (by simp [Rows.pieceAppendsRow])
  refine (law_pappends A0 n0 c0 B0 m0 k0 D0 q0 e0 C0 S0 P0 A1 n1 c1 B1 m1 k1 D1 q1 e1 C1 S1 P1 W E hP0 hP1).mono fun e W' ⟨he, hb⟩ => ?_
  subst he
  exact ⟨_, rfl, post_law Tryd.laidOut rfl hW' ⟨rfl, rfl, rfl⟩ rfl Tryd.underlying4 (by rw [Tryd.params8]; intro t ht; simp at ht; subst ht; exact ⟨by kernel_rfl, of_decide_eq_true (by kernel_rfl)⟩) hb⟩

theorem pappends_holds : Rows.PieceAppendsSaid :=
  OpenClaim.holds_of_wide 8 Tryd.f8 rfl rfl rfl rfl rfl rfl rfl ⟨rfl, rfl, rfl, rfl, rfl⟩ rfl rfl rfl rfl rfl (by kernel_rfl) Tryd.func8 (by kernel_rfl)
    (of_decide_eq_true (by kernel_rfl)) (by unfold Func.isWrapper; rw [if_neg (of_decide_eq_false (by kernel_rfl))]; exact ⟨rfl, rfl⟩)
    (fun os started H enc _ => pappends_lifted os started H enc)

theorem pappends_card : Rows.PieceAppendsCardSaid :=
  Claim7.holds_tied_plain_at .later [] [.data] true Rows.pieceAppendsCard.stood.harness false
    pappends_holds (fun _ h => by cases h) (by kernel_rfl) (fun _ h => by cases h) pieceAppends_row_tie rfl ⟨rfl, rfl⟩ (by kernel_rfl) rfl
    (fun f fn hf hfn => by
      obtain rfl : f = 8 := Option.some.inj ((show Tryd.prog.funcNamed "theorbo/theorbolaw02.PieceAppends" = some 8 by kernel_rfl).symm.trans hf) |>.symm
      obtain rfl : fn = Tryd.f8 := (Option.some.inj (Tryd.func8.symm.trans hfn)).symm
      exact ⟨by kernel_rfl, fun j t ht => by
        rw [Tryd.params8] at ht
        have hm : t ∈ [28, 28] := by simpa using Array.mem_of_getElem? ht
        have hall : ([28, 28].all fun u => !Tryd.prog.wantsStandIn u) = true := by kernel_rfl
        exact (show Tryd.prog.wantsStandIn t = false by simpa using List.all_eq_true.1 hall t hm)⟩)
    (by kernel_rfl)
#print axioms pappends_card

end Go.Proofs.YtjobablfojnppaaDoor
