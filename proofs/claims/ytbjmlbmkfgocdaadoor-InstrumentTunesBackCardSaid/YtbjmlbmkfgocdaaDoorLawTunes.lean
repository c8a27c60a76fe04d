/- The law InstrumentTunes returns true for every instrument, course and number, in every world that holds the program's tables. -/
import Derived.Test.YtbjmlbmkfgocdaaDoorWorks
import Derived.Test.YtbjmlbmkfgocdaaDoorSameM
import Derived.Test.YtbjmlbmkfgocdaaDoorRefTrans
import Derived.Test.YtbjmlbmkfgocdaaDoorSamePl
namespace Go.Proofs.YtbjmlbmkfgocdaaDoor
open Go.RowKit

/-- A block of two cells, in whatever world lies above it. -/
theorem keep2 {w W : World} {u v : Value} {t : TypeId} (h : Below (w.alloc (.cells #[u, v] t)).heap.size (w.alloc (.cells #[u, v] t)) W) :
    W.cell? ⟨w.heap.size, 0, none⟩ = some u ∧ W.cell? ⟨w.heap.size, 1, none⟩ = some v ∧ w.heap.size < W.heap.size := by
  obtain ⟨c0, _⟩ := keepb h 0
  obtain ⟨c1, _⟩ := keepb h 1
  have hz := h.size
  simp at c0 c1 hz
  exact ⟨c0, c1, by omega⟩
theorem okL_len {α : Type} (e : Int) (L : List α) (N : Nat) (h : L.length ≤ N) : (okL e L).length ≤ N := by
  unfold okL
  split
  · exact h
  · simp

set_option maxRecDepth 100000 in
set_option maxHeartbeats 16000000 in
theorem law_tunes (A A' : Option Addr) (n c m c' : Nat) (C : List Cr) (S : List Int) (k d : Int) (w : World) (E : Env w) (hC : Sl w w.heap.size 3 A n c (crC C)) (hS : Sl w w.heap.size 1 A' m c' (intC S)) (hn : n = C.length) (hm : m = S.length) :
    Calls Tryd.prog 8 #[.agg #[.slice A n c, .slice A' m c'], .int .i64 k, .int .i64 d] w fun e w' => e = .returned (.bool true) ∧ Below w.heap.size w w' := by
  have HE : Hid (∀ w', Below (w.alloc (iObj A n c A' m c')).heap.size (w.alloc (iObj A n c A' m c')) w' → Env w' ∧ Sl w' w'.heap.size 3 A n c (crC C) ∧ Sl w' w'.heap.size 1 A' m c' (intC S) ∧ Below w.heap.size w w') :=
    fun w' h => ⟨(E.alloc _).below h, (hC.below (ba _ _)).below h, (hS.below (ba _ _)).below h, bx h⟩
  have HN := Lib.hid hn
  have HM := Lib.hid hm
  clear hC hS hn hm E
  cases hbg : bigB n m with
  | true =>
    have HB := Lib.hid hbg
    clear hbg
    go_enter Tryd.func8, Tryd.ntmps8
    go_wp2_with (first | (go_at_call 19; refine (big_any _ _ _ _ _ _ _).mono ?_; rintro e w1 ⟨rfl, hb1⟩; rw [HB.out]) | (go_at_call 18; refine (works_any _ (HE.out _ hb1).1).mono ?_; rintro e w2 ⟨rfl, hb2⟩))
    go_ret
    exact ⟨rfl, bt (HE.out _ hb1).2.2.2 hb2⟩
  | false =>
    have HB := Lib.hid hbg
    have hnm : n ≤ 64 ∧ m ≤ 64 := by simp [bigB] at hbg; omega
    obtain ⟨l1, l2⟩ := hnm
    have b1 : n ≤ 65536 := by omega
    have b2 : m ≤ 65536 := by omega
    have hD1 : (okL (tuE C S k d) (tun C (k.toNat - 1) k.toNat d)).length ≤ 65536 := okL_len _ _ _ (by rw [tun_len]; have := HN.out; omega)
    have hU1 : (okL (tuE C S k d) S).length ≤ 65536 := okL_len _ _ _ (by have := HM.out; omega)
    have hD2 : (okL (trE C S d) (tun C 0 C.length d)).length ≤ 65536 := okL_len _ _ _ (by rw [tun_len]; have := HN.out; omega)
    have hU2 : (okL (trE C S d) S).length ≤ 65536 := okL_len _ _ _ (by have := HM.out; omega)
    have HLL := Lib.hid (And.intro hD1 (And.intro hU1 (And.intro hD2 hU2)))
    have HTU : Hid (∀ (A1 A2 : Option Addr) (c1 c2 : Nat) (w' : World), Sl w' w'.heap.size 3 A1 n c1 (crC C) → Sl w' w'.heap.size 1 A2 m c2 (intC S) →
        Calls Tryd.prog 35 #[.agg #[.slice A1 n c1, .slice A2 m c2], .int .i64 k, .int .i64 d] w' (InP (okL (tuE C S k d) (tun C (k.toNat - 1) k.toNat d)) (okL (tuE C S k d) S) (tuE C S k d) w') ∧
        Calls Tryd.prog 36 #[.agg #[.slice A1 n c1, .slice A2 m c2], .int .i64 k, .int .i64 d] w' (InP (okL (tuE C S k d) (tun C (k.toNat - 1) k.toNat d)) (okL (tuE C S k d) S) (tuE C S k d) w') ∧
        Calls Tryd.prog 37 #[.agg #[.slice A1 n c1, .slice A2 m c2], .int .i64 d] w' (InP (okL (trE C S d) (tun C 0 C.length d)) (okL (trE C S d) S) (trE C S d) w') ∧
        Calls Tryd.prog 38 #[.agg #[.slice A1 n c1, .slice A2 m c2], .int .i64 d] w' (InP (okL (trE C S d) (tun C 0 C.length d)) (okL (trE C S d) S) (trE C S d) w')) :=
      fun A1 A2 c1 c2 w' h1 h2 => ⟨tune_any _ _ _ _ _ _ C S k d w' h1 h2 HN.out HM.out b1 b2, rtune_any _ _ _ _ _ _ C S k d w' h1 h2 HN.out HM.out b1 b2, transpose_any _ _ _ _ _ _ C S d w' h1 h2 HN.out HM.out b1 b2, rtranspose_any _ _ _ _ _ _ C S d w' h1 h2 HN.out HM.out b1 b2⟩
    have HSR := Lib.hid (sameB_refl C S)
    clear hbg l1 l2 hD1 hU1 hD2 hU2
    generalize okL (tuE C S k d) (tun C (k.toNat - 1) k.toNat d) = D1 at *
    generalize okL (tuE C S k d) S = U1 at *
    generalize tuE C S k d = e1 at *
    generalize okL (trE C S d) (tun C 0 C.length d) = D2 at *
    generalize okL (trE C S d) S = U2 at *
    generalize trE C S d = e2 at *
    go_enter Tryd.func8, Tryd.ntmps8
    go_wp2_with (fail)
    refine (big_any _ _ _ _ _ _ _).mono ?_
    rintro e v1 ⟨rfl, hv1⟩
    rw [HB.out]
    obtain ⟨q0, q1, hz, _⟩ := args1 hv1
    go_wp2_with (fail)
    refine (rcopy_any A A' n c m c' C S _ (HE.out _ hv1).2.1 (HE.out _ hv1).2.2.1 b1 b2).mono ?_
    rintro e w1 ⟨G1, g1, G2, g2, rfl, o1, o2, hb1⟩
    have HO1 := Lib.hid (And.intro o1.sl o2.sl)
    have T1 := bt hv1 hb1
    clear o1 o2 q0 q1 hz
    go_wp2_with (fail)
    refine (HTU.out G1 G2 g1 g2 _ (HO1.out.1.below (ba _ _)) (HO1.out.2.below (ba _ _))).1.mono ?_
    rintro e w2 ⟨B1, n1, d1, B2, m1, d2, rfl, hn1, hm1, s1, s2, _, _, hb2⟩
    have HS1 := Lib.hid (And.intro hn1 (And.intro hm1 (And.intro s1 s2)))
    have T2 := bt T1 (bx hb2)
    have K2 := hb2
    obtain ⟨q0, q1, hz, _⟩ := args1 T2
    clear s1 s2 hn1 hm1
    go_wp2_with (fail)
    have R3 := bt T2 (ba w2 (.cells #[.slice B1 n1 d1, .slice B2 m1 d2] 36))
    refine (HTU.out A A' c c' _ (HE.out _ R3).2.1 (HE.out _ R3).2.2.1).2.1.mono ?_
    rintro e w3 ⟨B3, n3, d3, B4, m3, d4, rfl, hn3, hm3, s1, s2, _, _, hb3⟩
    have HS3 := Lib.hid (And.intro hn3 (And.intro hm3 (And.intro s1 s2)))
    have T3 := bt T2 (bx hb3)
    have K3 := bt K2 (bx hb3)
    have L3 := hb3
    obtain ⟨p0, p1, pz⟩ := keep2 K3
    clear s1 s2 hn3 hm3 q0 q1 hz R3
    go_wp2_with (fail)
    refine (HTU.out G1 G2 g1 g2 _ (((HO1.out.1.below (ba _ _)).below K3).below (ba _ _)) (((HO1.out.2.below (ba _ _)).below K3).below (ba _ _))).2.2.1.mono ?_
    rintro e w4 ⟨B5, n5, d5, B6, m5, d6, rfl, hn5, hm5, s1, s2, _, _, hb4⟩
    have HS5 := Lib.hid (And.intro hn5 (And.intro hm5 (And.intro s1 s2)))
    have T4 := bt T3 (bx hb4)
    have K4 := bt K3 (bx hb4)
    have L4 := bt L3 (bx hb4)
    have M4 := hb4
    obtain ⟨q0, q1, hz, _⟩ := args1 T4
    clear s1 s2 hn5 hm5 p0 p1 pz
    go_wp2_with (fail)
    have R5 := bt T4 (ba w4 (.cells #[.slice B5 n5 d5, .slice B6 m5 d6] 36))
    refine (HTU.out A A' c c' _ (HE.out _ R5).2.1 (HE.out _ R5).2.2.1).2.2.2.mono ?_
    rintro e w5 ⟨B7, n7, d7, B8, m7, d8, rfl, hn7, hm7, s1, s2, _, _, hb5⟩
    have HS7 := Lib.hid (And.intro hn7 (And.intro hm7 (And.intro s1 s2)))
    have T5 := bt T4 (bx hb5)
    have K5 := bt K4 (bx hb5)
    have L5 := bt L4 (bx hb5)
    have M5 := bt M4 (bx hb5)
    have N5 := hb5
    obtain ⟨a0, a1, az⟩ := keep2 L5
    obtain ⟨a2, a3, az2⟩ := keep2 M5
    clear s1 s2 hn7 hm7 q0 q1 hz R5
    have HSRD1 := Lib.hid (sameB_refl D1 U1)
    have HSRD2 := Lib.hid (sameB_refl D2 U2)
    go_wp2_with (fail)
    have y1 := bt (bx L5) (ba w5 (.cells #[.slice B7 n7 d7, .slice B8 m7 d8] 36))
    have y3 := bt (bx M5) (ba w5 (.cells #[.slice B7 n7 d7, .slice B8 m7 d8] 36))
    refine (rsame_any _ _ _ _ _ _ _ _ _ _ _ _ D1 U1 D1 U1 _ (HS1.out.2.2.1.below y1) (HS1.out.2.2.2.below y1) (HS3.out.2.2.1.below y3) (HS3.out.2.2.2.below y3) HS1.out.1 HS1.out.2.1 HS3.out.1 HS3.out.2.1 (by rw [HS1.out.1]; exact HLL.out.1) (by rw [HS1.out.2.1]; exact HLL.out.2.1) (by rw [HS3.out.1]; exact HLL.out.1) (by rw [HS3.out.2.1]; exact HLL.out.2.1)).mono ?_
    rintro e w6 ⟨rfl, hb6⟩
    rw [HSRD1.out]
    have T6 := bt T5 (bx hb6)
    have K6 := bt K5 (bx hb6)
    have N6 := bt N5 (bx hb6)
    clear a0 a1 az a2 a3 az2 y1 y3
    obtain ⟨a0, a1, az⟩ := keep2 N6
    obtain ⟨a2, a3, az2⟩ := keep2 hb6
    go_wp2_with (fail)
    have y5 := bx N6
    have y7 := bx hb6
    refine (rsame_any _ _ _ _ _ _ _ _ _ _ _ _ D2 U2 D2 U2 _ (HS5.out.2.2.1.below y5) (HS5.out.2.2.2.below y5) (HS7.out.2.2.1.below y7) (HS7.out.2.2.2.below y7) HS5.out.1 HS5.out.2.1 HS7.out.1 HS7.out.2.1 (by rw [HS5.out.1]; exact HLL.out.2.2.1) (by rw [HS5.out.2.1]; exact HLL.out.2.2.2) (by rw [HS7.out.1]; exact HLL.out.2.2.1) (by rw [HS7.out.2.1]; exact HLL.out.2.2.2)).mono ?_
    rintro e w7 ⟨rfl, hb7⟩
    rw [HSRD2.out]
    have T7 := bt T6 hb7
    have K7 := bt K6 hb7
    clear a0 a1 az a2 a3 az2 y5 y7
    obtain ⟨a0, a1, az⟩ := keep2 K7
    obtain ⟨q0, q1, hz, _⟩ := args1 T7
    go_wp2_with (fail)
    have y1 := bx K7
    refine (rsame_any _ _ _ _ _ _ _ _ _ _ _ _ C S C S _ (HO1.out.1.below y1) (HO1.out.2.below y1) (HE.out _ T7).2.1 (HE.out _ T7).2.2.1 HN.out HM.out HN.out HM.out b1 b2 b1 b2).mono ?_
    rintro e w8 ⟨rfl, hb8⟩
    rw [HSR.out]
    go_wp2_with (go_at_call 18; refine (works_any _ (HE.out _ (bt T7 hb8)).1).mono ?_; rintro e w9 ⟨rfl, hb9⟩)
    go_ret
    exact ⟨rfl, (HE.out _ (bt T7 (bt hb8 hb9))).2.2.2⟩

end Go.Proofs.YtbjmlbmkfgocdaaDoor
