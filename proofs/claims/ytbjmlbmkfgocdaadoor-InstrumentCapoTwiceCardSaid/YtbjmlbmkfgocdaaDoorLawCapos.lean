/- The law InstrumentCapos returns true for every instrument and fret, in every world that holds the program's tables. -/
import Derived.Test.YtbjmlbmkfgocdaaDoorWorks
import Derived.Test.YtbjmlbmkfgocdaaDoorSameM
import Derived.Test.YtbjmlbmkfgocdaaDoorCapo
import Derived.Test.YtbjmlbmkfgocdaaDoorRefCapo
import Derived.Test.YtbjmlbmkfgocdaaDoorSamePl
namespace Go.Proofs.YtbjmlbmkfgocdaaDoor
open Go.RowKit

theorem okL_le {α : Type} (e : Int) (L : List α) (N : Nat) (h : L.length ≤ N) : (okL e L).length ≤ N := by
  unfold okL
  split
  · exact h
  · simp
theorem capC_len (C : List Cr) (S : List Int) (k : Int) : (capC C S k).length = C.length := by simp [capC]
theorem capS_len (S : List Int) (k : Int) : (capS S k).length ≤ S.length := by simp [capS]

set_option maxRecDepth 100000 in
set_option maxHeartbeats 16000000 in
theorem law_capos (A A' : Option Addr) (n c m c' : Nat) (C : List Cr) (S : List Int) (k : Int) (w : World) (E : Env w) (hC : Sl w w.heap.size 3 A n c (crC C)) (hS : Sl w w.heap.size 1 A' m c' (intC S)) (hn : n = C.length) (hm : m = S.length) :
    Calls Tryd.prog 10 #[.agg #[.slice A n c, .slice A' m c'], .int .i64 k] w fun e w' => e = .returned (.bool true) ∧ Below w.heap.size w w' := by
  have HE : Hid (∀ w', Below (w.alloc (iObj A n c A' m c')).heap.size (w.alloc (iObj A n c A' m c')) w' → Env w' ∧ Sl w' w'.heap.size 3 A n c (crC C) ∧ Sl w' w'.heap.size 1 A' m c' (intC S) ∧ Below w.heap.size w w') :=
    fun w' h => ⟨(E.alloc _).below h, (hC.below (ba _ _)).below h, (hS.below (ba _ _)).below h, bx h⟩
  have HN := Lib.hid hn
  have HM := Lib.hid hm
  clear hC hS hn hm E
  cases hbg : bigB n m with
  | true =>
    have HB := Lib.hid hbg
    clear hbg
    go_enter Tryd.func10, Tryd.ntmps10
    go_wp2_with (first | (go_at_call 19; refine (big_any _ _ _ _ _ _ _).mono ?_; rintro e w1 ⟨rfl, hb1⟩; rw [HB.out]) | (go_at_call 18; refine (works_any _ (HE.out _ hb1).1).mono ?_; rintro e w2 ⟨rfl, hb2⟩))
    go_ret
    exact ⟨rfl, bt (HE.out _ hb1).2.2.2 hb2⟩
  | false =>
    have HB := Lib.hid hbg
    have hnm : n ≤ 64 ∧ m ≤ 64 := by simp [bigB] at hbg; omega
    obtain ⟨l1, l2⟩ := hnm
    have b1 : n ≤ 65536 := by omega
    have b2 : m ≤ 65536 := by omega
    have hD1 : (okL (capE C S k) (capC C S k)).length ≤ 65536 := okL_le _ _ _ (by rw [capC_len]; have := HN.out; omega)
    have hU1 : (okL (capE C S k) (capS S k)).length ≤ 65536 := okL_le _ _ _ (by have := HM.out; have := capS_len S k; omega)
    have HLL := Lib.hid (And.intro hD1 hU1)
    have HTU : Hid (∀ (A1 A2 : Option Addr) (c1 c2 : Nat) (w' : World), Sl w' w'.heap.size 3 A1 n c1 (crC C) → Sl w' w'.heap.size 1 A2 m c2 (intC S) →
        Calls Tryd.prog 41 #[.agg #[.slice A1 n c1, .slice A2 m c2], .int .i64 k] w' (InP (okL (capE C S k) (capC C S k)) (okL (capE C S k) (capS S k)) (capE C S k) w') ∧
        Calls Tryd.prog 42 #[.agg #[.slice A1 n c1, .slice A2 m c2], .int .i64 k] w' (InP (okL (capE C S k) (capC C S k)) (okL (capE C S k) (capS S k)) (capE C S k) w')) :=
      fun A1 A2 c1 c2 w' h1 h2 => ⟨capo_any _ _ _ _ _ _ C S k w' h1 h2 HN.out HM.out b1 b2, rcapo_any _ _ _ _ _ _ C S k w' h1 h2 HN.out HM.out b1 b2⟩
    clear hbg l1 l2 hD1 hU1
    generalize okL (capE C S k) (capC C S k) = D1 at *
    generalize okL (capE C S k) (capS S k) = U1 at *
    generalize capE C S k = e1 at *
    have HSRD1 := Lib.hid (sameB_refl D1 U1)
    go_enter Tryd.func10, Tryd.ntmps10
    go_wp2_with (fail)
    refine (big_any _ _ _ _ _ _ _).mono ?_
    rintro e v1 ⟨rfl, hv1⟩
    rw [HB.out]
    obtain ⟨q0, q1, hz, _⟩ := args1 hv1
    go_wp2_with (fail)
    refine (rcopy_any A A' n c m c' C S _ (HE.out _ hv1).2.1 (HE.out _ hv1).2.2.1 b1 b2).mono ?_
    rintro e w1 ⟨G1, g1, G2, g2, rfl, o1, o2, hb1⟩
    have HO1 := Lib.hid (And.intro o1.sl o2.sl)
    have T1 := bt hv1 hb1
    clear o1 o2 q0 q1 hz
    go_wp2_with (fail)
    refine (HTU.out G1 G2 g1 g2 _ HO1.out.1 HO1.out.2).1.mono ?_
    rintro e w2 ⟨B1, n1, d1, B2, m1, d2, rfl, hn1, hm1, s1, s2, _, _, hb2⟩
    have HS1 := Lib.hid (And.intro hn1 (And.intro hm1 (And.intro s1 s2)))
    have T2 := bt T1 hb2
    obtain ⟨q0, q1, hz, _⟩ := args1 T2
    clear s1 s2 hn1 hm1
    go_wp2_with (fail)
    have R3 := bt T2 (ba w2 (.cells #[.slice B1 n1 d1, .slice B2 m1 d2] 36))
    refine (HTU.out A A' c c' _ (HE.out _ R3).2.1 (HE.out _ R3).2.2.1).2.mono ?_
    rintro e w3 ⟨B3, n3, d3, B4, m3, d4, rfl, hn3, hm3, s1, s2, _, _, hb3⟩
    have HS3 := Lib.hid (And.intro hn3 (And.intro hm3 (And.intro s1 s2)))
    have T3 := bt T2 (bx hb3)
    obtain ⟨a0, a1, _, _, az⟩ := keepZ hb3
    clear s1 s2 hn3 hm3 q0 q1 hz R3
    go_wp2_with (fail)
    have y1 := bt (bx hb3) (ba w3 (.cells #[.slice B3 n3 d3, .slice B4 m3 d4] 36))
    have y3 := ba w3 (.cells #[.slice B3 n3 d3, .slice B4 m3 d4] 36)
    refine (rsame_any _ _ _ _ _ _ _ _ _ _ _ _ D1 U1 D1 U1 _ (HS1.out.2.2.1.below y1) (HS1.out.2.2.2.below y1) (HS3.out.2.2.1.below y3) (HS3.out.2.2.2.below y3) HS1.out.1 HS1.out.2.1 HS3.out.1 HS3.out.2.1 (by rw [HS1.out.1]; exact HLL.out.1) (by rw [HS1.out.2.1]; exact HLL.out.2) (by rw [HS3.out.1]; exact HLL.out.1) (by rw [HS3.out.2.1]; exact HLL.out.2)).mono ?_
    rintro e w6 ⟨rfl, hb6⟩
    rw [HSRD1.out]
    have T6 := bt T3 (bx hb6)
    go_wp2_with (go_at_call 18; refine (works_any _ (HE.out _ T6).1).mono ?_; rintro e w9 ⟨rfl, hb9⟩)
    go_ret
    exact ⟨rfl, (HE.out _ (bt T6 hb9)).2.2.2⟩

end Go.Proofs.YtbjmlbmkfgocdaaDoor
