/- The law InstrumentSame returns true for any two instruments, in every world that holds the program's tables. -/
import Derived.Test.YtbjmlbmkfgocdaaDoorWorks
import Derived.Test.YtbjmlbmkfgocdaaDoorSameM
namespace Go.Proofs.YtbjmlbmkfgocdaaDoor
open Go.RowKit

set_option maxRecDepth 100000 in
set_option maxHeartbeats 16000000 in
theorem law_same (A A' : Option Addr) (n c m c' : Nat) (C : List Cr) (S : List Int) (B B' : Option Addr) (n2 d m2 d' : Nat) (D : List Cr) (U : List Int) (w : World) (E : Env w)
    (hC : Sl w w.heap.size 3 A n c (crC C)) (hS : Sl w w.heap.size 1 A' m c' (intC S)) (hn : n = C.length) (hm : m = S.length)
    (hD : Sl w w.heap.size 3 B n2 d (crC D)) (hU : Sl w w.heap.size 1 B' m2 d' (intC U)) (hn2 : n2 = D.length) (hm2 : m2 = U.length) :
    Calls Tryd.prog 13 #[.agg #[.slice A n c, .slice A' m c'], .agg #[.slice B n2 d, .slice B' m2 d']] w fun e w' => e = .returned (.bool true) ∧ Below w.heap.size w w' := by
  have HE : Hid (∀ w', Below ((w.alloc (iObj A n c A' m c')).alloc (iObj B n2 d B' m2 d')).heap.size ((w.alloc (iObj A n c A' m c')).alloc (iObj B n2 d B' m2 d')) w' →
      Env w' ∧ Sl w' w'.heap.size 3 A n c (crC C) ∧ Sl w' w'.heap.size 1 A' m c' (intC S) ∧ Sl w' w'.heap.size 3 B n2 d (crC D) ∧ Sl w' w'.heap.size 1 B' m2 d' (intC U) ∧ Below w.heap.size w w') :=
    fun w' h => ⟨((E.alloc _).alloc _).below h, ((hC.below (ba _ _)).below (ba _ _)).below h, ((hS.below (ba _ _)).below (ba _ _)).below h, ((hD.below (ba _ _)).below (ba _ _)).below h, ((hU.below (ba _ _)).below (ba _ _)).below h, bx (bt (ba _ _) h)⟩
  have HN := Lib.hid hn
  have HM := Lib.hid hm
  have HN2 := Lib.hid hn2
  have HM2 := Lib.hid hm2
  clear hC hS hn hm hD hU hn2 hm2 E
  cases hbg : bigB n m with
  | true =>
    have HB := Lib.hid hbg
    clear hbg
    go_enter Tryd.func13, Tryd.ntmps13
    go_wp2_with (first | (go_at_call 19; refine (big_any _ _ _ _ _ _ _).mono ?_; rintro e w1 ⟨rfl, hb1⟩; rw [HB.out]) | (go_at_call 18; refine (works_any _ (HE.out _ hb1).1).mono ?_; rintro e w2 ⟨rfl, hb2⟩))
    go_ret
    exact ⟨rfl, bt (HE.out _ hb1).2.2.2.2.2 hb2⟩
  | false =>
    have HB := Lib.hid hbg
    have hnm : n ≤ 64 ∧ m ≤ 64 := by simp [bigB] at hbg; omega
    obtain ⟨l1, l2⟩ := hnm
    have b1 : n ≤ 65536 := by omega
    have b2 : m ≤ 65536 := by omega
    clear hbg l1 l2
    cases hbg : bigB n2 m2 with
    | true =>
      have HB2 := Lib.hid hbg
      clear hbg
      go_enter Tryd.func13, Tryd.ntmps13
      go_wp2_with (fail)
      refine (big_any _ _ _ _ _ _ _).mono ?_
      rintro e w1 ⟨rfl, hb1⟩
      rw [HB.out]
      obtain ⟨q0, q1, q2, q3, hz, _⟩ := args2i hb1
      go_wp2_with (fail)
      refine (big_any _ _ _ _ _ _ _).mono ?_
      rintro e w2 ⟨rfl, hb2⟩
      rw [HB2.out]
      go_wp2_with (go_at_call 18; refine (works_any _ (HE.out _ (bt hb1 hb2)).1).mono ?_; rintro e w3 ⟨rfl, hb3⟩)
      go_ret
      exact ⟨rfl, bt (HE.out _ (bt hb1 hb2)).2.2.2.2.2 hb3⟩
    | false =>
      have HB2 := Lib.hid hbg
      have hnm : n2 ≤ 64 ∧ m2 ≤ 64 := by simp [bigB] at hbg; omega
      obtain ⟨l1, l2⟩ := hnm
      have b3 : n2 ≤ 65536 := by omega
      have b4 : m2 ≤ 65536 := by omega
      clear hbg l1 l2
      have HSR := Lib.hid (sameB_refl C S)
      go_enter Tryd.func13, Tryd.ntmps13
      go_wp2_with (fail)
      refine (big_any _ _ _ _ _ _ _).mono ?_
      rintro e v1 ⟨rfl, hv1⟩
      rw [HB.out]
      obtain ⟨q0, q1, q2, q3, hz, _⟩ := args2i hv1
      go_wp2_with (fail)
      refine (big_any _ _ _ _ _ _ _).mono ?_
      rintro e v2 ⟨rfl, hv2⟩
      rw [HB2.out]
      clear q0 q1 q2 q3 hz
      go_wp2_with (fail)
      have hT := (bt hv1 hv2).drew
      go_region_held3 (fun w' => w'.cell? ⟨w.heap.size, 0, none⟩ = some (.slice A n c) ∧ w'.cell? ⟨w.heap.size, 1, none⟩ = some (.slice A' m c') ∧ w'.cell? ⟨w.heap.size + 1, 0, none⟩ = some (.slice B n2 d) ∧ w'.cell? ⟨w.heap.size + 1, 1, none⟩ = some (.slice B' m2 d') ∧ w.heap.size + 1 < w'.heap.size ∧ Below ((w.alloc (iObj A n c A' m c')).alloc (iObj B n2 d B' m2 d')).heap.size ((w.alloc (iObj A n c A' m c')).alloc (iObj B n2 d B' m2 d')) w')
        (first
          | exact args2i (bt hT (bt hb1 (bt hb2 (bt hb3 (bt hb4 (bt hb5 (bt hb6 (bt hb7 hb8))))))))
          | exact args2i (bt hT (bt hb1 (bt hb2 (bt hb3 (bt hb4 (bt hb5 (bt hb6 hb7)))))))
          | exact args2i (bt hT (bt hb1 (bt hb2 (bt hb3 (bt hb4 (bt hb5 hb6))))))
          | exact args2i (bt hT (bt hb1 (bt hb2 (bt hb3 (bt hb4 hb5)))))
          | exact args2i (bt hT (bt hb1 (bt hb2 (bt hb3 hb4))))
          | exact args2i (bt hT (bt hb1 (bt hb2 hb3)))
          | exact args2i (bt hT (bt hb1 hb2))
          | exact args2i (bt hT hb1)
          | exact args2i hT)
        (first
          | (go_at_call 21; refine (rcopy_any A A' n c m c' C S _ (HE.out _ (bt hT (bt hb1 (bt hb2 (bt hb3 (bt hb4 hb5)))))).2.1 (HE.out _ (bt hT (bt hb1 (bt hb2 (bt hb3 (bt hb4 hb5)))))).2.2.1 b1 b2).mono ?_; rintro e w6 ⟨E6, e6, F6, f6, rfl, o61, o62, hb6⟩)
          | (go_at_call 21; refine (rcopy_any A A' n c m c' C S _ (HE.out _ (bt hT (bt hb1 (bt hb2 (bt hb3 hb4))))).2.1 (HE.out _ (bt hT (bt hb1 (bt hb2 (bt hb3 hb4))))).2.2.1 b1 b2).mono ?_; rintro e w5 ⟨E5, e5, F5, f5, rfl, o51, o52, hb5⟩)
          | (go_at_call 21; refine (rcopy_any B B' n2 d m2 d' D U _ (HE.out _ (bt hT hb1)).2.2.2.1 (HE.out _ (bt hT hb1)).2.2.2.2.1 b3 b4).mono ?_; rintro e w2 ⟨E2, e2, F2, f2, rfl, o21, o22, hb2⟩)
          | (go_at_call 21; refine (rcopy_any A A' n c m c' C S _ (HE.out _ hT).2.1 (HE.out _ hT).2.2.1 b1 b2).mono ?_; rintro e w1 ⟨E1, e1, F1, f1, rfl, o11, o12, hb1⟩)
          | (go_at_call 40; refine (same_any _ _ _ _ _ _ _ _ _ _ _ _ C S C S _ (o51.below hb6).sl (o52.below hb6).sl o61.sl o62.sl HN.out HM.out HN.out HM.out b1 b2 b1 b2).mono ?_; rintro e w7 ⟨rfl, hb7⟩; rw [HSR.out])
          | (go_at_call 40; refine (same_any _ _ _ _ _ _ _ _ _ _ _ _ C S D U _ (o11.below hb2).sl (o12.below hb2).sl o21.sl o22.sl HN.out HM.out HN2.out HM2.out b1 b2 b3 b4).mono ?_; rintro e w3 ⟨rfl, hb3⟩)
          | (go_at_call 39; refine (rsame_any _ _ _ _ _ _ _ _ _ _ _ _ C S D U _ (HE.out _ (bt hT (bt hb1 (bt hb2 hb3)))).2.1 (HE.out _ (bt hT (bt hb1 (bt hb2 hb3)))).2.2.1 (HE.out _ (bt hT (bt hb1 (bt hb2 hb3)))).2.2.2.1 (HE.out _ (bt hT (bt hb1 (bt hb2 hb3)))).2.2.2.2.1 HN.out HM.out HN2.out HM2.out b1 b2 b3 b4).mono ?_; rintro e w4 ⟨rfl, hb4⟩)
          | (go_at_call 18; refine (works_any _ (HE.out _ (bt hT (bt hb1 (bt hb2 (bt hb3 (bt hb4 (bt hb5 (bt hb6 hb7)))))))).1).mono ?_; rintro e w8 ⟨rfl, hb8⟩))
      go_wp2_with (fail)
      go_ret
      exact ⟨rfl, (HE.out _ (bt hT (bt hb1 (bt hb2 (bt hb3 (bt hb4 (bt hb5 (bt hb6 (bt hb7 hb8))))))))).2.2.2.2.2⟩

end Go.Proofs.YtbjmlbmkfgocdaaDoor
