/- The law SoundTones returns true for every piece. -/
import Derived.Test.YtpcehgifpajmbaaGreatTn3
import Derived.Test.YtpcehgifpajmbaaGreatWorks5
import Derived.Test.YtpcehgifpajmbaaGreatSameI2
import Derived.Test.YtpcehgifpajmbaaGreatPcCopy
namespace Go.Proofs.YtpcehgifpajmbaaGreat
open Go Go.RowKit

set_option maxHeartbeats 1600000 in
theorem sameTones_eq (A B : Option Addr) (n c d : Nat) (L : List (Int × Int × Int)) (w : World) (hA : Sl w w.heap.size 3 A n c (tnC L)) (hB : Sl w w.heap.size 3 B n d (tnC L)) (hn : n = L.length) (hb : n ≤ 9223372036854775807) :
    Calls Tryz.prog 9 #[.slice A n c, .slice B n d] w fun e w' => e = .returned (.bool true) ∧ Below w.heap.size w w' := by
  have HN := Lib.hid hn
  clear hn
  go_enter Tryz.func9, Tryz.ntmps9
  go_wp2_with (fail)
  go_loopw [5] (fun i wr => ∃ k : Nat, k ≤ n ∧ i = .int .i64 k ∧ Below w.heap.size w wr) (fun i _ => n - (intOf i).toNat)
  case atStart => exact ⟨0, by omega, rfl, Below.refl _ _⟩
  case round =>
    obtain ⟨k, hk, rfl, hbw⟩ := hrel
    have HB := Lib.hid hbw
    by_cases hlt : k < n
    · have hkn : (k : Int) < (n : Int) := by omega
      obtain ⟨b1, o1, hA1, hB1, hc1⟩ := (hA.below hbw).2.2 (by omega)
      obtain ⟨b2, o2, hA2, hB2, hc2⟩ := (hB.below hbw).2.2 (by omega)
      subst hA1 hA2
      obtain ⟨j0, j1, j2⟩ := tnC_at L k (by have := HN.out; omega)
      have a0 := hc1 _ _ j0
      have a1 := hc1 _ _ j1
      have a2 := hc1 _ _ j2
      have b0 := hc2 _ _ j0
      have b1' := hc2 _ _ j1
      have b2' := hc2 _ _ j2
      rw [← Nat.add_assoc] at a1 a2 b1' b2'
      clear hc1 hc2 j0 j1 j2 hA hB hbw
      generalize L.getD k (0, 0, 0) = x at *
      obtain ⟨xp, xf, xt⟩ := x
      dsimp only at a0 a1 a2 b0 b1' b2'
      go_wp2_with (fail)
      go_quiet (fail)
      go_wp2_with (fail)
      go_roundw
      case rel => exact ⟨k + 1, by omega, by first | rfl | go_num, bd HB.out _⟩
      case measure => simp [intOf]; omega
    · have hkn : ¬ ((k : Int) < (n : Int)) := by omega
      go_wp2_with (fail)
      go_ret
      exact ⟨rfl, HB.out⟩

set_option maxRecDepth 100000 in
set_option maxHeartbeats 16000000 in
theorem law_stones (A : Option Addr) (n c : Nat) (A' : Option Addr) (m c' : Nat) (A2 : Option Addr) (q cq : Nat) (C : List Cr) (S : List Int) (P : List EvP) (w : World) (hP : PcIn w A n c A' m c' A2 q cq C S P) :
    Calls Tryz.prog 3 #[pcV A n c A' m c' A2 q cq] w fun e w' => e = .returned (.bool true) ∧ Below w.heap.size w w' := by
  have HE : Hid (∀ w', Below (w.alloc (pcO A n c A' m c' A2 q cq)).heap.size (w.alloc (pcO A n c A' m c' A2 q cq)) w' → PcIn w' A n c A' m c' A2 q cq C S P) :=
    fun w' h => (hP.below (ba _ _)).below h
  have hql := hP.es.hq
  have HI := Lib.hid (HE.out _ (Below.refl _ _))
  clear hP
  cases hbg : plongB n m P with
  | true =>
    have HB := Lib.hid hbg
    clear hbg hql
    go_enter Tryz.func3, Tryz.ntmps3
    go_wp2_with (first | (go_at_call 4; refine (plong_any A n c A' m c' A2 q cq P _ HI.out.es).mono ?_; rintro e w1 ⟨rfl, hb1⟩; rw [HB.out]) | (go_at_call 5; refine (works5 _).mono ?_; rintro e w2 ⟨rfl, hb2⟩))
    go_ret
    exact ⟨rfl, bx (bt hb1 hb2)⟩
  | false =>
    have HB := Lib.hid hbg
    obtain ⟨l1, l2, l3, l4⟩ := pbigB_no (plongB_no hbg).1
    have b1 : n ≤ 65536 := by omega
    have b2 : m ≤ 65536 := by omega
    have b3 : q ≤ 65536 := by omega
    have HST : Hid (∀ y ∈ P, y.L.length ≤ 65536) := fun y hy => Nat.le_trans (l4 y hy) (by omega)
    have HSU : Hid (∀ y ∈ P, y.L.length ≤ 1000000) := fun y hy => Nat.le_trans (l4 y hy) (by omega)
    have d1 : n ≤ 1000000 := by omega
    have d2 : m ≤ 1000000 := by omega
    have HNL := Lib.hid (ntL_len C S P)
    clear hbg hql l1 l2 l3 l4
    have CN := Lib.hid (fun w' (h : PcIn w' A n c A' m c' A2 q cq C S P) => rtones_any A n c A' m c' A2 q cq C S P w' h d1 d2 b3 HSU.out)
    have DN : Hid (∀ (B : Option Addr) (e : Nat) (B' : Option Addr) (e' : Nat) (B2 : Option Addr) (e2 : Nat) w' (_ : PcIn w' B n e B' m e' B2 q e2 C S P), Calls Tryz.prog 6 #[pcV B n e B' m e' B2 q e2] w' (TnPost (ntL C S P) (pcErr C S P) w')) := fun B e B' e' B2 e2 w' h => tones_any B n e B' m e' B2 q e2 C S P w' h d1 d2 b3 HSU.out
    unfold TnPost at CN DN
    generalize pcErr C S P = X at *
    generalize ntL C S P = U at *
    go_enter Tryz.func3, Tryz.ntmps3
    go_wp2_with (first
      | (go_at_call 4; refine (plong_any A n c A' m c' A2 q cq P _ HI.out.es).mono ?_; rintro e w1 ⟨rfl, hb1⟩; rw [HB.out]; have T := hb1; clear hb1; obtain ⟨x0, x1, x2⟩ := cell3 T)
      | (go_at_call 7; refine (pcopy_any A n c A' m c' A2 q cq C S P _ (HE.out _ T) b1 b2 b3 HST.out).mono ?_; rintro e wc ⟨B, d, B', d', B2, d2', rfl, hPc, hbc⟩; replace T := bt T hbc; have HPc := Lib.hid hPc; clear hPc hbc x0 x1 x2; obtain ⟨x0, x1, x2⟩ := cell3 T)
      | (go_at_call 6; refine (DN.out _ _ _ _ _ _ _ HPc.out).mono ?_; rintro e wk ⟨Ba, na, da, M, rfl, hna, hpa, hra, hsa, hbk⟩; replace T := bt T hbk; have HSA := Lib.hid (And.intro hna (And.intro hpa (And.intro hra hsa))); clear hna hpa hra hsa hbk x0 x1 x2; obtain ⟨x0, x1, x2⟩ := cell3 T)
      | (go_at_call 8; refine (CN.out _ (HE.out _ T)).mono ?_; rintro e wr ⟨Bb, nb, db, M2, rfl, hnb, hpb, hrb, hsb, hbr⟩; replace T := bt T hbr; obtain rfl : M = M2 := srtT_eq HSA.out.2.2.1 hrb (HSA.out.2.1.trans hpb.symm); obtain rfl : na = nb := HSA.out.1.trans hnb.symm; have HLL := Lib.hid (sameTones_eq _ _ _ _ _ M _ (HSA.out.2.2.2.below hbr) hsb hnb (by have h1 := hpb.length_eq; rw [List.length_map] at h1; have := HNL.out; omega)); clear hnb hpb hrb hsb hbr x0 x1 x2; obtain ⟨x0, x1, x2⟩ := cell3 T)
      | (go_at_call 9; refine HLL.out.mono ?_; rintro e wl ⟨rfl, hbl⟩; replace T := bt T hbl; clear hbl x0 x1 x2; obtain ⟨x0, x1, x2⟩ := cell3 T)
      | (go_at_call 5; refine (works5 _).mono ?_; rintro e wz ⟨rfl, hbz⟩))
    go_ret
    exact ⟨rfl, bx (bt T hbz)⟩

end Go.Proofs.YtpcehgifpajmbaaGreat
