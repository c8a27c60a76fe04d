/- The law SoundLines returns true for every piece. -/
import Derived.Test.YtcebpgcmmdfccaaWorks5
import Derived.Test.YtcebpgcmmdfccaaSndRL
import Derived.Test.YtcebpgcmmdfccaaSndLn
import Derived.Test.YtcebpgcmmdfccaaSameI2
import Derived.Test.YtcebpgcmmdfccaaPcCopy
namespace Go.Proofs.Ytcebpgcmmdfccaa
open Go Go.RowKit

theorem lnL_len2 (hi : Bool) (C : List Cr) (S : List Int) (P : List EvP) : (lnL hi C S P).length ≤ P.length := by
  unfold lnL
  split <;> simp

set_option maxRecDepth 100000 in
set_option maxHeartbeats 16000000 in
theorem law_slines (A : Option Addr) (n c : Nat) (A' : Option Addr) (m c' : Nat) (A2 : Option Addr) (q cq : Nat) (C : List Cr) (S : List Int) (P : List EvP) (w : World) (hP : PcIn w A n c A' m c' A2 q cq C S P) :
    Calls Try.prog 11 #[pcV A n c A' m c' A2 q cq] w fun e w' => e = .returned (.bool true) ∧ Below w.heap.size w w' := by
  have HE : Hid (∀ w', Below (w.alloc (pcO A n c A' m c' A2 q cq)).heap.size (w.alloc (pcO A n c A' m c' A2 q cq)) w' → PcIn w' A n c A' m c' A2 q cq C S P) :=
    fun w' h => (hP.below (ba _ _)).below h
  have hql := hP.es.hq
  have HI := Lib.hid (HE.out _ (Below.refl _ _))
  clear hP
  cases hbg : pbigB n m P with
  | true =>
    have HB := Lib.hid hbg
    clear hbg hql
    go_enter Try.func11, Try.ntmps11
    go_wp2_with (first | (go_at_call 15; refine (pbig_any A n c A' m c' A2 q cq P _ HI.out.es).mono ?_; rintro e w1 ⟨rfl, hb1⟩; rw [HB.out]) | (go_at_call 16; refine (works5 _).mono ?_; rintro e w2 ⟨rfl, hb2⟩))
    go_ret
    exact ⟨rfl, bx (bt hb1 hb2)⟩
  | false =>
    have HB := Lib.hid hbg
    obtain ⟨l1, l2, l3, l4⟩ := pbigB_no hbg
    have b1 : n ≤ 65536 := by omega
    have b2 : m ≤ 65536 := by omega
    have b3 : q ≤ 65536 := by omega
    have HST : Hid (∀ y ∈ P, y.L.length ≤ 65536) := fun y hy => Nat.le_trans (l4 y hy) (by omega)
    have HSU : Hid (∀ y ∈ P, y.L.length ≤ 1000000) := fun y hy => Nat.le_trans (l4 y hy) (by omega)
    have d1 : n ≤ 1000000 := by omega
    have d2 : m ≤ 1000000 := by omega
    have HN1 : Hid ((lnL true C S P).length ≤ 65536) := Nat.le_trans (lnL_len2 _ _ _ _) (by omega)
    have HN2 : Hid ((lnL false C S P).length ≤ 65536) := Nat.le_trans (lnL_len2 _ _ _ _) (by omega)
    clear hbg hql l1 l2 l3 l4
    have CN1 := Lib.hid (fun w' (h : PcIn w' A n c A' m c' A2 q cq C S P) => rMelodyL_any A n c A' m c' A2 q cq C S P w' h d1 d2 b3 HSU.out)
    have CN2 := Lib.hid (fun w' (h : PcIn w' A n c A' m c' A2 q cq C S P) => rGroundL_any A n c A' m c' A2 q cq C S P w' h d1 d2 b3 HSU.out)
    have DN1 : Hid (∀ (B : Option Addr) (e : Nat) (B' : Option Addr) (e' : Nat) (B2 : Option Addr) (e2 : Nat) w' (_ : PcIn w' B n e B' m e' B2 q e2 C S P), Calls Try.prog 41 #[pcV B n e B' m e' B2 q e2] w' (NmPost (lnL true C S P) (pcErr C S P) w')) := fun B e B' e' B2 e2 w' h => melody_any B n e B' m e' B2 q e2 C S P w' h d1 d2 b3 HSU.out
    have DN2 : Hid (∀ (B : Option Addr) (e : Nat) (B' : Option Addr) (e' : Nat) (B2 : Option Addr) (e2 : Nat) w' (_ : PcIn w' B n e B' m e' B2 q e2 C S P), Calls Try.prog 43 #[pcV B n e B' m e' B2 q e2] w' (NmPost (lnL false C S P) (pcErr C S P) w')) := fun B e B' e' B2 e2 w' h => ground_any B n e B' m e' B2 q e2 C S P w' h d1 d2 b3 HSU.out
    unfold NmPost at CN1 CN2 DN1 DN2
    generalize pcErr C S P = X at *
    generalize lnL true C S P = U at *
    generalize lnL false C S P = V at *
    go_enter Try.func11, Try.ntmps11
    go_wp2_with (first
      | (go_at_call 15; refine (pbig_any A n c A' m c' A2 q cq P _ HI.out.es).mono ?_; rintro e w1 ⟨rfl, hb1⟩; rw [HB.out]; have T := hb1; clear hb1; obtain ⟨x0, x1, x2⟩ := cell3 T)
      | (go_at_call 17; refine (pcopy_any A n c A' m c' A2 q cq C S P _ (HE.out _ T) b1 b2 b3 HST.out).mono ?_; rintro e wc ⟨B, d, B', d', B2, d2', rfl, hPc, hbc⟩; replace T := bt T hbc; (try replace G1 := bt G1 hbc); have HPc := Lib.hid hPc; clear hPc hbc x0 x1 x2; obtain ⟨x0, x1, x2⟩ := cell3 T)
      | (go_at_call 41; refine (DN1.out _ _ _ _ _ _ _ HPc.out).mono ?_; rintro e wk ⟨Ba1, na1, da1, rfl, hna, hsa, hbk⟩; replace T := bt T hbk; have HSA1 := Lib.hid (And.intro hna hsa); clear hna hsa hbk x0 x1 x2; obtain ⟨x0, x1, x2⟩ := cell3 T)
      | (go_at_call 42; refine (CN1.out _ (HE.out _ T)).mono ?_; rintro e wr1 ⟨Bb1, nb, db1, rfl, hnb, hsb, hbr⟩; replace T := bt T hbr; obtain rfl : na1 = nb := HSA1.out.1.trans hnb.symm; have HSS1 := Lib.hid (And.intro (HSA1.out.2.below hbr) hsb); have HNE1 := Lib.hid HSA1.out.1; have HLL1 := Lib.hid (fun w' (h : Below wr1.heap.size wr1 w') => sameInts5_eq Ba1 Bb1 na1 da1 db1 U w' (HSS1.out.1.below h) (HSS1.out.2.below h) HNE1.out (by have := HNE1.out; have := HN1.out; omega)); have G1 := Below.refl wr1.heap.size wr1; clear hnb hsb hbr x0 x1 x2; obtain ⟨x0, x1, x2⟩ := cell3 T)
      | (go_at_call 43; refine (DN2.out _ _ _ _ _ _ _ HPc.out).mono ?_; rintro e wk ⟨Ba2, na2, da2, rfl, hna, hsa, hbk⟩; replace T := bt T hbk; replace G1 := bt G1 hbk; have HSA2 := Lib.hid (And.intro hna hsa); clear hna hsa hbk x0 x1 x2; obtain ⟨x0, x1, x2⟩ := cell3 T)
      | (go_at_call 44; refine (CN2.out _ (HE.out _ T)).mono ?_; rintro e wr2 ⟨Bb2, nb, db2, rfl, hnb, hsb, hbr⟩; replace T := bt T hbr; replace G1 := bt G1 hbr; obtain rfl : na2 = nb := HSA2.out.1.trans hnb.symm; have HSS2 := Lib.hid (And.intro (HSA2.out.2.below hbr) hsb); have HNE2 := Lib.hid HSA2.out.1; have HLL2 := Lib.hid (fun w' (h : Below wr2.heap.size wr2 w') => sameInts5_eq Ba2 Bb2 na2 da2 db2 V w' (HSS2.out.1.below h) (HSS2.out.2.below h) HNE2.out (by have := HNE2.out; have := HN2.out; omega)); have G2 := Below.refl wr2.heap.size wr2; clear hnb hsb hbr x0 x1 x2; obtain ⟨x0, x1, x2⟩ := cell3 T)
      | (go_at_call 28; (with_reducible refine (HLL1.out _ G1).mono ?_); rintro e wl ⟨rfl, hbl⟩; replace T := bt T hbl; replace G2 := bt G2 hbl; clear hbl x0 x1 x2 G1; obtain ⟨x0, x1, x2⟩ := cell3 T)
      | (go_at_call 28; (with_reducible refine (HLL2.out _ G2).mono ?_); rintro e wl ⟨rfl, hbl⟩; replace T := bt T hbl; clear hbl x0 x1 x2; obtain ⟨x0, x1, x2⟩ := cell3 T)
      | (go_at_call 16; refine (works5 _).mono ?_; rintro e wz ⟨rfl, hbz⟩))
    go_ret
    exact ⟨rfl, bx (bt T hbz)⟩

end Go.Proofs.Ytcebpgcmmdfccaa
