/- The law SoundCauses returns true for every piece. -/
import Derived.Test.YtcebpgcmmdfccaaWorks5
import Derived.Test.YtcebpgcmmdfccaaSndRC
import Derived.Test.YtcebpgcmmdfccaaSameI2
import Derived.Test.YtcebpgcmmdfccaaPcCopy
namespace Go.Proofs.Ytcebpgcmmdfccaa
open Go Go.RowKit

theorem csL_len (C : List Cr) (S : List Int) (P : List EvP) : (csL C S P).length ≤ 5600 := by
  unfold csL
  rw [List.length_map]
  exact pyL_len C S P

set_option maxRecDepth 100000 in
set_option maxHeartbeats 16000000 in
theorem law_scauses (A : Option Addr) (n c : Nat) (A' : Option Addr) (m c' : Nat) (A2 : Option Addr) (q cq : Nat) (C : List Cr) (S : List Int) (P : List EvP) (w : World) (hP : PcIn w A n c A' m c' A2 q cq C S P) :
    Calls Try.prog 5 #[pcV A n c A' m c' A2 q cq] w fun e w' => e = .returned (.bool true) ∧ Below w.heap.size w w' := by
  have HE : Hid (∀ w', Below (w.alloc (pcO A n c A' m c' A2 q cq)).heap.size (w.alloc (pcO A n c A' m c' A2 q cq)) w' → PcIn w' A n c A' m c' A2 q cq C S P) :=
    fun w' h => (hP.below (ba _ _)).below h
  have hql := hP.es.hq
  have HI := Lib.hid (HE.out _ (Below.refl _ _))
  clear hP
  cases hbg : pbigB n m P with
  | true =>
    have HB := Lib.hid hbg
    clear hbg hql
    go_enter Try.func5, Try.ntmps5
    go_wp2_with (first | (go_at_call 15; refine (pbig_any A n c A' m c' A2 q cq P _ HI.out.es).mono ?_; rintro e w1 ⟨rfl, hb1⟩; rw [HB.out]) | (go_at_call 16; refine (works5 _).mono ?_; rintro e w2 ⟨rfl, hb2⟩))
    go_ret
    exact ⟨rfl, bx (bt hb1 hb2)⟩
  | false =>
    have HB := Lib.hid hbg
    obtain ⟨l1, l2, l3, l4⟩ := pbigB_no hbg
    have b1 : n ≤ 65536 := by omega
    have b2 : m ≤ 65536 := by omega
    have b3 : q ≤ 65536 := by omega
    have HST : Hid (∀ y ∈ P, y.L.length ≤ 65536) := fun y hy => Nat.le_trans (l4 y hy) (by omega)
    have HSU : Hid (∀ y ∈ P, y.L.length ≤ 1000000) := fun y hy => Nat.le_trans (l4 y hy) (by omega)
    have d1 : n ≤ 1000000 := by omega
    have d2 : m ≤ 1000000 := by omega
    have HNL := Lib.hid (csL_len C S P)
    clear hbg hql l1 l2 l3 l4
    have CN := Lib.hid (fun w' (h : PcIn w' A n c A' m c' A2 q cq C S P) => rcauses_any A n c A' m c' A2 q cq C S P w' h d1 d2 b3 HSU.out)
    have DN : Hid (∀ (B : Option Addr) (e : Nat) (B' : Option Addr) (e' : Nat) (B2 : Option Addr) (e2 : Nat) w' (_ : PcIn w' B n e B' m e' B2 q e2 C S P), Calls Try.prog 26 #[pcV B n e B' m e' B2 q e2] w' (NmPost (csL C S P) (pcErr C S P) w')) := fun B e B' e' B2 e2 w' h => causes_any B n e B' m e' B2 q e2 C S P w' h d1 d2 b3 HSU.out
    unfold NmPost at CN DN
    generalize pcErr C S P = X at *
    generalize csL C S P = U at *
    go_enter Try.func5, Try.ntmps5
    go_wp2_with (first
      | (go_at_call 15; refine (pbig_any A n c A' m c' A2 q cq P _ HI.out.es).mono ?_; rintro e w1 ⟨rfl, hb1⟩; rw [HB.out]; have T := hb1; clear hb1; obtain ⟨x0, x1, x2⟩ := cell3 T)
      | (go_at_call 17; refine (pcopy_any A n c A' m c' A2 q cq C S P _ (HE.out _ T) b1 b2 b3 HST.out).mono ?_; rintro e wc ⟨B, d, B', d', B2, d2', rfl, hPc, hbc⟩; replace T := bt T hbc; have HPc := Lib.hid hPc; clear hPc hbc x0 x1 x2; obtain ⟨x0, x1, x2⟩ := cell3 T)
      | (go_at_call 26; refine (DN.out _ _ _ _ _ _ _ HPc.out).mono ?_; rintro e wk ⟨Ba, na, da, rfl, hna, hsa, hbk⟩; replace T := bt T hbk; have HSA := Lib.hid (And.intro hna hsa); clear hna hsa hbk x0 x1 x2; obtain ⟨x0, x1, x2⟩ := cell3 T)
      | (go_at_call 27; refine (CN.out _ (HE.out _ T)).mono ?_; rintro e wr ⟨Bb, nb, db, rfl, hnb, hsb, hbr⟩; replace T := bt T hbr; obtain rfl : na = nb := HSA.out.1.trans hnb.symm; have HSS := Lib.hid (And.intro HSA.out.1 (And.intro (HSA.out.2.below hbr) hsb)); have HLL := Lib.hid (sameInts5_eq _ _ _ _ _ U _ HSS.out.2.1 HSS.out.2.2 HSS.out.1 (by have := HSS.out.1; have := HNL.out; omega)); clear hnb hsb hbr x0 x1 x2; obtain ⟨x0, x1, x2⟩ := cell3 T)
      | (go_at_call 28; refine HLL.out.mono ?_; rintro e wl ⟨rfl, hbl⟩; replace T := bt T hbl; clear hbl x0 x1 x2; obtain ⟨x0, x1, x2⟩ := cell3 T)
      | (go_at_call 16; refine (works5 _).mono ?_; rintro e wz ⟨rfl, hbz⟩))
    go_ret
    exact ⟨rfl, bx (bt T hbz)⟩

end Go.Proofs.Ytcebpgcmmdfccaa
