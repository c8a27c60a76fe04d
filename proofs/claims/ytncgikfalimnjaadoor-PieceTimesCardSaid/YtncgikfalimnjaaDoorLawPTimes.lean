/- What SameInts returns at two equal lists. -/
import Derived.Test.YtncgikfalimnjaaDoorCopy
import Derived.Test.YtncgikfalimnjaaDoorWorks2
import Derived.Test.YtncgikfalimnjaaDoorPcMeas2
import Derived.Test.YtncgikfalimnjaaDoorPcBig
import Derived.Test.YtncgikfalimnjaaDoorPcCopy
namespace Go.Proofs.YtncgikfalimnjaaDoor
open Go.RowKit

set_option maxHeartbeats 1600000 in
theorem sameInts2_eq (A B : Option Addr) (n c d : Nat) (L : List Int) (w : World) (hA : Sl w w.heap.size 1 A n c (intC L)) (hB : Sl w w.heap.size 1 B n d (intC L)) (hn : n = L.length) (hb : n ≤ 9223372036854775807) :
    Calls Tryd.prog 27 #[.slice A n c, .slice B n d] w fun e w' => e = .returned (.bool true) ∧ Below w.heap.size w w' := by
  have HN := Lib.hid hn
  clear hn
  go_enter Tryd.func27, Tryd.ntmps27
  go_wp2_with (fail)
  go_loopw [5] (fun i wr => ∃ k : Nat, k ≤ n ∧ i = .int .i64 k ∧ Below w.heap.size w wr) (fun i _ => n - (intOf i).toNat)
  case atStart => exact ⟨0, by omega, rfl, Below.refl _ _⟩
  case round =>
    obtain ⟨k, hk, rfl, hbw⟩ := hrel
    by_cases hlt : k < n
    · have hkn : (k : Int) < (n : Int) := by omega
      obtain ⟨b1, o1, hA1, hB1, hc1⟩ := (hA.below hbw).2.2 (by omega)
      obtain ⟨b2, o2, hA2, hB2, hc2⟩ := (hB.below hbw).2.2 (by omega)
      subst hA1 hA2
      have i0 := intC_at L k (by have := HN.out; omega)
      have a0 := hc1 _ _ i0
      have b0 := hc2 _ _ i0
      clear hc1 hc2 i0 hA hB
      generalize L.getD k 0 = x at *
      go_wp2_with (fail)
      go_quiet (fail)
      go_wp2_with (fail)
      go_roundw
      case rel => exact ⟨k + 1, by omega, by go_num, bd hbw _⟩
      case measure => simp [intOf]; omega
    · have hkn : ¬ ((k : Int) < (n : Int)) := by omega
      go_wp2_with (fail)
      go_ret
      exact ⟨rfl, hbw⟩

end Go.Proofs.YtncgikfalimnjaaDoor

/- The law PieceTimes returns true for every piece. -/
namespace Go.Proofs.YtncgikfalimnjaaDoor
open Go Go.RowKit

theorem meC_at : ∀ (L : List Ms) (k : Nat), k < L.length → (meC L)[k * 3]? = some (.int .i64 (L.getD k zM).n) ∧ (meC L)[k * 3 + 1]? = some (.int .i64 (L.getD k zM).e) ∧ (meC L)[k * 3 + 2]? = some (.int .i64 (L.getD k zM).t)
  | c :: r, 0, _ => ⟨rfl, rfl, rfl⟩
  | c :: r, k + 1, h => by
    have := meC_at r k (by simpa using h)
    have e : meC (c :: r) = .int .i64 c.n :: .int .i64 c.e :: .int .i64 c.t :: meC r := rfl
    rw [e, show (k + 1) * 3 = k * 3 + 3 from by omega]
    exact this
theorem msGo_len : ∀ (n : Nat) (P : List EvP) (F : List Sg) (M : List Ms) (k : Nat), M.length ≤ k → (rmsGo n P F M).length ≤ k + P.length
  | n, [], F, M, k, h => by cases F <;> simp [rmsGo, h]
  | n, y :: P, [], M, k, h => by simp [rmsGo]; omega
  | n, y :: P, s :: F, M, k, h => by
    rw [rmsGo]
    have : (msS M n y.bar (tkS s)).length ≤ k + 1 := by
      unfold msS
      split <;> simp <;> omega
    have := msGo_len (n + 1) P F _ (k + 1) this
    simp only [List.length_cons]
    omega

set_option maxRecDepth 100000 in
set_option maxHeartbeats 16000000 in
theorem law_ptimes (A : Option Addr) (n c : Nat) (A' : Option Addr) (m c' : Nat) (A2 : Option Addr) (q cq : Nat) (C : List Cr) (S : List Int) (P : List EvP) (w : World) (hT : SgT w) (hP : PcIn w A n c A' m c' A2 q cq C S P) :
    Calls Tryd.prog 5 #[pcV A n c A' m c' A2 q cq] w fun e w' => e = .returned (.bool true) ∧ Below w.heap.size w w' := by
  have HE : Hid (∀ w', Below (w.alloc (pcO A n c A' m c' A2 q cq)).heap.size (w.alloc (pcO A n c A' m c' A2 q cq)) w' → SgT w' ∧ PcIn w' A n c A' m c' A2 q cq C S P) :=
    fun w' h => ⟨(hT.below (ba _ _)).below h, (hP.below (ba _ _)).below h⟩
  have hql := hP.es.hq
  have HI := Lib.hid (HE.out _ (Below.refl _ _)).2
  clear hT hP
  cases hbg : pbigB n m P with
  | true =>
    have HB := Lib.hid hbg
    clear hbg hql
    go_enter Tryd.func5, Tryd.ntmps5
    go_wp2_with (first | (go_at_call 19; refine (pbig_any A n c A' m c' A2 q cq P _ HI.out.es).mono ?_; rintro e w1 ⟨rfl, hb1⟩; rw [HB.out]) | (go_at_call 16; refine (works2 _ (HE.out _ hb1).1).mono ?_; rintro e w2 ⟨rfl, hb2⟩))
    go_ret
    exact ⟨rfl, bx (bt hb1 hb2)⟩
  | false =>
    have HB := Lib.hid hbg
    obtain ⟨l1, l2, l3, l4⟩ := pbigB_no hbg
    have b1 : n ≤ 65536 := by omega
    have b2 : m ≤ 65536 := by omega
    have b3 : q ≤ 65536 := by omega
    have HST : Hid (∀ y ∈ P, y.L.length ≤ 65536) := fun y hy => Nat.le_trans (l4 y hy) (by omega)
    have HSU : Hid (∀ y ∈ P, y.L.length ≤ 1000000) := fun y hy => Nat.le_trans (l4 y hy) (by omega)
    have d1 : n ≤ 1000000 := by omega
    have d2 : m ≤ 1000000 := by omega
    have HML : Hid ((mesL C S P).length ≤ 1000000) := by
      unfold Hid mesL
      split
      · have := msGo_len 0 P (frcL s0g P) [] 0 (by simp)
        omega
      · simp
    have HOL : Hid ((onsL C S P).length ≤ 1000000) := by
      unfold Hid onsL
      split
      · simp [sumL_len, frcL_len]; omega
      · simp
    clear hbg hql l1 l2 l3 l4
    have CO := Lib.hid (fun w' (h : PcIn w' A n c A' m c' A2 q cq C S P) => rOnsets_any A n c A' m c' A2 q cq C S P w' h d1 d2 b3 HSU.out)
    have CM := Lib.hid (fun w' (h : PcIn w' A n c A' m c' A2 q cq C S P) => rMeasures_any A n c A' m c' A2 q cq C S P w' h d1 d2 b3 HSU.out)
    have DO : Hid (∀ (B : Option Addr) (e : Nat) (B' : Option Addr) (e' : Nat) (B2 : Option Addr) (e2 : Nat) w' (_ : PcIn w' B n e B' m e' B2 q e2 C S P), Calls Tryd.prog 25 #[pcV B n e B' m e' B2 q e2] w' (OnPost C S P w')) := fun B e B' e' B2 e2 w' h => onsets_any B n e B' m e' B2 q e2 C S P w' h d1 d2 b3 HSU.out
    have DM : Hid (∀ (B : Option Addr) (e : Nat) (B' : Option Addr) (e' : Nat) (B2 : Option Addr) (e2 : Nat) w' (_ : PcIn w' B n e B' m e' B2 q e2 C S P), Calls Tryd.prog 28 #[pcV B n e B' m e' B2 q e2] w' (MePost C S P w')) := fun B e B' e' B2 e2 w' h => measures_any B n e B' m e' B2 q e2 C S P w' h d1 d2 b3 HSU.out
    unfold OnPost at CO DO
    unfold MePost at CM DM
    generalize pcErr C S P = X at *
    generalize onsL C S P = OL at *
    generalize mesL C S P = ML at *
    go_enter Tryd.func5, Tryd.ntmps5
    go_wp2_with (first
      | (go_at_call 19; refine (pbig_any A n c A' m c' A2 q cq P _ HI.out.es).mono ?_; rintro e w1 ⟨rfl, hb1⟩; rw [HB.out]; have T := hb1; clear hb1; obtain ⟨x0, x1, x2⟩ := cell3 T)
      | (go_at_call 21; refine (pcopy_any A n c A' m c' A2 q cq C S P _ (HE.out _ T).2 b1 b2 b3 HST.out).mono ?_; rintro e wc ⟨B, d, B', d', B2, d2', rfl, hPc, hbc⟩; replace T := bt T hbc; have HPc := Lib.hid hPc; clear hPc hbc x0 x1 x2; obtain ⟨x0, x1, x2⟩ := cell3 T)
      | (go_at_call 25; refine (DO.out _ _ _ _ _ _ _ HPc.out).mono ?_; rintro e wk ⟨Ba, na, da, rfl, hna, hsa, hbk⟩; replace T := bt T hbk; have HSA := Lib.hid (And.intro hna hsa); clear hna hsa hbk x0 x1 x2; obtain ⟨x0, x1, x2⟩ := cell3 T)
      | (go_at_call 26; refine (CO.out _ (HE.out _ T).2).mono ?_; rintro e wr ⟨Bb, nb, db, rfl, hnb, hsb, hbr⟩; replace T := bt T hbr; have HSB := Lib.hid (And.intro hnb (And.intro hsb hbr)); clear hnb hsb hbr x0 x1 x2; obtain ⟨x0, x1, x2⟩ := cell3 T)
      | (go_at_call 27; obtain rfl : na = nb := HSA.out.1.trans HSB.out.1.symm; refine (sameInts2_eq _ _ _ _ _ OL _ (HSA.out.2.below HSB.out.2.2) HSB.out.2.1 HSA.out.1 (by have := HSA.out.1; have := HOL.out; omega)).mono ?_; rintro e wl ⟨rfl, hbl⟩; replace T := bt T hbl; clear hbl x0 x1 x2; obtain ⟨x0, x1, x2⟩ := cell3 T)
      | (go_at_call 28; refine (DM.out _ _ _ _ _ _ _ HPc.out).mono ?_; rintro e wm ⟨Bm, nm, dm, rfl, hnm, hsm, hbm⟩; replace T := bt T hbm; have HMA := Lib.hid (And.intro hnm hsm); clear hnm hsm hbm x0 x1 x2; obtain ⟨x0, x1, x2⟩ := cell3 T)
      | (go_at_call 29; refine (CM.out _ (HE.out _ T).2).mono ?_; rintro e wn ⟨Bn, nn, dn, rfl, hnn, hsn, hbn⟩; obtain rfl : nm = nn := HMA.out.1.trans hnn.symm; replace T := bt T hbn; have HMB := Lib.hid (And.intro hsn hbn); clear hnn hsn hbn x0 x1 x2))
    have TT := Lib.hid T
    clear T
    have hnl : nm ≤ 1000000 := by have := HMA.out.1; have := HML.out; omega
    go_loopw [9] (fun i wr => ∃ k : Nat, k ≤ nm ∧ i = .int .i64 k ∧ Below wn.heap.size wn wr) (fun i _ => nm - (intOf i).toNat)
    case atStart => exact ⟨0, by omega, rfl, Below.refl _ _⟩
    case round =>
      obtain ⟨k, hk, rfl, hbw⟩ := hrel
      have HW := Lib.hid hbw
      clear hbw
      by_cases hlt : k < nm
      · have hkn : (k : Int) < (nm : Int) := by omega
        obtain ⟨b1, o1, rfl, hB1, hc1⟩ := ((HMA.out.2.below HMB.out.2).below HW.out).2.2 (by omega)
        obtain ⟨b2, o2, rfl, hB2, hc2⟩ := (HMB.out.1.below HW.out).2.2 (by omega)
        obtain ⟨i0, i1, i2⟩ := meC_at ML k (by have := HMA.out.1; omega)
        have a0 := hc1 _ _ i0
        have a1 := hc1 _ _ i1
        have a2 := hc1 _ _ i2
        have e0 := hc2 _ _ i0
        have e1 := hc2 _ _ i1
        have e2 := hc2 _ _ i2
        rw [← Nat.add_assoc] at a1 a2 e1 e2
        clear hc1 hc2 i0 i1 i2
        generalize ML.getD k zM = s at *
        obtain ⟨s0, s1, s2⟩ := s
        dsimp only at a0 a1 a2 e0 e1 e2
        go_wp2_with (fail)
        go_quiet (fail)
        go_wp2_with (fail)
        go_roundw
        case rel => exact ⟨k + 1, by omega, by first | rfl | go_num, bd HW.out _⟩
        case measure => simp [intOf]; omega
      · have hkn : ¬ ((k : Int) < (nm : Int)) := by omega
        go_wp2_with (go_at_call 16; refine (works2 _ (HE.out _ (bt TT.out HW.out)).1).mono ?_; rintro e wz ⟨rfl, hbz⟩)
        go_ret
        exact ⟨rfl, bx (bt (bt TT.out HW.out) hbz)⟩

end Go.Proofs.YtncgikfalimnjaaDoor
