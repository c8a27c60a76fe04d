/- The law SoundWhole returns true for every piece and time. -/
import Derived.Test.YtpcehgifpajmbaaSnPr
import Derived.Test.YtpcehgifpajmbaaWorks5
import Derived.Test.YtpcehgifpajmbaaPcBig
import Derived.Test.YtpcehgifpajmbaaSameI2
namespace Go.Proofs.Ytpcehgifpajmbaa
open Go Go.RowKit

theorem atW {C : List Cr} {S : List Int} {P : List EvP} (h : pcErr C S P = 0) (t : Int) : (0 ≤ t ∧ t < endT C S P → atEr C S P t = 0 ∧ atLs C S P t = psL (stL C S P) t) ∧ (¬ (0 ≤ t ∧ t < endT C S P) → atEr C S P t = 1) := by
  refine ⟨fun ht => ?_, fun ht => ?_⟩
  · have e : atEr C S P t = 0 := by unfold atEr; rw [if_neg (by omega), if_neg (by omega)]
    exact ⟨e, by unfold atLs; rw [if_pos e]⟩
  · unfold atEr; rw [if_neg (by omega), if_pos (by omega)]
theorem snL_at {C : List Cr} {S : List Int} {P : List EvP} (h : pcErr C S P = 0) {k : Nat} (hk : k < (snL C S P).length) :
    ((snL C S P).getD k zSn).fm = (tuL C S P).getD k 0 ∧ ((snL C S P).getD k zSn).to = (tuL C S P).getD (k + 1) 0 ∧ (tuL C S P).getD k 0 < (tuL C S P).getD (k + 1) 0 ∧ 0 ≤ (tuL C S P).getD k 0 ∧ (tuL C S P).getD (k + 1) 0 ≤ endT C S P ∧ ((snL C S P).getD k zSn).ps = psL (stL C S P) ((tuL C S P).getD k 0) ∧ ∀ t, (tuL C S P).getD k 0 ≤ t → t < (tuL C S P).getD (k + 1) 0 → ((snL C S P).getD k zSn).ps = psL (stL C S P) t := by
  have e : snL C S P = snOf (stL C S P) (tuL C S P) := by unfold snL; rw [if_pos h]
  rw [e] at hk ⊢
  rw [snOf_len] at hk
  have hg := snOf_at (stL C S P) (tuL C S P) (k := k) (by omega)
  have hg2 : (snOf (stL C S P) (tuL C S P)).getD k zSn = ⟨(tuL C S P).getD k 0, (tuL C S P).getD (k + 1) 0, psL (stL C S P) ((tuL C S P).getD k 0)⟩ := by rw [List.getD_eq_getElem?_getD, hg]; rfl
  rw [hg2]
  obtain ⟨h1, h2, h3, h4, _⟩ := tm_ends h
  have mono : ∀ d i, i + d < (tuL C S P).length → (tuL C S P).getD i 0 ≤ (tuL C S P).getD (i + d) 0 := by
    intro d
    induction d with
    | zero => intro i _; exact Int.le_refl _
    | succ d ih =>
      intro i hi
      have a := ih i (by omega)
      have b := h4 (i + d) (by omega)
      rw [show i + d + 1 = i + (d + 1) by omega] at b
      omega
  have a := mono k 0 (by omega)
  rw [Nat.zero_add, h2] at a
  have b := mono ((tuL C S P).length - 1 - (k + 1)) (k + 1) (by omega)
  rw [show k + 1 + ((tuL C S P).length - 1 - (k + 1)) = (tuL C S P).length - 1 by omega, h3] at b
  exact ⟨rfl, rfl, h4 k (by omega), a, b, rfl, fun t h5 h6 => sn_in h (by omega) h5 h6⟩

set_option maxRecDepth 100000 in
set_option maxHeartbeats 16000000 in
theorem law_swhole (A : Option Addr) (n c : Nat) (A' : Option Addr) (m c' : Nat) (A2 : Option Addr) (q cq : Nat) (C : List Cr) (S : List Int) (P : List EvP) (t : Int) (w : World) (hP : PcIn w A n c A' m c' A2 q cq C S P) :
    Calls Try.prog 5 #[pcV A n c A' m c' A2 q cq, .int .i64 t] w fun e w' => e = .returned (.bool true) ∧ Below w.heap.size w w' := by
  have HE : Hid (∀ w', Below (w.alloc (pcO A n c A' m c' A2 q cq)).heap.size (w.alloc (pcO A n c A' m c' A2 q cq)) w' → PcIn w' A n c A' m c' A2 q cq C S P) :=
    fun w' h => (hP.below (ba _ _)).below h
  have hql := hP.es.hq
  have HI := Lib.hid (HE.out _ (Below.refl _ _))
  clear hP
  cases hbg : plongB n m P with
  | true =>
    have HB := Lib.hid hbg
    clear hbg hql
    go_enter Try.func5, Try.ntmps5
    go_wp2_with (first | (go_at_call 6; refine (plong_any A n c A' m c' A2 q cq P _ HI.out.es).mono ?_; rintro e w1 ⟨rfl, hb1⟩; rw [HB.out]) | (go_at_call 7; refine (works5 _).mono ?_; rintro e w2 ⟨rfl, hb2⟩))
    go_ret
    exact ⟨rfl, bx (bt hb1 hb2)⟩
  | false =>
    have HB := Lib.hid hbg
    obtain ⟨l1, l2, l3, l4⟩ := pbigB_no (plongB_no hbg).1
    have l5 := (plongB_no hbg).2
    have b1 : n ≤ 65536 := by omega
    have b2 : m ≤ 65536 := by omega
    have b3 : q ≤ 65536 := by omega
    have b4 : q ≤ 1000000 := by omega
    have b5 : q ≤ 60 := by omega
    have HST : Hid (∀ y ∈ P, y.L.length ≤ 65536) := fun y hy => Nat.le_trans (l4 y hy) (by omega)
    have HSU : Hid (∀ y ∈ P, y.L.length ≤ 1000000) := fun y hy => Nat.le_trans (l4 y hy) (by omega)
    have d1 : n ≤ 1000000 := by omega
    have d2 : m ≤ 1000000 := by omega
    have HQL := Lib.hid hql
    have CK := Lib.hid (fun w' (h : PcIn w' A n c A' m c' A2 q cq C S P) => rpcheck_any A n c A' m c' A2 q cq C S P w' h d1 d2 b4 HSU.out)
    by_cases hX : pcErr C S P = 0
    · have CN : Hid (∀ (B : Option Addr) (e : Nat) (B' : Option Addr) (e' : Nat) (B2 : Option Addr) (e2 : Nat) w' (_ : PcIn w' B n e B' m e' B2 q e2 C S P), Calls Try.prog 12 #[pcV B n e B' m e' B2 q e2] w' (SnPost (snL C S P) (pcErr C S P) w')) := fun B e B' e' B2 e2 w' h => sons_any B n e B' m e' B2 q e2 C S P w' h d1 d2 b3 HSU.out
      have DN : Hid (∀ (B : Option Addr) (e : Nat) (B' : Option Addr) (e' : Nat) (B2 : Option Addr) (e2 : Nat) w' (_ : PcIn w' B n e B' m e' B2 q e2 C S P), Calls Try.prog 18 #[pcV B n e B' m e' B2 q e2] w' (OnPost C S P w')) := fun B e B' e' B2 e2 w' h => onsets_any B n e B' m e' B2 q e2 C S P w' h d1 d2 b3 HSU.out
      have EN : Hid (∀ (B : Option Addr) (e : Nat) (B' : Option Addr) (e' : Nat) (B2 : Option Addr) (e2 : Nat) w' (_ : PcIn w' B n e B' m e' B2 q e2 C S P), Calls Try.prog 19 #[pcV B n e B' m e' B2 q e2, .int .i64 t] w' (NmPost (atLs C S P t) (atEr C S P t) w')) := fun B e B' e' B2 e2 w' h => atS_any B n e B' m e' B2 q e2 C S P t w' h d1 d2 b3 HSU.out
      unfold SnPost at CN
      unfold OnPost at DN
      unfold NmPost at EN
      have HSN : Hid (∀ {k : Nat} (_ : k < (snL C S P).length), ((snL C S P).getD k zSn).fm = (tuL C S P).getD k 0 ∧ ((snL C S P).getD k zSn).to = (tuL C S P).getD (k + 1) 0 ∧ (tuL C S P).getD k 0 < (tuL C S P).getD (k + 1) 0 ∧ 0 ≤ (tuL C S P).getD k 0 ∧ (tuL C S P).getD (k + 1) 0 ≤ endT C S P ∧ ((snL C S P).getD k zSn).ps = psL (stL C S P) ((tuL C S P).getD k 0) ∧ ∀ t, (tuL C S P).getD k 0 ≤ t → t < (tuL C S P).getD (k + 1) 0 → ((snL C S P).getD k zSn).ps = psL (stL C S P) t) := fun hk => snL_at hX hk
      have HAT := Lib.hid (atW hX t)
      have HTE : Hid (0 < (tuL C S P).length ∧ (tuL C S P).getD 0 0 = 0 ∧ (tuL C S P).getD ((tuL C S P).length - 1) 0 = endT C S P) := ⟨(tm_ends hX).1, (tm_ends hX).2.1, (tm_ends hX).2.2.1⟩
      have HSL : Hid ((snL C S P).length = (tuL C S P).length - 1 ∧ (tuL C S P).length ≤ 401) := by
        have h1 := (tm_ends hX).2.2.2.2
        have h2 := (pcErr_ok hX).2.1
        refine ⟨?_, by omega⟩
        unfold snL
        rw [if_pos hX, snOf_len]
      have HOL := Lib.hid (onsL_pos hX)
      have HEN := Lib.hid (end_ons hX)
      have HPL : Hid (∀ u, (psL (stL C S P) u).length ≤ 128) := fun u => by
        unfold psL
        exact Nat.le_trans (List.length_filter_le _ _) (by simp)
      rw [hX] at CN DN CK
      clear hbg hql l1 l2 l3 l4 l5 hX
      generalize snL C S P = U at *
      generalize tuL C S P = V at *
      generalize onsL C S P = O at *
      generalize endT C S P = en at *
      generalize stL C S P = TT at *
      generalize atEr C S P t = ae at *
      generalize atLs C S P t = al at *
      go_enter Try.func5, Try.ntmps5
      go_wp2_with (first
        | (go_at_call 6; refine (plong_any A n c A' m c' A2 q cq P _ HI.out.es).mono ?_; rintro e w1 ⟨rfl, hb1⟩; rw [HB.out]; have T := hb1; clear hb1; obtain ⟨x0, x1, x2⟩ := cell3 T)
        | (go_at_call 17; refine (CK.out _ (HE.out _ T)).mono ?_; rintro e wr ⟨rfl, hbr⟩; replace T := bt T hbr; clear hbr x0 x1 x2; obtain ⟨x0, x1, x2⟩ := cell3 T)
        | (go_at_call 9; refine (pcopy_any A n c A' m c' A2 q cq C S P _ (HE.out _ T) b1 b2 b3 HST.out).mono ?_; rintro e wc ⟨B, d, B', d', B2, d2', rfl, hPc, hbc⟩; replace T := bt T hbc; have HPc := Lib.hid hPc; (try have HSA := Lib.hid (HSA.out.below hbc)); (try have HSB := Lib.hid (HSB.out.below hbc)); clear hPc hbc x0 x1 x2; obtain ⟨x0, x1, x2⟩ := cell3 T)
        | (go_at_call 12; refine (CN.out _ _ _ _ _ _ _ HPc.out).mono ?_; rintro e wk ⟨Ba, na, da, Za, rfl, hna, hsa, hza, hbk⟩; replace T := bt T hbk; have HSA := Lib.hid (snPost_in hna hsa hza); have HNA := Lib.hid hna; have hnab : na ≤ 1000 := (by have := HSL.out; omega); clear hna hsa hza hbk x0 x1 x2; obtain ⟨x0, x1, x2⟩ := cell3 T)
        | (go_at_call 18; refine (DN.out _ _ _ _ _ _ _ HPc.out).mono ?_; rintro e wb ⟨Bb, nb, db, rfl, hnb, hsb, hbk⟩; replace T := bt T hbk; have HSB := Lib.hid hsb; have HNB := Lib.hid hnb; have hnbq : nb = q + 1 := (by have := HOL.out; have := HQL.out; omega); subst hnbq; have hnb0 : (((q + 1 : Nat) : Int) == 0) = false := (by simp; omega); have hnb1 : ((q : Int) + 1 == 0) = false := (by simp; omega); have HSA := Lib.hid (HSA.out.below hbk); clear hnb hsb hbk x0 x1 x2; obtain ⟨x0, x1, x2⟩ := cell3 T)
        | (go_at_call 19; refine (EN.out _ _ _ _ _ _ _ HPc.out).mono ?_; rintro e wa ⟨Bp, np, dp, rfl, hnp, hsp, hbk⟩; replace T := bt T hbk; have HSP := Lib.hid (And.intro hnp hsp); have HSA := Lib.hid (HSA.out.below hbk); have HSB := Lib.hid (HSB.out.below hbk); clear hnp hsp hbk x0 x1 x2; obtain ⟨x0, x1, x2⟩ := cell3 T))
      have TT2 := Lib.hid T
      clear T x0 x1 x2
      go_loopw [9, 12, 13] (fun ee ff i wr => ∃ (j : Nat) (ev : Int) (fb : Bool), j ≤ na ∧ i = .int .i64 j ∧ ee = .int .i64 ev ∧ ff = .bool fb ∧ Hid (ev = V.getD j 0) ∧ Hid (fb = (decide (0 ≤ t) && decide (t < V.getD j 0))) ∧ Below wa.heap.size wa wr) (fun _ _ i _ => na - (intOf i).toNat)
      case atStart => exact ⟨0, 0, false, by omega, rfl, rfl, rfl, HTE.out.2.1.symm, by unfold Hid; rw [HTE.out.2.1]; simp, Below.refl _ _⟩
      case round =>
        obtain ⟨j, ev, fb, hj, rfl, rfl, rfl, HEV, HFB, hbw⟩ := hrel
        have HW := Lib.hid hbw
        clear hbw
        by_cases hlt : j < na
        · have hjn : (j : Int) < (na : Int) := by omega
          obtain ⟨b, off, pa, pc, rfl, hbb, hUj, c0, c1, c2, hps⟩ := (HSA.out.below HW.out).at hlt
          have HSJ := Lib.hid (HSN.out (show j < U.length by have := HNA.out; omega))
          have HPS := Lib.hid hps
          clear hUj hps hbb
          generalize U.getD j zSn = s at *
          obtain ⟨sf, st, sp⟩ := s
          dsimp only at c0 c1 c2 HSJ HPS
          obtain ⟨e1, e2, e3, e4, e5, e6, e7⟩ := HSJ.out
          have hf : sf = ev := e1.trans HEV.out.symm
          subst hf
          have HE2 : Hid (st = V.getD (j + 1) 0) := e2
          have hst : ¬ st ≤ sf := by have := HEV.out; omega
          have hstd : decide (st ≤ sf) = false := by simpa using hst
          have hs0 : 0 ≤ sf := by have := HEV.out; omega
          have hse : st ≤ en := by omega
          have HP7 : Hid (∀ t, sf ≤ t → t < st → sp = psL TT t) := fun t h1 h2 => e7 t (by omega) (by omega)
          clear e1 e2 e3 e4 e5 e6 e7 HSJ
          by_cases h1 : sf ≤ t
          · by_cases h2 : t < st
            · have hae : ae = 0 ∧ al = psL TT t := HAT.out.1 ⟨by omega, by omega⟩
              obtain ⟨rfl, hal⟩ := hae
              have HAL : Hid (al = sp) := hal.trans (HP7.out t h1 h2).symm
              have HFB2 : Hid (true = (decide (0 ≤ t) && decide (t < V.getD (j + 1) 0))) := by unfold Hid; rw [← HE2.out]; simp; omega
              have hlen : np = sp.length := by rw [← HAL.out]; exact HSP.out.1
              have HSS := Lib.hid (And.intro (HSP.out.2.below HW.out) HPS.out)
              have hl128 : sp.length ≤ 128 := by rw [← HAL.out, hal]; exact HPL.out t
              rw [HAL.out] at HSS
              clear hal
              subst hlen
              go_wp2_with (go_at_call 11; refine (sameInts5_eq _ _ _ _ _ sp _ HSS.out.1 HSS.out.2 rfl (by omega)).mono ?_; rintro e wl ⟨rfl, hbl⟩)
              go_roundw
              case rel => exact ⟨j + 1, st, true, by omega, by first | rfl | go_num, rfl, rfl, HE2, HFB2, bt HW.out hbl⟩
              case measure => simp [intOf]; omega
            · have HFN : Hid (fb = (decide (0 ≤ t) && decide (t < V.getD (j + 1) 0))) := by
                unfold Hid
                rw [HFB.out, ← HEV.out, ← HE2.out]
                congr 1
                rw [decide_eq_decide]
                omega
              go_wp2_with (fail)
              go_roundw
              case rel => exact ⟨j + 1, st, fb, by omega, by first | rfl | go_num, rfl, rfl, HE2, HFN, HW.out⟩
              case measure => simp [intOf]; omega
          · have HFN : Hid (fb = (decide (0 ≤ t) && decide (t < V.getD (j + 1) 0))) := by
              unfold Hid
              rw [HFB.out, ← HEV.out, ← HE2.out]
              congr 1
              rw [decide_eq_decide]
              omega
            go_wp2_with (fail)
            go_roundw
            case rel => exact ⟨j + 1, st, fb, by omega, by first | rfl | go_num, rfl, rfl, HE2, HFN, HW.out⟩
            case measure => simp [intOf]; omega
        · have hjn : ¬ ((j : Int) < (na : Int)) := by omega
          have hev : ev = en := by
            have h1 := HEV.out
            have h2 := HTE.out.2.2
            have h3 : j = V.length - 1 := by have := HNA.out; have := HSL.out; omega
            rw [h1, h3, h2]
          subst hev
          obtain ⟨ob, oo, rfl, hob, hoc⟩ := (HSB.out.below HW.out).2.2 (by omega)
          have o0 := hoc _ _ (intC_at O q (by have := HNB.out; omega))
          have HOQ : Hid (O.getD q 0 = ev) := by unfold Hid; rw [HEN.out, ← HQL.out]; rfl
          rw [HOQ.out] at o0
          have hmw : IntKind.i64.wrap ((q : Int) + 1 - 1) = (q : Int) := by rw [show (q : Int) + 1 - 1 = (q : Int) by omega]; exact IntWalk.i64_in _ ⟨by omega, by omega⟩
          have hlast : (q : Int) < (q : Int) + 1 := by omega
          have HFF : Hid (fb = (decide (0 ≤ t) && decide (t < ev))) := by unfold Hid; rw [HFB.out, ← HEV.out]
          clear hoc hob
          by_cases g0 : 0 ≤ t
          · by_cases g1 : t < ev
            · obtain rfl : ae = 0 := (HAT.out.1 ⟨g0, g1⟩).1
              obtain rfl : fb = true := by rw [HFF.out]; simp [g0, g1]
              go_wp2_with (go_at_call 7; refine (works5 _).mono ?_; rintro e wz ⟨rfl, hbz⟩)
              go_ret
              exact ⟨rfl, bx (bt (bt TT2.out HW.out) hbz)⟩
            · obtain rfl : ae = 1 := HAT.out.2 (by omega)
              obtain rfl : fb = false := by rw [HFF.out]; simp [g1]
              go_wp2_with (go_at_call 7; refine (works5 _).mono ?_; rintro e wz ⟨rfl, hbz⟩)
              go_ret
              exact ⟨rfl, bx (bt (bt TT2.out HW.out) hbz)⟩
          · obtain rfl : ae = 1 := HAT.out.2 (by omega)
            obtain rfl : fb = false := by rw [HFF.out]; simp [g0]
            go_wp2_with (go_at_call 7; refine (works5 _).mono ?_; rintro e wz ⟨rfl, hbz⟩)
            go_ret
            exact ⟨rfl, bx (bt (bt TT2.out HW.out) hbz)⟩
    · obtain ⟨X, hX2⟩ : ∃ X, pcErr C S P = X := ⟨_, rfl⟩
      rw [hX2] at hX CK
      have hXb : (X != 0) = true := by simpa using hX
      clear hbg hql l1 l2 l3 l4 l5 hX hX2
      go_enter Try.func5, Try.ntmps5
      go_wp2_with (first
        | (go_at_call 6; refine (plong_any A n c A' m c' A2 q cq P _ HI.out.es).mono ?_; rintro e w1 ⟨rfl, hb1⟩; rw [HB.out]; have T := hb1; clear hb1; obtain ⟨x0, x1, x2⟩ := cell3 T)
        | (go_at_call 17; refine (CK.out _ (HE.out _ T)).mono ?_; rintro e wr ⟨rfl, hbr⟩; replace T := bt T hbr)
        | (go_at_call 7; refine (works5 _).mono ?_; rintro e wz ⟨rfl, hbz⟩))
      go_ret
      exact ⟨rfl, bx (bt T hbz)⟩

end Go.Proofs.Ytpcehgifpajmbaa
