/- The law PieceAugments returns true for every piece and number. -/
import Derived.Test.YtjobablfojnppaaDoorPcMeasC
import Derived.Test.YtjobablfojnppaaDoorCmp9C
import Derived.Test.YtjobablfojnppaaDoorCmp9
import Derived.Test.YtjobablfojnppaaDoorSameI2
import Derived.Test.YtjobablfojnppaaDoorWorks2
namespace Go.Proofs.YtjobablfojnppaaDoor
open Go Go.RowKit

set_option maxRecDepth 100000 in
set_option maxHeartbeats 16000000 in
theorem law_paug (A : Option Addr) (n c : Nat) (A' : Option Addr) (m c' : Nat) (A2 : Option Addr) (q cq : Nat) (C : List Cr) (S : List Int) (P : List EvP) (b : Int) (w : World) (hT : SgT w) (hP : PcIn w A n c A' m c' A2 q cq C S P) :
    Calls Tryd.prog 10 #[pcV A n c A' m c' A2 q cq, .int .i64 b] w fun e w' => e = .returned (.bool true) ∧ Below w.heap.size w w' := by
  have HE : Hid (∀ w', Below (w.alloc (pcO A n c A' m c' A2 q cq)).heap.size (w.alloc (pcO A n c A' m c' A2 q cq)) w' → SgT w' ∧ PcIn w' A n c A' m c' A2 q cq C S P) :=
    fun w' h => ⟨(hT.below (ba _ _)).below h, (hP.below (ba _ _)).below h⟩
  have hql := hP.es.hq
  have hnl := hP.hn
  have hml := hP.hm
  have HI := Lib.hid (HE.out _ (Below.refl _ _)).2
  clear hT hP
  cases hbg : pbigB n m P with
  | true =>
    have HB := Lib.hid hbg
    clear hbg hql hnl hml
    go_enter Tryd.func10, Tryd.ntmps10
    go_wp2_with (first | (go_at_call 14; refine (pbig_any A n c A' m c' A2 q cq P _ HI.out.es).mono ?_; rintro e w1 ⟨rfl, hb1⟩; rw [HB.out]; have T := hb1; clear hb1; obtain ⟨x0, x1, x2⟩ := cell3 T) | (go_at_call 15; refine (works2 _ (HE.out _ T).1).mono ?_; rintro e wz ⟨rfl, hbz⟩))
    go_ret
    exact ⟨rfl, bx (bt T hbz)⟩
  | false =>
    have HB := Lib.hid hbg
    obtain ⟨l1, l2, l3, l4⟩ := pbigB_no hbg
    have b1 : n ≤ 65536 := by omega
    have b2 : m ≤ 65536 := by omega
    have b3 : q ≤ 65536 := by omega
    have HST : Hid (∀ y ∈ P, y.L.length ≤ 65536) := fun y hy => Nat.le_trans (l4 y hy) (by omega)
    have HSU : Hid (∀ y ∈ P, y.L.length ≤ 1000000) := fun y hy => Nat.le_trans (l4 y hy) (by omega)
    have hmp : ∀ (b : Int) (y : EvP), y ∈ P.map (augE b) → y.L.length ≤ 1000000 := fun b y hy => by
      obtain ⟨x, hx, rfl⟩ := List.mem_map.1 hy
      have : (augE b x).L = x.L := by unfold augE; split <;> rfl
      rw [this]
      exact HSU.out x hx
    have CC := Lib.hid (fun w' (h : PcIn w' A n c A' m c' A2 q cq C S P) => pcopy_any A n c A' m c' A2 q cq C S P w' h b1 b2 b3 HST.out)
    obtain ⟨X, hX⟩ : ∃ X, pcErr C S P = X := ⟨_, rfl⟩
    obtain ⟨E1, hE1⟩ : ∃ E1, augErr X b (P.all (augOk b)) = E1 := ⟨_, rfl⟩
    obtain ⟨E2, hE2⟩ : ∃ E2, augErr X 1 (P.all (augOk 1)) = E2 := ⟨_, rfl⟩
    have AG1 : Hid (∀ (B : Option Addr) (e : Nat) (B' : Option Addr) (e' : Nat) (B2 : Option Addr) (e2 : Nat) w' (_ : PcIn w' B n e B' m e' B2 q e2 C S P), Calls Tryd.prog 42 #[pcV B n e B' m e' B2 q e2, .int .i64 b] w' (PcUse E1 (oC E1 C) (oC E1 S) (oC E1 (P.map (augE b))) w')) := fun B e B' e' B2 e2 w' h => by
      refine (augment_any B n e B' m e' B2 q e2 C S P b w' h (by omega) (by omega) b3 HSU.out).mono (fun e w2 hr => ?_)
      rw [aug_out, hX, hE1] at hr
      exact hr.use (by omega) (by omega) (by rw [List.length_map]; omega)
    have RG : Hid (∀ w' (_ : PcIn w' A n c A' m c' A2 q cq C S P), Calls Tryd.prog 43 #[pcV A n c A' m c' A2 q cq, .int .i64 b] w' (PcUse E1 (oC E1 C) (oC E1 S) (oC E1 (P.map (augE b))) w')) := fun w' h => by
      refine (raug_any A n c A' m c' A2 q cq C S P b w' h b1 b2 b3 HST.out).mono (fun e w2 hr => ?_)
      rw [hX, hE1] at hr
      exact hr.use (by omega) (by omega) (by rw [List.length_map]; omega)
    have AG2 : Hid (∀ (B : Option Addr) (e : Nat) (B' : Option Addr) (e' : Nat) (B2 : Option Addr) (e2 : Nat) w' (_ : PcIn w' B n e B' m e' B2 q e2 C S P), Calls Tryd.prog 42 #[pcV B n e B' m e' B2 q e2, .int .i64 1] w' (PcUse E2 (oC E2 C) (oC E2 S) (oC E2 (P.map (augE 1))) w')) := fun B e B' e' B2 e2 w' h => by
      refine (augment_any B n e B' m e' B2 q e2 C S P 1 w' h (by omega) (by omega) b3 HSU.out).mono (fun e w2 hr => ?_)
      rw [aug_out, hX, hE2] at hr
      exact hr.use (by omega) (by omega) (by rw [List.length_map]; omega)
    have HST1 : Hid (∀ y ∈ oC E1 (P.map (augE b)), y.L.length ≤ 1000000) := fun y hy => hmp b y (oC_mem hy)
    have DO1 : Hid (∀ (B : Option Addr) (e : Nat) (B' : Option Addr) (e' : Nat) (B2 : Option Addr) (e2 : Nat) w' (_ : PcIn w' B n e B' m e' B2 q e2 C S P), Calls Tryd.prog 34 #[pcV B n e B' m e' B2 q e2] w' (OnPost C S P w')) := fun B e B' e' B2 e2 w' h => onsets_any B n e B' m e' B2 q e2 C S P w' h (by omega) (by omega) b3 HSU.out
    have DO2 : Hid (∀ (B : Option Addr) (n2 e : Nat) (B' : Option Addr) (m2 e' : Nat) (B2 : Option Addr) (q2 e2 : Nat) w' (_ : n2 ≤ 65536 ∧ m2 ≤ 65536 ∧ q2 ≤ 65536) (_ : PcIn w' B n2 e B' m2 e' B2 q2 e2 (oC E2 C) (oC E2 S) (oC E2 (P.map (augE 1)))), Calls Tryd.prog 34 #[pcV B n2 e B' m2 e' B2 q2 e2] w' (OnPost (oC E2 C) (oC E2 S) (oC E2 (P.map (augE 1))) w')) := fun B n2 e B' m2 e' B2 q2 e2 w' hb h => onsets_any B n2 e B' m2 e' B2 q2 e2 _ _ _ w' h (by omega) (by omega) hb.2.2 (fun y hy => hmp 1 y (oC_mem hy))
    clear hbg l1 l2 l3 l4 hmp hql hnl hml
    by_cases h2 : E2 = 0
    rotate_left
    · have h2b : (E2 != 0) = true := by simpa using h2
      clear h2 hX hE1 hE2
      generalize oC E1 C = C1 at *
      generalize oC E1 S = S1 at *
      generalize oC E1 (P.map (augE b)) = P1 at *
      generalize oC E2 C = C2 at *
      generalize oC E2 S = S2 at *
      generalize oC E2 (P.map (augE 1)) = P2 at *
      unfold PcUse at AG1 AG2 RG
      go_enter Tryd.func10, Tryd.ntmps10
      go_wp2_with (first
        | (go_at_call 14; refine (pbig_any A n c A' m c' A2 q cq P _ HI.out.es).mono ?_; rintro e w1 ⟨rfl, hb1⟩; rw [HB.out]; have T := hb1; clear hb1; obtain ⟨x0, x1, x2⟩ := cell3 T)
        | (go_at_call 16; have TC' := TC; refine (CC.out _ (HE.out _ T).2).mono ?_; rintro e wc ⟨B, d, B', d', B2, d2, rfl, hPc, hbc⟩; replace T := bt T hbc; replace TC := bt TC hbc; have HPc := Lib.hid hPc; clear hPc hbc TC' c0 c1 c2; obtain ⟨c0, c1, c2⟩ := cell3 TC; clear x0 x1 x2; obtain ⟨x0, x1, x2⟩ := cell3 T)
        | (go_at_call 16; refine (CC.out _ (HE.out _ T).2).mono ?_; rintro e wc ⟨B, d, B', d', B2, d2, rfl, hPc, hbc⟩; replace T := bt T hbc; have HPc := Lib.hid hPc; clear hPc hbc; clear x0 x1 x2; obtain ⟨x0, x1, x2⟩ := cell3 T)
        | (go_at_call 42; with_reducible refine (AG1.out _ _ _ _ _ _ _ HPc.out).mono ?_; rintro e wa ⟨Ba, na, da, Ba', ma, da', Ba2, qa, da2, rfl, hPa, hba, hla⟩; replace T := bt T (bt hla (ba wa (pcO Ba na da Ba' ma da' Ba2 qa da2))); have HA := Lib.hid (And.intro (hPa.below (ba wa (pcO Ba na da Ba' ma da' Ba2 qa da2))) (And.intro (heap_alloc_new wa (pcO Ba na da Ba' ma da' Ba2 qa da2)) hba)); clear hPa hba hla; clear x0 x1 x2; obtain ⟨x0, x1, x2⟩ := cell3 T)
        | (go_at_call 42; with_reducible refine (AG2.out _ _ _ _ _ _ _ HPc.out).mono ?_; rintro e wd ⟨Bd, nd, dd, Bd', md, dd', Bd2, qd, dd2, rfl, hPd, hbd, hld⟩; replace T := bt T (bt hld (ba wd (pcO Bd nd dd Bd' md dd' Bd2 qd dd2))); have TC := Below.refl (wd.alloc (pcO Bd nd dd Bd' md dd' Bd2 qd dd2)).heap.size (wd.alloc (pcO Bd nd dd Bd' md dd' Bd2 qd dd2)); have HD := Lib.hid (And.intro (hPd.below (ba wd (pcO Bd nd dd Bd' md dd' Bd2 qd dd2))) hbd); clear hPd hbd hld; obtain ⟨c0, c1, c2⟩ := cell3 TC; clear x0 x1 x2; obtain ⟨x0, x1, x2⟩ := cell3 T)
        | (go_at_call 43; refine (RG.out _ (HE.out _ T).2).mono ?_; rintro e wb ⟨Bb, nb, db, Bb', mb, db', Bb2, qb, db2, rfl, hPb, hbb, hlb⟩; have hl2 := bt hlb (ba wb (pcO Bb nb db Bb' mb db' Bb2 qb db2)); replace T := bt T hl2; have hBA := Blk.below HA.out.2.1 hl2; have a0 := hBA.cell 0; have a1 := hBA.cell 1; have a2 := hBA.cell 2; simp at a0 a1 a2; have hla := hBA.lt; have HAB := Lib.hid (And.intro (HA.out.1.below hl2) (And.intro HA.out.2.2 (And.intro (hPb.below (ba wb (pcO Bb nb db Bb' mb db' Bb2 qb db2))) hbb))); clear hPb hbb hlb hl2 hBA; clear x0 x1 x2; obtain ⟨x0, x1, x2⟩ := cell3 T)
        | (go_at_call 19; refine (same_true HAB.out.1 HAB.out.2.2.1 HAB.out.2.1 HAB.out.2.2.2 HST1.out).mono ?_; rintro e ws ⟨rfl, hbs⟩; replace T := bt T hbs; clear hbs a0 a1 a2; clear x0 x1 x2; obtain ⟨x0, x1, x2⟩ := cell3 T)
        | (go_at_call 15; refine (works2 _ (HE.out _ T).1).mono ?_; rintro e wz ⟨rfl, hbz⟩))
      go_ret
      exact ⟨rfl, bx (bt T hbz)⟩
    subst h2
    have hX0 : X = 0 := by
      by_cases h : X = 0
      · exact h
      · rw [augErr1 h] at hE2; exact absurd hE2 h
    have hall : P.all (augOk 1) = true := by
      rw [hX0, augErr3 (by omega)] at hE2
      cases h : P.all (augOk 1) with
      | true => rfl
      | false => rw [h] at hE2; simp at hE2
    rw [hX0] at hX
    have HDB := Lib.hid (ons_db hX hall)
    have HV := Lib.hid (aug_valid hX hall)
    have HLL : Hid ((onsL C S (P.map (augE 1))).length = (onsL C S P).length) := by unfold Hid; rw [HDB.out, List.length_map]
    have HOL : Hid ((onsL C S P).length ≤ 1000000) := by
      unfold Hid onsL
      rw [if_pos hX]
      simp [sumL_len, frcL_len]
      have := HI.out.es.hq
      omega
    have HSM : Hid (∀ k, k < (onsL C S P).length → 0 ≤ (onsL C S P).getD k 0 ∧ (onsL C S P).getD k 0 ≤ 576 * k) := fun k hk => by
      unfold onsL at hk ⊢
      rw [if_pos hX] at hk ⊢
      have := sumL_bd (frcL s0g P) 0 k (by omega) (by simpa [sumL_len] using hk)
      omega
    have HX := Lib.hid hX
    clear hX hE1 hE2 hX0 hall
    rw [oC_ok, oC_ok, oC_ok] at DO2
    rw [oC_ok, oC_ok, oC_ok] at AG2
    generalize oC E1 C = C1 at *
    generalize oC E1 S = S1 at *
    generalize oC E1 (P.map (augE b)) = P1 at *
    unfold PcUse at AG1 AG2 RG
    unfold OnPost at DO1 DO2
    rw [HX.out] at DO1
    rw [HV.out] at DO2
    go_enter Tryd.func10, Tryd.ntmps10
    go_wp2_with (first
      | (go_at_call 14; refine (pbig_any A n c A' m c' A2 q cq P _ HI.out.es).mono ?_; rintro e w1 ⟨rfl, hb1⟩; rw [HB.out]; have T := hb1; clear hb1; obtain ⟨x0, x1, x2⟩ := cell3 T)
      | (go_at_call 16; have TC' := TC; refine (CC.out _ (HE.out _ T).2).mono ?_; rintro e wc ⟨B, d, B', d', B2, d2, rfl, hPc, hbc⟩; replace T := bt T hbc; replace TC := bt TC hbc; have HPc := Lib.hid hPc; clear hPc hbc TC' c0 c1 c2; obtain ⟨c0, c1, c2⟩ := cell3 TC; clear x0 x1 x2; obtain ⟨x0, x1, x2⟩ := cell3 T)
      | (go_at_call 16; refine (CC.out _ (HE.out _ T).2).mono ?_; rintro e wc ⟨B, d, B', d', B2, d2, rfl, hPc, hbc⟩; replace T := bt T hbc; have HPc := Lib.hid hPc; clear hPc hbc; clear x0 x1 x2; obtain ⟨x0, x1, x2⟩ := cell3 T)
      | (go_at_call 42; with_reducible refine (AG1.out _ _ _ _ _ _ _ HPc.out).mono ?_; rintro e wa ⟨Ba, na, da, Ba', ma, da', Ba2, qa, da2, rfl, hPa, hba, hla⟩; replace T := bt T (bt hla (ba wa (pcO Ba na da Ba' ma da' Ba2 qa da2))); have HA := Lib.hid (And.intro (hPa.below (ba wa (pcO Ba na da Ba' ma da' Ba2 qa da2))) (And.intro (heap_alloc_new wa (pcO Ba na da Ba' ma da' Ba2 qa da2)) hba)); clear hPa hba hla; clear x0 x1 x2; obtain ⟨x0, x1, x2⟩ := cell3 T)
      | (go_at_call 42; with_reducible refine (AG2.out _ _ _ _ _ _ _ HPc.out).mono ?_; rintro e wd ⟨Bd, nd, dd, Bd', md, dd', Bd2, qd, dd2, rfl, hPd, hbd, hld⟩; replace T := bt T (bt hld (ba wd (pcO Bd nd dd Bd' md dd' Bd2 qd dd2))); have TC := Below.refl (wd.alloc (pcO Bd nd dd Bd' md dd' Bd2 qd dd2)).heap.size (wd.alloc (pcO Bd nd dd Bd' md dd' Bd2 qd dd2)); have HD := Lib.hid (And.intro (hPd.below (ba wd (pcO Bd nd dd Bd' md dd' Bd2 qd dd2))) hbd); clear hPd hbd hld; obtain ⟨c0, c1, c2⟩ := cell3 TC; clear x0 x1 x2; obtain ⟨x0, x1, x2⟩ := cell3 T)
      | (go_at_call 43; refine (RG.out _ (HE.out _ T).2).mono ?_; rintro e wb ⟨Bb, nb, db, Bb', mb, db', Bb2, qb, db2, rfl, hPb, hbb, hlb⟩; have hl2 := bt hlb (ba wb (pcO Bb nb db Bb' mb db' Bb2 qb db2)); replace T := bt T hl2; have hBA := Blk.below HA.out.2.1 hl2; have a0 := hBA.cell 0; have a1 := hBA.cell 1; have a2 := hBA.cell 2; simp at a0 a1 a2; have hla := hBA.lt; have HAB := Lib.hid (And.intro (HA.out.1.below hl2) (And.intro HA.out.2.2 (And.intro (hPb.below (ba wb (pcO Bb nb db Bb' mb db' Bb2 qb db2))) hbb))); clear hPb hbb hlb hl2 hBA; clear x0 x1 x2; obtain ⟨x0, x1, x2⟩ := cell3 T)
      | (go_at_call 19; refine (same_true HAB.out.1 HAB.out.2.2.1 HAB.out.2.1 HAB.out.2.2.2 HST1.out).mono ?_; rintro e ws ⟨rfl, hbs⟩; replace T := bt T hbs; clear hbs a0 a1 a2; clear x0 x1 x2; obtain ⟨x0, x1, x2⟩ := cell3 T)
      | (go_at_call 34; with_reducible refine (DO1.out _ _ _ _ _ _ _ HPc.out).mono ?_; rintro e wk ⟨Bk, nk, dk, rfl, hnk, hsk, hbk⟩; replace T := bt T hbk; replace TC := bt TC hbk; have HSK := Lib.hid (And.intro hnk hsk); clear hnk hsk hbk c0 c1 c2; obtain ⟨c0, c1, c2⟩ := cell3 TC; clear x0 x1 x2; obtain ⟨x0, x1, x2⟩ := cell3 T)
      | (go_at_call 34; refine (DO2.out _ _ _ _ _ _ _ _ _ _ HD.out.2 (HD.out.1.below TC)).mono ?_; rintro e wl ⟨Bl, nl, dl, rfl, hnl, hsl, hbl⟩; obtain rfl : nl = nk := hnl.trans (HLL.out.trans HSK.out.1.symm); replace T := bt T hbl; have HSL := Lib.hid (And.intro (HSK.out.2.below hbl) hsl); clear hnl hsl hbl c0 c1 c2; clear x0 x1 x2; obtain ⟨x0, x1, x2⟩ := cell3 T))
    have hnl : nl ≤ 1000000 := by have := HSK.out.1; have := HOL.out; omega
    have HTT := Lib.hid T
    have HKN := Lib.hid HSK.out.1
    obtain ⟨wk2, hwk2⟩ : ∃ x, wl = x := ⟨_, rfl⟩
    rw [hwk2] at HSL HTT T ⊢
    clear T hwk2
    rw [HDB.out] at HSL
    go_loopw [14] (fun i wr => ∃ k : Nat, k ≤ nl ∧ i = .int .i64 k ∧ Below wk2.heap.size wk2 wr) (fun i _ => nl - (intOf i).toNat)
    case atStart => exact ⟨0, by omega, rfl, Below.refl _ _⟩
    case round =>
      obtain ⟨k, hk, rfl, hbw⟩ := hrel
      have HW := Lib.hid hbw
      clear hbw
      by_cases hlt : k < nl
      · have hkn : (k : Int) < (nl : Int) := by omega
        obtain ⟨g1, o1, rfl, hB1, hc1⟩ := (HSL.out.1.below HW.out).2.2 (by omega)
        obtain ⟨g2, o2, rfl, hB2, hc2⟩ := (HSL.out.2.below HW.out).2.2 (by omega)
        have hkl : k < (onsL C S P).length := by rw [← HKN.out]; exact hlt
        have i0 := intC_at (onsL C S P) k hkl
        have i1 := intC_at ((onsL C S P).map (fun i => 2 * i)) k (by rw [List.length_map]; exact hkl)
        rw [show ((onsL C S P).map (fun i => 2 * i)).getD k 0 = 2 * (onsL C S P).getD k 0 by simp [List.getD_eq_getElem?_getD, List.getElem?_eq_getElem hkl]] at i1
        have a0 := hc1 _ _ i0
        have a1 := hc2 _ _ i1
        obtain ⟨m1, m2⟩ := HSM.out k hkl
        clear hc1 hc2 i0 i1 hkl
        generalize (onsL C S P).getD k 0 = z at *
        have hw : IntKind.i64.wrap (2 * z) = 2 * z := IntWalk.i64_in _ ⟨by omega, by omega⟩
        go_wp2_with (fail)
        go_quiet (fail)
        go_wp2_with (fail)
        go_roundw
        case rel => exact ⟨k + 1, by omega, by first | rfl | go_num, bd HW.out _⟩
        case measure => simp [intOf]; omega
      · have hkn : ¬ ((k : Int) < (nl : Int)) := by omega
        go_wp2_with (go_at_call 15; refine (works2 _ (HE.out _ (bt HTT.out HW.out)).1).mono ?_; rintro e wz ⟨rfl, hbz⟩)
        go_ret
        exact ⟨rfl, bx (bt (bt HTT.out HW.out) hbz)⟩

end Go.Proofs.YtjobablfojnppaaDoor
