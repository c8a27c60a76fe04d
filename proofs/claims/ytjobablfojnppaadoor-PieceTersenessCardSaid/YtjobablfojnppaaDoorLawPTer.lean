/- The law PieceTerseness returns true for every piece. -/
import Derived.Test.YtjobablfojnppaaDoorTrnC
import Derived.Test.YtjobablfojnppaaDoorTrn
import Derived.Test.YtjobablfojnppaaDoorSameI2
import Derived.Test.YtjobablfojnppaaDoorWorks2
namespace Go.Proofs.YtjobablfojnppaaDoor
open Go Go.RowKit

theorem tkV_pos2 {v : Int} {d t : Bool} (h : okB v d t = true) : (tkV v d t == 0) = false := by
  have : tkV v d t ≠ 0 := by
    unfold tkV
    rw [if_pos h]
    have : tbase v = 384 ∨ tbase v = 192 ∨ tbase v = 96 ∨ tbase v = 48 ∨ tbase v = 24 ∨ tbase v = 12 ∨ tbase v = 6 := by
      unfold tbase
      split
      · omega
      · split
        · omega
        · split
          · omega
          · split
            · omega
            · split
              · omega
              · split <;> omega
    split
    · omega
    · split <;> omega
  simpa using this
theorem setG_getD (P : List EvP) (G : List Sg) (k : Nat) (hl : G.length = P.length) (hk : k < P.length) : (setG P G).getD k z6 = upS (P.getD k z6) (G.getD k s0g) := by
  have := setG_at P G k hl
  rw [List.getElem?_eq_getElem hk, List.getElem?_eq_getElem (show k < G.length by omega)] at this
  rw [List.getD_eq_getElem?_getD, this, List.getD_eq_getElem?_getD, List.getD_eq_getElem?_getD, List.getElem?_eq_getElem hk, List.getElem?_eq_getElem (show k < G.length by omega)]
  rfl
def lastS (F : List Sg) (k : Nat) : Sg := if k = 0 then s0g else F.getD (k - 1) s0g
theorem terG_last {F : List Sg} {k : Nat} (hk : k < F.length) (hF : ∀ x ∈ F, okS x = true) : (terG false s0g F).getD k s0g = if sqE (F.getD k s0g) (lastS F k) = true then s0g else F.getD k s0g := by
  have hkk : F[k]? = some (F.getD k s0g) := by simp [List.getD_eq_getElem?_getD, List.getElem?_eq_getElem hk]
  by_cases h0 : k = 0
  · subst h0
    have h := terG_at0 F _ hkk
    have hv := (okS_ne (hF _ (List.mem_of_getElem? hkk))).1
    rw [List.getD_eq_getElem?_getD, h]
    have : sqE (F.getD 0 s0g) (lastS F 0) = false := by
      cases hs : sqE (F.getD 0 s0g) (lastS F 0) with
      | false => rfl
      | true => exact absurd (sqE_eq hs).1 hv
    rw [this]
    rfl
  · obtain ⟨j, rfl⟩ : ∃ j, k = j + 1 := ⟨k - 1, by omega⟩
    have hj : F[j]? = some (F.getD j s0g) := by simp [List.getD_eq_getElem?_getD, List.getElem?_eq_getElem (show j < F.length by omega)]
    have h := terG_at1 F j false s0g _ _ hj hkk
    rw [List.getD_eq_getElem?_getD, h]
    rfl

set_option maxRecDepth 100000 in
set_option maxHeartbeats 16000000 in
theorem law_pter (A : Option Addr) (n c : Nat) (A' : Option Addr) (m c' : Nat) (A2 : Option Addr) (q cq : Nat) (C : List Cr) (S : List Int) (P : List EvP) (w : World) (hT : SgT w) (hP : PcIn w A n c A' m c' A2 q cq C S P) :
    Calls Tryd.prog 4 #[pcV A n c A' m c' A2 q cq] w fun e w' => e = .returned (.bool true) ∧ Below w.heap.size w w' := by
  have HE : Hid (∀ w', Below (w.alloc (pcO A n c A' m c' A2 q cq)).heap.size (w.alloc (pcO A n c A' m c' A2 q cq)) w' → SgT w' ∧ PcIn w' A n c A' m c' A2 q cq C S P) :=
    fun w' h => ⟨(hT.below (ba _ _)).below h, (hP.below (ba _ _)).below h⟩
  have hql := hP.es.hq
  have hnl := hP.hn
  have hml := hP.hm
  have HI := Lib.hid (HE.out _ (Below.refl _ _)).2
  clear hT hP
  cases hbg : pbigB n m P with
  | true =>
    have HB := Lib.hid hbg
    clear hbg hql hnl hml
    go_enter Tryd.func4, Tryd.ntmps4
    go_wp2_with (first | (go_at_call 14; refine (pbig_any A n c A' m c' A2 q cq P _ HI.out.es).mono ?_; rintro e w1 ⟨rfl, hb1⟩; rw [HB.out]; have T := hb1; clear hb1; obtain ⟨x0, x1, x2⟩ := cell3 T) | (go_at_call 15; refine (works2 _ (HE.out _ T).1).mono ?_; rintro e wz ⟨rfl, hbz⟩))
    go_ret
    exact ⟨rfl, bx (bt T hbz)⟩
  | false =>
    have HB := Lib.hid hbg
    obtain ⟨l1, l2, l3, l4⟩ := pbigB_no hbg
    have b1 : n ≤ 65536 := by omega
    have b2 : m ≤ 65536 := by omega
    have b3 : q ≤ 65536 := by omega
    have HST : Hid (∀ y ∈ P, y.L.length ≤ 65536) := fun y hy => Nat.le_trans (l4 y hy) (by omega)
    have HSU : Hid (∀ y ∈ P, y.L.length ≤ 1000000) := fun y hy => Nat.le_trans (l4 y hy) (by omega)
    have CC := Lib.hid (fun w' (h : PcIn w' A n c A' m c' A2 q cq C S P) => pcopy_any A n c A' m c' A2 q cq C S P w' h b1 b2 b3 HST.out)
    have CK := Lib.hid (fun w' (h : PcIn w' A n c A' m c' A2 q cq C S P) => rpcheck_any A n c A' m c' A2 q cq C S P w' h (by omega) (by omega) (by omega) HSU.out)
    obtain ⟨X, hX⟩ : ∃ X, pcErr C S P = X := ⟨_, rfl⟩
    rw [hX] at CK
    by_cases hX0 : X = 0
    rotate_left
    · have hXb : (X == 0) = false := by simpa using hX0
      have hXn : (X != 0) = true := by simpa using hX0
      clear hX hX0 hbg l1 l2 l3 l4 hql hnl hml
      go_enter Tryd.func4, Tryd.ntmps4
      go_wp2_with (first | (go_at_call 14; refine (pbig_any A n c A' m c' A2 q cq P _ HI.out.es).mono ?_; rintro e w1 ⟨rfl, hb1⟩; rw [HB.out]; have T := hb1; clear hb1; obtain ⟨x0, x1, x2⟩ := cell3 T) | (go_at_call 26; refine (CK.out _ (HE.out _ T).2).mono ?_; rintro e wq ⟨rfl, hbq⟩; replace T := bt T hbq; clear hbq; clear x0 x1 x2; obtain ⟨x0, x1, x2⟩ := cell3 T) | (go_at_call 15; refine (works2 _ (HE.out _ T).1).mono ?_; rintro e wz ⟨rfl, hbz⟩))
      go_ret
      exact ⟨rfl, bx (bt T hbz)⟩
    subst hX0
    have hR := sgr_of hX
    have hok := frc_ok0 hX
    have hter := terse_out hX
    have hpla := plain_out hR
    obtain ⟨F, hF⟩ : ∃ F, frcL s0g P = F := ⟨_, rfl⟩
    have hFl : F.length = P.length := by rw [← hF, frcL_len]
    rw [hF] at hok hter hpla
    have hv1 : pcErr C S (setG P F) = 0 := set_valid hX hFl (fun j g hg => .inl (hok g (List.mem_of_getElem? hg)))
    have hGl : (terG false s0g F).length = P.length := by rw [terG_len, hFl]
    have hv2 : pcErr C S (setG P (terG false s0g F)) = 0 := set_valid hX hGl (fun j g hg => by
      rcases terG_ok F false s0g hok j g hg with h | ⟨h, h2⟩
      · exact .inl h
      · exact .inr ⟨h, by rcases h2 with h2 | h2; cases h2; exact h2⟩)
    have ha1 : alikeB C S (setG P F) C S P = true := alike_set hX hFl hv1 (by rw [frc_setF P F s0g hFl hok, hF])
    have ha2 : alikeB C S (setG P (terG false s0g F)) C S P = true := alike_set hX hGl hv2 (by rw [frc_ter P F s0g false hFl hok, hF])
    have hp2 : (rwO plainSt () (tpL (setG P (terG false s0g F)))).1 = setG P F := by
      rw [plain_out (sgr_of hv2), frc_ter P F s0g false hFl hok, setG_setG P _ F hGl hFl]
    have ht2 : (rwO terseSt s0g (tpL (setG P F))).1 = setG P (terG false s0g F) := by
      rw [terse_out hv1, frc_setF P F s0g hFl hok, setG_setG P F _ hFl hGl]
    have hLs : ∀ (P : List EvP) (G : List Sg), (∀ y ∈ P, y.L.length ≤ 1000000) → ∀ y ∈ setG P G, y.L.length ≤ 1000000 := by
      intro P
      induction P with
      | nil => intro G h y hy; cases G <;> exact h y hy
      | cons x P ih =>
        intro G h y hy
        cases G with
        | nil => exact h y hy
        | cons g G =>
          rcases List.mem_cons.1 hy with rfl | hy
          · exact h x List.mem_cons_self
          · exact ih G (fun z hz => h z (List.mem_cons_of_mem _ hz)) y hy
    have HS1 := Lib.hid (hLs P F HSU.out)
    have HS2 := Lib.hid (hLs P (terG false s0g F) HSU.out)
    have HGK : Hid (∀ k, k < q → okS (F.getD k s0g) = true ∧ (setG P F).getD k z6 = upS (P.getD k z6) (F.getD k s0g) ∧ (setG P (terG false s0g F)).getD k z6 = upS (P.getD k z6) (if sqE (F.getD k s0g) (lastS F k) = true then s0g else F.getD k s0g)) := fun k hk => by
      refine ⟨hok _ (List.mem_of_getElem? (i := k) (by simp [List.getD_eq_getElem?_getD, List.getElem?_eq_getElem (show k < F.length by omega)])), setG_getD P F k hFl (by omega), ?_⟩
      rw [setG_getD P _ k hGl (by omega), terG_last (by omega) hok]
    have hln1 : (setG P F).length = P.length := setG_len P F
    have hln2 : (setG P (terG false s0g F)).length = P.length := setG_len P _
    have HLN0 : Hid (lastS F 0 = s0g ∧ ∀ k, lastS F (k + 1) = F.getD k s0g) := ⟨rfl, fun k => rfl⟩
    generalize setG P F = PL at *
    generalize setG P (terG false s0g F) = TL at *
    have PL1 : Hid (∀ (B : Option Addr) (e : Nat) (B' : Option Addr) (e' : Nat) (B2 : Option Addr) (e2 : Nat) w' (_ : PcIn w' B n e B' m e' B2 q e2 C S P), Calls Tryd.prog 17 #[pcV B n e B' m e' B2 q e2] w' (PcUse 0 C S PL w')) := fun B e B' e' B2 e2 w' h => by
      refine (plain_any B n e B' m e' B2 q e2 C S P w' h (by omega) (by omega) b3 HSU.out).mono (fun e w2 hr => ?_)
      rw [hpla, hX] at hr
      exact hr.use (by omega) (by omega) (by omega)
    have TE1 : Hid (∀ (B : Option Addr) (e : Nat) (B' : Option Addr) (e' : Nat) (B2 : Option Addr) (e2 : Nat) w' (_ : PcIn w' B n e B' m e' B2 q e2 C S P), Calls Tryd.prog 20 #[pcV B n e B' m e' B2 q e2] w' (PcUse 0 C S TL w')) := fun B e B' e' B2 e2 w' h => by
      refine (terse_any B n e B' m e' B2 q e2 C S P w' h (by omega) (by omega) b3 HSU.out).mono (fun e w2 hr => ?_)
      rw [hter, hX] at hr
      exact hr.use (by omega) (by omega) (by omega)
    have PLB : Hid (∀ (B : Option Addr) (n2 e : Nat) (B' : Option Addr) (m2 e' : Nat) (B2 : Option Addr) (q2 e2 : Nat) w' (_ : n2 ≤ 65536 ∧ m2 ≤ 65536 ∧ q2 ≤ 65536) (_ : PcIn w' B n2 e B' m2 e' B2 q2 e2 C S TL), Calls Tryd.prog 17 #[pcV B n2 e B' m2 e' B2 q2 e2] w' (PcUse 0 C S PL w')) := fun B n2 e B' m2 e' B2 q2 e2 w' hb h => by
      refine (plain_any B n2 e B' m2 e' B2 q2 e2 C S TL w' h (by omega) (by omega) hb.2.2 HS2.out).mono (fun e w2 hr => ?_)
      rw [hp2, hv2] at hr
      exact hr.use (by omega) (by omega) (by omega)
    have TEA : Hid (∀ (B : Option Addr) (n2 e : Nat) (B' : Option Addr) (m2 e' : Nat) (B2 : Option Addr) (q2 e2 : Nat) w' (_ : n2 ≤ 65536 ∧ m2 ≤ 65536 ∧ q2 ≤ 65536) (_ : PcIn w' B n2 e B' m2 e' B2 q2 e2 C S PL), Calls Tryd.prog 20 #[pcV B n2 e B' m2 e' B2 q2 e2] w' (PcUse 0 C S TL w')) := fun B n2 e B' m2 e' B2 q2 e2 w' hb h => by
      refine (terse_any B n2 e B' m2 e' B2 q2 e2 C S PL w' h (by omega) (by omega) hb.2.2 HS1.out).mono (fun e w2 hr => ?_)
      rw [ht2, hv1] at hr
      exact hr.use (by omega) (by omega) (by omega)
    have ALA : Hid (∀ (G : List EvP) (_ : alikeB C S G C S P = true) (_ : ∀ y ∈ G, y.L.length ≤ 1000000) (B : Option Addr) (n2 e : Nat) (B' : Option Addr) (m2 e' : Nat) (B2 : Option Addr) (q2 e2 : Nat) (_ : n2 ≤ 65536 ∧ m2 ≤ 65536 ∧ q2 ≤ 65536) (D : Option Addr) (g : Nat) (D' : Option Addr) (g' : Nat) (D2 : Option Addr) (g2 : Nat) w' (_ : PcIn w' B n2 e B' m2 e' B2 q2 e2 C S G) (_ : PcIn w' D n g D' m g' D2 q g2 C S P), Calls Tryd.prog 27 #[pcV B n2 e B' m2 e' B2 q2 e2, pcV D n g D' m g' D2 q g2] w' fun e w2 => e = .returned (.bool true) ∧ Below w'.heap.size w' w2) := fun G hG hg B n2 e B' m2 e' B2 q2 e2 hb D g D' g' D2 g2 w' h h2 => by
      refine (pcAlike_any B n2 e B' m2 e' B2 q2 e2 D n g D' m g' D2 q g2 C S G C S P w' h h2 hb.1 hb.2.1 hb.2.2 b1 b2 b3 hg HSU.out).mono ?_
      rintro e w2 ⟨rfl, hb⟩
      rw [hG]
      exact ⟨rfl, hb⟩
    have SMA : Hid (∀ (G : List EvP) (_ : ∀ y ∈ G, y.L.length ≤ 1000000) (B : Option Addr) (n2 e : Nat) (B' : Option Addr) (m2 e' : Nat) (B2 : Option Addr) (q2 e2 : Nat) (_ : n2 ≤ 65536 ∧ m2 ≤ 65536 ∧ q2 ≤ 65536) (D : Option Addr) (n3 g : Nat) (D' : Option Addr) (m3 g' : Nat) (D2 : Option Addr) (q3 g2 : Nat) (_ : n3 ≤ 65536 ∧ m3 ≤ 65536 ∧ q3 ≤ 65536) w' (_ : PcIn w' B n2 e B' m2 e' B2 q2 e2 C S G) (_ : PcIn w' D n3 g D' m3 g' D2 q3 g2 C S G), Calls Tryd.prog 28 #[pcV B n2 e B' m2 e' B2 q2 e2, pcV D n3 g D' m3 g' D2 q3 g2] w' fun e w2 => e = .returned (.bool true) ∧ Below w'.heap.size w' w2) := fun G hg B n2 e B' m2 e' B2 q2 e2 hb D n3 g D' m3 g' D2 q3 g2 hb2 w' h h2 => by
      refine (pcSame_any B n2 e B' m2 e' B2 q2 e2 D n3 g D' m3 g' D2 q3 g2 C S G C S G w' h h2 hb.1 hb.2.1 hb.2.2 hb2.1 hb2.2.1 hb2.2.2 hg hg).mono ?_
      rintro e w2 ⟨rfl, hb⟩
      rw [pcEqB_refl]
      exact ⟨rfl, hb⟩
    have HA1 := Lib.hid ha1
    have HA2 := Lib.hid ha2
    have HLP := Lib.hid (show PL.length = q by omega)
    have HLT := Lib.hid (show TL.length = q by omega)
    clear hbg l1 l2 l3 l4 hql hnl hml hX hR hok hter hpla hF hFl hv1 hv2 hGl ha1 ha2 hp2 ht2 hLs hln1 hln2
    unfold PcUse at PL1 TE1 PLB TEA
    go_enter Tryd.func4, Tryd.ntmps4
    go_wp2_with (first
      | (go_at_call 14; refine (pbig_any A n c A' m c' A2 q cq P _ HI.out.es).mono ?_; rintro e w1 ⟨rfl, hb1⟩; rw [HB.out]; have T := hb1; clear hb1; obtain ⟨x0, x1, x2⟩ := cell3 T)
      | (go_at_call 26; refine (CK.out _ (HE.out _ T).2).mono ?_; rintro e wq ⟨rfl, hbq⟩; replace T := bt T hbq; clear hbq; clear x0 x1 x2; obtain ⟨x0, x1, x2⟩ := cell3 T)
      | (go_at_call 16; have TA' := TA; refine (CC.out _ (HE.out _ T).2).mono ?_; rintro e wc ⟨B, d, B', d', B2, d2, rfl, hPc, hbc⟩; replace T := bt T hbc; replace TA := bt TA hbc; have HPc := Lib.hid hPc; clear hPc hbc TA'; clear a0 a1 a2; obtain ⟨a0, a1, a2⟩ := cell3 TA; clear x0 x1 x2; obtain ⟨x0, x1, x2⟩ := cell3 T)
      | (go_at_call 16; refine (CC.out _ (HE.out _ T).2).mono ?_; rintro e wc ⟨B, d, B', d', B2, d2, rfl, hPc, hbc⟩; replace T := bt T hbc; have HPc := Lib.hid hPc; clear hPc hbc; clear x0 x1 x2; obtain ⟨x0, x1, x2⟩ := cell3 T)
      | (go_at_call 17; (with_reducible refine (PL1.out _ _ _ _ _ _ _ HPc.out).mono ?_); rintro e wa ⟨Ba, na, da, Ba', ma, da', Ba2, qa, da2, rfl, hPa, hba, hla⟩; replace T := bt T (bt hla (ba wa (pcO Ba na da Ba' ma da' Ba2 qa da2))); have HA := Lib.hid (And.intro (hPa.below (ba wa (pcO Ba na da Ba' ma da' Ba2 qa da2))) (And.intro (heap_alloc_new wa (pcO Ba na da Ba' ma da' Ba2 qa da2)) hba)); have TA := Below.refl (World.alloc wa (pcO Ba na da Ba' ma da' Ba2 qa da2)).heap.size (World.alloc wa (pcO Ba na da Ba' ma da' Ba2 qa da2)); clear hPa hba hla; obtain ⟨a0, a1, a2⟩ := cell3 TA; clear x0 x1 x2; obtain ⟨x0, x1, x2⟩ := cell3 T)
      | (go_at_call 20; (with_reducible refine (TE1.out _ _ _ _ _ _ _ HPc.out).mono ?_); rintro e wb ⟨Bb, nb, db, Bb', mb, db', Bb2, qb, db2, rfl, hPb, hbb, hlb⟩; have hl2 := bt hlb (ba wb (pcO Bb nb db Bb' mb db' Bb2 qb db2)); replace T := bt T hl2; replace TA := bt TA hl2; have HAB := Lib.hid (And.intro (HA.out.1.below TA) (And.intro HA.out.2.2 (And.intro (hPb.below (ba wb (pcO Bb nb db Bb' mb db' Bb2 qb db2))) hbb))); have HBL := Lib.hid (And.intro (Blk.below (show Blk (World.alloc wa (pcO Ba na da Ba' ma da' Ba2 qa da2)) wa.heap.size 28 #[.slice Ba na da, .slice Ba' ma da', .slice Ba2 qa da2] from HA.out.2.1) TA) (heap_alloc_new wb (pcO Bb nb db Bb' mb db' Bb2 qb db2))); clear hPb hbb hlb hl2 a0 a1 a2 x0 x1 x2))
    obtain rfl : q = qa := by have h1 := HAB.out.1.es.hq; have := HLP.out; omega
    obtain rfl : q = qb := by have h1 := HAB.out.2.2.1.es.hq; have := HLT.out; omega
    have HTT := Lib.hid T
    obtain ⟨W2, hW2⟩ : ∃ x, World.alloc wb (pcO Bb nb db Bb' mb db' Bb2 q db2) = x := ⟨_, rfl⟩
    rw [hW2] at HTT HAB HBL ⊢
    obtain ⟨ga, hga⟩ : ∃ g, wa.heap.size = g := ⟨_, rfl⟩
    obtain ⟨gb, hgb⟩ : ∃ g, wb.heap.size = g := ⟨_, rfl⟩
    rw [hga, hgb] at HBL ⊢
    have HC : Hid (∀ w', Below W2.heap.size W2 w' → ((w'.cell? ⟨w.heap.size, 0, none⟩ = some (.slice A n c) ∧ w'.cell? ⟨w.heap.size, 1, none⟩ = some (.slice A' m c') ∧ w'.cell? ⟨w.heap.size, 2, none⟩ = some (.slice A2 q cq)) ∧ (w'.cell? ⟨ga, 0, none⟩ = some (.slice Ba na da) ∧ w'.cell? ⟨ga, 1, none⟩ = some (.slice Ba' ma da') ∧ w'.cell? ⟨ga, 2, none⟩ = some (.slice Ba2 q da2)) ∧ (w'.cell? ⟨gb, 0, none⟩ = some (.slice Bb nb db) ∧ w'.cell? ⟨gb, 1, none⟩ = some (.slice Bb' mb db') ∧ w'.cell? ⟨gb, 2, none⟩ = some (.slice Bb2 q db2)) ∧ ga < w'.heap.size ∧ gb < w'.heap.size)) := fun w' h => by
      have k1 := Blk.below HBL.out.1 h
      have k2 := Blk.below (g := gb) (t := 28) (cs := #[.slice Bb nb db, .slice Bb' mb db', .slice Bb2 q db2]) HBL.out.2 h
      exact ⟨cell3 (bt HTT.out h), ⟨by simpa using k1.cell 0, by simpa using k1.cell 1, by simpa using k1.cell 2⟩, ⟨by simpa using k2.cell 0, by simpa using k2.cell 1, by simpa using k2.cell 2⟩, k1.lt, k2.lt⟩
    have HQ : Hid (∀ w', Below W2.heap.size W2 w' → (SgT w' ∧ PcIn w' A n c A' m c' A2 q cq C S P) ∧ PcIn w' Ba na da Ba' ma da' Ba2 q da2 C S PL ∧ PcIn w' Bb nb db Bb' mb db' Bb2 q db2 C S TL) := fun w' h =>
      ⟨HE.out _ (bt HTT.out h), HAB.out.1.below h, HAB.out.2.2.1.below h⟩
    have AL1 := Lib.hid (ALA.out PL HA1.out HS1.out _ _ _ _ _ _ _ _ _ HAB.out.2.1 : ∀ (D : Option Addr) (g : Nat) (D' : Option Addr) (g' : Nat) (D2 : Option Addr) (g2 : Nat) w' (_ : PcIn w' Ba na da Ba' ma da' Ba2 q da2 C S PL) (_ : PcIn w' D n g D' m g' D2 q g2 C S P), Calls Tryd.prog 27 #[pcV Ba na da Ba' ma da' Ba2 q da2, pcV D n g D' m g' D2 q g2] w' fun e w2 => e = .returned (.bool true) ∧ Below w'.heap.size w' w2)
    have AL2 := Lib.hid (ALA.out TL HA2.out HS2.out _ _ _ _ _ _ _ _ _ HAB.out.2.2.2 : ∀ (D : Option Addr) (g : Nat) (D' : Option Addr) (g' : Nat) (D2 : Option Addr) (g2 : Nat) w' (_ : PcIn w' Bb nb db Bb' mb db' Bb2 q db2 C S TL) (_ : PcIn w' D n g D' m g' D2 q g2 C S P), Calls Tryd.prog 27 #[pcV Bb nb db Bb' mb db' Bb2 q db2, pcV D n g D' m g' D2 q g2] w' fun e w2 => e = .returned (.bool true) ∧ Below w'.heap.size w' w2)
    have PL2 := Lib.hid (fun w' h => PLB.out Bb nb db Bb' mb db' Bb2 q db2 w' HAB.out.2.2.2 h)
    have TE2 := Lib.hid (fun w' h => TEA.out Ba na da Ba' ma da' Ba2 q da2 w' HAB.out.2.1 h)
    have SM1 := Lib.hid (fun (B : Option Addr) (n2 e : Nat) (B' : Option Addr) (m2 e' : Nat) (B2 : Option Addr) (q2 e2 : Nat) w' (h : PcIn w' B n2 e B' m2 e' B2 q2 e2 C S PL) (hb : n2 ≤ 65536 ∧ m2 ≤ 65536 ∧ q2 ≤ 65536) h2 => SMA.out PL HS1.out B n2 e B' m2 e' B2 q2 e2 hb Ba na da Ba' ma da' Ba2 q da2 HAB.out.2.1 w' h h2)
    have SM2 := Lib.hid (fun (B : Option Addr) (n2 e : Nat) (B' : Option Addr) (m2 e' : Nat) (B2 : Option Addr) (q2 e2 : Nat) w' (h : PcIn w' B n2 e B' m2 e' B2 q2 e2 C S TL) (hb : n2 ≤ 65536 ∧ m2 ≤ 65536 ∧ q2 ≤ 65536) h2 => SMA.out TL HS2.out B n2 e B' m2 e' B2 q2 e2 hb Bb nb db Bb' mb db' Bb2 q db2 HAB.out.2.2.2 w' h h2)
    clear T TA hW2 hga hgb HBL HAB HA HPc PL1 TE1 PLB TEA ALA SMA HA1 HA2 HI HB CK HS1 HS2
    obtain ⟨⟨x0, x1, x2⟩, ⟨a0, a1, a2⟩, ⟨b0, b1, b2⟩, za, zb⟩ := HC.out _ (Below.refl _ _)
    have T := (Below.refl W2.heap.size W2).drew
    go_region_held_law (fun w' => ((w'.cell? ⟨w.heap.size, 0, none⟩ = some (.slice A n c) ∧ w'.cell? ⟨w.heap.size, 1, none⟩ = some (.slice A' m c') ∧ w'.cell? ⟨w.heap.size, 2, none⟩ = some (.slice A2 q cq)) ∧ (w'.cell? ⟨ga, 0, none⟩ = some (.slice Ba na da) ∧ w'.cell? ⟨ga, 1, none⟩ = some (.slice Ba' ma da') ∧ w'.cell? ⟨ga, 2, none⟩ = some (.slice Ba2 q da2)) ∧ (w'.cell? ⟨gb, 0, none⟩ = some (.slice Bb nb db) ∧ w'.cell? ⟨gb, 1, none⟩ = some (.slice Bb' mb db') ∧ w'.cell? ⟨gb, 2, none⟩ = some (.slice Bb2 q db2)) ∧ ga < w'.heap.size ∧ gb < w'.heap.size))
      (exact HC.out _ T)
      (first
        | (go_at_call 16; (with_reducible refine (CC.out _ (HQ.out _ T).1.2).mono ?_); rintro e wc ⟨B, d, B', d', B2, d2, rfl, hPc, hbc⟩; replace T := bt T hbc; have HPc := Lib.hid hPc; clear hPc)
        | (go_at_call 27; (with_reducible refine (AL1.out _ _ _ _ _ _ _ (HQ.out _ T).2.1 HPc.out).mono ?_); rintro e wd ⟨rfl, hbd⟩; replace T := bt T hbd)
        | (go_at_call 27; (with_reducible refine (AL2.out _ _ _ _ _ _ _ (HQ.out _ T).2.2 HPc.out).mono ?_); rintro e wd ⟨rfl, hbd⟩; replace T := bt T hbd))
    clear x0 x1 x2 a0 a1 a2 b0 b1 b2 za zb; obtain ⟨⟨x0, x1, x2⟩, ⟨a0, a1, a2⟩, ⟨b0, b1, b2⟩, za, zb⟩ := HC.out _ T
    go_wp2_with (first
      | (go_at_call 17; (with_reducible refine (PL2.out _ (HQ.out _ T).2.2).mono ?_); rintro e we ⟨Be, ne, de, Be', me, de', Be2, qe, de2, rfl, hPe, hbe, hle⟩; have hl2 := bt hle (ba we (pcO Be ne de Be' me de' Be2 qe de2)); replace T := bt T hl2; have HEE := Lib.hid (And.intro (hPe.below (ba we (pcO Be ne de Be' me de' Be2 qe de2))) hbe); have TE := Below.refl (we.alloc (pcO Be ne de Be' me de' Be2 qe de2)).heap.size (we.alloc (pcO Be ne de Be' me de' Be2 qe de2)); obtain ⟨e0, e1, e2⟩ := cell3 TE; clear hPe hbe hle hl2; clear x0 x1 x2 a0 a1 a2 b0 b1 b2 za zb; obtain ⟨⟨x0, x1, x2⟩, ⟨a0, a1, a2⟩, ⟨b0, b1, b2⟩, za, zb⟩ := HC.out _ T)
      | (go_at_call 20; (with_reducible refine (TE2.out _ (HQ.out _ T).2.1).mono ?_); rintro e wf ⟨Bf, nf, df, Bf', mf, df', Bf2, qf, df2, rfl, hPf, hbf, hlf⟩; have hl2 := bt hlf (ba wf (pcO Bf nf df Bf' mf df' Bf2 qf df2)); replace T := bt T hl2; replace TE := bt TE hl2; have HFF := Lib.hid (And.intro (hPf.below (ba wf (pcO Bf nf df Bf' mf df' Bf2 qf df2))) hbf); have TF := Below.refl (wf.alloc (pcO Bf nf df Bf' mf df' Bf2 qf df2)).heap.size (wf.alloc (pcO Bf nf df Bf' mf df' Bf2 qf df2)); obtain ⟨f0, f1, f2⟩ := cell3 TF; clear hPf hbf hlf hl2 e0 e1 e2; obtain ⟨e0, e1, e2⟩ := cell3 TE; clear x0 x1 x2 a0 a1 a2 b0 b1 b2 za zb; obtain ⟨⟨x0, x1, x2⟩, ⟨a0, a1, a2⟩, ⟨b0, b1, b2⟩, za, zb⟩ := HC.out _ T)
      | (go_at_call 28; (with_reducible refine (SM1.out _ _ _ _ _ _ _ _ _ _ (HEE.out.1.below TE) HEE.out.2 (HQ.out _ T).2.1).mono ?_); rintro e wg ⟨rfl, hbg⟩; replace T := bt T hbg; replace TE := bt TE hbg; replace TF := bt TF hbg; clear hbg f0 f1 f2; obtain ⟨f0, f1, f2⟩ := cell3 TF; clear x0 x1 x2 a0 a1 a2 b0 b1 b2 za zb; obtain ⟨⟨x0, x1, x2⟩, ⟨a0, a1, a2⟩, ⟨b0, b1, b2⟩, za, zb⟩ := HC.out _ T)
      | (go_at_call 28; (with_reducible refine (SM2.out _ _ _ _ _ _ _ _ _ _ (HFF.out.1.below TF) HFF.out.2 (HQ.out _ T).2.2).mono ?_); rintro e wh ⟨rfl, hbh⟩; replace T := bt T hbh; clear hbh; clear x0 x1 x2 a0 a1 a2 b0 b1 b2 za zb; obtain ⟨⟨x0, x1, x2⟩, ⟨a0, a1, a2⟩, ⟨b0, b1, b2⟩, za, zb⟩ := HC.out _ T))
    have HTH := Lib.hid T
    clear T TE TF HEE HFF x0 x1 x2 a0 a1 a2 b0 b1 b2 e0 e1 e2 f0 f1 f2 za zb AL1 AL2 PL2 TE2 SM1 SM2
    go_loopw [10] (fun i wr => ∃ k : Nat, k ≤ q ∧ i = .int .i64 k ∧ ∃ s : Sg, Hid (s = lastS F k) ∧ Below wh.heap.size wh wr ∧ Blk wr wh.heap.size 38 #[.int .i64 s.v, .bool s.d, .bool s.t]) (fun i _ => q - (intOf i).toNat)
    case atStart => exact ⟨0, by omega, rfl, s0g, HLN0.out.1.symm, ba wh _, heap_alloc_new wh _⟩
    case round =>
      obtain ⟨k, hk, rfl, ⟨lv, ld, lt⟩, HL, hbw, hls0⟩ := hrel
      dsimp only at hls0
      have HW2 := Lib.hid hbw
      have HWW := Lib.hid (bt HTH.out hbw)
      clear hbw
      by_cases hlt : k < q
      · have hkn : (k : Int) < (q : Int) := by omega
        obtain ⟨_, _, ⟨b0, b1, b2⟩, za, zb⟩ := HC.out _ HWW.out
        obtain ⟨g2, o2, sa2, sc2, rfl, hB2, _, _, ⟨_, c1, c2, c3, _, _⟩, _⟩ := (HQ.out _ HWW.out).2.2.es.at hlt
        obtain ⟨g1, o1, sa1, sc1, rfl, hB1, _, _, ⟨_, d1, d2, d3, _, _⟩, _⟩ := (HQ.out _ HWW.out).2.1.es.at hlt
        obtain ⟨hfo, hpk, htk⟩ := HGK.out k hlt
        have HLN := Lib.hid (HLN0.out.2 k).symm
        rw [hpk] at d1 d2 d3
        rw [← HL.out] at htk
        clear hpk
        generalize F.getD k s0g = f at *
        obtain ⟨fv, fd, ft⟩ := f
        dsimp only [upS] at d1 d2 d3
        have HTK : Hid ((tkV fv fd ft == 0) = false) := tkV_pos2 hfo
        have htk0 := HTK.out
        by_cases hE : sqE ⟨fv, fd, ft⟩ ⟨lv, ld, lt⟩ = true
        · obtain ⟨h1, h2, h3⟩ := sqE_eq hE
          dsimp only at h1 h2 h3
          subst h1 h2 h3
          rw [if_pos hE] at htk
          rw [htk] at c1 c2 c3
          dsimp only [upS, s0g] at c1 c2 c3
          have HLS := Lib.hid (hls0.below (ba wr (.cells #[.int .i64 0, .bool false, .bool false] 38)))
          have e1 := cell_same ((ba wr (.cells #[.int .i64 0, .bool false, .bool false] 38)).block _ hB1) d1
          have e2 := cell_same ((ba wr (.cells #[.int .i64 0, .bool false, .bool false] 38)).block _ hB1) d2
          have e3 := cell_same ((ba wr (.cells #[.int .i64 0, .bool false, .bool false] 38)).block _ hB1) d3
          obtain ⟨_, ⟨a0, a1, a2⟩, _, _, _⟩ := HC.out _ (bt HWW.out (ba wr (.cells #[.int .i64 0, .bool false, .bool false] 38)))
          clear hls0 htk hfo hE
          go_wp2_with ((go_at_call 29; refine (ticks_any _ _ _ _).mono ?_; rintro e wt ⟨rfl, hbt⟩; obtain ⟨s0, s1, s2⟩ := sgC hbt; have hls := HLS.out.below hbt; have t0 := hls.frozen 0; have t1 := hls.frozen 1; have t2 := hls.frozen 2; have m0 := hls.cell 0; have m1 := hls.cell 1; have m2 := hls.cell 2; simp at m0 m1 m2))
          go_roundw
          case rel => exact ⟨k + 1, by omega, by first | rfl | go_num, ⟨fv, fd, ft⟩, HLN.out, bt HW2.out (bx hbt), hls⟩
          case measure => simp [intOf]; omega

        · obtain ⟨_, ⟨a0, a1, a2⟩, _, _, _⟩ := HC.out _ (bt HWW.out (ba wr (.cells #[.int .i64 fv, .bool fd, .bool ft] 38)))
          by_cases g1 : fv = lv
          rotate_left
          · have hxb : (fv == lv) = false := beq_eq_false_iff_ne.2 g1
            rw [if_neg hE] at htk
            rw [htk] at c1 c2 c3
            dsimp only [upS] at c1 c2 c3
            have hf0 : (fv == 0) = false := by simpa using (okS_ne hfo).1
            have hf1 : decide (fv = 0) = false := by simpa using (okS_ne hfo).1
            have HLS := Lib.hid (hls0.below (ba wr (.cells #[.int .i64 fv, .bool fd, .bool ft] 38)))
            have e1 := cell_same ((ba wr (.cells #[.int .i64 fv, .bool fd, .bool ft] 38)).block _ hB1) d1
            have e2 := cell_same ((ba wr (.cells #[.int .i64 fv, .bool fd, .bool ft] 38)).block _ hB1) d2
            have e3 := cell_same ((ba wr (.cells #[.int .i64 fv, .bool fd, .bool ft] 38)).block _ hB1) d3
            have hl := hls0.lt
            have l0 := hls0.cell 0
            have l1 := hls0.cell 1
            have l2 := hls0.cell 2
            simp at l0 l1 l2
            clear hls0 htk hfo hE
            clear g1
            go_wp2_with ((go_at_call 29; refine (ticks_any _ _ _ _).mono ?_; rintro e wt ⟨rfl, hbt⟩; obtain ⟨s0, s1, s2⟩ := sgC hbt; have hls := HLS.out.below hbt; have t0 := hls.frozen 0; have t1 := hls.frozen 1; have t2 := hls.frozen 2; have m0 := hls.cell 0; have m1 := hls.cell 1; have m2 := hls.cell 2; simp at m0 m1 m2))
            go_roundw
            case rel => exact ⟨k + 1, by omega, by first | rfl | go_num, ⟨fv, fd, ft⟩, HLN.out, (((bt HW2.out (bx hbt)).setCell (p := ⟨wh.heap.size, 0, none⟩) (by simp) _).setCell (p := ⟨wh.heap.size, 1, none⟩) (by simp) _).setCell (p := ⟨wh.heap.size, 2, none⟩) (by simp) _, by simpa using (((hls.set_ 0 (.int .i64 fv)).set_ 1 (.bool fd)).set_ 2 (.bool ft))⟩
            case measure => simp [intOf]; omega

          subst g1
          by_cases g2 : fd = ld
          rotate_left
          · have hxb : (fd == ld) = false := beq_eq_false_iff_ne.2 g2
            rw [if_neg hE] at htk
            rw [htk] at c1 c2 c3
            dsimp only [upS] at c1 c2 c3
            have hf0 : (fv == 0) = false := by simpa using (okS_ne hfo).1
            have hf1 : decide (fv = 0) = false := by simpa using (okS_ne hfo).1
            have HLS := Lib.hid (hls0.below (ba wr (.cells #[.int .i64 fv, .bool fd, .bool ft] 38)))
            have e1 := cell_same ((ba wr (.cells #[.int .i64 fv, .bool fd, .bool ft] 38)).block _ hB1) d1
            have e2 := cell_same ((ba wr (.cells #[.int .i64 fv, .bool fd, .bool ft] 38)).block _ hB1) d2
            have e3 := cell_same ((ba wr (.cells #[.int .i64 fv, .bool fd, .bool ft] 38)).block _ hB1) d3
            have hl := hls0.lt
            have l0 := hls0.cell 0
            have l1 := hls0.cell 1
            have l2 := hls0.cell 2
            simp at l0 l1 l2
            clear hls0 htk hfo hE
            clear g2
            go_wp2_with ((go_at_call 29; refine (ticks_any _ _ _ _).mono ?_; rintro e wt ⟨rfl, hbt⟩; obtain ⟨s0, s1, s2⟩ := sgC hbt; have hls := HLS.out.below hbt; have t0 := hls.frozen 0; have t1 := hls.frozen 1; have t2 := hls.frozen 2; have m0 := hls.cell 0; have m1 := hls.cell 1; have m2 := hls.cell 2; simp at m0 m1 m2))
            go_roundw
            case rel => exact ⟨k + 1, by omega, by first | rfl | go_num, ⟨fv, fd, ft⟩, HLN.out, (((bt HW2.out (bx hbt)).setCell (p := ⟨wh.heap.size, 0, none⟩) (by simp) _).setCell (p := ⟨wh.heap.size, 1, none⟩) (by simp) _).setCell (p := ⟨wh.heap.size, 2, none⟩) (by simp) _, by simpa using (((hls.set_ 0 (.int .i64 fv)).set_ 1 (.bool fd)).set_ 2 (.bool ft))⟩
            case measure => simp [intOf]; omega

          subst g2
          by_cases g3 : ft = lt
          rotate_left
          · have hxb : (ft == lt) = false := beq_eq_false_iff_ne.2 g3
            rw [if_neg hE] at htk
            rw [htk] at c1 c2 c3
            dsimp only [upS] at c1 c2 c3
            have hf0 : (fv == 0) = false := by simpa using (okS_ne hfo).1
            have hf1 : decide (fv = 0) = false := by simpa using (okS_ne hfo).1
            have HLS := Lib.hid (hls0.below (ba wr (.cells #[.int .i64 fv, .bool fd, .bool ft] 38)))
            have e1 := cell_same ((ba wr (.cells #[.int .i64 fv, .bool fd, .bool ft] 38)).block _ hB1) d1
            have e2 := cell_same ((ba wr (.cells #[.int .i64 fv, .bool fd, .bool ft] 38)).block _ hB1) d2
            have e3 := cell_same ((ba wr (.cells #[.int .i64 fv, .bool fd, .bool ft] 38)).block _ hB1) d3
            have hl := hls0.lt
            have l0 := hls0.cell 0
            have l1 := hls0.cell 1
            have l2 := hls0.cell 2
            simp at l0 l1 l2
            clear hls0 htk hfo hE
            clear g3
            go_wp2_with ((go_at_call 29; refine (ticks_any _ _ _ _).mono ?_; rintro e wt ⟨rfl, hbt⟩; obtain ⟨s0, s1, s2⟩ := sgC hbt; have hls := HLS.out.below hbt; have t0 := hls.frozen 0; have t1 := hls.frozen 1; have t2 := hls.frozen 2; have m0 := hls.cell 0; have m1 := hls.cell 1; have m2 := hls.cell 2; simp at m0 m1 m2))
            go_roundw
            case rel => exact ⟨k + 1, by omega, by first | rfl | go_num, ⟨fv, fd, ft⟩, HLN.out, (((bt HW2.out (bx hbt)).setCell (p := ⟨wh.heap.size, 0, none⟩) (by simp) _).setCell (p := ⟨wh.heap.size, 1, none⟩) (by simp) _).setCell (p := ⟨wh.heap.size, 2, none⟩) (by simp) _, by simpa using (((hls.set_ 0 (.int .i64 fv)).set_ 1 (.bool fd)).set_ 2 (.bool ft))⟩
            case measure => simp [intOf]; omega

          exact absurd (by subst g3; simp [sqE]) hE
      · have hkn : ¬ ((k : Int) < (q : Int)) := by omega
        obtain ⟨_, _, ⟨b0, b1, b2⟩, za, zb⟩ := HC.out _ HWW.out
        go_wp2_with (go_at_call 15; refine (works2 _ (HQ.out _ HWW.out).1.1).mono ?_; rintro e wz ⟨rfl, hbz⟩)
        go_ret
        exact ⟨rfl, bx (bt (bt HTT.out HWW.out) hbz)⟩

end Go.Proofs.YtjobablfojnppaaDoor
