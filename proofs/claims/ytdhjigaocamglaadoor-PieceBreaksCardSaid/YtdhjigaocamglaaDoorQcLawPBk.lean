/- The law PieceBars returns true for every piece and distance. -/
import Derived.Test.YtdhjigaocamglaaDoorQcVt
import Derived.Test.YtdhjigaocamglaaDoorQcTrnC
import Derived.Test.YtdhjigaocamglaaDoorQcBk5
import Derived.Test.YtdhjigaocamglaaDoorQcSameI2
import Derived.Test.YtdhjigaocamglaaDoorQcWorks2
import Derived.Deep.CutRange
import Derived.Deep.RegionHeld3
import Derived.Test.YtdhjigaocamglaaDoorQcBk9
import Derived.Test.YtdhjigaocamglaaDoorQcCmp9
namespace Go.Proofs.YtdhjigaocamglaaDoor
open Go Go.RowKit

theorem brRes_len {C : List Cr} {S : List Int} {P : List EvP} {bar : Int} (h0 : pcErr C S P = 0) (he : brErr 0 bar P = 0) : (brRes bar P).length ≤ 400 := (pcErr_ok (break_valid h0 he)).2.1
theorem brRes_L {bar : Int} {P : List EvP} {C : List Cr} {S : List Int} (h0 : pcErr C S P = 0) (he : brErr 0 bar P = 0) {N : Nat} (h : ∀ y ∈ P, y.L.length ≤ N) : ∀ y ∈ brRes bar P, y.L.length ≤ N := by
  unfold brRes
  have hb : 1 ≤ bar := (bars_ok h0 he).1
  cases ha : brAll bar P with
  | none => intro y hy; cases hy
  | some a =>
    dsimp only
    have hI := break_own h0 hb ha
    refine mvL_Lc h P.length a.ev (fun y hy => ?_)
    obtain ⟨j, hj, rfl⟩ := List.getElem_of_mem hy
    rw [(hI.ev j _ (List.getElem?_eq_getElem hj)).1]
    exact Nat.zero_le _

end Go.Proofs.YtdhjigaocamglaaDoor

/- The law PieceBreaks returns true for every piece and distance. -/
namespace Go.Proofs.YtdhjigaocamglaaDoor
open Go Go.RowKit

set_option maxRecDepth 100000 in
set_option maxHeartbeats 16000000 in
theorem law_pbreaks (A : Option Addr) (n c : Nat) (A' : Option Addr) (m c' : Nat) (A2 : Option Addr) (q cq : Nat) (C : List Cr) (S : List Int) (P : List EvP) (b : Int) (w : World) (hT : SgT w) (hP : PcIn w A n c A' m c' A2 q cq C S P) :
    Calls Tryd.prog 4 #[pcV A n c A' m c' A2 q cq, .int .i64 b] w fun e w' => e = .returned (.bool true) ∧ Below w.heap.size w w' := by
  have HE : Hid (∀ w', Below (w.alloc (pcO A n c A' m c' A2 q cq)).heap.size (w.alloc (pcO A n c A' m c' A2 q cq)) w' → SgT w' ∧ PcIn w' A n c A' m c' A2 q cq C S P) :=
    fun w' h => ⟨(hT.below (ba _ _)).below h, (hP.below (ba _ _)).below h⟩
  have hql := hP.es.hq
  have hnl := hP.hn
  have hml := hP.hm
  have HI := Lib.hid (HE.out _ (Below.refl _ _)).2
  clear hT hP
  cases hbg : plongB n m P with
  | true =>
    have HB := Lib.hid hbg
    clear hbg hql hnl hml
    go_enter Tryd.func4, Tryd.ntmps4
    go_wp2_with (first | (go_at_call 20; refine (plong_any A n c A' m c' A2 q cq P _ HI.out.es).mono ?_; rintro e w1 ⟨rfl, hb1⟩; rw [HB.out]; have T := hb1; clear hb1; obtain ⟨x0, x1, x2⟩ := cell3 T) | (go_at_call 9; refine (works2 _ (HE.out _ T).1).mono ?_; rintro e wz ⟨rfl, hbz⟩))
    go_ret
    exact ⟨rfl, bx (bt T hbz)⟩
  | false =>
    have HB := Lib.hid hbg
    obtain ⟨l1, l2, l3, l4⟩ := pbigB_no (plongB_no hbg).1
    have b1 : n ≤ 65536 := by omega
    have b2 : m ≤ 65536 := by omega
    have b3 : q ≤ 65536 := by omega
    have HST : Hid (∀ y ∈ P, y.L.length ≤ 65536) := fun y hy => Nat.le_trans (l4 y hy) (by omega)
    have HSU : Hid (∀ y ∈ P, y.L.length ≤ 1000000) := fun y hy => Nat.le_trans (l4 y hy) (by omega)
    have CC := Lib.hid (fun w' (h : PcIn w' A n c A' m c' A2 q cq C S P) => pcopy_any A n c A' m c' A2 q cq C S P w' h b1 b2 b3 HST.out)
    obtain ⟨X, hX⟩ : ∃ X, pcErr C S P = X := ⟨_, rfl⟩
    obtain ⟨E1, hE1⟩ : ∃ E1, brErr X b P = E1 := ⟨_, rfl⟩
    have h00 : E1 = 0 → X = 0 ∧ brErr 0 b P = 0 := fun h => by
      by_cases hx : X = 0
      · refine ⟨hx, ?_⟩
        rw [hx] at hE1
        exact hE1.trans h
      · unfold brErr at hE1
        rw [if_pos hx] at hE1
        exact absurd (hE1.trans h) hx
    have hLl : (oC E1 (brRes b P)).length ≤ 65536 := by
      by_cases h0 : E1 = 0
      · obtain ⟨x0, x1⟩ := h00 h0
        rw [h0, oC_ok]
        have := brRes_len (hX.trans x0) x1
        omega
      · rw [oC_no h0]
        simp
    have HLS : Hid (∀ y ∈ oC E1 (brRes b P), y.L.length ≤ 1000000) := fun y hy => by
      by_cases h0 : E1 = 0
      · obtain ⟨x0, x1⟩ := h00 h0
        rw [h0, oC_ok] at hy
        exact brRes_L (hX.trans x0) x1 HSU.out y hy
      · rw [oC_no h0] at hy
        cases hy
    have AG1 : Hid (∀ (B : Option Addr) (e : Nat) (B' : Option Addr) (e' : Nat) (B2 : Option Addr) (e2 : Nat) w' (_ : PcIn w' B n e B' m e' B2 q e2 C S P) (_ : SgT w'), Calls Tryd.prog 21 #[pcV B n e B' m e' B2 q e2, .int .i64 b] w' (PcUse E1 (oC E1 C) (oC E1 S) (oC E1 (brRes b P)) w')) := fun B e B' e' B2 e2 w' h hs => by
      refine (break_any B n e B' m e' B2 q e2 C S P b w' h hs (by omega) (by omega) b3 HSU.out).mono (fun e w2 hr => ?_)
      rw [hX, hE1] at hr
      by_cases h0 : E1 = 0
      · rw [h0, oC_ok] at hLl
        exact hr.use (by omega) (by omega) hLl
      · have hr2 : PcRes E1 C S [] w' e w2 := hr.sub (fun h => absurd h h0)
        have := hr2.use (by omega) (by omega) (Nat.zero_le _)
        rw [oC_no h0] at this ⊢
        rwa [oC_no h0, oC_no h0] at this ⊢
    have RG : Hid (∀ w' (_ : PcIn w' A n c A' m c' A2 q cq C S P), Calls Tryd.prog 22 #[pcV A n c A' m c' A2 q cq, .int .i64 b] w' (PcUse E1 (oC E1 C) (oC E1 S) (oC E1 (brRes b P)) w')) := fun w' h => by
      refine (rbreak_any A n c A' m c' A2 q cq C S P b w' h b1 b2 b3 HST.out).mono (fun e w2 hr => ?_)
      rw [hX, hE1] at hr
      by_cases h0 : E1 = 0
      · rw [h0, oC_ok] at hLl
        exact hr.use (by omega) (by omega) hLl
      · have hr2 : PcRes E1 C S [] w' e w2 := hr.sub (fun h => absurd h h0)
        have := hr2.use (by omega) (by omega) (Nat.zero_le _)
        rw [oC_no h0] at this ⊢
        rwa [oC_no h0, oC_no h0] at this ⊢
    have HST1 : Hid (∀ y ∈ oC E1 (brRes b P), y.L.length ≤ 1000000) := HLS.out
    clear hbg l1 l2 l3 l4 hql hnl hml hX hE1 h00 hLl HLS
    generalize oC E1 C = C1 at *
    generalize oC E1 S = S1 at *
    generalize oC E1 (brRes b P) = P1 at *
    unfold PcUse at AG1 RG
    go_enter Tryd.func4, Tryd.ntmps4
    go_wp2_with (first
      | (go_at_call 20; refine (plong_any A n c A' m c' A2 q cq P _ HI.out.es).mono ?_; rintro e w1 ⟨rfl, hb1⟩; rw [HB.out]; have T := hb1; clear hb1; obtain ⟨x0, x1, x2⟩ := cell3 T)
      | (go_at_call 10; refine (CC.out _ (HE.out _ T).2).mono ?_; rintro e wc ⟨B, d, B', d', B2, d2, rfl, hPc, hbc⟩; replace T := bt T hbc; have HPc := Lib.hid hPc; clear hPc hbc; clear x0 x1 x2; obtain ⟨x0, x1, x2⟩ := cell3 T)
      | (go_at_call 21; (with_reducible refine (AG1.out _ _ _ _ _ _ _ HPc.out (HE.out _ T).1).mono ?_); rintro e wa ⟨Ba, na, da, Ba', ma, da', Ba2, qa, da2, rfl, hPa, hba, hla⟩; replace T := bt T (bt hla (ba wa (pcO Ba na da Ba' ma da' Ba2 qa da2))); have HA := Lib.hid (And.intro (hPa.below (ba wa (pcO Ba na da Ba' ma da' Ba2 qa da2))) (And.intro (heap_alloc_new wa (pcO Ba na da Ba' ma da' Ba2 qa da2)) hba)); clear hPa hba hla; clear x0 x1 x2; obtain ⟨x0, x1, x2⟩ := cell3 T)
      | (go_at_call 22; refine (RG.out _ (HE.out _ T).2).mono ?_; rintro e wb ⟨Bb, nb, db, Bb', mb, db', Bb2, qb, db2, rfl, hPb, hbb, hlb⟩; have hl2 := bt hlb (ba wb (pcO Bb nb db Bb' mb db' Bb2 qb db2)); replace T := bt T hl2; have hBA := Blk.below HA.out.2.1 hl2; have a0 := hBA.cell 0; have a1 := hBA.cell 1; have a2 := hBA.cell 2; simp at a0 a1 a2; have hla := hBA.lt; have HAB := Lib.hid (And.intro (HA.out.1.below hl2) (And.intro HA.out.2.2 (And.intro (hPb.below (ba wb (pcO Bb nb db Bb' mb db' Bb2 qb db2))) hbb))); clear hPb hbb hlb hl2 hBA; clear x0 x1 x2; obtain ⟨x0, x1, x2⟩ := cell3 T)
      | (go_at_call 13; refine (same_true HAB.out.1 HAB.out.2.2.1 HAB.out.2.1 HAB.out.2.2.2 HST1.out).mono ?_; rintro e ws ⟨rfl, hbs⟩; replace T := bt T hbs; clear hbs a0 a1 a2; clear x0 x1 x2; obtain ⟨x0, x1, x2⟩ := cell3 T)
      | (go_at_call 9; refine (works2 _ (HE.out _ T).1).mono ?_; rintro e wz ⟨rfl, hbz⟩))
    go_ret
    exact ⟨rfl, bx (bt T hbz)⟩

end Go.Proofs.YtdhjigaocamglaaDoor
