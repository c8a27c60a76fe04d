/- The law PieceTorn returns true for every piece and number. -/
import Derived.Test.YtjobablfojnppaaDoorPcMeasC
import Derived.Test.YtjobablfojnppaaDoorCmp9C
import Derived.Test.YtjobablfojnppaaDoorTrnC
import Derived.Test.YtjobablfojnppaaDoorTrn
import Derived.Test.YtjobablfojnppaaDoorAp2
import Derived.Test.YtjobablfojnppaaDoorSameI2
import Derived.Test.YtjobablfojnppaaDoorWorks2
import Derived.Deep.CutRange
import Derived.Deep.RegionHeld3
import Derived.Test.YtjobablfojnppaaDoorEnvS
import Derived.Test.YtjobablfojnppaaDoorPcOpen
import Derived.Test.YtjobablfojnppaaDoorTie
import Derived.Test.YtjobablfojnppaaDoorCards
import Derived.SevenTiedAt
import Derived.ChangeMaps5
import Derived.Lib.SmallJoins
namespace Go.Proofs.YtjobablfojnppaaDoor
open Go Go.RowKit

set_option maxHeartbeats 1600000 in
theorem sameIntsT_eq (A B : Option Addr) (n c d : Nat) (L : List Int) (w : World) (hA : Sl w w.heap.size 1 A n c (intC L)) (hB : Sl w w.heap.size 1 B n d (intC L)) (hn : n = L.length) (hb : n ≤ 9223372036854775807) :
    Calls Tryd.prog 41 #[.slice A n c, .slice B n d] w fun e w' => e = .returned (.bool true) ∧ Below w.heap.size w w' := by
  have HN := Lib.hid hn
  clear hn
  go_enter Tryd.func41, Tryd.ntmps41
  go_wp2_with (fail)
  go_loopw [5] (fun i wr => ∃ k : Nat, k ≤ n ∧ i = .int .i64 k ∧ Below w.heap.size w wr) (fun i _ => n - (intOf i).toNat)
  case atStart => exact ⟨0, by omega, rfl, Below.refl _ _⟩
  case round =>
    obtain ⟨k, hk, rfl, hbw⟩ := hrel
    by_cases hlt : k < n
    · have hkn : (k : Int) < (n : Int) := by omega
      obtain ⟨b1, o1, hA1, hB1, hc1⟩ := (hA.below hbw).2.2 (by omega)
      obtain ⟨b2, o2, hA2, hB2, hc2⟩ := (hB.below hbw).2.2 (by omega)
      subst hA1 hA2
      have i0 := intC_at L k (by have := HN.out; omega)
      have a0 := hc1 _ _ i0
      have b0 := hc2 _ _ i0
      clear hc1 hc2 i0 hA hB
      generalize L.getD k 0 = x at *
      go_wp2_with (fail)
      go_quiet (fail)
      go_wp2_with (fail)
      go_roundw
      case rel => exact ⟨k + 1, by omega, by go_num, bd hbw _⟩
      case measure => simp [intOf]; omega
    · have hkn : ¬ ((k : Int) < (n : Int)) := by omega
      go_wp2_with (fail)
      go_ret
      exact ⟨rfl, hbw⟩

theorem PcOw.trPc {w : World} {b : Nat} {A A' A2 : Option Addr} {n c m c' q cq : Nat} {C : List Cr} {S : List Int} {P : List EvP} (h : PcOw w b A n c A' m c' A2 q cq C S P) {g : Nat} {cs : Array Value} (hb : Blk w g 28 cs) (i : Nat) (u : Value) : PcOw (w.setCell ⟨g, i, none⟩ u) b A n c A' m c' A2 q cq C S P :=
  h.blkB (fun _ _ _ _ hT h2 => h2.setOther (h2.ne hb hT) _ _)
/-- A box with a piece of its own. -/
def TornR (W2 : World) (wx : World) (g7 : Nat) (Bb : Option Addr) (nb db : Nat) (Bb' : Option Addr) (mb db' : Nat) (Bb2 : Option Addr) (qb db2 : Nat) (C : List Cr) (S : List Int) (P : List EvP) : Prop :=
  Blk wx g7 28 #[.slice Bb nb db, .slice Bb' mb db', .slice Bb2 qb db2] ∧ PcIn wx Bb nb db Bb' mb db' Bb2 qb db2 C S P ∧ True ∧ Below W2.heap.size W2 wx
theorem tr_leaf {W2 wx : World} {g7 b1 : Nat} {Bb : Option Addr} {nb db : Nat} {Bb' : Option Addr} {mb db' : Nat} {Bb2 : Option Addr} {qb db2 : Nat} {C : List Cr} {S : List Int} {P : List EvP}
    (lo7 : W2.heap.size ≤ g7) (bk7 : Blk wx g7 28 #[.slice none 0 0, .slice none 0 0, .slice none 0 0]) (hpa : PcOw wx b1 Bb nb db Bb' mb db' Bb2 qb db2 C S P) (hs : Below W2.heap.size W2 wx) :
    TornR W2 (((wx.setCell ⟨g7, 0, none⟩ (.slice Bb nb db)).setCell ⟨g7, 1, none⟩ (.slice Bb' mb db')).setCell ⟨g7, 2, none⟩ (.slice Bb2 qb db2)) g7 Bb nb db Bb' mb db' Bb2 qb db2 C S P := by
  have a1 := bk7.set_ 0 (.slice Bb nb db)
  have a2 := a1.set_ 1 (.slice Bb' mb db')
  have a3 := a2.set_ 2 (.slice Bb2 qb db2)
  exact ⟨by simpa using a3, (((hpa.trPc bk7 0 (.slice Bb nb db)).trPc a1 1 (.slice Bb' mb db')).trPc a2 2 (.slice Bb2 qb db2)).pcIn, trivial, ((hs.setCell (p := ⟨g7, 0, none⟩) lo7 _).setCell (p := ⟨g7, 1, none⟩) lo7 _).setCell (p := ⟨g7, 2, none⟩) lo7 _⟩
theorem trL_mem {k : Nat} {P : List EvP} {N : Nat} (h : ∀ y ∈ P, y.L.length ≤ N) : ∀ y ∈ trL k P, y.L.length ≤ N := fun y hy => by
  unfold trL at hy
  rcases List.mem_append.1 hy with hy | hy
  · exact ctL_L h y hy
  · exact ctL_L h y hy
set_option maxRecDepth 100000 in
set_option maxHeartbeats 6400000 in
theorem law_ptorn (A : Option Addr) (n c : Nat) (A' : Option Addr) (m c' : Nat) (A2 : Option Addr) (q cq : Nat) (C : List Cr) (S : List Int) (P : List EvP) (ki : Int) (w : World) (hT : SgT w) (hP : PcIn w A n c A' m c' A2 q cq C S P) :
    Calls Tryd.prog 9 #[pcV A n c A' m c' A2 q cq, .int .i64 ki] w fun e w' => e = .returned (.bool true) ∧ Below w.heap.size w w' := by
  have HE : Hid (∀ w', Below (w.alloc (pcO A n c A' m c' A2 q cq)).heap.size (w.alloc (pcO A n c A' m c' A2 q cq)) w' → SgT w' ∧ PcIn w' A n c A' m c' A2 q cq C S P) :=
    fun w' h => ⟨(hT.below (ba _ _)).below h, (hP.below (ba _ _)).below h⟩
  have hql := hP.es.hq
  have hnl := hP.hn
  have hml := hP.hm
  have HI := Lib.hid (HE.out _ (Below.refl _ _)).2
  clear hT hP
  cases hbg : pbigB n m P with
  | true =>
    have HB := Lib.hid hbg
    clear hbg hql hnl hml
    go_enter Tryd.func9, Tryd.ntmps9
    go_wp2_with (first | (go_at_call 14; refine (pbig_any A n c A' m c' A2 q cq P _ HI.out.es).mono ?_; rintro e w1 ⟨rfl, hb1⟩; rw [HB.out]; have T := hb1; clear hb1; obtain ⟨x0, x1, x2⟩ := cell3 T) | (go_at_call 15; refine (works2 _ (HE.out _ T).1).mono ?_; rintro e wz ⟨rfl, hbz⟩))
    go_ret
    exact ⟨rfl, bx (bt T hbz)⟩
  | false =>
    have HB := Lib.hid hbg
    obtain ⟨l1, l2, l3, l4⟩ := pbigB_no hbg
    have b1 : n ≤ 65536 := by omega
    have b2 : m ≤ 65536 := by omega
    have b3 : q ≤ 65536 := by omega
    have HST : Hid (∀ y ∈ P, y.L.length ≤ 65536) := fun y hy => Nat.le_trans (l4 y hy) (by omega)
    have HSU : Hid (∀ y ∈ P, y.L.length ≤ 1000000) := fun y hy => Nat.le_trans (l4 y hy) (by omega)
    have CC := Lib.hid (fun w' (h : PcIn w' A n c A' m c' A2 q cq C S P) => pcopy_any A n c A' m c' A2 q cq C S P w' h b1 b2 b3 HST.out)
    obtain ⟨X, hX⟩ : ∃ X, pcErr C S P = X := ⟨_, rfl⟩
    have CK : Hid (∀ w', PcIn w' A n c A' m c' A2 q cq C S P → Calls Tryd.prog 26 #[pcV A n c A' m c' A2 q cq] w' fun e w2 => e = .returned (.int .i64 X) ∧ Below w'.heap.size w' w2) := fun w' h => by
      have := rpcheck_any A n c A' m c' A2 q cq C S P w' h (by omega) (by omega) (by omega) HSU.out
      rwa [hX] at this
    by_cases hX0 : X = 0
    rotate_left
    · have hxb : (X != 0) = true := bne_iff_ne.2 hX0
      clear hX0 hX hbg l1 l2 l3 l4 hql hnl hml
      go_enter Tryd.func9, Tryd.ntmps9
      go_wp2_with (first
        | (go_at_call 14; refine (pbig_any A n c A' m c' A2 q cq P _ HI.out.es).mono ?_; rintro e w1 ⟨rfl, hb1⟩; rw [HB.out]; have T := hb1; clear hb1; obtain ⟨x0, x1, x2⟩ := cell3 T)
        | (go_at_call 26; refine (CK.out _ (HE.out _ T).2).mono ?_; rintro e wq ⟨rfl, hbq⟩; replace T := bt T hbq; clear hbq; clear x0 x1 x2; obtain ⟨x0, x1, x2⟩ := cell3 T)
        | (go_at_call 15; refine (works2 _ (HE.out _ T).1).mono ?_; rintro e wz ⟨rfl, hbz⟩))
      go_ret
      exact ⟨rfl, bx (bt T hbz)⟩
    subst hX0
    by_cases hk0 : ki < 0
    · have hkb : decide (ki < 0) = true := decide_eq_true hk0
      clear hX hbg l1 l2 l3 l4 hql hnl hml
      go_enter Tryd.func9, Tryd.ntmps9
      go_wp2_with (first
        | (go_at_call 14; refine (pbig_any A n c A' m c' A2 q cq P _ HI.out.es).mono ?_; rintro e w1 ⟨rfl, hb1⟩; rw [HB.out]; have T := hb1; clear hb1; obtain ⟨x0, x1, x2⟩ := cell3 T)
        | (go_at_call 26; refine (CK.out _ (HE.out _ T).2).mono ?_; rintro e wq ⟨rfl, hbq⟩; replace T := bt T hbq; clear hbq; clear x0 x1 x2; obtain ⟨x0, x1, x2⟩ := cell3 T)
        | (go_at_call 15; refine (works2 _ (HE.out _ T).1).mono ?_; rintro e wz ⟨rfl, hbz⟩))
      go_ret
      exact ⟨rfl, bx (bt T hbz)⟩
    have hkb : decide (ki < 0) = false := decide_eq_false hk0
    obtain ⟨k, rfl⟩ := Int.eq_ofNat_of_zero_le (show 0 ≤ ki by omega)
    by_cases hkq : (q : Int) < (k : Int)
    · have hkc : decide ((q : Int) < (k : Int)) = true := decide_eq_true hkq
      clear hX hbg l1 l2 l3 l4 hql hnl hml
      go_enter Tryd.func9, Tryd.ntmps9
      go_wp2_with (first
        | (go_at_call 14; refine (pbig_any A n c A' m c' A2 q cq P _ HI.out.es).mono ?_; rintro e w1 ⟨rfl, hb1⟩; rw [HB.out]; have T := hb1; clear hb1; obtain ⟨x0, x1, x2⟩ := cell3 T)
        | (go_at_call 26; refine (CK.out _ (HE.out _ T).2).mono ?_; rintro e wq ⟨rfl, hbq⟩; replace T := bt T hbq; clear hbq; clear x0 x1 x2; obtain ⟨x0, x1, x2⟩ := cell3 T)
        | (go_at_call 15; refine (works2 _ (HE.out _ T).1).mono ?_; rintro e wz ⟨rfl, hbz⟩))
      go_ret
      exact ⟨rfl, bx (bt T hbz)⟩
    have hkc : decide ((q : Int) < (k : Int)) = false := decide_eq_false hkq
    have hkn : k ≤ q := by omega
    have hkd : decide (q < k) = false := decide_eq_false (by omega)
    have hkP : k ≤ P.length := by omega
    have hq4 : P.length ≤ 400 := (pcErr_ok hX).2.1
    have HTL : Hid ((trL k P).length = q) := by unfold Hid; rw [trL_len hkP]; omega
    have HTS : Hid (∀ y ∈ trL k P, y.L.length ≤ 1000000) := trL_mem HSU.out
    have HPL : Hid (∀ (i : Nat) (y y' : EvP), P[i]? = some y → (trL k P)[i]? = some y' → eqL pqEqB y.L y'.L = true) := fun i y y' h1 h2 => trL_places h1 h2
    have HVT := Lib.hid (trL_valid hX hkP)
    have HON := Lib.hid (trL_ons hX hkP)
    have HOL : Hid ((onsL C S P).length ≤ 1000000) := by
      have := onsL_len C S P
      unfold Hid
      omega
    have K1 : Hid (∀ (B : Option Addr) (e : Nat) (B' : Option Addr) (e' : Nat) (B2 : Option Addr) (e2 : Nat) w' (_ : PcIn w' B n e B' m e' B2 q e2 C S P), Calls Tryd.prog 36 #[pcV B n e B' m e' B2 q e2, .int .i64 0, .int .i64 k] w' (PcUse 0 C S (ctL 0 k (setG P (frcL s0g P)) P (k - 0)) w')) := fun B e B' e' B2 e2 w' h => by
      refine (pcut_any B n e B' m e' B2 q e2 C S P ((0 : Nat) : Int) k w' h (by omega) (by omega) b3 HSU.out).mono (fun e w2 hr => ?_)
      rw [hX, cutErr3 (by omega), Int.toNat_natCast, Int.toNat_natCast, cut_eq (sgr_of hX) (Nat.zero_le _) hkP] at hr
      have := hr.use (by omega) (by omega) (by simp [ctL]; omega)
      rwa [oC_ok, oC_ok, oC_ok] at this
    have K2 : Hid (∀ (B : Option Addr) (e : Nat) (B' : Option Addr) (e' : Nat) (B2 : Option Addr) (e2 : Nat) w' (_ : PcIn w' B n e B' m e' B2 q e2 C S P), Calls Tryd.prog 36 #[pcV B n e B' m e' B2 q e2, .int .i64 k, .int .i64 q] w' (PcRes 0 C S (ctL k P.length (setG P (frcL s0g P)) P (P.length - k)) w')) := fun B e B' e' B2 e2 w' h => by
      refine (pcut_any B n e B' m e' B2 q e2 C S P k q w' h (by omega) (by omega) b3 HSU.out).mono (fun e w2 hr => ?_)
      rw [hX, cutErr3 (by omega), Int.toNat_natCast, Int.toNat_natCast, cut_eq (sgr_of hX) hkn (by omega), hql] at hr
      exact hr
    have K3 : Hid (∀ (F : Option Addr) (n1 f : Nat) (F' : Option Addr) (m1 f' : Nat) (F2 : Option Addr) (q1 f2 : Nat) (G : Option Addr) (n2 g : Nat) (G' : Option Addr) (m2 g' : Nat) (G2 : Option Addr) (q2 g2 : Nat) w' (_ : PcIn w' F n1 f F' m1 f' F2 q1 f2 C S (ctL 0 k (setG P (frcL s0g P)) P (k - 0))) (_ : PcIn w' G n2 g G' m2 g' G2 q2 g2 C S (ctL k P.length (setG P (frcL s0g P)) P (P.length - k))),
        Calls Tryd.prog 38 #[pcV F n1 f F' m1 f' F2 q1 f2, pcV G n2 g G' m2 g' G2 q2 g2] w' (PcUse 0 C S (trL k P) w')) := fun F n1 f F' m1 f' F2 q1 f2 G n2 g G' m2 g' G2 q2 g2 w' h1 h2 => by
      have e1 := h1.es.hq
      have e2 := h2.es.hq
      have e3 := h1.hn
      have e4 := h1.hm
      have e5 := h2.hn
      have e6 := h2.hm
      simp [ctL] at e1 e2
      refine (append_any F n1 f F' m1 f' F2 q1 f2 G n2 g G' m2 g' G2 q2 g2 C S _ C S _ w' h1 h2 (by omega) (by omega) (by omega) (by omega) (by omega) (by omega) (ctL_L HST.out) (ctL_L HST.out)).mono (fun e w2 hr => ?_)
      rw [cut_valid hX hkP, cut_valid hX (Nat.le_refl _), sameB_refl, appErr5 (by omega)] at hr
      have := hr.use (by omega) (by omega) (show (trL k P).length ≤ 65536 by have := HTL.out; omega)
      rwa [oC_ok, oC_ok, oC_ok] at this
    have C2 : Hid (∀ (B : Option Addr) (n2 e : Nat) (B' : Option Addr) (m2 e' : Nat) (B2 : Option Addr) (q2 e2 : Nat) w' (_ : n2 ≤ 65536 ∧ m2 ≤ 65536 ∧ q2 ≤ 65536) (_ : PcIn w' B n2 e B' m2 e' B2 q2 e2 C S (trL k P)), Calls Tryd.prog 40 #[pcV B n2 e B' m2 e' B2 q2 e2] w' fun e w2 => e = .returned (.int .i64 0) ∧ Below w'.heap.size w' w2) := fun B n2 e B' m2 e' B2 q2 e2 w' hb h => by
      have := pcheck_any B n2 e B' m2 e' B2 q2 e2 C S (trL k P) w' h (by omega) (by omega) (by omega) HTS.out
      rwa [HVT.out] at this
    have DO1 : Hid (∀ (B : Option Addr) (e : Nat) (B' : Option Addr) (e' : Nat) (B2 : Option Addr) (e2 : Nat) w' (_ : PcIn w' B n e B' m e' B2 q e2 C S P), Calls Tryd.prog 34 #[pcV B n e B' m e' B2 q e2] w' (OnPost C S P w')) := fun B e B' e' B2 e2 w' h => onsets_any B n e B' m e' B2 q e2 C S P w' h (by omega) (by omega) b3 HSU.out
    have DO2 : Hid (∀ (B : Option Addr) (n2 e : Nat) (B' : Option Addr) (m2 e' : Nat) (B2 : Option Addr) (q2 e2 : Nat) w' (_ : n2 ≤ 65536 ∧ m2 ≤ 65536 ∧ q2 ≤ 65536) (_ : PcIn w' B n2 e B' m2 e' B2 q2 e2 C S (trL k P)), Calls Tryd.prog 34 #[pcV B n2 e B' m2 e' B2 q2 e2] w' (OnPost C S (trL k P) w')) := fun B n2 e B' m2 e' B2 q2 e2 w' hb h => onsets_any B n2 e B' m2 e' B2 q2 e2 _ _ _ w' h (by omega) (by omega) hb.2.2 HTS.out
    have HPQ := Lib.hid hql
    unfold OnPost at DO1 DO2
    unfold PcUse at K1 K3
    unfold PcRes at K2
    rw [oC_ok, oC_ok, oC_ok] at K2
    rw [hX] at DO1
    rw [HVT.out, HON.out] at DO2
    generalize ctL 0 k (setG P (frcL s0g P)) P (k - 0) = L1 at *
    generalize ctL k P.length (setG P (frcL s0g P)) P (P.length - k) = L2 at *
    generalize trL k P = TL at *
    generalize onsL C S P = OL at *
    clear hX hbg l1 l2 l3 l4 hql hnl hml hq4 hkP HVT HON hk0 hkq
    go_enter Tryd.func9, Tryd.ntmps9
    go_upto_region 4 with (first
      | (go_at_call 14; refine (pbig_any A n c A' m c' A2 q cq P _ HI.out.es).mono ?_; rintro e w1 ⟨rfl, hb1⟩; rw [HB.out]; have T := hb1; clear hb1; obtain ⟨x0, x1, x2⟩ := cell3 T)
      | (go_at_call 26; refine (CK.out _ (HE.out _ T).2).mono ?_; rintro e wq ⟨rfl, hbq⟩; replace T := bt T hbq; clear hbq; clear x0 x1 x2; obtain ⟨x0, x1, x2⟩ := cell3 T)
      | (go_at_call 16; refine (CC.out _ (HE.out _ T).2).mono ?_; rintro e wc ⟨B, d, B', d', B2, d2, rfl, hPc, hbc⟩; replace T := bt T hbc; have HPc := Lib.hid hPc; clear hPc hbc; clear x0 x1 x2; obtain ⟨x0, x1, x2⟩ := cell3 T)
      | (go_at_call 36; (with_reducible refine (K1.out _ _ _ _ _ _ _ HPc.out).mono ?_); rintro e wa ⟨Ba, na, da, Ba', ma, da', Ba2, qa, da2, rfl, hPa, hba, hla⟩; replace T := bt T (bt hla (ba wa (pcO Ba na da Ba' ma da' Ba2 qa da2))); have HA := Lib.hid (And.intro (hPa.below (ba wa (pcO Ba na da Ba' ma da' Ba2 qa da2))) (And.intro (heap_alloc_new wa (pcO Ba na da Ba' ma da' Ba2 qa da2)) hba)); clear hPa hba hla; clear x0 x1 x2; obtain ⟨x0, x1, x2⟩ := cell3 T))
    have HT0 := Lib.hid T
    obtain ⟨W2, hW2⟩ : ∃ x, World.alloc wa (pcO Ba na da Ba' ma da' Ba2 qa da2) = x := ⟨_, rfl⟩
    obtain ⟨ga, hga⟩ : ∃ g, wa.heap.size = g := ⟨_, rfl⟩
    rw [hW2] at HT0 HA ⊢
    rw [hga] at HA ⊢
    clear hW2 hga T x0 x1 x2 HPc
    have HP0 : Hid (∀ w', Below W2.heap.size W2 w' → SgT w' ∧ PcIn w' A n c A' m c' A2 q cq C S P) := fun w' h => HE.out _ (bt HT0.out h)
    have HC0 : Hid (∀ w', Below W2.heap.size W2 w' → (w'.cell? ⟨w.heap.size, 0, none⟩ = some (.slice A n c) ∧ w'.cell? ⟨w.heap.size, 1, none⟩ = some (.slice A' m c') ∧ w'.cell? ⟨w.heap.size, 2, none⟩ = some (.slice A2 q cq))) := fun w' h => cell3 (bt HT0.out h)
    go_cut [7, 8] from 42 to 51 (fun s7 s8 wx => ∃ g7 Bb nb db Bb' mb db' Bb2 qb db2, s7 = .pointer (some ⟨g7, 0, none⟩) ∧ s8 = .int .i64 0 ∧ Hid (TornR W2 wx g7 Bb nb db Bb' mb db' Bb2 qb db2 C S L2))
    case first =>
      have hs : Below W2.heap.size W2 W2.drew := (Below.refl _ _).drew
      refine wp_region_held_drew (S := fun w' => Below W2.heap.size W2 w') (by kernel_rfl) hs (fun hHeld => ?_)
      change wpAnyH _ _ _ _ _ 13 #[false, false, false, false, false, false, false, false, false, false, false, false, false] _ _
      refine wpAnyH_take (i := 0) (v := ?_) rfl (by kernel_rfl) (by kernel_rfl) (by kernel_rfl) (fun _ _ _ h => h) (Or.inl ⟨by rfl, ?_⟩) (by assumption) ?_
      rotate_left
      · intro w' hSw
        obtain ⟨x0, x1, x2⟩ := HC0.out _ hSw
        go_simp
        try with_reducible rfl
      (try simp only [Act.put, List.getElem_toArray, List.getElem_cons_zero, List.setIfInBounds_toArray, List.set_cons_zero, List.set_cons_succ])
      refine wpAnyH_take (i := 2) (v := ?_) rfl (by kernel_rfl) (by kernel_rfl) (by kernel_rfl) (fun _ _ _ h => h) (Or.inl ⟨by rfl, ?_⟩) (by assumption) ?_
      rotate_left
      · intro w' hSw
        obtain ⟨x0, x1, x2⟩ := HC0.out _ hSw
        go_simp
        try with_reducible rfl
      (try simp only [Act.put, List.getElem_toArray, List.getElem_cons_succ, List.getElem_cons_zero, List.setIfInBounds_toArray, List.set_cons_zero, List.set_cons_succ])
      refine wpAnyH_take (i := 3) (v := ?_) rfl (by kernel_rfl) (by kernel_rfl) (by kernel_rfl) (fun _ _ _ h => h) (Or.inl ⟨by rfl, ?_⟩) (by assumption) ?_
      rotate_left
      · intro w' hSw
        obtain ⟨x0, x1, x2⟩ := HC0.out _ hSw
        go_simp
        try with_reducible rfl
      (try simp only [Act.put, List.getElem_toArray, List.getElem_cons_succ, List.getElem_cons_zero, List.setIfInBounds_toArray, List.set_cons_zero, List.set_cons_succ])
      refine wpAnyH_take (i := 4) (v := ?_) rfl (by kernel_rfl) (by kernel_rfl) (by kernel_rfl) (fun _ _ _ h => h) (Or.inl ⟨by rfl, ?_⟩) (by assumption) ?_
      rotate_left
      · intro w' hSw
        obtain ⟨x0, x1, x2⟩ := HC0.out _ hSw
        go_simp
        try with_reducible rfl
      (try simp only [Act.put, List.getElem_toArray, List.getElem_cons_succ, List.getElem_cons_zero, List.setIfInBounds_toArray, List.set_cons_zero, List.set_cons_succ])
      refine wpAnyH_take (i := 5) (v := ?_) rfl (by kernel_rfl) (by kernel_rfl) (by kernel_rfl) (fun _ _ _ h => h) (Or.inl ⟨by rfl, ?_⟩) (by assumption) ?_
      rotate_left
      · intro w' hSw
        obtain ⟨x0, x1, x2⟩ := HC0.out _ hSw
        go_simp
        try with_reducible rfl
      (try simp only [Act.put, List.getElem_toArray, List.getElem_cons_succ, List.getElem_cons_zero, List.setIfInBounds_toArray, List.set_cons_zero, List.set_cons_succ])
      clear hHeld
      obtain ⟨W_0, hW_0⟩ : ∃ W, W2.drew = W := ⟨_, rfl⟩
      rw [hW_0] at hs ⊢
      clear hW_0
      refine wpAnyH_ready (rs := [1, 10]) (by kernel_rfl) (by simp) ?_
      refine AllReadyH.cons rfl (fun K hK => ?_) ?_
      · go_simp
        go_wp2_with (go_at_call 16; (with_reducible refine (CC.out W_0 (HP0.out _ hs).2).mono ?_); rintro e W_1 ⟨Bc1, dc1, Bc1', dc1', Bc12, dc12, rfl, hp1, hst⟩)
        refine hK.out _ _ (bt hs hst) (fun hHeld => ?_)
        clear hK K
        (try simp only [List.setIfInBounds_toArray, List.set_cons_zero, List.set_cons_succ])
        have hsn := bt hs hst
        clear hs hHeld
        have hs := hsn
        clear hsn hst
        refine wpAnyH_ready (rs := [6, 10]) (by kernel_rfl) (by simp) ?_
        refine AllReadyH.cons rfl (fun K hK => ?_) ?_
        · go_simp
          go_wp2_with (go_at_call 36; (with_reducible refine (K2.out _ _ _ _ _ _ W_1 hp1).mono ?_); rintro e W_2 ⟨Bb, nb, db, Bb', mb, db', Bb2, qb, db2, rfl, hpo, hst⟩)
          refine hK.out _ _ (bt hs hst) (fun hHeld => ?_)
          clear hK K
          (try simp only [List.setIfInBounds_toArray, List.set_cons_zero, List.set_cons_succ])
          replace hp1 := hp1.below hst
          have hsn := bt hs hst
          clear hs hHeld hp1
          have hs := hsn
          clear hsn hst
          refine wpAnyH_take (i := 7) (v := ?_) rfl (by kernel_rfl) (by kernel_rfl) (by kernel_rfl) (fun _ _ _ h => h) (Or.inl ⟨by rfl, ?_⟩) (by assumption) ?_
          rotate_left
          · intro w' hSw
            obtain ⟨x0, x1, x2⟩ := HC0.out _ hSw
            go_simp
            try with_reducible rfl
          (try simp only [Act.put, List.getElem_toArray, List.getElem_cons_succ, List.getElem_cons_zero, List.setIfInBounds_toArray, List.set_cons_zero, List.set_cons_succ])
          refine wpAnyH_take (i := 8) (v := ?_) rfl (by kernel_rfl) (by kernel_rfl) (by kernel_rfl) (fun _ _ _ h => h) (Or.inl ⟨by rfl, ?_⟩) (by assumption) ?_
          rotate_left
          · intro w' hSw
            obtain ⟨x0, x1, x2⟩ := HC0.out _ hSw
            go_simp
            try with_reducible rfl
          (try simp only [Act.put, List.getElem_toArray, List.getElem_cons_succ, List.getElem_cons_zero, List.setIfInBounds_toArray, List.set_cons_zero, List.set_cons_succ])
          refine wpAnyH_take (i := 9) (v := ?_) rfl (by kernel_rfl) (by kernel_rfl) (by kernel_rfl) (fun _ _ _ h => h) (Or.inl ⟨by rfl, ?_⟩) (by assumption) ?_
          rotate_left
          · intro w' hSw
            obtain ⟨x0, x1, x2⟩ := HC0.out _ hSw
            go_simp
            try with_reducible rfl
          (try simp only [Act.put, List.getElem_toArray, List.getElem_cons_succ, List.getElem_cons_zero, List.setIfInBounds_toArray, List.set_cons_zero, List.set_cons_succ])
          refine wpAnyH_ready (rs := [10]) (by kernel_rfl) (by simp) ?_
          refine AllReadyH.cons rfl (fun K hK => ?_) ?_
          · go_simp
            refine hK.out _ _ (bt hs (ba _ _)) (fun hHeld => ?_)
            clear hK K
            (try simp only [List.setIfInBounds_toArray, List.set_cons_zero, List.set_cons_succ])
            have nb7 := heap_alloc_new W_2 zPcO
            have lo7 := hs.size
            have hsn := bt hs (ba W_2 zPcO)
            have hst := ba W_2 zPcO
            replace hpo := hpo.below hst
            obtain ⟨g7, hg7⟩ : ∃ g, W_2.heap.size = g := ⟨_, rfl⟩
            obtain ⟨W_3, hW⟩ : ∃ W, W_2.alloc zPcO = W := ⟨_, rfl⟩
            rw [hW] at nb7 hsn hpo ⊢
            rw [hg7] at nb7 lo7 ⊢
            have bk7 : Blk W_3 g7 28 #[.slice none 0 0, .slice none 0 0, .slice none 0 0] := nb7
            clear nb7 hst hs hHeld
            have hs := hsn
            clear hsn hW hg7
            have c50 := bk7.cell 0
            have c51 := bk7.cell 1
            have c52 := bk7.cell 2
            have f50 := bk7.frozen 0
            have f51 := bk7.frozen 1
            have f52 := bk7.frozen 2
            simp at c50 c51 c52
            have HLF := Lib.hid (tr_leaf lo7 bk7 hpo hs)
            refine wpAnyH_ready (rs := [11]) (by kernel_rfl) (by simp) ?_
            refine AllReadyH.cons rfl (fun K hK => ?_) ?_
            · go_simp
              refine hK.out _ _ HLF.out.2.2.2 (fun hHeld => ?_)
              clear hK K
              (try simp only [List.setIfInBounds_toArray, List.set_cons_zero, List.set_cons_succ])
              refine wpAnyH_ready (rs := [12]) (by kernel_rfl) (by simp) ?_
              refine AllReadyH.cons rfl (fun K hK => ?_) ?_
              · go_simp
                refine hK.out _ _ HLF.out.2.2.2 (fun hHeld => ?_)
                clear hK K
                (try simp only [List.setIfInBounds_toArray, List.set_cons_zero, List.set_cons_succ])
                refine wpAnyH_done (by kernel_rfl) ?_ _
                go_wp2_with (fail)
                go_meet
                exact ⟨g7, Bb, nb, db, Bb', mb, db', Bb2, qb, db2, rfl, rfl, HLF.out⟩
              exact AllReadyH.nil
            exact AllReadyH.nil
          exact AllReadyH.nil
        refine AllReadyH.cons rfl (fun K hK => ?_) ?_
        · go_simp
          refine hK.out _ _ (bt hs (ba _ _)) (fun hHeld => ?_)
          clear hK K
          (try simp only [List.setIfInBounds_toArray, List.set_cons_zero, List.set_cons_succ])
          have nb7 := heap_alloc_new W_1 zPcO
          have lo7 := hs.size
          have hsn := bt hs (ba W_1 zPcO)
          have hst := ba W_1 zPcO
          replace hp1 := hp1.below hst
          obtain ⟨g7, hg7⟩ : ∃ g, W_1.heap.size = g := ⟨_, rfl⟩
          obtain ⟨W_2, hW⟩ : ∃ W, W_1.alloc zPcO = W := ⟨_, rfl⟩
          rw [hW] at nb7 hsn hp1 ⊢
          rw [hg7] at nb7 lo7 ⊢
          have bk7 : Blk W_2 g7 28 #[.slice none 0 0, .slice none 0 0, .slice none 0 0] := nb7
          clear nb7 hst hs hHeld
          have hs := hsn
          clear hsn hW hg7
          refine wpAnyH_ready (rs := [6]) (by kernel_rfl) (by simp) ?_
          refine AllReadyH.cons rfl (fun K hK => ?_) ?_
          · go_simp
            go_wp2_with (go_at_call 36; (with_reducible refine (K2.out _ _ _ _ _ _ W_2 hp1).mono ?_); rintro e W_3 ⟨Bb, nb, db, Bb', mb, db', Bb2, qb, db2, rfl, hpo, hst⟩)
            refine hK.out _ _ (bt hs hst) (fun hHeld => ?_)
            clear hK K
            (try simp only [List.setIfInBounds_toArray, List.set_cons_zero, List.set_cons_succ])
            replace bk7 := Blk.below bk7 hst
            replace hp1 := hp1.below hst
            have hsn := bt hs hst
            clear hs hHeld hp1
            have hs := hsn
            clear hsn hst
            refine wpAnyH_take (i := 7) (v := ?_) rfl (by kernel_rfl) (by kernel_rfl) (by kernel_rfl) (fun _ _ _ h => h) (Or.inl ⟨by rfl, ?_⟩) (by assumption) ?_
            rotate_left
            · intro w' hSw
              obtain ⟨x0, x1, x2⟩ := HC0.out _ hSw
              go_simp
              try with_reducible rfl
            (try simp only [Act.put, List.getElem_toArray, List.getElem_cons_succ, List.getElem_cons_zero, List.setIfInBounds_toArray, List.set_cons_zero, List.set_cons_succ])
            refine wpAnyH_take (i := 8) (v := ?_) rfl (by kernel_rfl) (by kernel_rfl) (by kernel_rfl) (fun _ _ _ h => h) (Or.inl ⟨by rfl, ?_⟩) (by assumption) ?_
            rotate_left
            · intro w' hSw
              obtain ⟨x0, x1, x2⟩ := HC0.out _ hSw
              go_simp
              try with_reducible rfl
            (try simp only [Act.put, List.getElem_toArray, List.getElem_cons_succ, List.getElem_cons_zero, List.setIfInBounds_toArray, List.set_cons_zero, List.set_cons_succ])
            refine wpAnyH_take (i := 9) (v := ?_) rfl (by kernel_rfl) (by kernel_rfl) (by kernel_rfl) (fun _ _ _ h => h) (Or.inl ⟨by rfl, ?_⟩) (by assumption) ?_
            rotate_left
            · intro w' hSw
              obtain ⟨x0, x1, x2⟩ := HC0.out _ hSw
              go_simp
              try with_reducible rfl
            (try simp only [Act.put, List.getElem_toArray, List.getElem_cons_succ, List.getElem_cons_zero, List.setIfInBounds_toArray, List.set_cons_zero, List.set_cons_succ])
            have c50 := bk7.cell 0
            have c51 := bk7.cell 1
            have c52 := bk7.cell 2
            have f50 := bk7.frozen 0
            have f51 := bk7.frozen 1
            have f52 := bk7.frozen 2
            simp at c50 c51 c52
            have HLF := Lib.hid (tr_leaf lo7 bk7 hpo hs)
            refine wpAnyH_ready (rs := [11]) (by kernel_rfl) (by simp) ?_
            refine AllReadyH.cons rfl (fun K hK => ?_) ?_
            · go_simp
              refine hK.out _ _ HLF.out.2.2.2 (fun hHeld => ?_)
              clear hK K
              (try simp only [List.setIfInBounds_toArray, List.set_cons_zero, List.set_cons_succ])
              refine wpAnyH_ready (rs := [12]) (by kernel_rfl) (by simp) ?_
              refine AllReadyH.cons rfl (fun K hK => ?_) ?_
              · go_simp
                refine hK.out _ _ HLF.out.2.2.2 (fun hHeld => ?_)
                clear hK K
                (try simp only [List.setIfInBounds_toArray, List.set_cons_zero, List.set_cons_succ])
                refine wpAnyH_done (by kernel_rfl) ?_ _
                go_wp2_with (fail)
                go_meet
                exact ⟨g7, Bb, nb, db, Bb', mb, db', Bb2, qb, db2, rfl, rfl, HLF.out⟩
              exact AllReadyH.nil
            exact AllReadyH.nil
          exact AllReadyH.nil
        exact AllReadyH.nil
      refine AllReadyH.cons rfl (fun K hK => ?_) ?_
      · go_simp
        refine hK.out _ _ (bt hs (ba _ _)) (fun hHeld => ?_)
        clear hK K
        (try simp only [List.setIfInBounds_toArray, List.set_cons_zero, List.set_cons_succ])
        have nb7 := heap_alloc_new W_0 zPcO
        have lo7 := hs.size
        have hsn := bt hs (ba W_0 zPcO)
        have hst := ba W_0 zPcO
        obtain ⟨g7, hg7⟩ : ∃ g, W_0.heap.size = g := ⟨_, rfl⟩
        obtain ⟨W_1, hW⟩ : ∃ W, W_0.alloc zPcO = W := ⟨_, rfl⟩
        rw [hW] at nb7 hsn  ⊢
        rw [hg7] at nb7 lo7 ⊢
        have bk7 : Blk W_1 g7 28 #[.slice none 0 0, .slice none 0 0, .slice none 0 0] := nb7
        clear nb7 hst hs hHeld
        have hs := hsn
        clear hsn hW hg7
        refine wpAnyH_ready (rs := [1]) (by kernel_rfl) (by simp) ?_
        refine AllReadyH.cons rfl (fun K hK => ?_) ?_
        · go_simp
          go_wp2_with (go_at_call 16; (with_reducible refine (CC.out W_1 (HP0.out _ hs).2).mono ?_); rintro e W_2 ⟨Bc1, dc1, Bc1', dc1', Bc12, dc12, rfl, hp1, hst⟩)
          refine hK.out _ _ (bt hs hst) (fun hHeld => ?_)
          clear hK K
          (try simp only [List.setIfInBounds_toArray, List.set_cons_zero, List.set_cons_succ])
          replace bk7 := Blk.below bk7 hst
          have hsn := bt hs hst
          clear hs hHeld
          have hs := hsn
          clear hsn hst
          refine wpAnyH_ready (rs := [6]) (by kernel_rfl) (by simp) ?_
          refine AllReadyH.cons rfl (fun K hK => ?_) ?_
          · go_simp
            go_wp2_with (go_at_call 36; (with_reducible refine (K2.out _ _ _ _ _ _ W_2 hp1).mono ?_); rintro e W_3 ⟨Bb, nb, db, Bb', mb, db', Bb2, qb, db2, rfl, hpo, hst⟩)
            refine hK.out _ _ (bt hs hst) (fun hHeld => ?_)
            clear hK K
            (try simp only [List.setIfInBounds_toArray, List.set_cons_zero, List.set_cons_succ])
            replace bk7 := Blk.below bk7 hst
            replace hp1 := hp1.below hst
            have hsn := bt hs hst
            clear hs hHeld hp1
            have hs := hsn
            clear hsn hst
            refine wpAnyH_take (i := 7) (v := ?_) rfl (by kernel_rfl) (by kernel_rfl) (by kernel_rfl) (fun _ _ _ h => h) (Or.inl ⟨by rfl, ?_⟩) (by assumption) ?_
            rotate_left
            · intro w' hSw
              obtain ⟨x0, x1, x2⟩ := HC0.out _ hSw
              go_simp
              try with_reducible rfl
            (try simp only [Act.put, List.getElem_toArray, List.getElem_cons_succ, List.getElem_cons_zero, List.setIfInBounds_toArray, List.set_cons_zero, List.set_cons_succ])
            refine wpAnyH_take (i := 8) (v := ?_) rfl (by kernel_rfl) (by kernel_rfl) (by kernel_rfl) (fun _ _ _ h => h) (Or.inl ⟨by rfl, ?_⟩) (by assumption) ?_
            rotate_left
            · intro w' hSw
              obtain ⟨x0, x1, x2⟩ := HC0.out _ hSw
              go_simp
              try with_reducible rfl
            (try simp only [Act.put, List.getElem_toArray, List.getElem_cons_succ, List.getElem_cons_zero, List.setIfInBounds_toArray, List.set_cons_zero, List.set_cons_succ])
            refine wpAnyH_take (i := 9) (v := ?_) rfl (by kernel_rfl) (by kernel_rfl) (by kernel_rfl) (fun _ _ _ h => h) (Or.inl ⟨by rfl, ?_⟩) (by assumption) ?_
            rotate_left
            · intro w' hSw
              obtain ⟨x0, x1, x2⟩ := HC0.out _ hSw
              go_simp
              try with_reducible rfl
            (try simp only [Act.put, List.getElem_toArray, List.getElem_cons_succ, List.getElem_cons_zero, List.setIfInBounds_toArray, List.set_cons_zero, List.set_cons_succ])
            have c50 := bk7.cell 0
            have c51 := bk7.cell 1
            have c52 := bk7.cell 2
            have f50 := bk7.frozen 0
            have f51 := bk7.frozen 1
            have f52 := bk7.frozen 2
            simp at c50 c51 c52
            have HLF := Lib.hid (tr_leaf lo7 bk7 hpo hs)
            refine wpAnyH_ready (rs := [11]) (by kernel_rfl) (by simp) ?_
            refine AllReadyH.cons rfl (fun K hK => ?_) ?_
            · go_simp
              refine hK.out _ _ HLF.out.2.2.2 (fun hHeld => ?_)
              clear hK K
              (try simp only [List.setIfInBounds_toArray, List.set_cons_zero, List.set_cons_succ])
              refine wpAnyH_ready (rs := [12]) (by kernel_rfl) (by simp) ?_
              refine AllReadyH.cons rfl (fun K hK => ?_) ?_
              · go_simp
                refine hK.out _ _ HLF.out.2.2.2 (fun hHeld => ?_)
                clear hK K
                (try simp only [List.setIfInBounds_toArray, List.set_cons_zero, List.set_cons_succ])
                refine wpAnyH_done (by kernel_rfl) ?_ _
                go_wp2_with (fail)
                go_meet
                exact ⟨g7, Bb, nb, db, Bb', mb, db', Bb2, qb, db2, rfl, rfl, HLF.out⟩
              exact AllReadyH.nil
            exact AllReadyH.nil
          exact AllReadyH.nil
        exact AllReadyH.nil
      exact AllReadyH.nil

    case rest =>
      obtain ⟨g7, Bb, nb, db, Bb', mb, db', Bb2, qb, db2, rfl, rfl, HTR⟩ := hcut
      have T := bt HT0.out HTR.out.2.2.2
      have HAB : Hid (PcIn wc Ba na da Ba' ma da' Ba2 qa da2 C S L1 ∧ PcIn wc Bb nb db Bb' mb db' Bb2 qb db2 C S L2) := ⟨HA.out.1.below HTR.out.2.2.2, HTR.out.2.1⟩
      have hBA := Blk.below (show Blk W2 ga 28 #[.slice Ba na da, .slice Ba' ma da', .slice Ba2 qa da2] from HA.out.2.1) HTR.out.2.2.2
      obtain ⟨a0, a1, a2⟩ := ap_cells hBA
      obtain ⟨b0, b1', b2'⟩ := ap_cells HTR.out.1
      have la := hBA.lt
      have lb := HTR.out.1.lt
      obtain ⟨x0, x1, x2⟩ := cell3 T
      clear hBA HTR HP0 HC0 HT0 HA K1 K2
      go_wp2_with (first
        | (go_at_call 38; (with_reducible refine (K3.out _ _ _ _ _ _ _ _ _ _ _ _ _ _ _ _ _ _ _ HAB.out.1 HAB.out.2).mono ?_); rintro e wq ⟨Bq, nq, dq, Bq', mq, dq', Bq2, qq, dq2, rfl, hPq, hbq, hlq⟩; have hqq := hPq.es.hq.trans HTL.out; obtain rfl : q = qq := hqq.symm; have hl2 := bt hlq (ba wq (pcO Bq nq dq Bq' mq dq' Bq2 q dq2)); replace T := bt T hl2; have TQ := Below.refl (wq.alloc (pcO Bq nq dq Bq' mq dq' Bq2 q dq2)).heap.size (wq.alloc (pcO Bq nq dq Bq' mq dq' Bq2 q dq2)); have HQP := Lib.hid (And.intro (hPq.below (ba wq (pcO Bq nq dq Bq' mq dq' Bq2 q dq2))) hbq); clear hPq hbq hlq hl2 a0 a1 a2 b0 b1' b2' la lb; obtain ⟨a0, a1, a2⟩ := cell3 TQ; clear x0 x1 x2; obtain ⟨x0, x1, x2⟩ := cell3 T)
        | (go_at_call 40; (with_reducible refine (C2.out _ _ _ _ _ _ _ _ _ _ HQP.out.2 (HQP.out.1.below TQ)).mono ?_); rintro e wr ⟨rfl, hbr⟩; replace T := bt T hbr; replace TQ := bt TQ hbr; clear hbr; clear x0 x1 x2; obtain ⟨x0, x1, x2⟩ := cell3 T; clear a0 a1 a2; obtain ⟨a0, a1, a2⟩ := cell3 TQ)
        | (go_at_call 16; have TQ' := TQ; refine (CC.out _ (HE.out _ T).2).mono ?_; rintro e wc2 ⟨B, d, B', d', B2, d2, rfl, hPc, hbc⟩; replace T := bt T hbc; replace TQ := bt TQ hbc; have HPc := Lib.hid hPc; clear hPc hbc TQ'; clear x0 x1 x2; obtain ⟨x0, x1, x2⟩ := cell3 T; clear a0 a1 a2; obtain ⟨a0, a1, a2⟩ := cell3 TQ)
        | (go_at_call 34; (with_reducible refine (DO1.out _ _ _ _ _ _ _ HPc.out).mono ?_); rintro e wk ⟨Bk, nk, dk, rfl, hnk, hsk, hbk⟩; replace T := bt T hbk; replace TQ := bt TQ hbk; have HSK := Lib.hid (And.intro hnk hsk); clear hnk hsk hbk; clear x0 x1 x2; obtain ⟨x0, x1, x2⟩ := cell3 T; clear a0 a1 a2; obtain ⟨a0, a1, a2⟩ := cell3 TQ)
        | (go_at_call 34; (with_reducible refine (DO2.out _ _ _ _ _ _ _ _ _ _ HQP.out.2 (HQP.out.1.below TQ)).mono ?_); rintro e wl ⟨Bl, nl, dl, rfl, hnl, hsl, hbl⟩; have hkl := hnl.trans HSK.out.1.symm; obtain rfl : nk = nl := hkl.symm; replace T := bt T hbl; replace TQ := bt TQ hbl; have HSL := Lib.hid (And.intro (HSK.out.2.below hbl) hsl); clear hnl hsl hbl; clear x0 x1 x2; obtain ⟨x0, x1, x2⟩ := cell3 T; clear a0 a1 a2; obtain ⟨a0, a1, a2⟩ := cell3 TQ)
        | (go_at_call 41; (with_reducible refine (sameIntsT_eq _ _ _ _ _ OL _ HSL.out.1 HSL.out.2 HSK.out.1 (by have := HSK.out.1; have := HOL.out; omega)).mono ?_); rintro e wm ⟨rfl, hbm⟩; replace T := bt T hbm; replace TQ := bt TQ hbm; clear hbm; clear x0 x1 x2; obtain ⟨x0, x1, x2⟩ := cell3 T; clear a0 a1 a2; obtain ⟨a0, a1, a2⟩ := cell3 TQ))
      obtain ⟨WQ, hWQ⟩ : ∃ x, World.alloc wq (pcO Bq nq dq Bq' mq dq' Bq2 q dq2) = x := ⟨_, rfl⟩
      obtain ⟨gq, hgq⟩ : ∃ g, wq.heap.size = g := ⟨_, rfl⟩
      have HBQ : Hid (Blk WQ gq 28 #[.slice Bq nq dq, .slice Bq' mq dq', .slice Bq2 q dq2]) := by
        unfold Hid
        rw [← hWQ, ← hgq]
        exact heap_alloc_new wq _
      rw [hWQ] at TQ HQP
      rw [hgq] at ⊢
      clear hWQ hgq
      have HT := Lib.hid T
      have HTQ := Lib.hid TQ
      have HPQ2 := Lib.hid HQP.out.1
      clear T TQ HQP x0 x1 x2 a0 a1 a2 HSK HSL K3 C2 DO1 DO2 CK CC HOL HAB HPc
      go_loopw [15] (fun iv wr => ∃ i : Nat, i ≤ q ∧ iv = .int .i64 i ∧ Below wm.heap.size wm wr) (fun i _ => q - (intOf i).toNat)
      case atStart => exact ⟨0, by omega, rfl, Below.refl _ _⟩
      case round =>
        obtain ⟨i, hi, rfl, hbw⟩ := hrel
        have HW := Lib.hid hbw
        obtain ⟨x0, x1, x2⟩ := cell3 (bt HT.out hbw)
        obtain ⟨a0, a1, a2⟩ := ap_cells (Blk.below HBQ.out (bt HTQ.out hbw))
        have lq := (Blk.below HBQ.out (bt HTQ.out hbw)).lt
        have lw : w.heap.size < wr.heap.size := by have := (bt HT.out hbw).size; simp at this; omega
        clear hbw
        by_cases hlt : i < q
        · have hin : (i : Int) < (q : Int) := by omega
          obtain ⟨b1, o1, xsa, xsc, hA2, hB1, hPk, _, ⟨c0, c1, c2, c3, c4, c5⟩, hS1⟩ := (HE.out _ (bt HT.out HW.out)).2.es.at hlt
          obtain ⟨b2, o2, ysa, ysc, hQ2, hB2, hQk, _, ⟨e0, e1, e2, e3, e4, e5⟩, hS2⟩ := (HPQ2.out.below (bt HTQ.out HW.out)).es.at hlt
          have HEQ := Lib.hid (HPL.out i _ _ hPk hQk)
          have HL := Lib.hid (HSU.out _ (List.mem_of_getElem? hPk))
          have HL2 := Lib.hid (HTS.out _ (List.mem_of_getElem? hQk))
          have HS1 := Lib.hid hS1
          have HS2 := Lib.hid hS2
          subst hA2 hQ2
          clear hS1 hS2 hPk hQk
          generalize P.getD i z6 = x at *
          generalize TL.getD i z6 = y at *
          obtain ⟨xbar, xv, xd, xt, xtie, XL⟩ := x
          obtain ⟨ybar, yv, yd, yt, ytie, YL⟩ := y
          dsimp only at c0 c1 c2 c3 c4 c5 e0 e1 e2 e3 e4 e5 HL HL2 HS1 HS2 HEQ
          obtain ⟨xN, hN⟩ : ∃ N, XL.length = N := ⟨_, rfl⟩
          rw [hN] at c5 HL HS1
          have HN := Lib.hid hN
          obtain ⟨yN, hM⟩ : ∃ M, YL.length = M := ⟨_, rfl⟩
          rw [hM] at e5 HL2 HS2
          have HM := Lib.hid hM
          clear hN hM
          have HC2 : Hid (∀ w', Below wr.heap.size wr w' → (w'.cell? ⟨w.heap.size, 2, none⟩ = some (.slice (some ⟨b1, o1, none⟩) q cq) ∧ w'.cell? ⟨gq, 2, none⟩ = some (.slice (some ⟨b2, o2, none⟩) q dq2)) ∧ (w'.cell? ⟨b1, o1 + i * 6, none⟩ = some (.bool xbar) ∧ w'.cell? ⟨b1, o1 + i * 6 + 1, none⟩ = some (.int .i64 xv) ∧ w'.cell? ⟨b1, o1 + i * 6 + 2, none⟩ = some (.bool xd) ∧ w'.cell? ⟨b1, o1 + i * 6 + 3, none⟩ = some (.bool xt) ∧ w'.cell? ⟨b1, o1 + i * 6 + 4, none⟩ = some (.bool xtie) ∧ w'.cell? ⟨b1, o1 + i * 6 + 5, none⟩ = some (.slice xsa xN xsc)) ∧ (w'.cell? ⟨b2, o2 + i * 6, none⟩ = some (.bool ybar) ∧ w'.cell? ⟨b2, o2 + i * 6 + 1, none⟩ = some (.int .i64 yv) ∧ w'.cell? ⟨b2, o2 + i * 6 + 2, none⟩ = some (.bool yd) ∧ w'.cell? ⟨b2, o2 + i * 6 + 3, none⟩ = some (.bool yt) ∧ w'.cell? ⟨b2, o2 + i * 6 + 4, none⟩ = some (.bool ytie) ∧ w'.cell? ⟨b2, o2 + i * 6 + 5, none⟩ = some (.slice ysa yN ysc))) := fun w' h =>
            have hw0 := h.block w.heap.size lw
            have hw1 := h.block gq lq
            have h1 := h.block b1 hB1
            have h2 := h.block b2 hB2
            ⟨⟨cell_same hw0 x2, cell_same hw1 a2⟩, ⟨cell_same h1 c0, cell_same h1 c1, cell_same h1 c2, cell_same h1 c3, cell_same h1 c4, cell_same h1 c5⟩, ⟨cell_same h2 e0, cell_same h2 e1, cell_same h2 e2, cell_same h2 e3, cell_same h2 e4, cell_same h2 e5⟩⟩
          go_wp2_with (fail)
          have T := (Below.refl wr.heap.size wr).drew
          go_region_held3 (fun w' => (w'.cell? ⟨w.heap.size, 2, none⟩ = some (.slice (some ⟨b1, o1, none⟩) q cq) ∧ w'.cell? ⟨gq, 2, none⟩ = some (.slice (some ⟨b2, o2, none⟩) q dq2)) ∧ (w'.cell? ⟨b1, o1 + i * 6, none⟩ = some (.bool xbar) ∧ w'.cell? ⟨b1, o1 + i * 6 + 1, none⟩ = some (.int .i64 xv) ∧ w'.cell? ⟨b1, o1 + i * 6 + 2, none⟩ = some (.bool xd) ∧ w'.cell? ⟨b1, o1 + i * 6 + 3, none⟩ = some (.bool xt) ∧ w'.cell? ⟨b1, o1 + i * 6 + 4, none⟩ = some (.bool xtie) ∧ w'.cell? ⟨b1, o1 + i * 6 + 5, none⟩ = some (.slice xsa xN xsc)) ∧ (w'.cell? ⟨b2, o2 + i * 6, none⟩ = some (.bool ybar) ∧ w'.cell? ⟨b2, o2 + i * 6 + 1, none⟩ = some (.int .i64 yv) ∧ w'.cell? ⟨b2, o2 + i * 6 + 2, none⟩ = some (.bool yd) ∧ w'.cell? ⟨b2, o2 + i * 6 + 3, none⟩ = some (.bool yt) ∧ w'.cell? ⟨b2, o2 + i * 6 + 4, none⟩ = some (.bool ytie) ∧ w'.cell? ⟨b2, o2 + i * 6 + 5, none⟩ = some (.slice ysa yN ysc)))
            (exact HC2.out _ T)
            (first | (go_at_call 35; refine (rSamePlaces_any xbar xv xd xt xtie xsa xN xsc ybar yv yd yt ytie ysa yN ysc XL YL _ (HS1.out.below T) (HS2.out.below T) HN.out.symm HM.out.symm HL.out HL2.out).mono ?_; rintro e wz ⟨rfl, hbz⟩; rw [HEQ.out]; replace T := bt T hbz))
          have HT2 := Lib.hid T
          clear T hbz
          go_wp2_with (fail)
          go_roundw
          case rel => exact ⟨i + 1, by omega, by first | rfl | go_num, bt HW.out HT2.out⟩
          case measure => simp [intOf]; omega
        · have hin : ¬ ((i : Int) < (q : Int)) := by omega
          have T := bt HT.out HW.out
          go_wp2_with (go_at_call 15; refine (works2 _ (HE.out _ T).1).mono ?_; rintro e wz ⟨rfl, hbz⟩)
          go_ret
          exact ⟨rfl, bx (bt T hbz)⟩

end Go.Proofs.YtjobablfojnppaaDoor

/- PieceTorn: for every input the law returns true, and its arguments read behind the call as they read before; the card ties the tables that it reads to the program's text. -/
namespace Go.Proofs.YtjobablfojnppaaDoor
open Go.ChangeShapes Go.WideShapes Go.ChangeAt Go.RowKit Go.Deep

set_option maxRecDepth 100000 in
theorem ptorn_lifted (os : Os) (started : os.Started) (H : Type) (enc : TypeId × Value → H) :
    ReturnsInHanded {} Tryd.checked os 9 .any (fun w args => (Rows.pieceTornSpec.pre enc Tryd.prog Tryd.f9 Rows.pieceTornRow.domain false w args ∧ laidMetH Tryd.prog Rows.pieceTornRow.laid w) ∧ sizedMet enc Tryd.prog Tryd.f9 (OpenSpec.ofChange Rows.pieceTornSpec) false w args)
      (Rows.pieceTornSpec.post enc Tryd.prog Tryd.f9 false true false false) := by
  refine lift (C := Tryd.checked) own started Tryd.func9 (by kernel_rfl) (fun w h => by rwa [MakeChecks.laidMetH_plain _ _ _ (by kernel_rfl)] at h)
    (ChangeSpec.witness_shaped (enc := enc) (C := Tryd.checked) (os := os) (X := fun w _ => laidMetH Tryd.prog Rows.pieceTornRow.laid w) false (World.laidAll Tryd.prog os Rows.pieceTornRow.laid) #[.agg #[.slice none 0 0, .slice none 0 0, .slice none 0 0], .int .i64 0] 8 (World.laidAll_os _ _ _)
      (World.shaped_of_ZipB (by kernel_rfl) (by kernel_rfl)) (by kernel_rfl) (by kernel_rfl) (by kernel_rfl)
      (by rw [MakeChecks.laidMetH_plain _ _ _ (by kernel_rfl)]; exact laidMet_laidAll _ (by kernel_rfl) (by kernel_rfl))) ?_
  intro W base args ds gs before hval0 hW hL hsh
  have hval : ∀ (j : Nat) t v, Tryd.f9.params[j]? = some t → args[j]? = some v → Value.okWide Tryd.prog W .any base t v := hval0
  have hW' := hW
  obtain ⟨p, q, hA0, hV, rfl, hfz, hnd⟩ := hW
  have hA : DataW.TrodAll enc Tryd.prog W 0 (fun _ => true) true Tryd.f9.params.toList args.toList ds p := hA0
  rw [Tryd.params9] at hA hval
  obtain ⟨v0, v1, d0, d1, p0, p1, rfl, rfl, rfl, h0, h1⟩ := trodAll_two hA
  obtain ⟨rfl, rfl⟩ := trodVars_none hV
  obtain ⟨A0, n0, c0, B0, m0, k0, D0, q0, e0, C0, S0, P0, rfl, hP0, _, _, _⟩ := open_piece (hval 0 28 v0 rfl rfl) h0
  obtain ⟨x1, rfl, _, _, _⟩ := open_int Tryd.underlying3 (hval 1 3 v1 rfl rfl) h1
  have E := sgt_of hL (by simp [Rows.pieceTornRow])
  refine (law_ptorn A0 n0 c0 B0 m0 k0 D0 q0 e0 C0 S0 P0 x1 W E hP0).mono fun e W' ⟨he, hb⟩ => ?_
  subst he
  exact ⟨_, rfl, post_law Tryd.laidOut rfl hW' ⟨rfl, rfl, rfl⟩ rfl Tryd.underlying4 (by rw [Tryd.params9]; intro t ht; simp at ht; rcases ht with rfl | rfl <;> exact ⟨by kernel_rfl, of_decide_eq_true (by kernel_rfl)⟩) hb⟩

theorem ptorn_holds : Rows.PieceTornSaid :=
  OpenClaim.holds_of_wide 9 Tryd.f9 rfl rfl rfl rfl rfl rfl rfl ⟨rfl, rfl, rfl, rfl, rfl⟩ rfl rfl rfl rfl rfl (by kernel_rfl) Tryd.func9 (by kernel_rfl)
    (of_decide_eq_true (by kernel_rfl)) (by unfold Func.isWrapper; rw [if_neg (of_decide_eq_false (by kernel_rfl))]; exact ⟨rfl, rfl⟩)
    (fun os started H enc _ => ptorn_lifted os started H enc)

theorem ptorn_card : Rows.PieceTornCardSaid :=
  Claim7.holds_tied_plain_at .later [] [.data] true Rows.pieceTornCard.stood.harness false
    ptorn_holds (fun _ h => by cases h) (by kernel_rfl) (fun _ h => by cases h) pieceTorn_row_tie rfl ⟨rfl, rfl⟩ (by kernel_rfl) rfl
    (fun f fn hf hfn => by
      obtain rfl : f = 9 := Option.some.inj ((show Tryd.prog.funcNamed "theorbo/theorbolaw02.PieceTorn" = some 9 by kernel_rfl).symm.trans hf) |>.symm
      obtain rfl : fn = Tryd.f9 := (Option.some.inj (Tryd.func9.symm.trans hfn)).symm
      exact ⟨by kernel_rfl, fun j t ht => by
        rw [Tryd.params9] at ht
        have hm : t ∈ [28, 3] := by simpa using Array.mem_of_getElem? ht
        have hall : ([28, 3].all fun u => !Tryd.prog.wantsStandIn u) = true := by kernel_rfl
        exact (show Tryd.prog.wantsStandIn t = false by simpa using List.all_eq_true.1 hall t hm)⟩)
    (by kernel_rfl)
#print axioms ptorn_card

end Go.Proofs.YtjobablfojnppaaDoor
