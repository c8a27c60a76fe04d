/- The law PieceCuts returns true for every piece and numbers. -/
import Derived.Test.YtlmpoklakbjpnaaDoorRr6
import Derived.Test.YtlmpoklakbjpnaaDoorTer
import Derived.Test.YtlmpoklakbjpnaaDoorSameI2
import Derived.Test.YtlmpoklakbjpnaaDoorWorks2
namespace Go.Proofs.YtlmpoklakbjpnaaDoor
open Go Go.RowKit

theorem tm_at : ∀ (P : List EvP) (n : Nat) (v : Int) (d t : Bool) (fm : Int) (j : Nat) (p : TmP), (tmPL P n v d t fm)[j]? = some p → p.n = n + j ∧ P[j]? = some p.y
  | [], n, v, d, t, fm, j, p, h => by simp [tmPL] at h
  | y :: r, n, v, d, t, fm, 0, p, h => by
    unfold tmPL at h
    split at h
    all_goals
      simp at h
      subst h
      exact ⟨rfl, rfl⟩
  | y :: r, n, v, d, t, fm, j + 1, p, h => by
    unfold tmPL at h
    split at h
    all_goals
      have := tm_at r _ _ _ _ _ j p (by simpa using h)
      exact ⟨by omega, by simpa using this.2⟩
theorem rwO_cut (f t : Int) (X : List TmP) : (rwO (cutSt f t) () X).1 = X.map fun p => (cutSt f t () p).2 := by
  have : ∀ (X : List TmP) (o : List EvP), (X.foldl (fun a p => (a.1 ++ [(cutSt f t a.2 p).2], (cutSt f t a.2 p).1)) (o, ())).1 = o ++ X.map fun p => (cutSt f t () p).2 := by
    intro X
    induction X with
    | nil => intro o; simp
    | cons p r ih =>
      intro o
      rw [List.foldl_cons]
      show (List.foldl _ (o ++ [(cutSt f t () p).2], ()) r).1 = _
      rw [ih]
      simp
  unfold rwO
  rw [this]
  simp
theorem getD_of {α : Type} {L : List α} {i : Nat} {x z : α} (h : L[i]? = some x) : L.getD i z = x := by simp [List.getD_eq_getElem?_getD, h]
theorem cut_eq {P : List EvP} (hP : SgR P) {f t : Nat} (h1 : f ≤ t) (h2 : t ≤ P.length) : ((rwO (cutSt f t) () (tpL P)).1.drop f).take (t - f) = ctL f t (setG P (frcL s0g P)) P (t - f) := by
  rw [rwO_cut]
  refine List.ext_getElem? (fun j => ?_)
  by_cases hj : j < t - f
  · rw [List.getElem?_take, if_pos hj, List.getElem?_drop, List.getElem?_map]
    have hl : f + j < (tpL P).length := by rw [tmPL_len]; omega
    have hp := List.getElem?_eq_getElem hl
    generalize (tpL P)[f + j] = p at hp
    obtain ⟨k1, k2⟩ := tm_at P 0 0 false false 0 _ _ hp
    have hg := congrArg (fun L => L[f + j]?) (tm_plain P 0 0 false false 0 hP)
    simp only [List.getElem?_map] at hg
    rw [hp] at hg
    have e1 : (setG P (frcL s0g P)).getD (f + j) z6 = upS p.y ⟨p.v, p.d, p.t⟩ := getD_of hg.symm
    have e2 : P.getD (f + j) z6 = p.y := getD_of k2
    have e3 : p.n = f + j := by omega
    rw [hp]
    show some (cutSt f t () p).2 = _
    unfold ctL
    rw [List.getElem?_map, List.getElem?_range hj]
    show _ = some (ctE f t (setG P (frcL s0g P)) P j)
    unfold ctE cutSt
    rw [e1, e2, e3]
    by_cases h0 : j = 0
    · rw [if_pos h0, if_pos (by omega)]
      rfl
    · rw [if_neg h0, if_neg (by omega)]
      rfl
  · rw [List.getElem?_take, if_neg hj, List.getElem?_eq_none (by simp [ctL]; omega)]
theorem setG_L (P : List EvP) (F : List Sg) (i : Nat) : ((setG P F).getD i z6).L = (P.getD i z6).L := by
  have := congrArg (fun M => M[i]?) (setG_mapL P F)
  simp only [List.getElem?_map] at this
  simp only [List.getD_eq_getElem?_getD]
  cases h1 : (setG P F)[i]? <;> cases h2 : P[i]? <;> rw [h1, h2] at this <;> simp at this ⊢
  exact this
theorem ctL_L {f t k : Nat} {P : List EvP} {F : List Sg} {N : Nat} (h : ∀ y ∈ P, y.L.length ≤ N) : ∀ y ∈ ctL f t (setG P F) P k, y.L.length ≤ N := fun y hy => by
  unfold ctL at hy
  obtain ⟨j, _, rfl⟩ := List.mem_map.1 hy
  have e : (ctE f t (setG P F) P j).L = ((setG P F).getD (f + j) z6).L.map (cutS t (f + j : Nat)) := by
    unfold ctE
    split <;> rfl
  rw [e, List.length_map, setG_L]
  by_cases hi : f + j < P.length
  · exact h _ (by simp [List.getD_eq_getElem?_getD, List.getElem?_eq_getElem hi])
  · simp [List.getD_eq_getElem?_getD, List.getElem?_eq_none (Nat.le_of_not_lt hi), z6]
theorem oC_same {α : Type} {er : Int} {L L' : List α} (h : er = 0 → L = L') : oC er L = oC er L' := by
  by_cases h0 : er = 0
  · rw [h h0]
  · rw [oC_no h0, oC_no h0]
theorem oC_oC {α : Type} (er : Int) (L : List α) : oC er (oC er L) = oC er L := oC_same (fun h => by rw [h, oC_ok])
theorem PcRes.sub {er : Int} {C : List Cr} {S : List Int} {P P' : List EvP} {w : World} {e : Ending} {w' : World} (h : PcRes er C S P w e w') (hp : er = 0 → P = P') : PcRes er C S P' w e w' := by
  unfold PcRes at h ⊢
  rwa [oC_same hp] at h
theorem cutErr_ok {X fr to : Int} {q : Nat} (h : cutErr X fr to q = 0) : X = 0 ∧ 0 ≤ fr ∧ fr ≤ to ∧ to ≤ q := by
  unfold cutErr at h
  split at h
  · rename_i h1
    exact absurd h h1
  · rename_i h1
    split at h
    · simp at h
    · rename_i h2
      exact ⟨by omega, by omega, by omega, by omega⟩

set_option maxRecDepth 100000 in
set_option maxHeartbeats 16000000 in
theorem law_pcuts (A : Option Addr) (n c : Nat) (A' : Option Addr) (m c' : Nat) (A2 : Option Addr) (q cq : Nat) (C : List Cr) (S : List Int) (P : List EvP) (fr to : Int) (w : World) (hT : SgT w) (hP : PcIn w A n c A' m c' A2 q cq C S P) :
    Calls Tryd.prog 7 #[pcV A n c A' m c' A2 q cq, .int .i64 fr, .int .i64 to] w fun e w' => e = .returned (.bool true) ∧ Below w.heap.size w w' := by
  have HE : Hid (∀ w', Below (w.alloc (pcO A n c A' m c' A2 q cq)).heap.size (w.alloc (pcO A n c A' m c' A2 q cq)) w' → SgT w' ∧ PcIn w' A n c A' m c' A2 q cq C S P) :=
    fun w' h => ⟨(hT.below (ba _ _)).below h, (hP.below (ba _ _)).below h⟩
  have hql := hP.es.hq
  have hnl := hP.hn
  have hml := hP.hm
  have HI := Lib.hid (HE.out _ (Below.refl _ _)).2
  clear hT hP
  cases hbg : pbigB n m P with
  | true =>
    have HB := Lib.hid hbg
    clear hbg hql hnl hml
    go_enter Tryd.func7, Tryd.ntmps7
    go_wp2_with (first | (go_at_call 14; refine (pbig_any A n c A' m c' A2 q cq P _ HI.out.es).mono ?_; rintro e w1 ⟨rfl, hb1⟩; rw [HB.out]; have T := hb1; clear hb1; obtain ⟨x0, x1, x2⟩ := cell3 T) | (go_at_call 15; refine (works2 _ (HE.out _ T).1).mono ?_; rintro e wz ⟨rfl, hbz⟩))
    go_ret
    exact ⟨rfl, bx (bt T hbz)⟩
  | false =>
    have HB := Lib.hid hbg
    obtain ⟨l1, l2, l3, l4⟩ := pbigB_no hbg
    have b1 : n ≤ 65536 := by omega
    have b2 : m ≤ 65536 := by omega
    have b3 : q ≤ 65536 := by omega
    have HST : Hid (∀ y ∈ P, y.L.length ≤ 65536) := fun y hy => Nat.le_trans (l4 y hy) (by omega)
    have HSU : Hid (∀ y ∈ P, y.L.length ≤ 1000000) := fun y hy => Nat.le_trans (l4 y hy) (by omega)
    have CC := Lib.hid (fun w' (h : PcIn w' A n c A' m c' A2 q cq C S P) => pcopy_any A n c A' m c' A2 q cq C S P w' h b1 b2 b3 HST.out)
    obtain ⟨X, hX⟩ : ∃ X, pcErr C S P = X := ⟨_, rfl⟩
    obtain ⟨E1, hE1⟩ : ∃ E1, cutErr X fr to q = E1 := ⟨_, rfl⟩
    obtain ⟨L1, hL1⟩ : ∃ L1, oC E1 (ctL fr.toNat to.toNat (setG P (frcL s0g P)) P (to.toNat - fr.toNat)) = L1 := ⟨_, rfl⟩
    have hL2 : E1 = 0 → ((rwO (cutSt fr to) () (tpL P)).1.drop fr.toNat).take (to.toNat - fr.toNat) = L1 := fun h0 => by
      rw [h0] at hE1
      obtain ⟨x0, x1, x2, x3⟩ := cutErr_ok hE1
      rw [← hL1, h0, oC_ok]
      obtain ⟨f, rfl⟩ := Int.eq_ofNat_of_zero_le x1
      obtain ⟨t, rfl⟩ := Int.eq_ofNat_of_zero_le (show 0 ≤ to by omega)
      exact cut_eq (sgr_of (hX.trans x0)) (by omega) (by omega)
    have hL3 : E1 = 0 → ctL fr.toNat to.toNat (setG P (frcL s0g P)) P (to.toNat - fr.toNat) = L1 := fun h0 => by rw [← hL1, h0, oC_ok]
    have hLl : L1.length ≤ 65536 := by
      by_cases h0 : E1 = 0
      · rw [h0] at hE1
        obtain ⟨x0, x1, x2, x3⟩ := cutErr_ok hE1
        rw [← hL3 h0]
        simp [ctL]
        omega
      · rw [← hL1, oC_no h0]
        simp
    have HLS : Hid (∀ y ∈ L1, y.L.length ≤ 1000000) := fun y hy => by
      rw [← hL1] at hy
      exact ctL_L HSU.out y (oC_mem hy)
    have AG1 : Hid (∀ (B : Option Addr) (e : Nat) (B' : Option Addr) (e' : Nat) (B2 : Option Addr) (e2 : Nat) w' (_ : PcIn w' B n e B' m e' B2 q e2 C S P), Calls Tryd.prog 36 #[pcV B n e B' m e' B2 q e2, .int .i64 fr, .int .i64 to] w' (PcUse E1 (oC E1 C) (oC E1 S) (oC E1 L1) w')) := fun B e B' e' B2 e2 w' h => by
      refine (pcut_any B n e B' m e' B2 q e2 C S P fr to w' h (by omega) (by omega) b3 HSU.out).mono (fun e w2 hr => ?_)
      rw [hX, hE1] at hr
      exact (hr.sub hL2).use (by omega) (by omega) hLl
    have RG : Hid (∀ w' (_ : PcIn w' A n c A' m c' A2 q cq C S P), Calls Tryd.prog 37 #[pcV A n c A' m c' A2 q cq, .int .i64 fr, .int .i64 to] w' (PcUse E1 (oC E1 C) (oC E1 S) (oC E1 L1) w')) := fun w' h => by
      refine (rcut_any A n c A' m c' A2 q cq C S P fr to w' h b1 b2 b3 HST.out).mono (fun e w2 hr => ?_)
      rw [hX, hE1] at hr
      exact (hr.sub hL3).use (by omega) (by omega) hLl
    have HST1 : Hid (∀ y ∈ oC E1 L1, y.L.length ≤ 1000000) := fun y hy => HLS.out y (oC_mem hy)
    clear hbg l1 l2 l3 l4 hql hnl hml hX hE1 hL1 hL2 hL3 hLl
    generalize oC E1 C = C1 at *
    generalize oC E1 S = S1 at *
    generalize oC E1 L1 = P1 at *
    unfold PcUse at AG1 RG
    go_enter Tryd.func7, Tryd.ntmps7
    go_wp2_with (first
      | (go_at_call 14; refine (pbig_any A n c A' m c' A2 q cq P _ HI.out.es).mono ?_; rintro e w1 ⟨rfl, hb1⟩; rw [HB.out]; have T := hb1; clear hb1; obtain ⟨x0, x1, x2⟩ := cell3 T)
      | (go_at_call 16; refine (CC.out _ (HE.out _ T).2).mono ?_; rintro e wc ⟨B, d, B', d', B2, d2, rfl, hPc, hbc⟩; replace T := bt T hbc; have HPc := Lib.hid hPc; clear hPc hbc; clear x0 x1 x2; obtain ⟨x0, x1, x2⟩ := cell3 T)
      | (go_at_call 36; (with_reducible refine (AG1.out _ _ _ _ _ _ _ HPc.out).mono ?_); rintro e wa ⟨Ba, na, da, Ba', ma, da', Ba2, qa, da2, rfl, hPa, hba, hla⟩; replace T := bt T (bt hla (ba wa (pcO Ba na da Ba' ma da' Ba2 qa da2))); have HA := Lib.hid (And.intro (hPa.below (ba wa (pcO Ba na da Ba' ma da' Ba2 qa da2))) (And.intro (heap_alloc_new wa (pcO Ba na da Ba' ma da' Ba2 qa da2)) hba)); clear hPa hba hla; clear x0 x1 x2; obtain ⟨x0, x1, x2⟩ := cell3 T)
      | (go_at_call 37; refine (RG.out _ (HE.out _ T).2).mono ?_; rintro e wb ⟨Bb, nb, db, Bb', mb, db', Bb2, qb, db2, rfl, hPb, hbb, hlb⟩; have hl2 := bt hlb (ba wb (pcO Bb nb db Bb' mb db' Bb2 qb db2)); replace T := bt T hl2; have hBA := Blk.below HA.out.2.1 hl2; have a0 := hBA.cell 0; have a1 := hBA.cell 1; have a2 := hBA.cell 2; simp at a0 a1 a2; have hla := hBA.lt; have HAB := Lib.hid (And.intro (HA.out.1.below hl2) (And.intro HA.out.2.2 (And.intro (hPb.below (ba wb (pcO Bb nb db Bb' mb db' Bb2 qb db2))) hbb))); clear hPb hbb hlb hl2 hBA; clear x0 x1 x2; obtain ⟨x0, x1, x2⟩ := cell3 T)
      | (go_at_call 19; refine (same_true HAB.out.1 HAB.out.2.2.1 HAB.out.2.1 HAB.out.2.2.2 HST1.out).mono ?_; rintro e ws ⟨rfl, hbs⟩; replace T := bt T hbs; clear hbs a0 a1 a2; clear x0 x1 x2; obtain ⟨x0, x1, x2⟩ := cell3 T)
      | (go_at_call 15; refine (works2 _ (HE.out _ T).1).mono ?_; rintro e wz ⟨rfl, hbz⟩))
    go_ret
    exact ⟨rfl, bx (bt T hbz)⟩

end Go.Proofs.YtlmpoklakbjpnaaDoor
