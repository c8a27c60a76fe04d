/- Sound, the reference: the highest or the lowest pitch of each event. -/
import Derived.Test.YtcebpgcmmdfccaaSndRG
import Derived.Test.YtcebpgcmmdfccaaLn
import Derived.Test.YtcebpgcmmdfccaaSndAt2
namespace Go.Proofs.Ytcebpgcmmdfccaa
open Go Go.RowKit

theorem intC_snocL (S : List Int) (x : Int) : intC (S ++ [x]) = intC S ++ [.int .i64 x] := by simp [intC]
theorem takeF_snoc {V : List Int} {k : Nat} {x : Int} (h : V[k]? = some x) : V.take (k + 1) = V.take k ++ [x] := by rw [List.take_add_one, h]; rfl
theorem lnQ_step (hi : Bool) (g : St → Int) (L : List St) {j : Nat} (hj : j < L.length) : lnF hi ((L.take (j + 1)).map g) = lnS hi (lnF hi ((L.take j).map g)) (g (L.getD j z5)) := by
  have e : L.take (j + 1) = L.take j ++ [L.getD j z5] := by rw [List.take_add_one]; simp [List.getElem?_eq_getElem hj]
  rw [e, List.map_append, List.map_singleton, lnF_snoc]

set_option maxRecDepth 100000 in
set_option maxHeartbeats 8000000 in
theorem rline_true (A : Option Addr) (n c : Nat) (A' : Option Addr) (m c' : Nat) (A2 : Option Addr) (q cq : Nat) (C : List Cr) (S : List Int) (P : List EvP) (w : World) (hP : PcIn w A n c A' m c' A2 q cq C S P) (hnb : n ≤ 1000000) (hmb : m ≤ 1000000) (hq : q ≤ 65536) (hst : ∀ y ∈ P, y.L.length ≤ 1000000) (hX : pcErr C S P = 0) :
    Calls Try.prog 75 #[pcV A n c A' m c' A2 q cq, .bool true] w (NmPost (lnL true C S P) 0 w) := by
  have HP : Hid (∀ w', Below w.heap.size w w' → PcIn w' A n c A' m c' A2 q cq C S P) := fun w' hb => hP.below hb
  have HL := Lib.hid hP.es.hq
  have HN := Lib.hid hP.hn
  have HM := Lib.hid hP.hm
  have HST := Lib.hid hst
  have h400 : q ≤ 400 := by have := (pcErr_ok hX).2.1; have := hP.es.hq; omega
  have HSO : Hid (∀ (i : Nat) (y : EvP), P[i]? = some y → y.L.length ≤ 14 ∧ ∀ s ∈ y.L, StOk C P i s) := fun i y hy => ⟨ev_len hX hy, fun s hs => stOk_of hX hy hs⟩
  have HCH := Lib.hid (pcErr_ok hX).1
  have HVA : Hid (∀ {k : Nat} {y : EvP}, P[k]? = some y → (lnL true C S P)[k]? = some (lnF true (y.L.map fun s => atP C S s.c s.f))) := fun {k y} hy => by unfold lnL; rw [if_pos hX]; simp [hy]
  have HVL : Hid ((lnL true C S P).length = q) := by unfold Hid lnL; rw [if_pos hX, List.length_map]; exact hP.es.hq.symm
  obtain ⟨i0, ii1, ii2, ii3, ii4⟩ := info_parts Try.info3'
  have DO := Lib.hid (fun w' (h : PcIn w' A n c A' m c' A2 q cq C S P) => rpcheck_any A n c A' m c' A2 q cq C S P w' h hnb hmb (by omega) hst)
  unfold NmPost
  rw [hX] at DO
  have hn9 : n ≤ 9223372036854775807 := by omega
  have hm9 : m ≤ 9223372036854775807 := by omega
  clear hP hst hX
  generalize lnL true C S P = V at *
  go_enter Try.func75, Try.ntmps75
  go_wp2_with (go_at_call 47; refine (DO.out _ (HP.out _ (ba w _))).mono ?_; rintro e w1 ⟨rfl, hb1⟩; obtain ⟨p0, p1, p2⟩ := cell3 hb1; have HB1 := Lib.hid hb1; clear hb1)
  go_loopw [8, 7, 9, 10, 11, 12] (fun i l _ _ _ _ wr => ∃ (k : Nat) (A1 : Option Addr) (c1 : Nat), k ≤ q ∧ i = .int .i64 k ∧ l = .slice A1 k c1 ∧ Own1 w1 wr 3 1 A1 k c1 (intC (V.take k))) (fun i _ _ _ _ _ _ => q - (intOf i).toNat)
  case atStart => exact ⟨0, none, 0, by omega, rfl, rfl, Own1.start (Below.refl _ _) _ _⟩
  case round =>
    obtain ⟨k, A1, c1, hk, rfl, rfl, hOw⟩ := hrel
    have HOw := Lib.hid hOw
    have HW : Hid (Below w.heap.size w wr) := bx (bt HB1.out hOw.low)
    have hzw : w1.heap.size ≤ wr.heap.size := hOw.low.size
    obtain ⟨p0, p1, p2⟩ := cell3 (bt HB1.out hOw.low)
    clear hOw
    by_cases hlt : k < q
    · obtain ⟨b, off, sa, sc', rfl, hbl, hPk, hd, ⟨e0, e1, e2, e3, e4, e5⟩, hS⟩ := (HP.out _ (Below.refl _ _)).es.at hlt
      have hkq : (k : Int) < (q : Int) := by omega
      have HS := Lib.hid hS
      have hL14 : (P.getD k z6).L.length ≤ 14 := (HSO.out _ _ hPk).1
      have HOK : Hid (∀ s ∈ (P.getD k z6).L, StOk C P k s) := (HSO.out _ _ hPk).2
      have HVK := Lib.hid (HVA.out hPk)
      have HE5 : Hid (∀ w', Below w.heap.size w w' → w'.cell? ⟨b, off + k * 6 + 5, none⟩ = some (.slice sa (P.getD k z6).L.length sc')) := fun w' h => cell_same (h.block b hbl) e5
      clear hS hd hPk e0 e1 e2 e3 e4 e5
      generalize P.getD k z6 = y at *
      obtain ⟨bar, v, dt, tr, tie, L⟩ := y
      dsimp only at hL14 HS HOK HE5 HVK
      obtain ⟨N, hN⟩ : ∃ N, L.length = N := ⟨_, rfl⟩
      have HLN := Lib.hid hN
      rw [hN] at HE5 hL14 HS
      clear hN
      go_wp2_with (fail)
      obtain ⟨wo, rfl⟩ : ∃ wo : World, wo = wr := ⟨_, rfl⟩
      clear p0 p1 p2
      go_loopw [10, 9, 11, 12] (fun s v _ _ wr => ∃ (j : Nat) (nv : Int), j ≤ N ∧ s = .int .i64 j ∧ v = .int .i64 nv ∧ Hid (lnF true ((L.take j).map fun s => atP C S s.c s.f) = nv) ∧ Below wo.heap.size wo wr) (fun s _ _ _ _ => N - (intOf s).toNat)
      case atStart => exact ⟨0, -1, by omega, rfl, rfl, rfl, Below.refl _ _⟩
      case round =>
        obtain ⟨j, nv, hj, rfl, rfl, HNV, hbw⟩ := hrel
        have HB2 := Lib.hid hbw
        have HW2 : Hid (Below w.heap.size w wr) := bt HW.out hbw
        obtain ⟨p0, p1, p2⟩ := cell3 (bt HB1.out (bt HOw.out.low hbw))
        have e5 := HE5.out _ HW2.out
        have hz2 : w.heap.size < wr.heap.size := by have h1 := HB1.out.size; have h2 := hbw.size; simp at h1; omega
        clear hbw
        by_cases hlj : j < N
        · obtain ⟨sb, so, rfl, hsb, hsd, hsj, d0, d1, d2, d3, d4⟩ := st_at (HS.out.below HW2.out) HLN.out.symm hlj
          have HSK : Hid (StOk C P k (L.getD j z5)) := HOK.out _ (List.mem_of_getElem? hsj)
          have hjN : (j : Int) < (N : Int) := by omega
          have HQS := Lib.hid (lnQ_step true (fun s => atP C S s.c s.f) L (j := j) (by have := HLN.out; omega))
          clear hsd hsj
          generalize L.getD j z5 = s at *
          obtain ⟨pv, hpv⟩ : ∃ pv, atP C S s.c s.f = pv := ⟨_, rfl⟩
          have HPV := Lib.hid hpv
          have HQ2 : Hid (lnF true ((L.take (j + 1)).map fun s => atP C S s.c s.f) = lnS true nv pv) := by
            have := HQS.out
            rw [HNV.out] at this
            unfold Hid
            rw [this]
            rw [hpv]
          clear hpv HQS
          obtain ⟨sc, sf, sr, sg, sh⟩ := s
          dsimp only at d0 d1 d2 d3 d4 HPV
          obtain ⟨cn, hcn⟩ : ∃ cn : Nat, sc = (cn : Int) + 1 := ⟨(sc - 1).toNat, by have := HSK.out.c1; dsimp only at this; omega⟩
          subst hcn
          have hcc : cn < n := by have := HSK.out.c2; dsimp only at this; have := HN.out; omega
          have HAT : Hid (0 ≤ (C.getD cn z0).p ∧ (C.getD cn z0).p ≤ 127 ∧ 0 ≤ sf ∧ sf ≤ m ∧ 0 ≤ riseV S sf ∧ riseV S sf ≤ 127 ∧ (C.getD cn z0).p + riseV S sf = pv) := by
            have h := HSK.out
            have e : ((cn : Int) + 1 - 1).toNat = cn := by omega
            obtain ⟨_, _, hri, hce⟩ := chk_ok HCH.out
            obtain ⟨_, c4, c1, c2, _⟩ := crErr_ok (crsErr_mem hce _ (getD_mem C cn (by have := HN.out; omega)))
            have f2 := h.f2
            have f1 := h.f1
            dsimp only at f1 f2
            rw [e] at f2
            have hm := HM.out
            obtain ⟨r1, r2⟩ := riseV_bd hri f1 (by omega)
            have hp := (at_pitch HCH.out h.c1 h.c2 h.f1 h.f2).1
            dsimp only at hp
            rw [e, HPV.out] at hp
            exact ⟨c1, c2, f1, by omega, r1, r2, hp.symm⟩
          have HLS : Hid (lnS true nv pv = if nv < 0 then pv else chV true nv pv) := rfl
          have HCV : Hid (chV true nv pv = max nv pv) := rfl
          by_cases h1 : nv < 0
          · have HX : Hid (lnF true ((L.take (j + 1)).map fun s => atP C S s.c s.f) = pv) := by unfold Hid; rw [HQ2.out, HLS.out, if_pos h1]
            go_wp2_with (go_at_call 56; refine (rsound_any A A' n c m c' C S cn sf _ (HP.out _ (bt HW2.out (ba wr _))).crs (HP.out _ (bt HW2.out (ba wr _))).stp HN.out HM.out hn9 hm9 hcc HAT.out.2.2.1 HAT.out.2.2.2.1 ⟨HAT.out.1, HAT.out.2.1⟩ ⟨HAT.out.2.2.2.2.1, HAT.out.2.2.2.2.2.1⟩).mono ?_; rintro e w5 ⟨rfl, hb5⟩; rw [HAT.out.2.2.2.2.2.2])
            go_roundw
            case rel => exact ⟨j + 1, pv, by omega, by first | rfl | go_num, rfl, HX.out, bt HB2.out (bx hb5)⟩
            case measure => simp [intOf]; omega
          · rw [if_neg h1, HCV.out] at HLS
            by_cases h2 : nv < pv
            · have HX : Hid (lnF true ((L.take (j + 1)).map fun s => atP C S s.c s.f) = pv) := by unfold Hid; rw [HQ2.out, HLS.out]; omega
              go_wp2_with (go_at_call 56; refine (rsound_any A A' n c m c' C S cn sf _ (HP.out _ (bt HW2.out (ba wr _))).crs (HP.out _ (bt HW2.out (ba wr _))).stp HN.out HM.out hn9 hm9 hcc HAT.out.2.2.1 HAT.out.2.2.2.1 ⟨HAT.out.1, HAT.out.2.1⟩ ⟨HAT.out.2.2.2.2.1, HAT.out.2.2.2.2.2.1⟩).mono ?_; rintro e w5 ⟨rfl, hb5⟩; rw [HAT.out.2.2.2.2.2.2])
              go_roundw
              case rel => exact ⟨j + 1, pv, by omega, by first | rfl | go_num, rfl, HX.out, bt HB2.out (bx hb5)⟩
              case measure => simp [intOf]; omega
            · have HX : Hid (lnF true ((L.take (j + 1)).map fun s => atP C S s.c s.f) = nv) := by unfold Hid; rw [HQ2.out, HLS.out]; omega
              go_wp2_with (go_at_call 56; refine (rsound_any A A' n c m c' C S cn sf _ (HP.out _ (bt HW2.out (ba wr _))).crs (HP.out _ (bt HW2.out (ba wr _))).stp HN.out HM.out hn9 hm9 hcc HAT.out.2.2.1 HAT.out.2.2.2.1 ⟨HAT.out.1, HAT.out.2.1⟩ ⟨HAT.out.2.2.2.2.1, HAT.out.2.2.2.2.2.1⟩).mono ?_; rintro e w5 ⟨rfl, hb5⟩; rw [HAT.out.2.2.2.2.2.2])
              go_roundw
              case rel => exact ⟨j + 1, nv, by omega, by first | rfl | go_num, rfl, HX.out, bt HB2.out (bx hb5)⟩
              case measure => simp [intOf]; omega
        · have hjN : ¬ ((j : Int) < (N : Int)) := by omega
          have HVK2 : Hid (V.take (k + 1) = V.take k ++ [nv]) := takeF_snoc (by
            have h1 := HVK.out
            have h2 := HNV.out
            rw [List.take_of_length_le (by have := HLN.out; omega)] at h2
            rw [h1, h2])
          have HO5 := Lib.hid (HOw.out.below HB2.out)
          have hz5 : w1.heap.size ≤ wr.heap.size := HO5.out.low.size
          have hml : k + 1 ≤ maxLen := Nat.le_trans (show k + 1 ≤ 100000 by omega) (by decide)
          clear p0 p1 p2
          obtain ⟨p0, p1, p2⟩ := cell3 (bt HB1.out HO5.out.low)
          go_wp2_with (at_builtin; go_loud (refine wpList_append_own _ rfl _ _ 23 rfl w1.heap.size 3 i0 _ 1 8 Try.underlying23 ii1 ii2 ii3 ii4 rfl (by decide) (.slice A1 k c1) k _ rfl (HO5.out.own.alloc _) ⟨wr.heap.size, 0, none⟩ 1 1 [.int .i64 nv] rfl rfl (cell_one_new _ _ _) (by simp [Value.oneCell']) hml (by omega) (by simp; omega) ?_))
          intro v' w3 hown' hgrow _
          obtain ⟨A4, c4, rfl, hO3, _⟩ := Own1.step HO5.out (Below.refl _ _) rfl hown' hgrow
          have HO4 : Hid (Own1 w1 w3 3 1 A4 (k + 1) c4 (intC (V.take (k + 1)))) := by
            unfold Hid
            rw [HVK2.out, intC_snocL]
            exact hO3
          clear hown' hgrow hO3
          go_wp2_with (fail)
          go_roundw
          case rel => exact ⟨k + 1, A4, c4, by omega, by first | rfl | go_num, rfl, HO4.out⟩
          case measure => simp [intOf]; omega
    · have hkq : ¬ ((k : Int) < (q : Int)) := by omega
      obtain rfl : k = q := by omega
      have HZ : Hid (V.take k = V) := List.take_of_length_le (by have := HVL.out; omega)
      go_wp2_with (fail)
      go_ret2
      exact ⟨A1, _, c1, rfl, HVL.out.symm, by have := HOw.out.sl; rwa [HZ.out] at this, HW.out⟩

set_option maxRecDepth 100000 in
set_option maxHeartbeats 1600000 in
theorem rline2_true (A : Option Addr) (n c : Nat) (A' : Option Addr) (m c' : Nat) (A2 : Option Addr) (q cq : Nat) (C : List Cr) (S : List Int) (P : List EvP) (w : World) (hP : PcIn w A n c A' m c' A2 q cq C S P) (hnb : n ≤ 1000000) (hmb : m ≤ 1000000) (hq : q ≤ 65536) (hst : ∀ y ∈ P, y.L.length ≤ 1000000) :
    Calls Try.prog 75 #[pcV A n c A' m c' A2 q cq, .bool true] w (NmPost (lnL true C S P) (pcErr C S P) w) := by
  by_cases hX0 : pcErr C S P = 0
  · have := rline_true A n c A' m c' A2 q cq C S P w hP hnb hmb hq hst hX0
    rw [hX0]
    exact this
  · have HP : Hid (∀ w', Below w.heap.size w w' → PcIn w' A n c A' m c' A2 q cq C S P) := fun w' hb => hP.below hb
    have HZ : Hid (lnL true C S P = []) := by unfold Hid lnL; rw [if_neg hX0]
    have DO := Lib.hid (fun w' (h : PcIn w' A n c A' m c' A2 q cq C S P) => rpcheck_any A n c A' m c' A2 q cq C S P w' h hnb hmb (by omega) hst)
    unfold NmPost
    rw [HZ.out]
    obtain ⟨X, hX⟩ : ∃ X, pcErr C S P = X := ⟨_, rfl⟩
    rw [hX] at hX0 DO ⊢
    have hXb : (X != 0) = true := by simpa using hX0
    clear hP hst hX hX0 HZ
    go_enter Try.func75, Try.ntmps75
    go_wp2_with (go_at_call 47; refine (DO.out _ (HP.out _ (ba w _))).mono ?_; rintro e w1 ⟨rfl, hb1⟩)
    go_ret2
    exact ⟨none, 0, 0, rfl, rfl, Sl.none_ _ _ _, bx hb1⟩

set_option maxRecDepth 100000 in
theorem rMelodyL_any (A : Option Addr) (n c : Nat) (A' : Option Addr) (m c' : Nat) (A2 : Option Addr) (q cq : Nat) (C : List Cr) (S : List Int) (P : List EvP) (w : World) (hP : PcIn w A n c A' m c' A2 q cq C S P) (hnb : n ≤ 1000000) (hmb : m ≤ 1000000) (hq : q ≤ 65536) (hst : ∀ y ∈ P, y.L.length ≤ 1000000) :
    Calls Try.prog 42 #[pcV A n c A' m c' A2 q cq] w (NmPost (lnL true C S P) (pcErr C S P) w) := by
  have HE := Lib.hid (rline2_true A n c A' m c' A2 q cq C S P _ (hP.below (ba w (pcO A n c A' m c' A2 q cq))) hnb hmb hq hst)
  unfold NmPost at HE ⊢
  clear hP hst
  generalize lnL true C S P = V at *
  generalize pcErr C S P = X at *
  go_enter Try.func42, Try.ntmps42
  go_wp2_with (go_at_call 75; refine HE.out.mono ?_; rintro e w1 ⟨A1, n1, c1, rfl, hn1, hA1, hb1⟩; have HN := Lib.hid (And.intro hn1 hA1); clear hn1 hA1)
  go_ret2
  exact ⟨A1, n1, c1, rfl, HN.out.1, HN.out.2, bx hb1⟩

set_option maxRecDepth 100000 in
set_option maxHeartbeats 8000000 in
theorem rline_false (A : Option Addr) (n c : Nat) (A' : Option Addr) (m c' : Nat) (A2 : Option Addr) (q cq : Nat) (C : List Cr) (S : List Int) (P : List EvP) (w : World) (hP : PcIn w A n c A' m c' A2 q cq C S P) (hnb : n ≤ 1000000) (hmb : m ≤ 1000000) (hq : q ≤ 65536) (hst : ∀ y ∈ P, y.L.length ≤ 1000000) (hX : pcErr C S P = 0) :
    Calls Try.prog 75 #[pcV A n c A' m c' A2 q cq, .bool false] w (NmPost (lnL false C S P) 0 w) := by
  have HP : Hid (∀ w', Below w.heap.size w w' → PcIn w' A n c A' m c' A2 q cq C S P) := fun w' hb => hP.below hb
  have HL := Lib.hid hP.es.hq
  have HN := Lib.hid hP.hn
  have HM := Lib.hid hP.hm
  have HST := Lib.hid hst
  have h400 : q ≤ 400 := by have := (pcErr_ok hX).2.1; have := hP.es.hq; omega
  have HSO : Hid (∀ (i : Nat) (y : EvP), P[i]? = some y → y.L.length ≤ 14 ∧ ∀ s ∈ y.L, StOk C P i s) := fun i y hy => ⟨ev_len hX hy, fun s hs => stOk_of hX hy hs⟩
  have HCH := Lib.hid (pcErr_ok hX).1
  have HVA : Hid (∀ {k : Nat} {y : EvP}, P[k]? = some y → (lnL false C S P)[k]? = some (lnF false (y.L.map fun s => atP C S s.c s.f))) := fun {k y} hy => by unfold lnL; rw [if_pos hX]; simp [hy]
  have HVL : Hid ((lnL false C S P).length = q) := by unfold Hid lnL; rw [if_pos hX, List.length_map]; exact hP.es.hq.symm
  obtain ⟨i0, ii1, ii2, ii3, ii4⟩ := info_parts Try.info3'
  have DO := Lib.hid (fun w' (h : PcIn w' A n c A' m c' A2 q cq C S P) => rpcheck_any A n c A' m c' A2 q cq C S P w' h hnb hmb (by omega) hst)
  unfold NmPost
  rw [hX] at DO
  have hn9 : n ≤ 9223372036854775807 := by omega
  have hm9 : m ≤ 9223372036854775807 := by omega
  clear hP hst hX
  generalize lnL false C S P = V at *
  go_enter Try.func75, Try.ntmps75
  go_wp2_with (go_at_call 47; refine (DO.out _ (HP.out _ (ba w _))).mono ?_; rintro e w1 ⟨rfl, hb1⟩; obtain ⟨p0, p1, p2⟩ := cell3 hb1; have HB1 := Lib.hid hb1; clear hb1)
  go_loopw [8, 7, 9, 10, 11, 12] (fun i l _ _ _ _ wr => ∃ (k : Nat) (A1 : Option Addr) (c1 : Nat), k ≤ q ∧ i = .int .i64 k ∧ l = .slice A1 k c1 ∧ Own1 w1 wr 3 1 A1 k c1 (intC (V.take k))) (fun i _ _ _ _ _ _ => q - (intOf i).toNat)
  case atStart => exact ⟨0, none, 0, by omega, rfl, rfl, Own1.start (Below.refl _ _) _ _⟩
  case round =>
    obtain ⟨k, A1, c1, hk, rfl, rfl, hOw⟩ := hrel
    have HOw := Lib.hid hOw
    have HW : Hid (Below w.heap.size w wr) := bx (bt HB1.out hOw.low)
    have hzw : w1.heap.size ≤ wr.heap.size := hOw.low.size
    obtain ⟨p0, p1, p2⟩ := cell3 (bt HB1.out hOw.low)
    clear hOw
    by_cases hlt : k < q
    · obtain ⟨b, off, sa, sc', rfl, hbl, hPk, hd, ⟨e0, e1, e2, e3, e4, e5⟩, hS⟩ := (HP.out _ (Below.refl _ _)).es.at hlt
      have hkq : (k : Int) < (q : Int) := by omega
      have HS := Lib.hid hS
      have hL14 : (P.getD k z6).L.length ≤ 14 := (HSO.out _ _ hPk).1
      have HOK : Hid (∀ s ∈ (P.getD k z6).L, StOk C P k s) := (HSO.out _ _ hPk).2
      have HVK := Lib.hid (HVA.out hPk)
      have HE5 : Hid (∀ w', Below w.heap.size w w' → w'.cell? ⟨b, off + k * 6 + 5, none⟩ = some (.slice sa (P.getD k z6).L.length sc')) := fun w' h => cell_same (h.block b hbl) e5
      clear hS hd hPk e0 e1 e2 e3 e4 e5
      generalize P.getD k z6 = y at *
      obtain ⟨bar, v, dt, tr, tie, L⟩ := y
      dsimp only at hL14 HS HOK HE5 HVK
      obtain ⟨N, hN⟩ : ∃ N, L.length = N := ⟨_, rfl⟩
      have HLN := Lib.hid hN
      rw [hN] at HE5 hL14 HS
      clear hN
      go_wp2_with (fail)
      obtain ⟨wo, rfl⟩ : ∃ wo : World, wo = wr := ⟨_, rfl⟩
      clear p0 p1 p2
      go_loopw [10, 9, 11, 12] (fun s v _ _ wr => ∃ (j : Nat) (nv : Int), j ≤ N ∧ s = .int .i64 j ∧ v = .int .i64 nv ∧ Hid (lnF false ((L.take j).map fun s => atP C S s.c s.f) = nv) ∧ Below wo.heap.size wo wr) (fun s _ _ _ _ => N - (intOf s).toNat)
      case atStart => exact ⟨0, -1, by omega, rfl, rfl, rfl, Below.refl _ _⟩
      case round =>
        obtain ⟨j, nv, hj, rfl, rfl, HNV, hbw⟩ := hrel
        have HB2 := Lib.hid hbw
        have HW2 : Hid (Below w.heap.size w wr) := bt HW.out hbw
        obtain ⟨p0, p1, p2⟩ := cell3 (bt HB1.out (bt HOw.out.low hbw))
        have e5 := HE5.out _ HW2.out
        have hz2 : w.heap.size < wr.heap.size := by have h1 := HB1.out.size; have h2 := hbw.size; simp at h1; omega
        clear hbw
        by_cases hlj : j < N
        · obtain ⟨sb, so, rfl, hsb, hsd, hsj, d0, d1, d2, d3, d4⟩ := st_at (HS.out.below HW2.out) HLN.out.symm hlj
          have HSK : Hid (StOk C P k (L.getD j z5)) := HOK.out _ (List.mem_of_getElem? hsj)
          have hjN : (j : Int) < (N : Int) := by omega
          have HQS := Lib.hid (lnQ_step false (fun s => atP C S s.c s.f) L (j := j) (by have := HLN.out; omega))
          clear hsd hsj
          generalize L.getD j z5 = s at *
          obtain ⟨pv, hpv⟩ : ∃ pv, atP C S s.c s.f = pv := ⟨_, rfl⟩
          have HPV := Lib.hid hpv
          have HQ2 : Hid (lnF false ((L.take (j + 1)).map fun s => atP C S s.c s.f) = lnS false nv pv) := by
            have := HQS.out
            rw [HNV.out] at this
            unfold Hid
            rw [this]
            rw [hpv]
          clear hpv HQS
          obtain ⟨sc, sf, sr, sg, sh⟩ := s
          dsimp only at d0 d1 d2 d3 d4 HPV
          obtain ⟨cn, hcn⟩ : ∃ cn : Nat, sc = (cn : Int) + 1 := ⟨(sc - 1).toNat, by have := HSK.out.c1; dsimp only at this; omega⟩
          subst hcn
          have hcc : cn < n := by have := HSK.out.c2; dsimp only at this; have := HN.out; omega
          have HAT : Hid (0 ≤ (C.getD cn z0).p ∧ (C.getD cn z0).p ≤ 127 ∧ 0 ≤ sf ∧ sf ≤ m ∧ 0 ≤ riseV S sf ∧ riseV S sf ≤ 127 ∧ (C.getD cn z0).p + riseV S sf = pv) := by
            have h := HSK.out
            have e : ((cn : Int) + 1 - 1).toNat = cn := by omega
            obtain ⟨_, _, hri, hce⟩ := chk_ok HCH.out
            obtain ⟨_, c4, c1, c2, _⟩ := crErr_ok (crsErr_mem hce _ (getD_mem C cn (by have := HN.out; omega)))
            have f2 := h.f2
            have f1 := h.f1
            dsimp only at f1 f2
            rw [e] at f2
            have hm := HM.out
            obtain ⟨r1, r2⟩ := riseV_bd hri f1 (by omega)
            have hp := (at_pitch HCH.out h.c1 h.c2 h.f1 h.f2).1
            dsimp only at hp
            rw [e, HPV.out] at hp
            exact ⟨c1, c2, f1, by omega, r1, r2, hp.symm⟩
          have HLS : Hid (lnS false nv pv = if nv < 0 then pv else chV false nv pv) := rfl
          have HCV : Hid (chV false nv pv = min nv pv) := rfl
          by_cases h1 : nv < 0
          · have HX : Hid (lnF false ((L.take (j + 1)).map fun s => atP C S s.c s.f) = pv) := by unfold Hid; rw [HQ2.out, HLS.out, if_pos h1]
            go_wp2_with (go_at_call 56; refine (rsound_any A A' n c m c' C S cn sf _ (HP.out _ (bt HW2.out (ba wr _))).crs (HP.out _ (bt HW2.out (ba wr _))).stp HN.out HM.out hn9 hm9 hcc HAT.out.2.2.1 HAT.out.2.2.2.1 ⟨HAT.out.1, HAT.out.2.1⟩ ⟨HAT.out.2.2.2.2.1, HAT.out.2.2.2.2.2.1⟩).mono ?_; rintro e w5 ⟨rfl, hb5⟩; rw [HAT.out.2.2.2.2.2.2])
            go_roundw
            case rel => exact ⟨j + 1, pv, by omega, by first | rfl | go_num, rfl, HX.out, bt HB2.out (bx hb5)⟩
            case measure => simp [intOf]; omega
          · rw [if_neg h1, HCV.out] at HLS
            by_cases h2 : pv < nv
            · have HX : Hid (lnF false ((L.take (j + 1)).map fun s => atP C S s.c s.f) = pv) := by unfold Hid; rw [HQ2.out, HLS.out]; omega
              go_wp2_with (go_at_call 56; refine (rsound_any A A' n c m c' C S cn sf _ (HP.out _ (bt HW2.out (ba wr _))).crs (HP.out _ (bt HW2.out (ba wr _))).stp HN.out HM.out hn9 hm9 hcc HAT.out.2.2.1 HAT.out.2.2.2.1 ⟨HAT.out.1, HAT.out.2.1⟩ ⟨HAT.out.2.2.2.2.1, HAT.out.2.2.2.2.2.1⟩).mono ?_; rintro e w5 ⟨rfl, hb5⟩; rw [HAT.out.2.2.2.2.2.2])
              go_roundw
              case rel => exact ⟨j + 1, pv, by omega, by first | rfl | go_num, rfl, HX.out, bt HB2.out (bx hb5)⟩
              case measure => simp [intOf]; omega
            · have HX : Hid (lnF false ((L.take (j + 1)).map fun s => atP C S s.c s.f) = nv) := by unfold Hid; rw [HQ2.out, HLS.out]; omega
              go_wp2_with (go_at_call 56; refine (rsound_any A A' n c m c' C S cn sf _ (HP.out _ (bt HW2.out (ba wr _))).crs (HP.out _ (bt HW2.out (ba wr _))).stp HN.out HM.out hn9 hm9 hcc HAT.out.2.2.1 HAT.out.2.2.2.1 ⟨HAT.out.1, HAT.out.2.1⟩ ⟨HAT.out.2.2.2.2.1, HAT.out.2.2.2.2.2.1⟩).mono ?_; rintro e w5 ⟨rfl, hb5⟩; rw [HAT.out.2.2.2.2.2.2])
              go_roundw
              case rel => exact ⟨j + 1, nv, by omega, by first | rfl | go_num, rfl, HX.out, bt HB2.out (bx hb5)⟩
              case measure => simp [intOf]; omega
        · have hjN : ¬ ((j : Int) < (N : Int)) := by omega
          have HVK2 : Hid (V.take (k + 1) = V.take k ++ [nv]) := takeF_snoc (by
            have h1 := HVK.out
            have h2 := HNV.out
            rw [List.take_of_length_le (by have := HLN.out; omega)] at h2
            rw [h1, h2])
          have HO5 := Lib.hid (HOw.out.below HB2.out)
          have hz5 : w1.heap.size ≤ wr.heap.size := HO5.out.low.size
          have hml : k + 1 ≤ maxLen := Nat.le_trans (show k + 1 ≤ 100000 by omega) (by decide)
          clear p0 p1 p2
          obtain ⟨p0, p1, p2⟩ := cell3 (bt HB1.out HO5.out.low)
          go_wp2_with (at_builtin; go_loud (refine wpList_append_own _ rfl _ _ 23 rfl w1.heap.size 3 i0 _ 1 8 Try.underlying23 ii1 ii2 ii3 ii4 rfl (by decide) (.slice A1 k c1) k _ rfl (HO5.out.own.alloc _) ⟨wr.heap.size, 0, none⟩ 1 1 [.int .i64 nv] rfl rfl (cell_one_new _ _ _) (by simp [Value.oneCell']) hml (by omega) (by simp; omega) ?_))
          intro v' w3 hown' hgrow _
          obtain ⟨A4, c4, rfl, hO3, _⟩ := Own1.step HO5.out (Below.refl _ _) rfl hown' hgrow
          have HO4 : Hid (Own1 w1 w3 3 1 A4 (k + 1) c4 (intC (V.take (k + 1)))) := by
            unfold Hid
            rw [HVK2.out, intC_snocL]
            exact hO3
          clear hown' hgrow hO3
          go_wp2_with (fail)
          go_roundw
          case rel => exact ⟨k + 1, A4, c4, by omega, by first | rfl | go_num, rfl, HO4.out⟩
          case measure => simp [intOf]; omega
    · have hkq : ¬ ((k : Int) < (q : Int)) := by omega
      obtain rfl : k = q := by omega
      have HZ : Hid (V.take k = V) := List.take_of_length_le (by have := HVL.out; omega)
      go_wp2_with (fail)
      go_ret2
      exact ⟨A1, _, c1, rfl, HVL.out.symm, by have := HOw.out.sl; rwa [HZ.out] at this, HW.out⟩

set_option maxRecDepth 100000 in
set_option maxHeartbeats 1600000 in
theorem rline2_false (A : Option Addr) (n c : Nat) (A' : Option Addr) (m c' : Nat) (A2 : Option Addr) (q cq : Nat) (C : List Cr) (S : List Int) (P : List EvP) (w : World) (hP : PcIn w A n c A' m c' A2 q cq C S P) (hnb : n ≤ 1000000) (hmb : m ≤ 1000000) (hq : q ≤ 65536) (hst : ∀ y ∈ P, y.L.length ≤ 1000000) :
    Calls Try.prog 75 #[pcV A n c A' m c' A2 q cq, .bool false] w (NmPost (lnL false C S P) (pcErr C S P) w) := by
  by_cases hX0 : pcErr C S P = 0
  · have := rline_false A n c A' m c' A2 q cq C S P w hP hnb hmb hq hst hX0
    rw [hX0]
    exact this
  · have HP : Hid (∀ w', Below w.heap.size w w' → PcIn w' A n c A' m c' A2 q cq C S P) := fun w' hb => hP.below hb
    have HZ : Hid (lnL false C S P = []) := by unfold Hid lnL; rw [if_neg hX0]
    have DO := Lib.hid (fun w' (h : PcIn w' A n c A' m c' A2 q cq C S P) => rpcheck_any A n c A' m c' A2 q cq C S P w' h hnb hmb (by omega) hst)
    unfold NmPost
    rw [HZ.out]
    obtain ⟨X, hX⟩ : ∃ X, pcErr C S P = X := ⟨_, rfl⟩
    rw [hX] at hX0 DO ⊢
    have hXb : (X != 0) = true := by simpa using hX0
    clear hP hst hX hX0 HZ
    go_enter Try.func75, Try.ntmps75
    go_wp2_with (go_at_call 47; refine (DO.out _ (HP.out _ (ba w _))).mono ?_; rintro e w1 ⟨rfl, hb1⟩)
    go_ret2
    exact ⟨none, 0, 0, rfl, rfl, Sl.none_ _ _ _, bx hb1⟩

set_option maxRecDepth 100000 in
theorem rGroundL_any (A : Option Addr) (n c : Nat) (A' : Option Addr) (m c' : Nat) (A2 : Option Addr) (q cq : Nat) (C : List Cr) (S : List Int) (P : List EvP) (w : World) (hP : PcIn w A n c A' m c' A2 q cq C S P) (hnb : n ≤ 1000000) (hmb : m ≤ 1000000) (hq : q ≤ 65536) (hst : ∀ y ∈ P, y.L.length ≤ 1000000) :
    Calls Try.prog 44 #[pcV A n c A' m c' A2 q cq] w (NmPost (lnL false C S P) (pcErr C S P) w) := by
  have HE := Lib.hid (rline2_false A n c A' m c' A2 q cq C S P _ (hP.below (ba w (pcO A n c A' m c' A2 q cq))) hnb hmb hq hst)
  unfold NmPost at HE ⊢
  clear hP hst
  generalize lnL false C S P = V at *
  generalize pcErr C S P = X at *
  go_enter Try.func44, Try.ntmps44
  go_wp2_with (go_at_call 75; refine HE.out.mono ?_; rintro e w1 ⟨A1, n1, c1, rfl, hn1, hA1, hb1⟩; have HN := Lib.hid (And.intro hn1 hA1); clear hn1 hA1)
  go_ret2
  exact ⟨A1, n1, c1, rfl, HN.out.1, HN.out.2, bx hb1⟩

end Go.Proofs.Ytcebpgcmmdfccaa
