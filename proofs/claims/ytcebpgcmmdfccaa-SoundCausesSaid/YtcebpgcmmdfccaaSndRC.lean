/- Sound, the reference: why each note ends, for any piece. -/
import Derived.Test.YtcebpgcmmdfccaaSndCs
namespace Go.Proofs.Ytcebpgcmmdfccaa
open Go Go.RowKit

theorem im_enter {g : Py → List Int} {C : List Cr} {S : List Int} {P : List EvP} {O : List Int} {k : Nat} {acc T : List Int} (h : T = acc ++ (pyGo C S P O k (P.drop k)).flatMap g) (hd : P.drop k = P.getD k z6 :: P.drop (k + 1)) :
    T = acc ++ ((pyEv C S P O k ((P.getD k z6).L.drop 0)).flatMap g ++ (pyGo C S P O (k + 1) (P.drop (k + 1))).flatMap g) := by
  rw [h, hd, pyGo, List.flatMap_append]; rfl
theorem im_hit {g : Py → List Int} {C : List Cr} {S : List Int} {P : List EvP} {O : List Int} {k j : Nat} {L : List St} {acc T tail : List Int} (h : T = acc ++ ((pyEv C S P O k (L.drop j)).flatMap g ++ tail)) (hd : L.drop j = L.getD j z5 :: L.drop (j + 1)) :
    T = (acc ++ g (pyOf C S P O k (L.getD j z5))) ++ ((pyEv C S P O k (L.drop (j + 1))).flatMap g ++ tail) := by
  rw [h, hd, pyEv, pyEv, List.map_cons, List.flatMap_cons]
  simp
theorem im_out {g : Py → List Int} {C : List Cr} {S : List Int} {P : List EvP} {O : List Int} {k j : Nat} {L : List St} {acc T tail : List Int} (h : T = acc ++ ((pyEv C S P O k (L.drop j)).flatMap g ++ tail)) (hj : L.length ≤ j) : T = acc ++ tail := by
  rw [h, List.drop_of_length_le hj]
  rfl
theorem intC_snocC (S : List Int) (x : Int) : intC (S ++ [x]) = intC S ++ [.int .i64 x] := by simp [intC]
def gCs (P : List EvP) (x : Py) : List Int := [csOf P x.u.toNat x.t.c]
theorem csL_g (C : List Cr) (S : List Int) (P : List EvP) : csL C S P = (pyL C S P).flatMap (gCs P) := by
  unfold csL
  generalize pyL C S P = T
  induction T with
  | nil => rfl
  | cons x r ih => simp [gCs, ih]

set_option maxRecDepth 100000 in
set_option maxHeartbeats 8000000 in
theorem rcauses_fine (A : Option Addr) (n c : Nat) (A' : Option Addr) (m c' : Nat) (A2 : Option Addr) (q cq : Nat) (C : List Cr) (S : List Int) (P : List EvP) (w : World) (hP : PcIn w A n c A' m c' A2 q cq C S P) (hnb : n ≤ 1000000) (hmb : m ≤ 1000000) (hq : q ≤ 65536) (hst : ∀ y ∈ P, y.L.length ≤ 1000000) (hX : pcErr C S P = 0) :
    Calls Try.prog 27 #[pcV A n c A' m c' A2 q cq] w (NmPost (csL C S P) 0 w) := by
  have HP : Hid (∀ w', Below w.heap.size w w' → PcIn w' A n c A' m c' A2 q cq C S P) := fun w' hb => hP.below hb
  have HL := Lib.hid hP.es.hq
  have HST := Lib.hid hst
  have h400 : q ≤ 400 := by have := (pcErr_ok hX).2.1; have := hP.es.hq; omega
  have HT : Hid (csL C S P = (pyGo C S P (onsL C S P) 0 P).flatMap (gCs P)) := by unfold Hid; rw [csL_g, pyL, if_pos hX]
  have HSO : Hid (∀ (i : Nat) (y : EvP), P[i]? = some y → y.L.length ≤ 14 ∧ ∀ s ∈ y.L, StOk C P i s) := fun i y hy => ⟨ev_len hX hy, fun s hs => stOk_of hX hy hs⟩
  have HTIE : Hid (∀ (j : Nat) (y : EvP), P[j]? = some y → y.tie = true → y.L.length = 0) := fun j y hy ht => tie_len hX hy ht
  obtain ⟨i0, ii1, ii2, ii3, ii4⟩ := info_parts Try.info3'
  have DO := Lib.hid (fun w' (h : PcIn w' A n c A' m c' A2 q cq C S P) => rpcheck_any A n c A' m c' A2 q cq C S P w' h hnb hmb (by omega) hst)
  unfold NmPost
  rw [hX] at DO
  clear hP hst hX
  generalize onsL C S P = O at *
  generalize csL C S P = T at *
  go_enter Try.func27, Try.ntmps27
  go_wp2_with (go_at_call 47; refine (DO.out _ (HP.out _ (ba w _))).mono ?_; rintro e w1 ⟨rfl, hb1⟩; obtain ⟨p0, p1, p2⟩ := cell3 hb1; have HB1 := Lib.hid hb1; clear hb1)
  go_loopw [6, 5, 7, 8, 9] (fun i l _ _ _ wr => ∃ (k : Nat) (acc : List Int) (A1 : Option Addr) (c1 : Nat), k ≤ q ∧ i = .int .i64 k ∧ l = .slice A1 acc.length c1 ∧ Own1 w1 wr 3 1 A1 acc.length c1 (intC acc) ∧ T = acc ++ (pyGo C S P O k (P.drop k)).flatMap (gCs P) ∧ acc.length ≤ 14 * k) (fun i _ _ _ _ _ => q - (intOf i).toNat)
  case atStart => exact ⟨0, [], none, 0, by omega, rfl, rfl, Own1.start (Below.refl _ _) _ _, HT.out, by simp⟩
  case round =>
    obtain ⟨k, acc, A1, c1, hk, rfl, rfl, hOw, hT, hlen⟩ := hrel
    have HOw := Lib.hid hOw
    have HTk := Lib.hid hT
    have HW : Hid (Below w.heap.size w wr) := bx (bt HB1.out hOw.low)
    obtain ⟨p0, p1, p2⟩ := cell3 (bt HB1.out hOw.low)
    clear hOw hT
    by_cases hlt : k < q
    · obtain ⟨b, off, sa, sc', rfl, hbl, hPk, hd, ⟨e0, e1, e2, e3, e4, e5⟩, hS⟩ := (HP.out _ (Below.refl _ _)).es.at hlt
      have hkq : (k : Int) < (q : Int) := by omega
      have HS := Lib.hid hS
      have HD := Lib.hid (im_enter HTk.out hd)
      have hL14 : (P.getD k z6).L.length ≤ 14 := (HSO.out _ _ hPk).1
      have HOK : Hid (∀ s ∈ (P.getD k z6).L, StOk C P k s) := (HSO.out _ _ hPk).2
      have HE5 : Hid (∀ w', Below w.heap.size w w' → w'.cell? ⟨b, off + k * 6 + 5, none⟩ = some (.slice sa (P.getD k z6).L.length sc')) := fun w' h => cell_same (h.block b hbl) e5
      clear hS hd hPk e0 e1 e2 e3 e4 e5
      generalize P.getD k z6 = y at *
      obtain ⟨bar, v, dt, tr, tie, L⟩ := y
      dsimp only at hL14 HS HOK HD HE5
      obtain ⟨N, hN⟩ : ∃ N, L.length = N := ⟨_, rfl⟩
      have HLN := Lib.hid hN
      rw [hN] at HE5 hL14 HS
      clear hN
      go_wp2_with (fail)
      obtain ⟨wo, rfl⟩ : ∃ wo : World, wo = wr := ⟨_, rfl⟩
      clear p0 p1 p2
      go_loopw [7, 5, 8, 9] (fun s v _ _ wr => ∃ (j : Nat) (acc2 : List Int) (A2 : Option Addr) (c2 : Nat), j ≤ N ∧ s = .int .i64 j ∧ v = .slice A2 acc2.length c2 ∧ Own1 w1 wr 3 1 A2 acc2.length c2 (intC acc2) ∧ T = acc2 ++ ((pyEv C S P O k (L.drop j)).flatMap (gCs P) ++ (pyGo C S P O (k + 1) (P.drop (k + 1))).flatMap (gCs P)) ∧ acc2.length ≤ 14 * k + j) (fun s _ _ _ _ => N - (intOf s).toNat)
      case atStart => exact ⟨0, acc, A1, c1, by omega, rfl, rfl, HOw.out, HD.out, by omega⟩
      case round =>
        obtain ⟨j, acc2, A3, c3', hj, rfl, rfl, hO2, hT2, hlen2⟩ := hrel
        have HO2 := Lib.hid hO2
        have HT2 := Lib.hid hT2
        have HW2 : Hid (Below w.heap.size w wr) := bx (bt HB1.out hO2.low)
        obtain ⟨p0, p1, p2⟩ := cell3 (bt HB1.out hO2.low)
        have e5 := HE5.out _ HW2.out
        have hz2 : w.heap.size < wr.heap.size := by have h1 := HB1.out.size; have h2 := hO2.low.size; simp at h1; omega
        have hzw : w1.heap.size ≤ wr.heap.size := hO2.low.size
        clear hO2 hT2
        by_cases hlj : j < N
        · obtain ⟨sb, so, rfl, hsb, hsd, hsj, d0, d1, d2, d3, d4⟩ := st_at (HS.out.below HW2.out) HLN.out.symm hlj
          have HD2 := Lib.hid (im_hit HT2.out hsd)
          have HSK : Hid (StOk C P k (L.getD j z5)) := HOK.out _ (List.mem_of_getElem? hsj)
          have hjN : (j : Int) < (N : Int) := by omega
          clear hsd hsj
          generalize L.getD j z5 = s at *
          obtain ⟨ek, hek⟩ : ∃ ek, endN P k s = ek := ⟨_, rfl⟩
          have hb := endN_bd (by have := HL.out; omega) HSK.out
          rw [hek] at hb
          have hekq : ek ≤ q := by have := HL.out; omega
          have HG : Hid (gCs P (pyOf C S P O k s) = [csOf P ek s.c]) := by unfold Hid gCs pyOf; dsimp only; rw [hek, Int.toNat_natCast]
          have HEK := Lib.hid hek
          clear hek hb
          obtain ⟨sc, sf, sr, sg, sh⟩ := s
          dsimp only at d0 d1 d2 d3 d4 HG
          have HCS : Hid (csOf P ek sc = if ek = P.length then 4 else if hsB (P.getD ek z6).L sc then 1 else if restB (P.getD ek z6) then 2 else 3) := rfl
          have hml : acc2.length + 1 ≤ maxLen := Nat.le_trans (show acc2.length + 1 ≤ 100000 by omega) (by decide)
          have HB6 := Lib.hid (ba wr (stO5 sc sf sr sg sh))
          by_cases heq : ek = q
          · have HV : Hid (csOf P ek sc = 4) := by unfold Hid; rw [HCS.out, if_pos (by have := HL.out; omega)]
            subst heq
            go_wp2_with (first
              | (go_at_call 57; refine (rend_any A n c A' m c' _ ek cq C P k ⟨sc, sf, sr, sg, sh⟩ _ (HP.out _ (bt HW2.out HB6.out)).es (by omega) hq HST.out HTIE.out HSK.out).mono ?_; rintro e w5 ⟨rfl, hb5⟩; rw [HEK.out]; have HO5 := Lib.hid (HO2.out.below (bt HB6.out hb5)); have hz5 : w1.heap.size ≤ w5.heap.size := HO5.out.low.size; clear p0 p1 p2; obtain ⟨p0, p1, p2⟩ := cell3 (bt HB1.out HO5.out.low))
              | (at_builtin; go_loud (refine wpList_append_own _ rfl _ _ 23 rfl w1.heap.size 3 i0 _ 1 8 Try.underlying23 ii1 ii2 ii3 ii4 rfl (by decide) (.slice A3 acc2.length c3') acc2.length _ rfl (HO5.out.own.alloc _) ⟨w5.heap.size, 0, none⟩ 1 1 [.int .i64 4] rfl rfl (cell_one_new _ _ _) (by simp [Value.oneCell']) hml (by omega) (by simp; omega) ?_)))
            intro v' w3 hown' hgrow _
            obtain ⟨A4, c4, rfl, hO3, _⟩ := Own1.step HO5.out (Below.refl _ _) rfl hown' hgrow
            have HO4 : Hid (Own1 w1 w3 3 1 A4 (acc2 ++ gCs P (pyOf C S P O k ⟨sc, sf, sr, sg, sh⟩)).length c4 (intC (acc2 ++ gCs P (pyOf C S P O k ⟨sc, sf, sr, sg, sh⟩)))) := by
              unfold Hid
              rw [HG.out, HV.out, intC_snocC, List.length_append]
              exact hO3
            have hlg : (acc2 ++ gCs P (pyOf C S P O k ⟨sc, sf, sr, sg, sh⟩)).length = acc2.length + 1 := by rw [HG.out]; simp
            have HLG := Lib.hid hlg
            clear hown' hgrow hO3 hlg
            go_wp2_with (fail)
            go_roundw
            case rel => exact ⟨j + 1, _, A4, c4, by omega, by first | rfl | go_num, by rw [HLG.out], HO4.out, HD2.out, by rw [HLG.out]; omega⟩
            case measure => simp [intOf]; omega
          · have hlq : ek < q := by omega
            have hub : ((ek : Int) == (q : Int)) = false := by simp; omega
            have hui : (ek : Int) < (q : Int) := by omega
            rw [if_neg (by have := HL.out; omega)] at HCS
            obtain ⟨b2, off2, ua, uc', hbb, hbl2, hPk2, _, ⟨f0, f1, f2, f3, f4, f5⟩, hS2⟩ := (HP.out _ (Below.refl _ _)).es.at hlq
            cases hbb
            have HS2 := Lib.hid hS2
            have hL2 : (P.getD ek z6).L.length ≤ 1000000 := HST.out _ (List.mem_of_getElem? hPk2)
            clear hS2 hPk2
            generalize P.getD ek z6 = y2 at *
            obtain ⟨bar2, v2, dt2, tr2, tie2, L2⟩ := y2
            dsimp only at f0 f1 f2 f3 f4 f5 hL2 HS2 HCS
            obtain ⟨H, hH⟩ : ∃ H, hsB L2 sc = H := ⟨_, rfl⟩
            have HH := Lib.hid hH
            rw [hH] at HCS
            clear hH
            have CF : Hid (∀ w', Below (wr.alloc (stO5 sc sf sr sg sh)).heap.size (wr.alloc (stO5 sc sf sr sg sh)) w' → ((w'.cell? ⟨w.heap.size, 0, none⟩ = some (.slice A n c) ∧ w'.cell? ⟨w.heap.size, 1, none⟩ = some (.slice A' m c') ∧ w'.cell? ⟨w.heap.size, 2, none⟩ = some (.slice (some ⟨b, off, none⟩) q cq)) ∧ (w'.cell? ⟨wr.heap.size, 0, none⟩ = some (.int .i64 sc) ∧ w'.cell? ⟨wr.heap.size, 1, none⟩ = some (.int .i64 sf) ∧ w'.cell? ⟨wr.heap.size, 2, none⟩ = some (.int .i64 sr) ∧ w'.cell? ⟨wr.heap.size, 3, none⟩ = some (.int .i64 sg) ∧ w'.cell? ⟨wr.heap.size, 4, none⟩ = some (.int .i64 sh)) ∧ w'.cell? ⟨b, off + ek * 6, none⟩ = some (.bool bar2) ∧ w'.cell? ⟨b, off + ek * 6 + 1, none⟩ = some (.int .i64 v2) ∧ w'.cell? ⟨b, off + ek * 6 + 2, none⟩ = some (.bool dt2) ∧ w'.cell? ⟨b, off + ek * 6 + 3, none⟩ = some (.bool tr2) ∧ w'.cell? ⟨b, off + ek * 6 + 4, none⟩ = some (.bool tie2) ∧ w'.cell? ⟨b, off + ek * 6 + 5, none⟩ = some (.slice ua L2.length uc'))) :=
              fun w' h => ⟨cell3 (bt HB1.out (bt (HO2.out.low) (bt HB6.out h))), cell5 h, cell_same ((bt HW2.out (bt HB6.out h)).block b hbl2) f0, cell_same ((bt HW2.out (bt HB6.out h)).block b hbl2) f1, cell_same ((bt HW2.out (bt HB6.out h)).block b hbl2) f2, cell_same ((bt HW2.out (bt HB6.out h)).block b hbl2) f3, cell_same ((bt HW2.out (bt HB6.out h)).block b hbl2) f4, cell_same ((bt HW2.out (bt HB6.out h)).block b hbl2) f5⟩
            clear f0 f1 f2 f3 f4 f5
            go_wp2_with (go_at_call 57; refine (rend_any A n c A' m c' _ q cq C P k ⟨sc, sf, sr, sg, sh⟩ _ (HP.out _ (bt HW2.out HB6.out)).es (by omega) hq HST.out HTIE.out HSK.out).mono ?_; rintro e w4 ⟨rfl, hb4⟩; rw [HEK.out]; have H4 := Lib.hid hb4; clear p0 p1 p2; obtain ⟨p0, p1, p2⟩ := cell3 (bt HB1.out (bt HO2.out.low (bt HB6.out hb4))))
            have T := H4.out.drew
            clear p0 p1 p2 d0 d1 d2 d3 d4 e5
            go_region_held3 (fun w' => (w'.cell? ⟨w.heap.size, 0, none⟩ = some (.slice A n c) ∧ w'.cell? ⟨w.heap.size, 1, none⟩ = some (.slice A' m c') ∧ w'.cell? ⟨w.heap.size, 2, none⟩ = some (.slice (some ⟨b, off, none⟩) q cq)) ∧ (w'.cell? ⟨wr.heap.size, 0, none⟩ = some (.int .i64 sc) ∧ w'.cell? ⟨wr.heap.size, 1, none⟩ = some (.int .i64 sf) ∧ w'.cell? ⟨wr.heap.size, 2, none⟩ = some (.int .i64 sr) ∧ w'.cell? ⟨wr.heap.size, 3, none⟩ = some (.int .i64 sg) ∧ w'.cell? ⟨wr.heap.size, 4, none⟩ = some (.int .i64 sh)) ∧ w'.cell? ⟨b, off + ek * 6, none⟩ = some (.bool bar2) ∧ w'.cell? ⟨b, off + ek * 6 + 1, none⟩ = some (.int .i64 v2) ∧ w'.cell? ⟨b, off + ek * 6 + 2, none⟩ = some (.bool dt2) ∧ w'.cell? ⟨b, off + ek * 6 + 3, none⟩ = some (.bool tr2) ∧ w'.cell? ⟨b, off + ek * 6 + 4, none⟩ = some (.bool tie2) ∧ w'.cell? ⟨b, off + ek * 6 + 5, none⟩ = some (.slice ua L2.length uc'))
              (exact CF.out _ T)
              ((go_at_call 60; refine (rHas_any bar2 v2 dt2 tr2 tie2 ua L2.length uc' L2 sc _ (HS2.out.below (bt HW2.out (bt HB6.out T))) rfl hL2).mono ?_; rintro e w5 ⟨rfl, hb5⟩; rw [HH.out]; replace T := bt T hb5))
            all_goals (
              obtain ⟨⟨p0, p1, p2⟩, ⟨x0, x1, x2, x3, x4⟩, c0, c1, c2, c3, c4, c5⟩ := CF.out _ T
              have T5 := Lib.hid T
              clear T
              cases H with
              | true =>
                have HV : Hid (csOf P ek sc = 1) := by unfold Hid; rw [HCS.out]; rfl
                have HO5 := Lib.hid (HO2.out.below (bt HB6.out T5.out))
                have hz5 : w1.heap.size ≤ w5.heap.size := HO5.out.low.size
                go_wp2_with (at_builtin; go_loud (refine wpList_append_own _ rfl _ _ 23 rfl w1.heap.size 3 i0 _ 1 8 Try.underlying23 ii1 ii2 ii3 ii4 rfl (by decide) (.slice A3 acc2.length c3') acc2.length _ rfl (HO5.out.own.alloc _) ⟨w5.heap.size, 0, none⟩ 1 1 [.int .i64 1] rfl rfl (cell_one_new _ _ _) (by simp [Value.oneCell']) hml (by omega) (by simp; omega) ?_))
                intro v' w3 hown' hgrow _
                obtain ⟨A4, c4, rfl, hO3, _⟩ := Own1.step HO5.out (Below.refl _ _) rfl hown' hgrow
                have HO4 : Hid (Own1 w1 w3 3 1 A4 (acc2 ++ gCs P (pyOf C S P O k ⟨sc, sf, sr, sg, sh⟩)).length c4 (intC (acc2 ++ gCs P (pyOf C S P O k ⟨sc, sf, sr, sg, sh⟩)))) := by
                  unfold Hid
                  rw [HG.out, HV.out, intC_snocC, List.length_append]
                  exact hO3
                have hlg : (acc2 ++ gCs P (pyOf C S P O k ⟨sc, sf, sr, sg, sh⟩)).length = acc2.length + 1 := by rw [HG.out]; simp
                have HLG := Lib.hid hlg
                clear hown' hgrow hO3 hlg
                go_wp2_with (fail)
                go_roundw
                case rel => exact ⟨j + 1, _, A4, c4, by omega, by first | rfl | go_num, by rw [HLG.out], HO4.out, HD2.out, by rw [HLG.out]; omega⟩
                case measure => simp [intOf]; omega
              | false =>
                obtain ⟨R, hR⟩ : ∃ R, restB ⟨bar2, v2, dt2, tr2, tie2, L2⟩ = R := ⟨_, rfl⟩
                have HR := Lib.hid hR
                rw [hR] at HCS
                clear hR
                cases R with
                | true =>
                  have HV : Hid (csOf P ek sc = 2) := by unfold Hid; rw [HCS.out]; rfl
                  go_wp2_with (first
                    | (go_at_call 61; refine (rRest_any ⟨bar2, v2, dt2, tr2, tie2, L2⟩ ua uc' _).mono ?_; rintro e w6 ⟨rfl, hb6⟩; rw [HR.out]; have HO5 := Lib.hid (HO2.out.below (bt HB6.out (bt T5.out hb6))); have hz5 : w1.heap.size ≤ w6.heap.size := HO5.out.low.size)
                    | (at_builtin; go_loud (refine wpList_append_own _ rfl _ _ 23 rfl w1.heap.size 3 i0 _ 1 8 Try.underlying23 ii1 ii2 ii3 ii4 rfl (by decide) (.slice A3 acc2.length c3') acc2.length _ rfl (HO5.out.own.alloc _) ⟨w6.heap.size, 0, none⟩ 1 1 [.int .i64 2] rfl rfl (cell_one_new _ _ _) (by simp [Value.oneCell']) hml (by omega) (by simp; omega) ?_)))
                  intro v' w3 hown' hgrow _
                  obtain ⟨A4, c4, rfl, hO3, _⟩ := Own1.step HO5.out (Below.refl _ _) rfl hown' hgrow
                  have HO4 : Hid (Own1 w1 w3 3 1 A4 (acc2 ++ gCs P (pyOf C S P O k ⟨sc, sf, sr, sg, sh⟩)).length c4 (intC (acc2 ++ gCs P (pyOf C S P O k ⟨sc, sf, sr, sg, sh⟩)))) := by
                    unfold Hid
                    rw [HG.out, HV.out, intC_snocC, List.length_append]
                    exact hO3
                  have hlg : (acc2 ++ gCs P (pyOf C S P O k ⟨sc, sf, sr, sg, sh⟩)).length = acc2.length + 1 := by rw [HG.out]; simp
                  have HLG := Lib.hid hlg
                  clear hown' hgrow hO3 hlg
                  go_wp2_with (fail)
                  go_roundw
                  case rel => exact ⟨j + 1, _, A4, c4, by omega, by first | rfl | go_num, by rw [HLG.out], HO4.out, HD2.out, by rw [HLG.out]; omega⟩
                  case measure => simp [intOf]; omega
                | false =>
                  have HV : Hid (csOf P ek sc = 3) := by unfold Hid; rw [HCS.out]; rfl
                  go_wp2_with (first
                    | (go_at_call 61; refine (rRest_any ⟨bar2, v2, dt2, tr2, tie2, L2⟩ ua uc' _).mono ?_; rintro e w6 ⟨rfl, hb6⟩; rw [HR.out]; have HO5 := Lib.hid (HO2.out.below (bt HB6.out (bt T5.out hb6))); have hz5 : w1.heap.size ≤ w6.heap.size := HO5.out.low.size)
                    | (at_builtin; go_loud (refine wpList_append_own _ rfl _ _ 23 rfl w1.heap.size 3 i0 _ 1 8 Try.underlying23 ii1 ii2 ii3 ii4 rfl (by decide) (.slice A3 acc2.length c3') acc2.length _ rfl (HO5.out.own.alloc _) ⟨w6.heap.size, 0, none⟩ 1 1 [.int .i64 3] rfl rfl (cell_one_new _ _ _) (by simp [Value.oneCell']) hml (by omega) (by simp; omega) ?_)))
                  intro v' w3 hown' hgrow _
                  obtain ⟨A4, c4, rfl, hO3, _⟩ := Own1.step HO5.out (Below.refl _ _) rfl hown' hgrow
                  have HO4 : Hid (Own1 w1 w3 3 1 A4 (acc2 ++ gCs P (pyOf C S P O k ⟨sc, sf, sr, sg, sh⟩)).length c4 (intC (acc2 ++ gCs P (pyOf C S P O k ⟨sc, sf, sr, sg, sh⟩)))) := by
                    unfold Hid
                    rw [HG.out, HV.out, intC_snocC, List.length_append]
                    exact hO3
                  have hlg : (acc2 ++ gCs P (pyOf C S P O k ⟨sc, sf, sr, sg, sh⟩)).length = acc2.length + 1 := by rw [HG.out]; simp
                  have HLG := Lib.hid hlg
                  clear hown' hgrow hO3 hlg
                  go_wp2_with (fail)
                  go_roundw
                  case rel => exact ⟨j + 1, _, A4, c4, by omega, by first | rfl | go_num, by rw [HLG.out], HO4.out, HD2.out, by rw [HLG.out]; omega⟩
                  case measure => simp [intOf]; omega)
        · have hjN : ¬ ((j : Int) < (N : Int)) := by omega
          have HZ := Lib.hid (im_out HT2.out (by have := HLN.out; omega))
          go_wp2_with (fail)
          go_roundw
          case rel => exact ⟨k + 1, acc2, A3, c3', by omega, by first | rfl | go_num, rfl, HO2.out, HZ.out, by omega⟩
          case measure => simp [intOf]; omega
    · have hkq : ¬ ((k : Int) < (q : Int)) := by omega
      have HZ : Hid (T = acc) := by
        unfold Hid
        rw [HTk.out, List.drop_of_length_le (by have := HL.out; omega)]
        simp [pyGo]
      go_wp2_with (fail)
      go_ret2
      exact ⟨A1, _, c1, rfl, by rw [HZ.out], by rw [HZ.out]; exact HOw.out.sl, HW.out⟩

set_option maxRecDepth 100000 in
set_option maxHeartbeats 1600000 in
theorem rcauses_any (A : Option Addr) (n c : Nat) (A' : Option Addr) (m c' : Nat) (A2 : Option Addr) (q cq : Nat) (C : List Cr) (S : List Int) (P : List EvP) (w : World) (hP : PcIn w A n c A' m c' A2 q cq C S P) (hnb : n ≤ 1000000) (hmb : m ≤ 1000000) (hq : q ≤ 65536) (hst : ∀ y ∈ P, y.L.length ≤ 1000000) :
    Calls Try.prog 27 #[pcV A n c A' m c' A2 q cq] w (NmPost (csL C S P) (pcErr C S P) w) := by
  by_cases hX0 : pcErr C S P = 0
  · have := rcauses_fine A n c A' m c' A2 q cq C S P w hP hnb hmb hq hst hX0
    rw [hX0]
    exact this
  · have HP : Hid (∀ w', Below w.heap.size w w' → PcIn w' A n c A' m c' A2 q cq C S P) := fun w' hb => hP.below hb
    have HZ : Hid (csL C S P = []) := by unfold Hid csL; rw [pyL_none hX0]; rfl
    have DO := Lib.hid (fun w' (h : PcIn w' A n c A' m c' A2 q cq C S P) => rpcheck_any A n c A' m c' A2 q cq C S P w' h hnb hmb (by omega) hst)
    unfold NmPost
    rw [HZ.out]
    obtain ⟨X, hX⟩ : ∃ X, pcErr C S P = X := ⟨_, rfl⟩
    rw [hX] at hX0 DO ⊢
    have hXb : (X != 0) = true := by simpa using hX0
    clear hP hst hX hX0 HZ
    go_enter Try.func27, Try.ntmps27
    go_wp2_with (go_at_call 47; refine (DO.out _ (HP.out _ (ba w _))).mono ?_; rintro e w1 ⟨rfl, hb1⟩)
    go_ret2
    exact ⟨none, 0, 0, rfl, rfl, Sl.none_ _ _ _, bx hb1⟩

end Go.Proofs.Ytcebpgcmmdfccaa
