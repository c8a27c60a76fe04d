/- Sound, the reference: Notes, for any piece. -/
import Derived.Test.YtpcehgifpajmbaaGreatSndRG
namespace Go.Proofs.YtpcehgifpajmbaaGreat
open Go Go.RowKit

set_option maxRecDepth 100000 in
set_option maxHeartbeats 8000000 in
theorem rnotes_fine (A : Option Addr) (n c : Nat) (A' : Option Addr) (m c' : Nat) (A2 : Option Addr) (q cq : Nat) (C : List Cr) (S : List Int) (P : List EvP) (w : World) (hP : PcIn w A n c A' m c' A2 q cq C S P) (hnb : n ≤ 1000000) (hmb : m ≤ 1000000) (hq : q ≤ 65536) (hst : ∀ y ∈ P, y.L.length ≤ 1000000) (hX : pcErr C S P = 0) :
    Calls Tryz.prog 16 #[pcV A n c A' m c' A2 q cq] w (NtPost (ntL C S P) 0 w) := by
  have HP : Hid (∀ w', Below w.heap.size w w' → PcIn w' A n c A' m c' A2 q cq C S P) := fun w' hb => hP.below hb
  have HL := Lib.hid hP.es.hq
  have HN := Lib.hid hP.hn
  have HM := Lib.hid hP.hm
  have HST := Lib.hid hst
  have h400 : q ≤ 400 := by have := (pcErr_ok hX).2.1; have := hP.es.hq; omega
  have hol : Hid ((onsL C S P).length = q + 1) := by unfold Hid onsL; rw [if_pos hX]; simp [sumL_len, frcL_len, hP.es.hq]
  have HT : Hid (ntL C S P = (pyGo C S P (onsL C S P) 0 P).flatMap gNt) := by unfold Hid; rw [ntL_g, pyL, if_pos hX]
  have HSO : Hid (∀ (i : Nat) (y : EvP), P[i]? = some y → y.L.length ≤ 14 ∧ ∀ s ∈ y.L, StOk C P i s) := fun i y hy => ⟨ev_len hX hy, fun s hs => stOk_of hX hy hs⟩
  have HTIE : Hid (∀ (j : Nat) (y : EvP), P[j]? = some y → y.tie = true → y.L.length = 0) := fun j y hy ht => tie_len hX hy ht
  have HCH := Lib.hid (pcErr_ok hX).1
  obtain ⟨i0, ii1, ii2, ii3, ii4⟩ := info_parts (show (Tryz.prog.info? 52).map (fun i => (i.zero, i.size, i.bytes)) = some (some (.agg #[.int .i64 0, .int .i64 0, .int .i64 0, .int .i64 0, .int .i64 0]), 5, 40) by kernel_rfl)
  have DO := Lib.hid (fun w' (h : PcIn w' A n c A' m c' A2 q cq C S P) => rOnsets_any A n c A' m c' A2 q cq C S P w' h hnb hmb hq hst)
  unfold OnPost at DO
  unfold NtPost
  rw [hX] at DO
  have hn9 : n ≤ 9223372036854775807 := by omega
  have hm9 : m ≤ 9223372036854775807 := by omega
  clear hP hst hX
  generalize onsL C S P = O at *
  generalize ntL C S P = T at *
  go_enter Tryz.func16, Tryz.ntmps16
  go_wp2_with (go_at_call 30; refine (DO.out _ (HP.out _ (ba w _))).mono ?_; rintro e w1 ⟨B, mo, d, rfl, hmo, hO, hb1⟩; obtain ⟨p0, p1, p2⟩ := cell3 hb1; have HB1 := Lib.hid hb1; have HO := Lib.hid hO; have hmq : mo = q + 1 := hmo.trans hol.out; clear hO hb1 hmo)
  go_loopw [7, 6, 8, 10] (fun i l _ _ wr => ∃ (k : Nat) (acc : List Nt) (A1 : Option Addr) (c1 : Nat), k ≤ q ∧ i = .int .i64 k ∧ l = .slice A1 acc.length c1 ∧ Own1 w1 wr 52 5 A1 acc.length c1 (ntC acc) ∧ T = acc ++ (pyGo C S P O k (P.drop k)).flatMap gNt ∧ acc.length ≤ 14 * k) (fun i _ _ _ _ => q - (intOf i).toNat)
  case atStart => exact ⟨0, [], none, 0, by omega, rfl, rfl, Own1.start (Below.refl _ _) _ _, HT.out, by simp⟩
  case round =>
    obtain ⟨k, acc, A1, c1, hk, rfl, rfl, hOw, hT, hlen⟩ := hrel
    have HOw := Lib.hid hOw
    have HTk := Lib.hid hT
    have HW : Hid (Below w.heap.size w wr) := bx (bt HB1.out hOw.low)
    obtain ⟨p0, p1, p2⟩ := cell3 (bt HB1.out hOw.low)
    clear hOw hT
    by_cases hlt : k < q
    · obtain ⟨b, off, sa, sc', rfl, hbl, hPk, hd, ⟨e0, e1, e2, e3, e4, e5⟩, hS⟩ := (HP.out _ (Below.refl _ _)).es.at hlt
      have hkq : (k : Int) < (q : Int) := by omega
      have HS := Lib.hid hS
      have HD := Lib.hid (gm_enter HTk.out hd)
      have hL14 : (P.getD k z6).L.length ≤ 14 := (HSO.out _ _ hPk).1
      have HOK : Hid (∀ s ∈ (P.getD k z6).L, StOk C P k s) := (HSO.out _ _ hPk).2
      have HE5 : Hid (∀ w', Below w.heap.size w w' → w'.cell? ⟨b, off + k * 6 + 5, none⟩ = some (.slice sa (P.getD k z6).L.length sc')) := fun w' h => cell_same (h.block b hbl) e5
      clear hS hd hPk e0 e1 e2 e3 e4 e5
      generalize P.getD k z6 = y at *
      obtain ⟨bar, v, dt, tr, tie, L⟩ := y
      dsimp only at hL14 HS HOK HD HE5
      obtain ⟨N, hN⟩ : ∃ N, L.length = N := ⟨_, rfl⟩
      have HLN := Lib.hid hN
      rw [hN] at HE5 hL14 HS
      clear hN
      go_wp2_with (fail)
      obtain ⟨wo, rfl⟩ : ∃ wo : World, wo = wr := ⟨_, rfl⟩
      clear p0 p1 p2
      go_loopw [8, 6, 10] (fun s v _ wr => ∃ (j : Nat) (acc2 : List Nt) (A2 : Option Addr) (c2 : Nat), j ≤ N ∧ s = .int .i64 j ∧ v = .slice A2 acc2.length c2 ∧ Own1 w1 wr 52 5 A2 acc2.length c2 (ntC acc2) ∧ T = acc2 ++ ((pyEv C S P O k (L.drop j)).flatMap gNt ++ (pyGo C S P O (k + 1) (P.drop (k + 1))).flatMap gNt) ∧ acc2.length ≤ 14 * k + j) (fun s _ _ _ => N - (intOf s).toNat)
      case atStart => exact ⟨0, acc, A1, c1, by omega, rfl, rfl, HOw.out, HD.out, by omega⟩
      case round =>
        obtain ⟨j, acc2, A3, c3', hj, rfl, rfl, hO2, hT2, hlen2⟩ := hrel
        have HO2 := Lib.hid hO2
        have HT2 := Lib.hid hT2
        have HW2 : Hid (Below w.heap.size w wr) := bx (bt HB1.out hO2.low)
        obtain ⟨p0, p1, p2⟩ := cell3 (bt HB1.out hO2.low)
        have e5 := HE5.out _ HW2.out
        have hz2 : w.heap.size < wr.heap.size := by have h1 := HB1.out.size; have h2 := hO2.low.size; simp at h1; omega
        clear hO2 hT2
        by_cases hlj : j < N
        · obtain ⟨sb, so, rfl, hsb, hsd, hsj, d0, d1, d2, d3, d4⟩ := st_at (HS.out.below HW2.out) HLN.out.symm hlj
          have HD2 := Lib.hid (gm_hit HT2.out hsd)
          have HSK : Hid (StOk C P k (L.getD j z5)) := HOK.out _ (List.mem_of_getElem? hsj)
          have hjN : (j : Int) < (N : Int) := by omega
          clear hsd hsj
          generalize L.getD j z5 = s at *
          obtain ⟨ek, hek⟩ : ∃ ek, endN P k s = ek := ⟨_, rfl⟩
          obtain ⟨pv, hpv⟩ : ∃ pv, atP C S s.c s.f = pv := ⟨_, rfl⟩
          have hb := endN_bd (by have := HL.out; omega) HSK.out
          rw [hek] at hb
          have hekq : ek ≤ q := by have := HL.out; omega
          have HPY : Hid (pyOf C S P O k s = ⟨s.f, ek, ⟨k, s.c, pv, onAt O k, onAt O ek⟩⟩) := by unfold Hid pyOf; rw [hek, hpv]
          have HEK := Lib.hid hek
          have HPV := Lib.hid hpv
          clear hek hpv hb
          obtain ⟨sc, sf, sr, sg, sh⟩ := s
          dsimp only at d0 d1 d2 d3 d4 HPY HPV
          have hk1 : (k : Int) < (mo : Int) := by omega
          have hk2 : (ek : Int) < (mo : Int) := by omega
          have hK0 : Blk (wr.alloc (stO5 sc sf sr sg sh)) wr.heap.size 42 #[.int .i64 sc, .int .i64 sf, .int .i64 sr, .int .i64 sg, .int .i64 sh] := heap_alloc_new wr _
          have HK0 := Lib.hid hK0
          clear hK0
          obtain ⟨bO, oO, rfl, hbO, hcO⟩ := HO.out.2.2 (by omega)
          have HCO : Hid (∀ w', Below w1.heap.size w1 w' → w'.cell? ⟨bO, oO + k, none⟩ = some (.int .i64 (onAt O k)) ∧ w'.cell? ⟨bO, oO + ek, none⟩ = some (.int .i64 (onAt O ek))) := fun w' hb =>
            ⟨cell_same (hb.block bO hbO) (hcO _ _ (intC_at O k (by have := hol.out; omega))), cell_same (hb.block bO hbO) (hcO _ _ (intC_at O ek (by have := hol.out; omega)))⟩
          clear hcO hbO
          generalize onAt O k = x1 at *
          generalize onAt O ek = x2 at *
          have hml : acc2.length + 1 ≤ maxLen := Nat.le_trans (show acc2.length + 1 ≤ 100000 by omega) (by decide)
          have SH : Hid (∀ w', Blk w' wr.heap.size 42 #[.int .i64 sc, .int .i64 sf, .int .i64 sr, .int .i64 sg, .int .i64 sh] → Below w1.heap.size w1 w' → (w'.cell? ⟨w.heap.size, 0, none⟩ = some (.slice A n c) ∧ w'.cell? ⟨w.heap.size, 1, none⟩ = some (.slice A' m c') ∧ w'.cell? ⟨w.heap.size, 2, none⟩ = some (.slice (some ⟨b, off, none⟩) q cq)) ∧ (w'.cell? ⟨wr.heap.size, 0, none⟩ = some (.int .i64 sc) ∧ w'.cell? ⟨wr.heap.size, 1, none⟩ = some (.int .i64 sf) ∧ w'.cell? ⟨wr.heap.size, 2, none⟩ = some (.int .i64 sr) ∧ w'.cell? ⟨wr.heap.size, 3, none⟩ = some (.int .i64 sg) ∧ w'.cell? ⟨wr.heap.size, 4, none⟩ = some (.int .i64 sh)) ∧ w'.cell? ⟨bO, oO + k, none⟩ = some (.int .i64 x1) ∧ w'.cell? ⟨bO, oO + ek, none⟩ = some (.int .i64 x2)) := fun w' hk hb =>
            ⟨cell3 (bt HB1.out hb), ⟨by have := hk.cell 0; simpa using this, by have := hk.cell 1; simpa using this, by have := hk.cell 2; simpa using this, by have := hk.cell 3; simpa using this, by have := hk.cell 4; simpa using this⟩, HCO.out _ hb⟩
          obtain ⟨cn, hcn⟩ : ∃ cn : Nat, sc = (cn : Int) + 1 := ⟨(sc - 1).toNat, by have := HSK.out.c1; dsimp only at this; omega⟩
          subst hcn
          have HG : Hid (gNt (pyOf C S P O k ⟨(cn : Int) + 1, sf, sr, sg, sh⟩) = [⟨k, (cn : Int) + 1, pv, x1, x2⟩]) := by unfold Hid; rw [HPY.out]; rfl
          have hcc : cn < n := by have := HSK.out.c2; dsimp only at this; have := HN.out; omega
          have HAT : Hid (0 ≤ (C.getD cn z0).p ∧ (C.getD cn z0).p ≤ 127 ∧ 0 ≤ sf ∧ sf ≤ m ∧ 0 ≤ riseV S sf ∧ riseV S sf ≤ 127 ∧ (C.getD cn z0).p + riseV S sf = pv) := by
            have h := HSK.out
            have e : ((cn : Int) + 1 - 1).toNat = cn := by omega
            obtain ⟨_, _, hri, hce⟩ := chk_ok HCH.out
            obtain ⟨_, c4, c1, c2, _⟩ := crErr_ok (crsErr_mem hce _ (getD_mem C cn (by have := HN.out; omega)))
            have f2 := h.f2
            have f1 := h.f1
            dsimp only at f1 f2
            rw [e] at f2
            have hm := HM.out
            obtain ⟨r1, r2⟩ := riseV_bd hri f1 (by omega)
            have hp := (at_pitch HCH.out h.c1 h.c2 h.f1 h.f2).1
            dsimp only at hp
            rw [e, HPV.out] at hp
            exact ⟨c1, c2, f1, by omega, r1, r2, hp.symm⟩
          go_wp2_with (go_at_call 31; refine (rsound_any A A' n c m c' C S cn sf _ (HP.out _ (bt HW2.out (ba wr _))).crs (HP.out _ (bt HW2.out (ba wr _))).stp HN.out HM.out hn9 hm9 hcc HAT.out.2.2.1 HAT.out.2.2.2.1 ⟨HAT.out.1, HAT.out.2.1⟩ ⟨HAT.out.2.2.2.2.1, HAT.out.2.2.2.2.2.1⟩).mono ?_; rintro e w5 ⟨rfl, hb5⟩; rw [HAT.out.2.2.2.2.2.2])
          have HB6 : Hid (Below wr.heap.size wr w5) := bx hb5
          have HK5 := Lib.hid (HK0.out.below hb5)
          have HO6 := Lib.hid (HO2.out.below HB6.out)
          have hz6 : w1.heap.size ≤ w5.heap.size := HO6.out.low.size
          clear d0 d1 d2 d3 d4 p0 p1 p2 hb5 e5
          go_region_held_law (fun w' => (w'.cell? ⟨w.heap.size, 0, none⟩ = some (.slice A n c) ∧ w'.cell? ⟨w.heap.size, 1, none⟩ = some (.slice A' m c') ∧ w'.cell? ⟨w.heap.size, 2, none⟩ = some (.slice (some ⟨b, off, none⟩) q cq)) ∧ (w'.cell? ⟨wr.heap.size, 0, none⟩ = some (.int .i64 ((cn : Int) + 1)) ∧ w'.cell? ⟨wr.heap.size, 1, none⟩ = some (.int .i64 sf) ∧ w'.cell? ⟨wr.heap.size, 2, none⟩ = some (.int .i64 sr) ∧ w'.cell? ⟨wr.heap.size, 3, none⟩ = some (.int .i64 sg) ∧ w'.cell? ⟨wr.heap.size, 4, none⟩ = some (.int .i64 sh)) ∧ w'.cell? ⟨bO, oO + k, none⟩ = some (.int .i64 x1) ∧ w'.cell? ⟨bO, oO + ek, none⟩ = some (.int .i64 x2))
            (first | exact SH.out _ hK7 hO7.low | exact SH.out _ (HK5.out.below (bt (Below.refl _ _).drew (bt hb6 (ba _ _)))) ((bt HO6.out.low (bt (Below.refl _ _).drew hb6)).alloc (bt HO6.out.low (bt (Below.refl _ _).drew hb6)).size _) | exact SH.out _ (HK5.out.below (bt (Below.refl _ _).drew hb6)) (bt HO6.out.low (bt (Below.refl _ _).drew hb6)) | exact SH.out _ (HK5.out.below (Below.refl _ _).drew) HO6.out.low.drew)
            (first | (go_at_call 32; refine (rend_any A n c A' m c' _ q cq C P k ⟨(cn : Int) + 1, sf, sr, sg, sh⟩ _ (HP.out _ (bt HW2.out (bt HB6.out (Below.refl _ _).drew))).es (by omega) hq HST.out HTIE.out HSK.out).mono ?_; rintro e w6 ⟨rfl, hb6⟩; rw [HEK.out]) | (refine step_append_lies _ (by rfl) _ _ _ (by rfl) w1.heap.size 52 i0 _ 5 40 Tryz.underlying46 ii1 ii2 ii3 ii4 rfl (by decide) (.slice A3 acc2.length c3') acc2.length (ntC acc2) (by rfl) ((own_below HO6.out.own (bt (Below.refl _ _).drew hb6)).alloc (.cells #[.int .i64 k, .int .i64 ((cn : Int) + 1), .int .i64 pv, .int .i64 x1, .int .i64 x2] 52)) ⟨w6.heap.size, 0, none⟩ 1 1 [.int .i64 k, .int .i64 ((cn : Int) + 1), .int .i64 pv, .int .i64 x1, .int .i64 x2] (by rfl) rfl (World.news_of_block (cs := #[.int .i64 k, .int .i64 ((cn : Int) + 1), .int .i64 pv, .int .i64 x1, .int .i64 x2]) (t := 52) (fr := (0, 0)) (heap_alloc_new w6 _)) (one5 _ _ _ _ _) (by decide) hml (by omega) (by have h1 := (bt HO6.out.low (bt (Below.refl _ _).drew hb6)).size; simp; omega) (w6.heap.size + 1) (by simp) ?_; intro g cap w7 hown7 hgrow hat hlt7; obtain ⟨_, _, hsl, hO7, hK7'⟩ := Own1.step HO6.out (bt (Below.refl _ _).drew hb6) rfl hown7 hgrow; cases hsl; have hK7 := hK7' _ _ _ (by decide) HK5.out))
          all_goals (
            have HO7 : Hid (Own1 w1 w7 52 5 (some ⟨g, 0, none⟩) (acc2 ++ gNt (pyOf C S P O k ⟨(cn : Int) + 1, sf, sr, sg, sh⟩)).length cap (ntC (acc2 ++ gNt (pyOf C S P O k ⟨(cn : Int) + 1, sf, sr, sg, sh⟩)))) := by
              unfold Hid
              rw [HG.out, ntC_snoc, List.length_append]
              exact hO7
            have hlg : (acc2 ++ gNt (pyOf C S P O k ⟨(cn : Int) + 1, sf, sr, sg, sh⟩)).length = acc2.length + 1 := by rw [HG.out]; simp
            have HLG := Lib.hid hlg
            clear hO7 hK7 hK7' hown7 hgrow hat hlg
            go_wp2_with (fail)
            go_roundw
            case rel => exact ⟨j + 1, _, _, cap, by omega, by first | rfl | go_num, by rw [HLG.out], HO7.out, HD2.out, by rw [HLG.out]; omega⟩
            case measure => simp [intOf]; omega)
        · have hjN : ¬ ((j : Int) < (N : Int)) := by omega
          have HZ := Lib.hid (gm_out HT2.out (by have := HLN.out; omega))
          go_wp2_with (fail)
          go_roundw
          case rel => exact ⟨k + 1, acc2, A3, c3', by omega, by first | rfl | go_num, rfl, HO2.out, HZ.out, by omega⟩
          case measure => simp [intOf]; omega
    · have hkq : ¬ ((k : Int) < (q : Int)) := by omega
      have HZ : Hid (T = acc) := by
        unfold Hid
        rw [HTk.out, List.drop_of_length_le (by have := HL.out; omega)]
        simp [pyGo]
      go_wp2_with (fail)
      go_ret2
      exact ⟨A1, _, c1, rfl, by rw [HZ.out], by rw [HZ.out]; exact HOw.out.sl, HW.out⟩

set_option maxRecDepth 100000 in
set_option maxHeartbeats 1600000 in
theorem rnotes_any (A : Option Addr) (n c : Nat) (A' : Option Addr) (m c' : Nat) (A2 : Option Addr) (q cq : Nat) (C : List Cr) (S : List Int) (P : List EvP) (w : World) (hP : PcIn w A n c A' m c' A2 q cq C S P) (hnb : n ≤ 1000000) (hmb : m ≤ 1000000) (hq : q ≤ 65536) (hst : ∀ y ∈ P, y.L.length ≤ 1000000) :
    Calls Tryz.prog 16 #[pcV A n c A' m c' A2 q cq] w (NtPost (ntL C S P) (pcErr C S P) w) := by
  by_cases hX0 : pcErr C S P = 0
  · have := rnotes_fine A n c A' m c' A2 q cq C S P w hP hnb hmb hq hst hX0
    rw [hX0]
    exact this
  · have HP : Hid (∀ w', Below w.heap.size w w' → PcIn w' A n c A' m c' A2 q cq C S P) := fun w' hb => hP.below hb
    have HZ : Hid (ntL C S P = [] ∧ onsL C S P = []) := ⟨by exact ntL_none hX0, by unfold onsL; rw [if_neg hX0]⟩
    have DO := Lib.hid (fun w' (h : PcIn w' A n c A' m c' A2 q cq C S P) => rOnsets_any A n c A' m c' A2 q cq C S P w' h hnb hmb hq hst)
    unfold OnPost at DO
    unfold NtPost
    rw [HZ.out.1]
    obtain ⟨X, hX⟩ : ∃ X, pcErr C S P = X := ⟨_, rfl⟩
    rw [hX] at hX0 DO ⊢
    have hXb : (X != 0) = true := by simpa using hX0
    clear hP hst hX hX0 HZ
    go_enter Tryz.func16, Tryz.ntmps16
    go_wp2_with (go_at_call 30; refine (DO.out _ (HP.out _ (ba w _))).mono ?_; rintro e w1 ⟨B, mo, d, rfl, hmo, hO, hb1⟩; clear hmo hO)
    go_ret2
    exact ⟨none, 0, 0, rfl, rfl, Sl.none_ _ _ _, bx hb1⟩

end Go.Proofs.YtpcehgifpajmbaaGreat

/- Sound, the reference: Presses, for any piece. -/
namespace Go.Proofs.YtpcehgifpajmbaaGreat
open Go Go.RowKit

end Go.Proofs.YtpcehgifpajmbaaGreat
