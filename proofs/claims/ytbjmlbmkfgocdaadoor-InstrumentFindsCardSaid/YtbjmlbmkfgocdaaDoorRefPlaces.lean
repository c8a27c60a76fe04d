/- What the reference's Places returns for any instrument and pitch. -/
import Derived.Test.YtbjmlbmkfgocdaaDoorPlaces
namespace Go.Proofs.YtbjmlbmkfgocdaaDoor
open Go.RowKit

set_option maxRecDepth 100000 in
set_option maxHeartbeats 16000000 in
theorem rplaces_any (A A' : Option Addr) (n c m c' : Nat) (C : List Cr) (S : List Int) (p : Int) (w : World) (hC : Sl w w.heap.size 3 A n c (crC C)) (hS : Sl w w.heap.size 1 A' m c' (intC S)) (hn : n = C.length) (hm : m = S.length)
    (hb : n ≤ 9223372036854775807) (hb2 : m ≤ 9223372036854775807) :
    Calls Tryd.prog 26 #[.agg #[.slice A n c, .slice A' m c'], .int .i64 p] w (PlPost (plL C S p) (plE C S p) w) := by
  obtain ⟨i0, ii1, ii2, ii3, ii4⟩ := info_parts Tryd.infoPl
  have hC1 := hC.below (ba w (iObj A n c A' m c'))
  have hS1 := hS.below (ba w (iObj A n c A' m c'))
  have HCK := Lib.hid (rcheck_any A A' n c m c' C S _ hC1 hS1 hn hm hb hb2)
  have HC := Lib.hid hC1
  have HS := Lib.hid hS1
  have HN := Lib.hid hn
  have HM := Lib.hid hm
  clear hC hS hC1 hS1 hm
  by_cases h1 : chk C S = 0
  · have H1 := Lib.hid h1
    by_cases hp : isP p = false
    · have HE := Lib.hid (pl_pitch h1 hp)
      have hp2 : p < 0 ∨ (127 < p ∧ ¬ p < 0) := by simp [isP] at hp; omega
      clear h1 hp hn
      rcases hp2 with hp | ⟨hp, hp0⟩
      · go_enter Tryd.func26, Tryd.ntmps26
        go_wp2_with (go_at_call 24; refine HCK.out.mono ?_; rintro e w1 ⟨rfl, hb1⟩; rw [H1.out])
        go_ret2
        rw [HE.out.1, HE.out.2]
        exact plPost_none (bx hb1)
      · go_enter Tryd.func26, Tryd.ntmps26
        go_wp2_with (go_at_call 24; refine HCK.out.mono ?_; rintro e w1 ⟨rfl, hb1⟩; rw [H1.out])
        go_ret2
        rw [HE.out.1, HE.out.2]
        exact plPost_none (bx hb1)
    · replace hp : isP p = true := by simpa using hp
      obtain ⟨p1, p2⟩ := isP_iff.1 hp
      have p3 : ¬ p < 0 := by omega
      have p4 : ¬ 127 < p := by omega
      have HE := Lib.hid (pl_ok h1 hp)
      have HX := Lib.hid (fun k hk => chk_course h1 k hk)
      have HRI := Lib.hid (chk_ok h1).2.2.1
      clear h1 hp hn
      go_enter Tryd.func26, Tryd.ntmps26
      go_wp2_with (go_at_call 24; refine HCK.out.mono ?_; rintro e w1 ⟨rfl, hb1⟩; rw [H1.out]; obtain ⟨q0, _⟩ := keepb hb1 0; obtain ⟨q1, _⟩ := keepb hb1 1; have hz1 : w.heap.size < w1.heap.size := (by have := hb1.size; simp at this; omega); simp at q0 q1)
      go_loopw [8, 7, 9] (fun i v _ wr => ∃ (k : Nat) (acc : List (Int × Int)) (A1 : Option Addr) (c1 : Nat), k ≤ n ∧ i = .int .i64 ((k : Int) + 1) ∧ v = .slice A1 acc.length c1 ∧ Own1 (w.alloc (iObj A n c A' m c')) wr 38 2 A1 acc.length c1 (plC acc) ∧ plsL S p 0 C = acc ++ plsL S p k (C.drop k) ∧ acc.length ≤ 19 * k) (fun i _ _ _ => n + 1 - (intOf i).toNat)
      case atStart => exact ⟨0, [], none, 0, by omega, rfl, rfl, Own1.start hb1 _ _, rfl, by simp⟩
      case round =>
        obtain ⟨k, acc, A1, c1, hk, rfl, rfl, hO, hL, hlen⟩ := hrel
        have HO := Lib.hid hO
        have HL := Lib.hid hL
        clear hO hL q0 q1 hz1
        obtain ⟨q0, _⟩ := keepb HO.out.low 0
        obtain ⟨q1, _⟩ := keepb HO.out.low 1
        have hz : w.heap.size < wr.heap.size := by have := HO.out.low.size; simp at this; omega
        simp at q0 q1
        by_cases hlt : k < n
        · have hA := (HC.out.below HO.out.low).2.2 (by omega)
          obtain ⟨b, off, hA, _⟩ := hA
          subst hA
          obtain ⟨x1, x2, x3, x4, x5, x6⟩ := HX.out k (by have := HN.out; omega)
          have HXk := Lib.hid (And.intro x1 x2)
          have HD := Lib.hid (pls_enter HL.out (drop_consC C k (by have := HN.out; omega)))
          have hk14 : k < 14 := by have := HN.out; omega
          have hle : ((k : Int) + 1 ≤ (n : Int)) := by omega
          have hkn : (k : Int) < (n : Int) := by omega
          have g4 : IntKind.i64.wrap (k : Int) = k := IntWalk.i64_in _ ⟨by omega, by omega⟩
          obtain ⟨F, hF⟩ := Int.eq_ofNat_of_zero_le x3
          have HFm : Hid (F ≤ m) := by unfold Hid; have := HM.out; omega
          have hF18 : F ≤ 18 := by omega
          have HC1 : Hid (∀ w', Below (w.alloc (iObj (some ⟨b, off, none⟩) n c A' m c')).heap.size (w.alloc (iObj (some ⟨b, off, none⟩) n c A' m c')) w' → w'.cell? ⟨b, off + k * 3 + 1, none⟩ = some (.int .i64 F) ∧ b < w'.heap.size ∧
              ∀ q : Nat, q ≤ F → Calls Tryd.prog 53 #[.agg #[.slice (some ⟨b, off, none⟩) n c, .slice A' m c'], .agg #[.int .i64 ((k : Int) + 1), .int .i64 q]] w' fun e w2 => e = .returned (.int .i64 ((C.getD k z0).p + riseV S q)) ∧ Below w'.heap.size w' w2) := by
            intro w' h
            obtain ⟨b', off', hA, hB, hc⟩ := (HC.out.below h).2.2 (by omega)
            injection hA with hA
            injection hA with hA1 hA2
            subst hA1 hA2
            obtain ⟨_, j1, _⟩ := crC_at C k (by have := HN.out; omega)
            have k1 := hc _ _ j1
            rw [← Nat.add_assoc] at k1
            refine ⟨by rw [k1, hF], hB, fun q hq => ?_⟩
            exact rsound_any _ _ _ _ _ _ C S k q w' (HC.out.below h) (HS.out.below h) HN.out HM.out hb hb2 (by omega) (by omega) (by have := HFm.out; omega) HXk.out (riseV_bd HRI.out (by omega) (by have := HM.out; have := HFm.out; omega))
          clear x1 x2 x3 x4
          have hxx : Hid (∃ xo, C.getD k z0 = ⟨(C.getD k z0).p, F, xo⟩) := ⟨(C.getD k z0).o, by rw [← hF]⟩
          clear hF
          obtain ⟨xo, hx⟩ := hxx.out
          rw [hx] at HD
          have HP1 := Lib.hid HXk.out
          generalize hgp : (C.getD k z0).p = xp at *
          clear hxx hx hgp HXk
          obtain ⟨x1, x2⟩ := HP1.out
          go_wp2_with (fail)
          obtain ⟨wo, rfl⟩ : ∃ wo : World, wo = wr := ⟨_, rfl⟩
          go_loopw [9, 7] (fun s v wr => ∃ (q : Nat) (acc2 : List (Int × Int)) (A2 : Option Addr) (c2 : Nat), q ≤ F + 1 ∧ s = .int .i64 q ∧ v = .slice A2 acc2.length c2 ∧ Own1 (w.alloc (iObj (some ⟨b, off, none⟩) n c A' m c')) wr 38 2 A2 acc2.length c2 (plC acc2) ∧ plsL S p 0 C = acc2 ++ (frsL S ⟨xp, F, xo⟩ p (k + 1) q (F + 1 - q) ++ plsL S p (k + 1) (C.drop (k + 1))) ∧ acc2.length ≤ 19 * k + q) (fun s _ _ => F + 1 - (intOf s).toNat)
          case atStart => exact ⟨0, acc, A1, c1, by omega, rfl, rfl, HO.out, HD.out, by omega⟩
          case round =>
            obtain ⟨q, acc2, A2, c2, hq, rfl, rfl, hO2, hT, hlen2⟩ := hrel
            have HO2 := Lib.hid hO2
            have HT := Lib.hid hT
            clear q0 q1
            obtain ⟨s0, _⟩ := keepb hO2.low 0
            obtain ⟨s1, _⟩ := keepb hO2.low 1
            have hzw : w.heap.size < wr.heap.size := by have := hO2.low.size; simp at this; omega
            simp at s0 s1
            obtain ⟨t1, hbz, hsd⟩ := HC1.out wr hO2.low
            have HSD := Lib.hid hsd
            clear hO2 hT hsd
            by_cases hqF : q ≤ F
            · have g1 : (q : Int) ≤ (F : Int) := by omega
              have HS1 := Lib.hid (HSD.out q hqF)
              obtain ⟨r1, r2⟩ := riseV_bd (S := S) (f := (q : Int)) HRI.out (by omega) (by have := HM.out; have := HFm.out; omega)
              obtain ⟨rv, hrv⟩ : ∃ rv, riseV S (q : Int) = rv := ⟨_, rfl⟩
              rw [hrv] at r1 r2 HS1
              have HRV := Lib.hid hrv
              clear hrv
              by_cases he : xp + rv = p
              · have HHit := Lib.hid (frs_hit HT.out hqF (by rw [HRV.out]; exact he))
                have heb : (xp + rv == p) = true := by simpa using he
                clear he
                go_wp2_with (first | (go_at_call 53; refine HS1.out.mono ?_; rintro e w5 ⟨rfl, hb5⟩) | (at_builtin; refine wpList_append_own _ rfl _ _ 45 rfl (w.alloc (iObj (some ⟨b, off, none⟩) n c A' m c')).heap.size 38 i0 _ 2 16 Tryd.underlying45 ii1 ii2 ii3 ii4 rfl (by decide) (.slice A2 acc2.length c2) acc2.length _ rfl ((own_below HO2.out.own hb5).alloc _) ⟨w5.heap.size, 0, none⟩ 1 1 [.int .i64 ((k : Int) + 1), .int .i64 q] rfl rfl ?d1 ?d2 ?d3 ?d4 ?d5 ?_))
                case d1 => exact World.news_of_block (cs := #[.int .i64 ((k : Int) + 1), .int .i64 q]) (t := 38) (fr := (0, 0)) (heap_alloc_new w5 _)
                case d2 =>
                  intro u hu
                  simp at hu
                  rcases hu with rfl | rfl <;> rfl
                case d3 => unfold maxLen; omega
                case d4 => omega
                case d5 => have := hb5.size; simp; omega
                intro v' w3 hown' hgrow _
                obtain ⟨A3, c3, rfl, hO3, _⟩ := Own1.step HO2.out hb5 (by simp) hown' hgrow
                have e1 : (((k + 1 : Nat)) : Int) = (k : Int) + 1 := by omega
                have hO4 : Own1 (w.alloc (iObj (some ⟨b, off, none⟩) n c A' m c')) w3 38 2 A3 (acc2 ++ [((((k + 1 : Nat)) : Int), (q : Int))]).length c3 (plC (acc2 ++ [((((k + 1 : Nat)) : Int), (q : Int))])) := by
                  rw [plC_snoc, List.length_append, e1]; exact hO3
                have HO4 := Lib.hid hO4
                clear hown' hgrow hO3 hO4 e1
                go_wp2_with (fail)
                go_roundw
                case rel => exact ⟨q + 1, _, A3, c3, by omega, by go_num, by simp, HO4.out, HHit.out, by simp; omega⟩
                case measure => simp [intOf]; omega
              · have HMs := Lib.hid (frs_miss HT.out hqF (by rw [HRV.out]; exact he))
                have heb : (xp + rv == p) = false := by simpa using he
                clear he
                go_wp2_with (go_at_call 53; refine HS1.out.mono ?_; rintro e w5 ⟨rfl, hb5⟩)
                go_roundw
                case rel => exact ⟨q + 1, acc2, A2, c2, by omega, by go_num, rfl, HO2.out.below hb5, HMs.out, by omega⟩
                case measure => simp [intOf]; omega
            · have g1 : ¬ ((q : Int) ≤ (F : Int)) := by omega
              have HZ := Lib.hid (frs_out HT.out (by omega))
              go_wp2_with (fail)
              go_roundw
              case rel => exact ⟨k + 1, acc2, A2, c2, by omega, by go_num, rfl, HO2.out, HZ.out, by omega⟩
              case measure => simp [intOf]; omega
        · have hkn : k = n := by omega
          have hle : ¬ ((k : Int) + 1 ≤ (n : Int)) := by omega
          have hT : plsL S p 0 C = acc := by rw [HL.out, List.drop_of_length_le (by have := HN.out; omega)]; simp [plsL]
          have HT := Lib.hid hT
          clear hT
          go_wp2_with (fail)
          go_ret2
          rw [HE.out.1, HE.out.2, HT.out]
          exact ⟨A1, _, c1, rfl, rfl, HO.out.sl, bx HO.out.low⟩
  · have HE := Lib.hid (pl_chk (p := p) h1)
    obtain ⟨ev, hev⟩ : ∃ ev, chk C S = ev := ⟨_, rfl⟩
    rw [hev] at h1
    have HV := Lib.hid hev
    clear hev hn
    go_enter Tryd.func26, Tryd.ntmps26
    go_wp2_with (go_at_call 24; refine HCK.out.mono ?_; rintro e w3 ⟨rfl, hb3⟩; rw [HV.out])
    go_ret2
    rw [HE.out.1, HE.out.2, HV.out]
    exact plPost_none (bx hb3)

end Go.Proofs.YtbjmlbmkfgocdaaDoor
