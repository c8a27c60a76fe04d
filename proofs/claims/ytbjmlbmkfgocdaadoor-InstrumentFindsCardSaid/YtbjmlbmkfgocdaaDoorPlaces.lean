/- What the program's Places returns for any instrument and pitch. -/
import Derived.Test.YtbjmlbmkfgocdaaDoorGrow
namespace Go.Proofs.YtbjmlbmkfgocdaaDoor
open Go.RowKit

/-- What holds of a valid instrument's course. -/
theorem chk_course {C : List Cr} {S : List Int} (h : chk C S = 0) (k : Nat) (hk : k < C.length) : 0 ≤ (C.getD k z0).p ∧ (C.getD k z0).p ≤ 127 ∧ 0 ≤ (C.getD k z0).f ∧ (C.getD k z0).f ≤ S.length ∧ S.length ≤ 18 ∧ C.length ≤ 14 := by
  obtain ⟨h1, h2, _, hce⟩ := chk_ok h
  obtain ⟨x1, x2, x3, x4, _⟩ := crErr_ok (crsErr_mem hce _ (getD_mem C k hk))
  exact ⟨x3, x4, x1, x2, h2, h1⟩

theorem plL_len (C : List Cr) (S : List Int) (p : Int) : (plL C S p).length ≤ 9223372036854775807 := by
  unfold plL
  split
  · rename_i h
    have h0 : chk C S = 0 := by
      by_cases h0 : chk C S = 0
      · exact h0
      · rw [(pl_chk h0).1] at h; exact absurd h h0
    obtain ⟨h1, h2, _, hce⟩ := chk_ok h0
    have := plsL_len S p 18 C 0 fun x hx => by
      obtain ⟨_, h4, _⟩ := crErr_ok (crsErr_mem hce x hx)
      omega
    omega
  · simp

set_option maxRecDepth 100000 in
set_option maxHeartbeats 16000000 in
theorem places_any (A A' : Option Addr) (n c m c' : Nat) (C : List Cr) (S : List Int) (p : Int) (w : World) (hC : Sl w w.heap.size 3 A n c (crC C)) (hS : Sl w w.heap.size 1 A' m c' (intC S)) (hn : n = C.length) (hm : m = S.length)
    (hb : n ≤ 9223372036854775807) (hb2 : m ≤ 9223372036854775807) :
    Calls Tryd.prog 25 #[.agg #[.slice A n c, .slice A' m c'], .int .i64 p] w (PlPost (plL C S p) (plE C S p) w) := by
  obtain ⟨i0, ii1, ii2, ii3, ii4⟩ := info_parts Tryd.infoPl
  have hC1 := hC.below (ba w (iObj A n c A' m c'))
  have hS1 := hS.below (ba w (iObj A n c A' m c'))
  have HCK := Lib.hid (check_any A A' n c m c' C S _ hC1 hS1 hn hm hb hb2)
  have HC := Lib.hid hC1
  have HS := Lib.hid hS1
  have HN := Lib.hid hn
  have HM := Lib.hid hm
  clear hC hS hC1 hS1 hm
  by_cases h1 : chk C S = 0
  · have H1 := Lib.hid h1
    cases hp : isP p with
    | false =>
      have HP := Lib.hid hp
      have HE := Lib.hid (pl_pitch h1 hp)
      clear h1 hp hn
      go_enter Tryd.func25, Tryd.ntmps25
      go_wp2_with (first | (go_at_call 23; refine HCK.out.mono ?_; rintro e w1 ⟨rfl, hb1⟩; rw [H1.out]) | (go_at_call 47; refine (isPitch_any _ _).mono ?_; rintro e w2 ⟨rfl, rfl⟩; rw [HP.out]))
      go_ret2
      rw [HE.out.1, HE.out.2]
      exact plPost_none (bx hb1)
    | true =>
      have HP := Lib.hid hp
      obtain ⟨p1, p2⟩ := isP_iff.1 hp
      have HE := Lib.hid (pl_ok h1 hp)
      have HX := Lib.hid (fun k hk => chk_course h1 k hk)
      have HRI := Lib.hid (chk_ok h1).2.2.1
      clear h1 hp hn
      go_enter Tryd.func25, Tryd.ntmps25
      go_wp2_with (first | (go_at_call 23; refine HCK.out.mono ?_; rintro e w1 ⟨rfl, hb1⟩; rw [H1.out]; obtain ⟨q0, _⟩ := keepb hb1 0; obtain ⟨q1, _⟩ := keepb hb1 1; have hz1 : w.heap.size < w1.heap.size := (by have := hb1.size; simp at this; omega); simp at q0 q1) | (go_at_call 47; refine (isPitch_any _ _).mono ?_; rintro e w2 ⟨rfl, rfl⟩; rw [HP.out]))
      go_loopw [22, 7, 8, 9] (fun i v _ _ wr => ∃ (k : Nat) (acc : List (Int × Int)) (A1 : Option Addr) (c1 : Nat), k ≤ n ∧ i = .int .i64 k ∧ v = .slice A1 acc.length c1 ∧ Own1 (w.alloc (iObj A n c A' m c')) wr 38 2 A1 acc.length c1 (plC acc) ∧ plsL S p 0 C = acc ++ plsL S p k (C.drop k) ∧ acc.length ≤ 19 * k) (fun i _ _ _ _ => n - (intOf i).toNat)
      case atStart => exact ⟨0, [], none, 0, by omega, rfl, rfl, Own1.start hb1 _ _, rfl, by simp⟩
      case round =>
        obtain ⟨k, acc, A1, c1, hk, rfl, rfl, hO, hL, hlen⟩ := hrel
        have HO := Lib.hid hO
        have HL := Lib.hid hL
        clear hO hL q0 q1 hz1
        obtain ⟨q0, _⟩ := keepb HO.out.low 0
        obtain ⟨q1, _⟩ := keepb HO.out.low 1
        have hz : w.heap.size < wr.heap.size := by have := HO.out.low.size; simp at this; omega
        simp at q0 q1
        by_cases hlt : k < n
        · obtain ⟨b, off, hA, hB, hc⟩ := (HC.out.below HO.out.low).2.2 (by omega)
          subst hA
          obtain ⟨j0, j1, j2⟩ := crC_at C k (by have := HN.out; omega)
          have k0 := hc _ _ j0
          have k1 := hc _ _ j1
          have k2 := hc _ _ j2
          rw [← Nat.add_assoc] at k1 k2
          obtain ⟨x1, x2, x3, x4, x5, x6⟩ := HX.out k (by have := HN.out; omega)
          have HD := Lib.hid (pls_enter HL.out (drop_consC C k (by have := HN.out; omega)))
          have hk14 : k < 14 := by have := HN.out; omega
          have hF : Hid ((C.getD k z0).f ≤ m) := by unfold Hid; have := HM.out; omega
          clear hc j0 j1 j2
          generalize C.getD k z0 = x at *
          obtain ⟨xp, xf, xo⟩ := x
          dsimp only at k0 k1 k2 x1 x2 x3 x4
          obtain ⟨F, rfl⟩ := Int.eq_ofNat_of_zero_le x3
          have hF18 : F ≤ 18 := by omega
          go_wp2_with (fail)
          obtain ⟨wo, rfl⟩ : ∃ wo : World, wo = wr := ⟨_, rfl⟩
          go_loopw [30, 7, 10] (fun s v _ wr => ∃ (q : Nat) (acc2 : List (Int × Int)) (A2 : Option Addr) (c2 : Nat), q ≤ F + 1 ∧ s = .int .i64 q ∧ v = .slice A2 acc2.length c2 ∧ Own1 (w.alloc (iObj (some ⟨b, off, none⟩) n c A' m c')) wr 38 2 A2 acc2.length c2 (plC acc2) ∧ Blk wr wo.heap.size 51 #[.int .i64 xp, .int .i64 F, .bool xo] ∧ plsL S p 0 C = acc2 ++ (frsL S ⟨xp, F, xo⟩ p (k + 1) q (F + 1 - q) ++ plsL S p (k + 1) (C.drop (k + 1))) ∧ acc2.length ≤ 19 * k + q) (fun s _ _ _ => F + 1 - (intOf s).toNat)
          case atStart => exact ⟨0, acc, A1, c1, by omega, rfl, rfl, HO.out.below (ba _ _), heap_alloc_new wo _, HD.out, by omega⟩
          case round =>
            obtain ⟨q, acc2, A2, c2, hq, rfl, rfl, hO2, hBk, hT, hlen2⟩ := hrel
            have HO2 := Lib.hid hO2
            have HBk := Lib.hid hBk
            have HT := Lib.hid hT
            obtain ⟨s0, _⟩ := keepb hO2.low 0
            obtain ⟨s1, _⟩ := keepb hO2.low 1
            have t0 := hBk.cell 0
            have t1 := hBk.cell 1
            have hz2 := hBk.lt
            have hzw : w.heap.size < wr.heap.size := by have := hO2.low.size; simp at this; omega
            simp at s0 s1 t0 t1
            have HSw : Hid (∀ q', Sl (wr.drewN q') wr.heap.size 1 A' m c' (intC S)) := fun q' => (HS.out.below hO2.low).keep fun _ _ _ => rfl
            clear hO2 hBk hT q0 q1 k0 k1 k2
            by_cases hqF : q ≤ F
            · have g1 : (q : Int) < (F : Int) + 1 := by omega
              have hri := riseV_bd (S := S) (f := (q : Int)) HRI.out (by omega) (by have := HM.out; have := hF.out; omega)
              obtain ⟨r1, r2⟩ := hri
              have hqm : (q : Int) ≤ (m : Int) := by have := hF.out; omega
              have HRS : Hid (∀ q', Calls Tryd.prog 52 #[.slice A' m c', .int .i64 (q : Int)] (wr.drewN q') fun e w' => e = .returned (.int .i64 (riseV S q)) ∧ (wr.drewN q') = w') :=
                fun q' => rise_any A' m c' S q (wr.drewN q') _ (HSw.out q') HM.out hb2 (by omega) hqm
              obtain ⟨rv, hrv⟩ : ∃ rv, riseV S (q : Int) = rv := ⟨_, rfl⟩
              rw [hrv] at r1 r2 HRS
              have HRV := Lib.hid hrv
              clear hrv
              by_cases he : xp + rv = p
              · have HHit := Lib.hid (frs_hit HT.out hqF (by rw [HRV.out]; exact he))
                have heb : (xp + rv == p) = true := by simpa using he
                have w64 : IntKind.i64.wrap (xp + rv) = xp + rv := IntWalk.i64_in _ ⟨by omega, by omega⟩
                clear he
                go_wp2_with (fail)
                go_quiet ((go_at_call 52; exact Calls.quiet_of_same ((HRS.out _).mono fun _ _ h => ⟨h.1, h.2.symm⟩)))
                go_wp2_with (at_builtin; refine wpList_append_own _ rfl _ _ 45 rfl (w.alloc (iObj (some ⟨b, off, none⟩) n c A' m c')).heap.size 38 i0 _ 2 16 Tryd.underlying45 ii1 ii2 ii3 ii4 rfl (by decide) (.slice A2 acc2.length c2) acc2.length _ rfl ((own_below HO2.out.own (bd (Below.refl _ _) _)).alloc _) ⟨wr.heap.size, 0, none⟩ 1 1 [.int .i64 ((k : Int) + 1), .int .i64 q] rfl rfl ?d1 ?d2 ?d3 ?d4 ?d5 ?_)
                case d1 => exact World.news_of_block (cs := #[.int .i64 ((k : Int) + 1), .int .i64 q]) (t := 38) (fr := (0, 0)) (heap_alloc_new (wr.drewN _) _)
                case d2 =>
                  intro u hu
                  simp at hu
                  rcases hu with rfl | rfl <;> rfl
                case d3 => unfold maxLen; omega
                case d4 => omega
                case d5 => simp; omega
                intro v' w3 hown' hgrow _
                obtain ⟨A3, c3, rfl, hO3, hKB⟩ := Own1.step HO2.out (bd (Below.refl _ _) _) (by simp) hown' hgrow
                have HB3 := Lib.hid (hKB _ _ _ (by decide) HBk.out)
                have e1 : (((k + 1 : Nat)) : Int) = (k : Int) + 1 := by omega
                have hO4 : Own1 (w.alloc (iObj (some ⟨b, off, none⟩) n c A' m c')) w3 38 2 A3 (acc2 ++ [((((k + 1 : Nat)) : Int), (q : Int))]).length c3 (plC (acc2 ++ [((((k + 1 : Nat)) : Int), (q : Int))])) := by
                  rw [plC_snoc, List.length_append, e1]; exact hO3
                have HO4 := Lib.hid hO4
                clear hown' hgrow hO3 hKB hO4 e1
                go_wp2_with (fail)
                go_roundw
                case rel => exact ⟨q + 1, _, A3, c3, by omega, by go_num, by simp, HO4.out, HB3.out, HHit.out, by simp; omega⟩
                case measure => simp [intOf]; omega
              · have HMs := Lib.hid (frs_miss HT.out hqF (by rw [HRV.out]; exact he))
                have heb : (xp + rv == p) = false := by simpa using he
                have w64 : IntKind.i64.wrap (xp + rv) = xp + rv := IntWalk.i64_in _ ⟨by omega, by omega⟩
                clear he
                go_wp2_with (fail)
                go_quiet ((go_at_call 52; exact Calls.quiet_of_same ((HRS.out _).mono fun _ _ h => ⟨h.1, h.2.symm⟩)))
                go_wp2_with (fail)
                go_roundw
                case rel => exact ⟨q + 1, acc2, A2, c2, by omega, by go_num, rfl, HO2.out.below (bd (Below.refl _ _) _), HBk.out.below (bd (Below.refl _ _) _), HMs.out, by omega⟩
                case measure => simp [intOf]; omega
            · have g1 : ¬ ((q : Int) < (F : Int) + 1) := by omega
              have HZ := Lib.hid (frs_out HT.out (by omega))
              go_wp2_with (fail)
              go_roundw
              case rel => exact ⟨k + 1, acc2, A2, c2, by omega, by go_num, rfl, HO2.out, HZ.out, by omega⟩
              case measure => simp [intOf]; omega
        · have hkn : k = n := by omega
          have hT : plsL S p 0 C = acc := by rw [HL.out, List.drop_of_length_le (by have := HN.out; omega)]; simp [plsL]
          have HT := Lib.hid hT
          clear hT
          go_wp2_with (fail)
          go_ret2
          rw [HE.out.1, HE.out.2, HT.out]
          exact ⟨A1, _, c1, rfl, rfl, HO.out.sl, bx HO.out.low⟩
  · have HE := Lib.hid (pl_chk (p := p) h1)
    obtain ⟨ev, hev⟩ : ∃ ev, chk C S = ev := ⟨_, rfl⟩
    rw [hev] at h1
    have HV := Lib.hid hev
    clear hev hn
    go_enter Tryd.func25, Tryd.ntmps25
    go_wp2_with (go_at_call 23; refine HCK.out.mono ?_; rintro e w3 ⟨rfl, hb3⟩; rw [HV.out])
    go_ret2
    rw [HE.out.1, HE.out.2, HV.out]
    exact plPost_none (bx hb3)

end Go.Proofs.YtbjmlbmkfgocdaaDoor
