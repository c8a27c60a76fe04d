/- What the reference's Capo returns for any instrument and fret. -/
import Derived.Test.YtbjmlbmkfgocdaaDoorTu2
import Derived.Test.YtbjmlbmkfgocdaaDoorRefTune
namespace Go.Proofs.YtbjmlbmkfgocdaaDoor
open Go.RowKit

/-- The whole row of steps, of which those behind j have been lowered up to b. -/
def wst (S : List Int) (j : Nat) (d : Int) (b : Nat) : List Int := S.take j ++ subR (S.drop j) d b
theorem wst_zero (S : List Int) (j : Nat) (d : Int) : wst S j d 0 = S := by rw [wst, subR_zero, List.take_append_drop]
theorem wst_step (S : List Int) (j : Nat) (d : Int) (b : Nat) (hj : j ≤ S.length) : (wst S j d b).set (j + b) ((S.drop j).getD b 0 - d) = wst S j d (b + 1) := by
  have hl : (S.take j).length = j := by rw [List.length_take]; omega
  unfold wst
  rw [subR_step, List.set_append_right _ _ (by omega), hl, Nat.add_sub_cancel_left]
theorem wst_at (S : List Int) (j : Nat) (d : Int) (b : Nat) (hj : j + b < S.length) : (wst S j d b).getD (j + b) 0 = (S.drop j).getD b 0 := by
  have hl : (S.take j).length = j := by rw [List.length_take]; omega
  have h := subR_here (S.drop j) d b (by rw [List.length_drop]; omega)
  unfold wst
  rw [← h, List.getD_eq_getElem?_getD, List.getD_eq_getElem?_getD, List.getElem?_append_right (by omega), hl, Nat.add_sub_cancel_left]
theorem wst_drop (S : List Int) (j : Nat) (d : Int) (b : Nat) (hj : j ≤ S.length) : (wst S j d b).drop j = subR (S.drop j) d b := by
  have hl : (S.take j).length = j := by rw [List.length_take]; omega
  unfold wst
  rw [List.drop_append_of_le_length (by omega), List.drop_of_length_le (by omega), List.nil_append]

theorem mapR_two (C : List Cr) (d k : Int) (b : Nat) (x : Cr) (hb : b < C.length) (hx : C.getD b zc = x) (hf : ¬ x.f = 0) :
    ((mapR (cap1 d k) C b).set b ⟨x.p + d, x.f, x.o⟩).set b ⟨(((mapR (cap1 d k) C b).set b ⟨x.p + d, x.f, x.o⟩).getD b zc).p, x.f - k, (((mapR (cap1 d k) C b).set b ⟨x.p + d, x.f, x.o⟩).getD b zc).o⟩ = mapR (cap1 d k) C (b + 1) := by
  rw [set_at _ _ _ _ (by rw [mapR_len]; exact hb), if_pos rfl, List.set_set, mapR_step, hx]
  simp only [cap1, if_neg hf]

set_option maxRecDepth 100000 in
set_option maxHeartbeats 32000000 in
theorem rcapo_any (A A' : Option Addr) (n c m c' : Nat) (C : List Cr) (S : List Int) (k : Int) (w : World) (hC : Sl w w.heap.size 3 A n c (crC C)) (hS : Sl w w.heap.size 1 A' m c' (intC S)) (hn : n = C.length) (hm : m = S.length) (hb : n ≤ 65536) (hb2 : m ≤ 65536) :
    Calls Tryd.prog 42 #[.agg #[.slice A n c, .slice A' m c'], .int .i64 k] w (InP (okL (capE C S k) (capC C S k)) (okL (capE C S k) (capS S k)) (capE C S k) w) := by
  have hC2 := (hC.below (ba w (iObj A n c A' m c'))).below (ba _ zIn)
  have hS2 := (hS.below (ba w (iObj A n c A' m c'))).below (ba _ zIn)
  have HCK := Lib.hid (rcheck_any A A' n c m c' C S _ hC2 hS2 hn hm (by omega) (by omega))
  have HC2 := Lib.hid hC2
  have HS2 := Lib.hid hS2
  have HN := Lib.hid hn
  have HM := Lib.hid hm
  clear hC hS hC2 hS2 hn hm
  by_cases h1 : chk C S = 0
  · have H1 := Lib.hid h1
    by_cases h2 : k < 0 ∨ (S.length : Int) < k
    · have HE : Hid (capE C S k = 13) := by unfold Hid capE; rw [if_neg (by rw [h1]; simp), if_pos h2]
      have h3 : k < 0 ∨ ((m : Int) < k ∧ ¬ k < 0) := by have := HM.out; omega
      clear h1 h2
      rcases h3 with h3 | ⟨h3, h4⟩
      all_goals
        go_enter Tryd.func42, Tryd.ntmps42
        go_wp2_with (go_at_call 24; refine HCK.out.mono ?_; rintro e w1 ⟨rfl, hb1⟩; rw [H1.out]; obtain ⟨s0, s1, s2, s3, s4, s5, s6, s7⟩ := argsR hb1)
        refine bodyPost_ret (v := .tuple #[.agg #[.slice none 0 0, .slice none 0 0], .int .i64 13]) ?_ rfl ?_
        · simp [results, Tryd.results42, go_sem, s2, s3]
          done
        · rw [HE.out, okL_no (by decide), okL_no (by decide)]
          exact inP_err ((s7.setCell (by simp) _).setCell (by simp) _)
    · have HE : Hid (capE C S k = if capOk k C then 0 else 13) := by unfold Hid capE; rw [if_neg (by rw [h1]; simp), if_neg h2]
      have HX : Hid (∀ b, b < n → 0 ≤ (C.getD b zc).p ∧ (C.getD b zc).p ≤ 127 ∧ 0 ≤ (C.getD b zc).f ∧ (C.getD b zc).f ≤ 18) := fun b hbn => by
        obtain ⟨p1, p2, p3, p4, p5, _⟩ := chk_course h1 b (by have := HN.out; omega)
        have e : C.getD b zc = C.getD b z0 := rfl
        rw [e]
        exact ⟨p1, p2, p3, by omega⟩
      by_cases hk0 : k = 0
      · subst hk0
        have HOK : Hid (capOk 0 C = true) := capOk_zero fun i hi => (HX.out i (by have := HN.out; omega)).2.2.1
        have hm0 : ¬ (m : Int) < 0 := by omega
        clear h1 h2 HX
        go_enter Tryd.func42, Tryd.ntmps42
        go_wp2_with (go_at_call 24; refine HCK.out.mono ?_; rintro e w1 ⟨rfl, hb1⟩; rw [H1.out]; obtain ⟨s0, s1, s2, s3, s4, s5, s6, s7⟩ := argsR hb1)
        refine (rcopy_any A A' n c m c' C S _ (HC2.out.below hb1) (HS2.out.below hb1) hb hb2).mono ?_
        rintro e w2 ⟨A1, c1, A2, c2, rfl, o1, o2, hb2'⟩
        have hI := TuI.start (CopyR.below (CopyR.below ⟨⟨_, _, blk_res w A n c A' m c'⟩, ba _ _⟩ hb1) hb2') (((blk_res w A n c A' m c').below hb1).below hb2') (o1.more (by have := s6; omega)) (o2.more (by have := s6; omega))
        obtain ⟨u0, u1, u2, u3, u4, u5, u6, u7⟩ := argsR (bt hb1 hb2')
        have HBR := Lib.hid u7
        have HO := Lib.hid (And.intro (o1.more (B' := w.heap.size + 2) (by have := s6; omega)) (o2.more (B' := w.heap.size + 2) (by have := s6; omega)))
        clear hI o1 o2 u7 s0 s1 s2 s3 s4 s5 s7
        go_wp2_with (fail)
        refine bodyPost_ret (v := .tuple #[.agg #[.slice A1 n c1, .slice A2 m c2], .int .i64 0]) ?_ rfl ?_
        · simp [results, Tryd.results42, go_sem, u2, u3, u6]
          done
        · rw [HE.out, HOK.out, if_pos rfl, okL_ok rfl, okL_ok rfl, capC_zero, capS_zero]
          have k1 := (HO.out.1.other (g := w.heap.size + 1) (by omega) 0 (.slice A1 n c1)).other (g := w.heap.size + 1) (by omega) 1 (.slice A2 m c2)
          have k2 := (HO.out.2.other (g := w.heap.size + 1) (by omega) 0 (.slice A1 n c1)).other (g := w.heap.size + 1) (by omega) 1 (.slice A2 m c2)
          refine ⟨A1, n, c1, A2, m, c2, rfl, HN.out, HM.out, (k1.below (ba _ _)).sl, (k2.below (ba _ _)).sl, (fun h a e => by have := HO.out.1.fresh h a e; omega), (fun h a e => by have := HO.out.2.fresh h a e; omega), balA ((HBR.out.setCell (by simp) _).setCell (by simp) _) _⟩
      · obtain ⟨j1, rfl⟩ : ∃ j1 : Nat, k = (j1 : Int) + 1 := ⟨(k - 1).toNat, by omega⟩
        have hjm : j1 + 1 ≤ m := by have := HM.out; omega
        have hji : (j1 : Int) + 1 ≤ (m : Int) := by omega
        have hji2 : (j1 : Int) < (m : Int) := by omega
        have hj0 : ¬ (j1 : Int) + 1 < 0 := by omega
        have hj1 : ¬ (m : Int) < (j1 : Int) + 1 := by omega
        have hjz : ((j1 : Int) + 1 == 0) = false := by simp; omega
        have g4 : IntKind.i64.wrap (j1 : Int) = j1 := IntWalk.i64_in _ ⟨by omega, by omega⟩
        have hv : riseV S ((j1 : Int) + 1) = S.getD j1 0 := by unfold riseV; rw [if_neg (by omega), show ((j1 : Int) + 1 - 1).toNat = j1 by omega]
        obtain ⟨r1, r2⟩ := riseV_bd (chk_ok h1).2.2.1 (f := (j1 : Int) + 1) (by omega) (by have := HM.out; omega)
        have HSS : Hid (∀ b, b < m → 0 ≤ S.getD b 0 ∧ S.getD b 0 ≤ 127) := fun b hbm => by
          have h := riseV_bd (chk_ok h1).2.2.1 (f := (b : Int) + 1) (by omega) (by have := HM.out; omega)
          unfold riseV at h
          rw [if_neg (by omega), show ((b : Int) + 1 - 1).toNat = b by omega] at h
          exact h
        have HCC : Hid (capC C S ((j1 : Int) + 1) = C.map (cap1 (riseV S ((j1 : Int) + 1)) ((j1 : Int) + 1))) := rfl
        have HCS : Hid (capS S ((j1 : Int) + 1) = (S.drop (j1 + 1)).map (· - riseV S ((j1 : Int) + 1))) := by unfold Hid capS; rw [show ((j1 : Int) + 1).toNat = j1 + 1 by omega]
        have HCELL : Hid (∀ w', Below ((w.alloc (iObj A n c A' m c')).alloc zIn).heap.size ((w.alloc (iObj A n c A' m c')).alloc zIn) w' → ∃ b off, A' = some ⟨b, off, none⟩ ∧ b < w'.heap.size ∧ w'.cell? ⟨b, off + j1, none⟩ = some (.int .i64 (riseV S ((j1 : Int) + 1)))) := by
          intro w' h
          obtain ⟨b, off, e, hB, hc⟩ := (HS2.out.below h).2.2 (by omega)
          exact ⟨b, off, e, hB, by rw [hv]; exact hc j1 _ (intC_at S j1 (by have := HM.out; omega))⟩
        clear h1 h2 hv hk0
        generalize riseV S ((j1 : Int) + 1) = d at *
        go_enter Tryd.func42, Tryd.ntmps42
        go_wp2_with (go_at_call 24; refine HCK.out.mono ?_; rintro e w1 ⟨rfl, hb1⟩; rw [H1.out]; obtain ⟨s0, s1, s2, s3, s4, s5, s6, s7⟩ := argsR hb1)
        refine (rcopy_any A A' n c m c' C S _ (HC2.out.below hb1) (HS2.out.below hb1) hb hb2).mono ?_
        rintro e w2 ⟨A1, c1, A2, c2, rfl, o1, o2, hb2'⟩
        have hI := TuI.start (CopyR.below (CopyR.below ⟨⟨_, _, blk_res w A n c A' m c'⟩, ba _ _⟩ hb1) hb2') (((blk_res w A n c A' m c').below hb1).below hb2') (o1.more (by have := s6; omega)) (o2.more (by have := s6; omega))
        obtain ⟨bS, oS, hA', hBS, hcS⟩ := HCELL.out _ (bt hb1 hb2')
        obtain ⟨u0, u1, u2, u3, u4, u5, u6, u7⟩ := argsR (bt hb1 hb2')
        subst hA'
        have u8 : w.heap.size < w2.heap.size := by omega
        have HI := Lib.hid hI
        clear o1 o2 s0 s1 s2 s3 s4 s5 s6 s7 u2 u3 u4 u5 u7 hI HCELL HCK HC2 HS2
        go_wp2_with (fail)
        generalize w2.heap.size = g at HI ⊢
        generalize w2.alloc (.cells #[.slice A1 n c1, .slice A2 m c2] 36) = wf at HI ⊢
        clear u0 u1 u6 u8 hBS hcS
        go_loopw [9] (fun i wr => ∃ b2 : Nat, b2 ≤ n ∧ i = .int .i64 b2 ∧ TuI w A n c (some ⟨bS, oS, none⟩) m c' g A1 c1 A2 m c2 (.slice A2 m c2) (mapR (cap1 d ((j1 : Int) + 1)) C b2) S wr ∧ (∀ i, i < b2 → (C.getD i zc).f = 0 ∨ (j1 : Int) + 1 ≤ (C.getD i zc).f)) (fun i _ => n - (intOf i).toNat)
        case atStart => exact ⟨0, by omega, rfl, by rw [mapR_zero]; exact HI.out, fun i hi => absurd hi (by omega)⟩
        case round =>
          obtain ⟨b2, hb2n, rfl, hI, hok⟩ := hrel
          have HI3 := Lib.hid hI
          have HOK := Lib.hid hok
          clear hok
          obtain ⟨q0, q1, q2, q3, q4, q5, q6, q7, q8, q9, q10, q11⟩ := hI.cells
          by_cases hlt2 : b2 < n
          · have g5 : (b2 : Int) < (n : Int) := by omega
            obtain ⟨gA, hA1, hgA, k0, k1, k2, f0, f1, hne, hge⟩ := hI.course (k := b2) hlt2
            subst hA1
            rw [mapR_here _ C b2 (by have := HN.out; omega)] at k0 k1 k2
            obtain ⟨p1, p2, p3, p4⟩ := HX.out b2 hlt2
            have HSY := Lib.hid (mapR_stay (cap1 d ((j1 : Int) + 1)) C b2 (by have := HN.out; omega))
            have HOK1 : Hid ((C.getD b2 zc).f = 0 ∨ (j1 : Int) + 1 ≤ (C.getD b2 zc).f → ∀ i, i < b2 + 1 → (C.getD i zc).f = 0 ∨ (j1 : Int) + 1 ≤ (C.getD i zc).f) := fun h i hi => by
              by_cases e : i = b2
              · rw [e]; exact h
              · exact HOK.out i (by omega)
            have HNO := Lib.hid (fun h => capOk_no (k := (j1 : Int) + 1) (C := C) (i := b2) (by have := HN.out; omega) h)
            have HTWO := Lib.hid (fun x hx hf => mapR_two C d ((j1 : Int) + 1) b2 x (by have := HN.out; omega) hx hf)
            have hset0 := (hI.set0 (k := b2) hlt2 ((C.getD b2 zc).p + d)).below (drew_below2 _)
            rw [mapR_here _ C b2 (by have := HN.out; omega)] at hset0
            obtain ⟨x, hx⟩ : ∃ x, C.getD b2 zc = x := ⟨_, rfl⟩
            have HXX := Lib.hid hx
            rw [hx] at k0 k1 k2 p1 p2 p3 p4 HOK1 HNO HSY hset0
            obtain ⟨xp, xf, xo⟩ := x
            dsimp only at k0 k1 k2 p1 p2 p3 p4 hset0
            have HSET0 := Lib.hid hset0
            clear hI hx hset0 q0 q1
            by_cases hf0 : xf = 0
            · subst hf0
              have HT : Hid (TuI w A n c (some ⟨bS, oS, none⟩) m c' g (some ⟨gA, 0, none⟩) c1 A2 m c2 (.slice A2 m c2) (mapR (cap1 d ((j1 : Int) + 1)) C (b2 + 1)) S wr) := by
                unfold Hid
                rw [HSY.out (by simp [cap1])]
                exact HI3.out
              have HO1 := Lib.hid (HOK1.out (.inl rfl))
              go_wp2_with (fail)
              go_roundw
              case rel => exact ⟨b2 + 1, by omega, by go_num, HT.out, HO1.out⟩
              case measure => simp [intOf]; omega
            · have hf0b : (xf == 0) = false := by simpa using hf0
              by_cases hfj : xf < (j1 : Int) + 1
              · have HNO2 := Lib.hid (HNO.out ⟨hf0, hfj⟩)
                go_wp2_with (fail)
                refine bodyPost_ret (v := .tuple #[.agg #[.slice none 0 0, .slice none 0 0], .int .i64 13]) ?_ rfl ?_
                · simp [results, Tryd.results42, go_sem, q2, q3]
                  done
                · rw [HE.out, HNO2.out, if_neg (by simp), okL_no (by decide), okL_no (by decide)]
                  exact HI3.out.fail 13
              · have hjf : (j1 : Int) + 1 ≤ xf := by omega
                have HO1 := Lib.hid (HOK1.out (.inr hjf))
                have HTW := Lib.hid (HTWO.out ⟨xp, xf, xo⟩ HXX.out hf0)
                have w64 : IntKind.i64.wrap (xp + d) = xp + d := IntWalk.i64_in _ ⟨by omega, by omega⟩
                have w65 : IntKind.i64.wrap (xf - ((j1 : Int) + 1)) = xf - ((j1 : Int) + 1) := IntWalk.i64_in _ ⟨by omega, by omega⟩
                clear HTWO HOK1 HNO HSY
                go_wp2_with (fail)
                go_region_with (fail)
                all_goals
                  generalize (wr.setCell ⟨gA, b2 * 3, none⟩ (.int .i64 (xp + d))).drew = w5 at HSET0 ⊢
                  have hS0 := HSET0.out
                  clear q2 q3 q4 q5 q6 q7 q8 q9 q10 q11 k0 k1 k2 f0 f1 hgA
                  obtain ⟨q0, q1, q2, q3, q4, q5, q6, q7, q8, q9, q10, q11⟩ := hS0.cells
                  obtain ⟨gA2, hA1, hgA, k0, k1, k2, f0, f1, _, _⟩ := hS0.course (k := b2) hlt2
                  injection hA1 with hA1
                  injection hA1 with hA1
                  subst hA1
                  have hset1 := (hS0.set1 (k := b2) hlt2 (xf - ((j1 : Int) + 1))).below (drew_below2 _)
                  rw [HTW.out] at hset1
                  rw [set_at _ _ _ _ (by rw [mapR_len]; have := HN.out; omega), if_pos rfl] at k1
                  dsimp only at k1
                  have HSET1 := Lib.hid hset1
                  clear hset1 hS0 q0 q1 q2 q3 q4 q5 k0 k2 f0
                  go_wp2_with (fail)
                  go_region_with (fail)
                  all_goals
                    go_wp2_with (fail)
                    go_roundw
                    case rel => exact ⟨b2 + 1, by omega, by go_num, HSET1.out, HO1.out⟩
                    case measure => simp [intOf]; omega
          · obtain rfl : b2 = n := by omega
            have g5 : ¬ ((b2 : Int) < (b2 : Int)) := by omega
            have HOKT : Hid (capOk ((j1 : Int) + 1) C = true) := capOk_of fun i hi => HOK.out i (by have := HN.out; omega)
            have HLC : Hid (capC C S ((j1 : Int) + 1) = mapR (cap1 d ((j1 : Int) + 1)) C b2) := by unfold Hid; rw [HCC.out, HN.out, mapR_all]
            have HLS : Hid (capS S ((j1 : Int) + 1) = subR (S.drop (j1 + 1)) d (m - (j1 + 1))) := by
              unfold Hid
              rw [HCS.out, show m - (j1 + 1) = (S.drop (j1 + 1)).length by rw [List.length_drop, HM.out], subR_all]
            obtain ⟨g2, hA2, hg2, _, _, hne2, hge2⟩ := hI.step (k := j1) (by omega)
            subst hA2
            have hmc : m ≤ c2 := hI.2.2.2.1.1
            clear hI
            have ht : ((j1 : Int) + 1).toNat = j1 + 1 := by omega
            clear q0 q1
            rcases Decidable.em (c2 = j1 + 1) with hcj | hcj
            · have hmc2 := hmc
              have hc3 : m - (j1 + 1) ≤ 0 := by omega
              have hA3 : 0 < m - (j1 + 1) → ((some ⟨g2, 0, none⟩) : Option Addr) = some ⟨g2, j1 + 1, none⟩ := fun h => absurd h (by omega)
              have HC3 := Lib.hid (And.intro hc3 hA3)
              have hI5 := HI3.out.setV (.slice (some ⟨g2, 0, none⟩) (m - (j1 + 1)) 0)
              clear hc3 hA3 hmc2
              go_wp2_with (fail)
              generalize wr.setCell ⟨g, 1, none⟩ (.slice (some ⟨g2, 0, none⟩) (m - (j1 + 1)) 0) = w6 at hI5 ⊢
              have HI5 := Lib.hid hI5
              clear hI5 q2 q3 q4 q5 q6 q7 q8 q9 q10 q11 hg2
              have HM3 : Hid (m - (j1 + 1) = m - (j1 + 1)) := rfl
              generalize hm3 : m - (j1 + 1) = m3 at *
              have HM4 : Hid (m3 = m - (j1 + 1)) := by unfold Hid; omega
              clear hm3 HM3
              go_loopw [10] (fun i wr => ∃ b : Nat, b ≤ m3 ∧ i = .int .i64 b ∧ TuI w A b2 c (some ⟨bS, oS, none⟩) m c' g A1 c1 (some ⟨g2, 0, none⟩) m c2 (.slice (some ⟨g2, 0, none⟩) m3 0) (mapR (cap1 d ((j1 : Int) + 1)) C b2) (wst S (j1 + 1) d b) wr) (fun i _ => m3 - (intOf i).toNat)
              case atStart => exact ⟨0, by omega, rfl, by rw [wst_zero]; exact HI5.out⟩
              case round =>
                obtain ⟨b, hbm, rfl, hI⟩ := hrel
                have HI6 := Lib.hid hI
                obtain ⟨q0, q1, q2, q3, q4, q5, q6, q7, q8, q9, q10, q11⟩ := hI.cells
                by_cases hlt : b < m3
                · exfalso
                  have := HM4.out
                  omega
                · obtain rfl : b = m3 := by omega
                  have g6 : ¬ ((b : Int) < (b : Int)) := by omega
                  clear hI
                  go_wp2_with (fail)
                  refine bodyPost_ret (v := .tuple #[.agg #[.slice A1 b2 c1, .slice (some ⟨g2, 0, none⟩) b 0], .int .i64 0]) ?_ rfl ?_
                  · simp [results, Tryd.results42, go_sem, q2, q3]
                    done
                  · rw [HE.out, HOKT.out, if_pos rfl, okL_ok rfl, okL_ok rfl, HLC.out, HLS.out, ← wst_drop S (j1 + 1) d b (by have := HM.out; omega)]
                    exact HI6.out.doneV HM4.out HC3.out.1 HC3.out.2
            · have hmc2 := hmc
              have hc3 : m - (j1 + 1) ≤ (c2 - (j1 + 1)) := by omega
              have hA3 : 0 < m - (j1 + 1) → ((some ⟨g2, j1 + 1, none⟩) : Option Addr) = some ⟨g2, j1 + 1, none⟩ := fun _ => rfl
              have HC3 := Lib.hid (And.intro hc3 hA3)
              have hI5 := HI3.out.setV (.slice (some ⟨g2, j1 + 1, none⟩) (m - (j1 + 1)) (c2 - (j1 + 1)))
              clear hc3 hA3 hmc2
              go_wp2_with (fail)
              generalize wr.setCell ⟨g, 1, none⟩ (.slice (some ⟨g2, j1 + 1, none⟩) (m - (j1 + 1)) (c2 - (j1 + 1))) = w6 at hI5 ⊢
              have HI5 := Lib.hid hI5
              clear hI5 q2 q3 q4 q5 q6 q7 q8 q9 q10 q11 hg2
              have HM3 : Hid (m - (j1 + 1) = m - (j1 + 1)) := rfl
              generalize hm3 : m - (j1 + 1) = m3 at *
              have HM4 : Hid (m3 = m - (j1 + 1)) := by unfold Hid; omega
              clear hm3 HM3
              go_loopw [10] (fun i wr => ∃ b : Nat, b ≤ m3 ∧ i = .int .i64 b ∧ TuI w A b2 c (some ⟨bS, oS, none⟩) m c' g A1 c1 (some ⟨g2, 0, none⟩) m c2 (.slice (some ⟨g2, j1 + 1, none⟩) m3 (c2 - (j1 + 1))) (mapR (cap1 d ((j1 : Int) + 1)) C b2) (wst S (j1 + 1) d b) wr) (fun i _ => m3 - (intOf i).toNat)
              case atStart => exact ⟨0, by omega, rfl, by rw [wst_zero]; exact HI5.out⟩
              case round =>
                obtain ⟨b, hbm, rfl, hI⟩ := hrel
                have HI6 := Lib.hid hI
                obtain ⟨q0, q1, q2, q3, q4, q5, q6, q7, q8, q9, q10, q11⟩ := hI.cells
                by_cases hlt : b < m3
                · have g6 : (b : Int) < (m3 : Int) := by omega
                  have hjb : j1 + 1 + b < m := by have := HM4.out; omega
                  obtain ⟨g3, hA2, hg2, k0, f0, hne3, hge3⟩ := hI.step (k := j1 + 1 + b) hjb
                  injection hA2 with hA2
                  injection hA2 with hA2
                  subst hA2
                  have e1 := wst_at S (j1 + 1) d b (by have := HM.out; omega)
                  have e2 : (S.drop (j1 + 1)).getD b 0 = S.getD (j1 + 1 + b) 0 := by simp [List.getD_eq_getElem?_getD, List.getElem?_drop]
                  have hset := (hI.setS (k := j1 + 1 + b) hjb ((S.drop (j1 + 1)).getD b 0 - d)).below (drew_below2 _)
                  rw [wst_step S (j1 + 1) d b (by have := HM.out; omega)] at hset
                  rw [e1] at k0
                  rw [e2] at k0 hset
                  have HSET := Lib.hid hset
                  obtain ⟨p1, p2⟩ := HSS.out (j1 + 1 + b) hjb
                  clear hset hI q0 q1 q2 q3 q4 q5 e1 e2
                  generalize S.getD (j1 + 1 + b) 0 = x at *
                  have w66 : IntKind.i64.wrap (x - d) = x - d := IntWalk.i64_in _ ⟨by omega, by omega⟩
                  go_wp2_with (fail)
                  go_region_with (fail)
                  all_goals
                    go_wp2_with (fail)
                    go_roundw
                    case rel => exact ⟨b + 1, by omega, by go_num, HSET.out⟩
                    case measure => simp [intOf]; omega
                · obtain rfl : b = m3 := by omega
                  have g6 : ¬ ((b : Int) < (b : Int)) := by omega
                  clear hI
                  go_wp2_with (fail)
                  refine bodyPost_ret (v := .tuple #[.agg #[.slice A1 b2 c1, .slice (some ⟨g2, j1 + 1, none⟩) b (c2 - (j1 + 1))], .int .i64 0]) ?_ rfl ?_
                  · simp [results, Tryd.results42, go_sem, q2, q3]
                    done
                  · rw [HE.out, HOKT.out, if_pos rfl, okL_ok rfl, okL_ok rfl, HLC.out, HLS.out, ← wst_drop S (j1 + 1) d b (by have := HM.out; omega)]
                    exact HI6.out.doneV HM4.out HC3.out.1 (fun _ => rfl)
  · have HE : Hid (capE C S k = chk C S) := by unfold Hid capE; rw [if_pos h1]
    obtain ⟨ev, hev⟩ : ∃ ev, chk C S = ev := ⟨_, rfl⟩
    rw [hev] at h1
    have HV := Lib.hid hev
    clear hev
    go_enter Tryd.func42, Tryd.ntmps42
    go_wp2_with (go_at_call 24; refine HCK.out.mono ?_; rintro e w1 ⟨rfl, hb1⟩; rw [HV.out]; obtain ⟨s0, s1, s2, s3, s4, s5, s6, s7⟩ := argsR hb1)
    refine bodyPost_ret (v := .tuple #[.agg #[.slice none 0 0, .slice none 0 0], .int .i64 ev]) ?_ rfl ?_
    · simp [results, Tryd.results42, go_sem, s2, s3]
      done
    · rw [HE.out, HV.out, okL_no h1, okL_no h1]
      exact inP_err ((s7.setCell (by simp) _).setCell (by simp) _)

end Go.Proofs.YtbjmlbmkfgocdaaDoor
