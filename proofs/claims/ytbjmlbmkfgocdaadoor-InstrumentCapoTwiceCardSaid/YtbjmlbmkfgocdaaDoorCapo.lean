/- What the program's Capo returns for any instrument and fret. -/
import Derived.Test.YtbjmlbmkfgocdaaDoorTu2
namespace Go.Proofs.YtbjmlbmkfgocdaaDoor
open Go.RowKit

set_option maxRecDepth 100000 in
set_option maxHeartbeats 16000000 in
theorem capo_any (A A' : Option Addr) (n c m c' : Nat) (C : List Cr) (S : List Int) (k : Int) (w : World) (hC : Sl w w.heap.size 3 A n c (crC C)) (hS : Sl w w.heap.size 1 A' m c' (intC S)) (hn : n = C.length) (hm : m = S.length) (hb : n ≤ 65536) (hb2 : m ≤ 65536) :
    Calls Tryd.prog 41 #[.agg #[.slice A n c, .slice A' m c'], .int .i64 k] w (InP (okL (capE C S k) (capC C S k)) (okL (capE C S k) (capS S k)) (capE C S k) w) := by
  have hC2 := (hC.below (ba w (iObj A n c A' m c'))).below (ba _ zIn)
  have hS2 := (hS.below (ba w (iObj A n c A' m c'))).below (ba _ zIn)
  have HCK := Lib.hid (check_any A A' n c m c' C S _ hC2 hS2 hn hm (by omega) (by omega))
  have HC2 := Lib.hid hC2
  have HS2 := Lib.hid hS2
  have HN := Lib.hid hn
  have HM := Lib.hid hm
  clear hC hS hC2 hS2 hn hm
  by_cases h1 : chk C S = 0
  · have H1 := Lib.hid h1
    by_cases h2 : k < 0 ∨ (S.length : Int) < k
    · have HE : Hid (capE C S k = 13) := by unfold Hid capE; rw [if_neg (by rw [h1]; simp), if_pos h2]
      have h3 : k < 0 ∨ ((m : Int) < k ∧ ¬ k < 0) := by have := HM.out; omega
      clear h1 h2
      rcases h3 with h3 | ⟨h3, h4⟩
      all_goals
        go_enter Tryd.func41, Tryd.ntmps41
        go_wp2_with (go_at_call 23; refine HCK.out.mono ?_; rintro e w1 ⟨rfl, hb1⟩; rw [H1.out]; obtain ⟨s0, s1, s2, s3, s4, s5, s6, s7⟩ := argsR hb1)
        refine bodyPost_ret (v := .tuple #[.agg #[.slice none 0 0, .slice none 0 0], .int .i64 13]) ?_ rfl ?_
        · simp [results, Tryd.results41, go_sem, s2, s3]
          done
        · rw [HE.out, okL_no (by decide), okL_no (by decide)]
          exact inP_err ((s7.setCell (by simp) _).setCell (by simp) _)
    · have HE : Hid (capE C S k = if capOk k C then 0 else 13) := by unfold Hid capE; rw [if_neg (by rw [h1]; simp), if_neg h2]
      obtain ⟨j, rfl⟩ := Int.eq_ofNat_of_zero_le (show 0 ≤ k by omega)
      have hjm : j ≤ m := by have := HM.out; omega
      have hji : (j : Int) ≤ (m : Int) := by omega
      have hj0 : ¬ (j : Int) < 0 := by omega
      have hj1 : ¬ (m : Int) < (j : Int) := by omega
      have HX : Hid (∀ b, b < n → 0 ≤ (C.getD b zc).p ∧ (C.getD b zc).p ≤ 127 ∧ 0 ≤ (C.getD b zc).f ∧ (C.getD b zc).f ≤ 18) := fun b hbn => by
        obtain ⟨p1, p2, p3, p4, p5, _⟩ := chk_course h1 b (by have := HN.out; omega)
        have e : C.getD b zc = C.getD b z0 := rfl
        rw [e]
        exact ⟨p1, p2, p3, by omega⟩
      have HSS : Hid (∀ b, b < m → 0 ≤ S.getD b 0 ∧ S.getD b 0 ≤ 127) := fun b hbm => by
        have h := riseV_bd (chk_ok h1).2.2.1 (f := (b : Int) + 1) (by omega) (by have := HM.out; omega)
        unfold riseV at h
        rw [if_neg (by omega), show ((b : Int) + 1 - 1).toNat = b by omega] at h
        exact h
      obtain ⟨r1, r2⟩ := riseV_bd (chk_ok h1).2.2.1 (f := (j : Int)) (by omega) (by have := HM.out; omega)
      have HRI : Hid (∀ w', Below ((w.alloc (iObj A n c A' m c')).alloc zIn).heap.size ((w.alloc (iObj A n c A' m c')).alloc zIn) w' → Calls Tryd.prog 52 #[.slice A' m c', .int .i64 (j : Int)] w' fun e w2 => e = .returned (.int .i64 (riseV S j)) ∧ w' = w2) :=
        fun w' h => rise_any A' m c' S j w' _ (HS2.out.below h) HM.out (by omega) (by omega) hji
      have HCC : Hid (capC C S (j : Int) = C.map (cap1 (riseV S j) j)) := rfl
      have HCS : Hid (capS S (j : Int) = (S.drop j).map (· - riseV S j)) := rfl
      clear h1 h2
      generalize riseV S (j : Int) = d at *
      go_enter Tryd.func41, Tryd.ntmps41
      go_wp2_with (go_at_call 23; refine HCK.out.mono ?_; rintro e w1 ⟨rfl, hb1⟩; rw [H1.out]; obtain ⟨s0, s1, s2, s3, s4, s5, s6, s7⟩ := argsR hb1)
      refine (HRI.out _ hb1).mono ?_
      rintro e w1' ⟨rfl, rfl⟩
      go_wp2_with (fail)
      have hjc : j ≤ c' := Nat.le_trans hjm HS2.out.1
      have HCI : Hid (∀ (X : Option Addr) (m3 c3 : Nat) (w' : World), Below ((w.alloc (iObj A n c A' m c')).alloc zIn).heap.size ((w.alloc (iObj A n c A' m c')).alloc zIn) w' → (X = (A'.map fun x => x.add j) ∧ m3 = m - j ∧ c3 = c' - j) ∨ (m3 = 0 ∧ m - j = 0) →
          Calls Tryd.prog 64 #[.slice X m3 c3] w' (ClPost 3 1 (m - j) (intC (S.drop j)) w')) := by
        intro X m3 c3 w' hw hX
        rcases hX with ⟨rfl, rfl, rfl⟩ | ⟨rfl, h0⟩
        · exact cloneI_any _ (m - j) (c' - j) (S.drop j) _ (sl_drop (HS2.out.below hw) hjm) (by omega)
        · rw [h0]
          exact cloneI_any _ 0 c3 (S.drop j) _ ⟨Nat.zero_le _, by rw [intC_len, List.length_drop, ← HM.out]; omega, fun h => absurd h (by omega)⟩ (by omega)
      have HMC : Hid (m ≤ c') := HS2.out.1
      rcases Decidable.em (c' = j) with hcj | hcj
      all_goals
        go_region_held3 (fun w' => w'.cell? ⟨w.heap.size, 0, none⟩ = some (.slice A n c) ∧ w'.cell? ⟨w.heap.size, 1, none⟩ = some (.slice A' m c') ∧ w.heap.size + 1 < w'.heap.size ∧ Below ((w.alloc (iObj A n c A' m c')).alloc zIn).heap.size ((w.alloc (iObj A n c A' m c')).alloc zIn) w')
          (first
            | exact argsS hb1.drew
            | exact argsS (bt (bt hb1.drew (bt hb6 hb10)) (ba _ _))
            | exact argsS (below_set2 (And.right (And.right (And.right (by assumption)))) (by have h1 := hb1.size; have h6 := hb6.size; simp at h1 h6 ⊢; omega) _ _)
            | exact argsS (bt (And.right (And.right (And.right (by assumption)))) hb10)
            | exact argsS (bt (And.right (And.right (And.right (by assumption)))) hb6)
            | exact argsS (bt (And.right (And.right (And.right (by assumption)))) (ba _ _)))
          (first
            | (go_at_call 63; refine (cloneC_any A n c C _ (HC2.out.below (And.right (And.right (And.right (by assumption))))) hb).mono ?_; rintro e w6 ⟨A6, c6, rfl, hown6, hb6⟩)
            | (go_at_call 64; refine (HCI.out _ _ _ _ (And.right (And.right (And.right (by assumption)))) (by first | exact .inl ⟨rfl, rfl, rfl⟩ | (right; have := HMC.out; omega))).mono ?_; rintro e w10 ⟨A10, c10, rfl, hown10, hb10⟩; first | (have y := keepZ hb10; obtain ⟨y0, y1, y2, y3, y4⟩ := y) | (have y := keepZ (bt hb6 hb10); obtain ⟨y0, y1, y2, y3, y4⟩ := y) | (have y := keepZ (bt (drew_below2 _) (bt hb6 hb10)); obtain ⟨y0, y1, y2, y3, y4⟩ := y) | skip))
        all_goals
          have hz1 := hb1.size
          have hz6 := hb6.size
          have hz10 := hb10.size
          simp at hz1 hz6 hz10
          have o6 : Ow w10 (w.heap.size + 2) 51 3 A6 n c6 (crC C) := by
            first
              | exact (hown6.below hb10).more (by first | omega | (simp; omega))
              | exact (hown6.below (bx hb10)).more (by first | omega | (simp; omega))
          have o10 : Ow w10 (w.heap.size + 2) 3 1 A10 (m - j) c10 (intC (S.drop j)) := hown10.more (by first | omega | (simp; omega))
          have hBL : Below ((w.alloc (iObj A n c A' m c')).alloc zIn).heap.size ((w.alloc (iObj A n c A' m c')).alloc zIn) w10 := by
            first
              | exact bt hb1.drew (bt hb6 hb10)
              | exact bt hb1.drew (bt hb6 (bx hb10))
              | exact bt hb1 (bx (bt (drew_below2 _) (bt hb6 hb10)))
          first
            | (have hI := TuI.start2 (g := w1.heap.size) (CopyR.below ⟨⟨_, _, blk_res w A n c A' m c'⟩, ba _ _⟩ hBL) ((blk_res w A n c A' m c').below hBL) ((blk_new w1 #[.slice none 0 0, .slice none 0 0] 36).below (bt (drew_below2 _) (bt hb6 hb10))) (by omega) o6 o10
               generalize w1.heap.size = g at hI ⊢
               generalize (w10.setCell ⟨g, 0, none⟩ (.slice A6 n c6)).setCell ⟨g, 1, none⟩ (.slice A10 (m - j) c10) = wf at hI ⊢
               have HI := Lib.hid hI)
            | (have hI := TuI.start2 (g := w6.heap.size) (CopyR.below ⟨⟨_, _, blk_res w A n c A' m c'⟩, ba _ _⟩ hBL) ((blk_res w A n c A' m c').below hBL) ((blk_new w6 #[.slice none 0 0, .slice none 0 0] 36).below hb10) (by omega) o6 o10
               generalize w6.heap.size = g at hI ⊢
               generalize (w10.setCell ⟨g, 0, none⟩ (.slice A6 n c6)).setCell ⟨g, 1, none⟩ (.slice A10 (m - j) c10) = wf at hI ⊢
               have HI := Lib.hid hI)
            | (have hI := TuI.start (CopyR.below ⟨⟨_, _, blk_res w A n c A' m c'⟩, ba _ _⟩ hBL) ((blk_res w A n c A' m c').below hBL) o6 o10
               generalize w10.heap.size = g at hI ⊢
               generalize w10.alloc (.cells #[.slice A6 n c6, .slice A10 (m - j) c10] 36) = wf at hI ⊢
               have HI := Lib.hid hI)
          clear hI o6 o10 hBL hz1 hz6 hz10 hown6 hown10
          try clear y0 y1 y2 y3 y4
        all_goals
          have HU : Hid (∀ b, b < m - j → 0 ≤ (S.drop j).getD b 0 ∧ (S.drop j).getD b 0 ≤ 127) := by
            intro b hbm
            have e : (S.drop j).getD b 0 = S.getD (j + b) 0 := by simp [List.getD_eq_getElem?_getD, List.getElem?_drop]
            rw [e]
            exact HSS.out (j + b) (by omega)
          have HUL : Hid (m - j = (S.drop j).length) := by unfold Hid; rw [List.length_drop, HM.out]
          have HCS2 : Hid (capS S (j : Int) = subR (S.drop j) d (m - j)) := by unfold Hid; rw [HCS.out, HUL.out, subR_all]
          have hmj : m - j ≤ 65536 := by omega
          clear HCS HCI HRI HSS HS2 HC2 HCK HMC
          generalize S.drop j = U at *
          generalize m - j = m3 at *
          clear s0 s1 s2 s3 s4 s5 s6 s7
          obtain ⟨s0, s1, s2, s3, s4, s5, s6, s7, s8, s9, s10, s11⟩ := HI.out.cells
          go_wp2_with (fail)
          go_loopw [44, 9] (fun i _ wr => ∃ b : Nat, b ≤ m3 ∧ i = .int .i64 b ∧ TuI w A n c A' m c' g A6 c6 A10 m3 c10 (.slice A10 m3 c10) C (subR U d b) wr) (fun i _ _ => m3 - (intOf i).toNat)
          case atStart => exact ⟨0, by omega, rfl, by rw [subR_zero]; exact HI.out⟩
          case round =>
            obtain ⟨b, hbm, rfl, hI⟩ := hrel
            have HI2 := Lib.hid hI
            clear s0 s1 s2 s3 s4 s5 s6 s7 s8 s9 s10 s11
            obtain ⟨q0, q1, q2, q3, q4, q5, q6, q7, q8, q9, q10, q11⟩ := hI.cells
            by_cases hlt : b < m3
            · have g3 : (b : Int) < (m3 : Int) := by omega
              obtain ⟨g2, rfl, hg2, k0, f0, hne, hge⟩ := hI.step (k := b) hlt
              have hset := hI.setS (k := b) hlt (U.getD b 0 - d)
              rw [subR_here U d b (by have := HUL.out; omega)] at k0
              rw [← subR_step U d b] at hset
              have HSET := Lib.hid hset
              obtain ⟨p1, p2⟩ := HU.out b hlt
              clear hset hI q0 q1 q2 q3 q4 q5
              generalize U.getD b 0 = x at *
              go_wp2_with (fail)
              go_roundw
              case rel => exact ⟨b + 1, by omega, by go_num, HSET.out⟩
              case measure => simp [intOf]; omega
            · obtain rfl : b = m3 := by omega
              have g3 : ¬ ((b : Int) < (b : Int)) := by omega
              clear hI
              go_wp2_with (fail)
              go_loopw [59, 10, 11] (fun i _ _ wr => ∃ b2 : Nat, b2 ≤ n ∧ i = .int .i64 b2 ∧ TuI w A n c A' m c' g A6 c6 A10 b c10 (.slice A10 b c10) (mapR (cap1 d j) C b2) (subR U d b) wr ∧ (∀ i, i < b2 → (C.getD i zc).f = 0 ∨ (j : Int) ≤ (C.getD i zc).f)) (fun i _ _ _ => n - (intOf i).toNat)
              case atStart => exact ⟨0, by omega, rfl, by rw [mapR_zero]; exact HI2.out, fun i hi => absurd hi (by omega)⟩
              case round =>
                obtain ⟨b2, hb2n, rfl, hI, hok⟩ := hrel
                have HI3 := Lib.hid hI
                have HOK := Lib.hid hok
                clear q0 q1 q2 q3 q4 q5 q6 q7 q8 q9 q10 q11 hok
                obtain ⟨q0, q1, q2, q3, q4, q5, q6, q7, q8, q9, q10, q11⟩ := hI.cells
                by_cases hlt2 : b2 < n
                · have g4 : (b2 : Int) < (n : Int) := by omega
                  obtain ⟨gA, rfl, hgA, k0, k1, k2, f0, f1, hne, hge⟩ := hI.course (k := b2) hlt2
                  rw [mapR_here _ C b2 (by have := HN.out; omega)] at k0 k1 k2
                  obtain ⟨p1, p2, p3, p4⟩ := HX.out b2 hlt2
                  have HST := Lib.hid (mapR_step (cap1 d j) C b2)
                  have HSY := Lib.hid (mapR_stay (cap1 d j) C b2 (by have := HN.out; omega))
                  have HOK1 : Hid ((C.getD b2 zc).f = 0 ∨ (j : Int) ≤ (C.getD b2 zc).f → ∀ i, i < b2 + 1 → (C.getD i zc).f = 0 ∨ (j : Int) ≤ (C.getD i zc).f) := fun h i hi => by
                    by_cases e : i = b2
                    · rw [e]; exact h
                    · exact HOK.out i (by omega)
                  have HNO := Lib.hid (fun h => capOk_no (k := (j : Int)) (C := C) (i := b2) (by have := HN.out; omega) h)
                  have HSET : Hid (∀ v fv, TuI w A n c A' m c' g (some ⟨gA, 0, none⟩) c6 A10 b c10 (.slice A10 b c10) ((mapR (cap1 d j) C b2).set b2 ⟨v, fv, (C.getD b2 zc).o⟩) (subR U d b) ((wr.setCell ⟨gA, b2 * 3, none⟩ (.int .i64 v)).setCell ⟨gA, b2 * 3 + 1, none⟩ (.int .i64 fv))) := by
                    intro v fv
                    have h := (hI.set0 (k := b2) hlt2 v).set1 (k := b2) hlt2 fv
                    rw [set_at _ _ _ _ (by rw [mapR_len]; have := HN.out; omega), if_pos rfl, mapR_here _ C b2 (by have := HN.out; omega), List.set_set] at h
                    exact h
                  clear hI q0 q1
                  generalize C.getD b2 zc = x at *
                  obtain ⟨xp, xf, xo⟩ := x
                  dsimp only at k0 k1 k2 p1 p2 p3 p4
                  by_cases hf0 : xf = 0
                  · subst hf0
                    have HT : Hid (TuI w A n c A' m c' g (some ⟨gA, 0, none⟩) c6 A10 b c10 (.slice A10 b c10) (mapR (cap1 d j) C (b2 + 1)) (subR U d b) wr) := by
                      unfold Hid
                      rw [HSY.out (by simp [cap1])]
                      exact HI3.out
                    have HO1 := Lib.hid (HOK1.out (.inl rfl))
                    go_wp2_with (fail)
                    go_roundw
                    case rel => exact ⟨b2 + 1, by omega, by go_num, HT.out.below (ba _ _), HO1.out⟩
                    case measure => simp [intOf]; omega
                  · have hf0b : (xf == 0) = false := by simpa using hf0
                    by_cases hfj : xf < (j : Int)
                    · have HNO2 := Lib.hid (HNO.out ⟨hf0, hfj⟩)
                      go_wp2_with (fail)
                      refine bodyPost_ret (v := .tuple #[.agg #[.slice none 0 0, .slice none 0 0], .int .i64 13]) ?_ rfl ?_
                      · simp [results, Tryd.results41, go_sem, q2, q3, q11]
                        done
                      · rw [HE.out, HNO2.out, if_neg (by simp), okL_no (by decide), okL_no (by decide)]
                        exact inP_err (balA (((bx HI3.out.2.2.2.2.1).setCell (by simp) _).setCell (by simp) _) _)
                    · have HT : Hid (TuI w A n c A' m c' g (some ⟨gA, 0, none⟩) c6 A10 b c10 (.slice A10 b c10) (mapR (cap1 d j) C (b2 + 1)) (subR U d b) ((wr.setCell ⟨gA, b2 * 3, none⟩ (.int .i64 (xp + d))).setCell ⟨gA, b2 * 3 + 1, none⟩ (.int .i64 (xf - (j : Int))))) := by
                        unfold Hid
                        rw [HST.out]
                        have h := HSET.out (xp + d) (xf - (j : Int))
                        simp only [cap1, if_neg hf0]
                        exact h
                      have hjf : (j : Int) ≤ xf := by omega
                      have HO1 := Lib.hid (HOK1.out (.inr hjf))
                      go_wp2_with (fail)
                      go_roundw
                      case rel => exact ⟨b2 + 1, by omega, by go_num, HT.out.below (ba _ _), HO1.out⟩
                      case measure => simp [intOf]; omega
                · obtain rfl : b2 = n := by omega
                  have g4 : ¬ ((b2 : Int) < (b2 : Int)) := by omega
                  have HOKT : Hid (capOk (j : Int) C = true) := capOk_of fun i hi => HOK.out i (by have := HN.out; omega)
                  have HLC : Hid (capC C S (j : Int) = mapR (cap1 d j) C b2) := by unfold Hid; rw [HCC.out, HN.out, mapR_all]
                  clear hI
                  go_wp2_with (fail)
                  refine bodyPost_ret (v := .tuple #[.agg #[.slice A6 b2 c6, .slice A10 b c10], .int .i64 0]) ?_ rfl ?_
                  · simp [results, Tryd.results41, go_sem, q2, q3]
                    done
                  · rw [HE.out, HOKT.out, if_pos rfl, okL_ok rfl, okL_ok rfl, HLC.out, HCS2.out]
                    exact HI3.out.done (by rw [subR_len]; exact HUL.out)
  · have HE : Hid (capE C S k = chk C S) := by unfold Hid capE; rw [if_pos h1]
    obtain ⟨ev, hev⟩ : ∃ ev, chk C S = ev := ⟨_, rfl⟩
    rw [hev] at h1
    have HV := Lib.hid hev
    clear hev
    go_enter Tryd.func41, Tryd.ntmps41
    go_wp2_with (go_at_call 23; refine HCK.out.mono ?_; rintro e w1 ⟨rfl, hb1⟩; rw [HV.out]; obtain ⟨s0, s1, s2, s3, s4, s5, s6, s7⟩ := argsR hb1)
    refine bodyPost_ret (v := .tuple #[.agg #[.slice none 0 0, .slice none 0 0], .int .i64 ev]) ?_ rfl ?_
    · simp [results, Tryd.results41, go_sem, s2, s3]
      done
    · rw [HE.out, HV.out, okL_no h1, okL_no h1]
      exact inP_err ((s7.setCell (by simp) _).setCell (by simp) _)

end Go.Proofs.YtbjmlbmkfgocdaaDoor
