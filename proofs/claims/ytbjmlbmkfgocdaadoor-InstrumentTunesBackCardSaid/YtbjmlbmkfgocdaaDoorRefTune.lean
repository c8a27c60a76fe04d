/- What the reference's checked, Tune and Transpose return for any instrument. -/
import Derived.Test.YtbjmlbmkfgocdaaDoorTune2
namespace Go.Proofs.YtbjmlbmkfgocdaaDoor
open Go.RowKit

set_option maxHeartbeats 1600000 in
theorem rchecked_ok (A A' : Option Addr) (n c m c' : Nat) (C : List Cr) (S : List Int) (w : World) (hC : Sl w w.heap.size 3 A n c (crC C)) (hS : Sl w w.heap.size 1 A' m c' (intC S)) (hn : n = C.length) (hm : m = S.length) (hb : n ≤ 65536) (hb2 : m ≤ 65536) (h1 : chk C S = 0) :
    Calls Tryd.prog 60 #[.agg #[.slice A n c, .slice A' m c']] w fun e w' => e = .returned (.tuple #[.agg #[.slice A n c, .slice A' m c'], .int .i64 0]) ∧ Below w.heap.size w w' := by
  have hC2 := (hC.below (ba w (iObj A n c A' m c'))).below (ba _ zIn)
  have hS2 := (hS.below (ba w (iObj A n c A' m c'))).below (ba _ zIn)
  have HCK := Lib.hid (rcheck_any A A' n c m c' C S _ hC2 hS2 hn hm (by omega) (by omega))
  have H1 := Lib.hid h1
  clear hC hS hC2 hS2 hn hm h1
  go_enter Tryd.func60, Tryd.ntmps60
  go_wp2_with (go_at_call 24; refine HCK.out.mono ?_; rintro e w1 ⟨rfl, hb1⟩; rw [H1.out]; obtain ⟨s0, s1, s2, s3, s4, s5, s6, s7⟩ := argsR hb1)
  refine bodyPost_ret (v := .tuple #[.agg #[.slice A n c, .slice A' m c'], .int .i64 0]) ?_ rfl ?_
  · simp [results, Tryd.results60, go_sem, s2, s3]
    done
  · exact ⟨rfl, (s7.setCell (by simp) _).setCell (by simp) _⟩
set_option maxHeartbeats 1600000 in
theorem rchecked_no (A A' : Option Addr) (n c m c' : Nat) (C : List Cr) (S : List Int) (ev : Int) (w : World) (hC : Sl w w.heap.size 3 A n c (crC C)) (hS : Sl w w.heap.size 1 A' m c' (intC S)) (hn : n = C.length) (hm : m = S.length) (hb : n ≤ 65536) (hb2 : m ≤ 65536) (h1 : chk C S = ev) (h0 : ev ≠ 0) :
    Calls Tryd.prog 60 #[.agg #[.slice A n c, .slice A' m c']] w fun e w' => e = .returned (.tuple #[.agg #[.slice none 0 0, .slice none 0 0], .int .i64 ev]) ∧ Below w.heap.size w w' := by
  have hC2 := (hC.below (ba w (iObj A n c A' m c'))).below (ba _ zIn)
  have hS2 := (hS.below (ba w (iObj A n c A' m c'))).below (ba _ zIn)
  have HCK := Lib.hid (rcheck_any A A' n c m c' C S _ hC2 hS2 hn hm (by omega) (by omega))
  have H1 := Lib.hid h1
  replace h0 : ¬ ev = 0 := h0
  clear hC hS hC2 hS2 hn hm h1
  go_enter Tryd.func60, Tryd.ntmps60
  go_wp2_with (go_at_call 24; refine HCK.out.mono ?_; rintro e w1 ⟨rfl, hb1⟩; rw [H1.out]; obtain ⟨s0, s1, s2, s3, s4, s5, s6, s7⟩ := argsR hb1)
  refine bodyPost_ret (v := .tuple #[.agg #[.slice none 0 0, .slice none 0 0], .int .i64 ev]) ?_ rfl ?_
  · simp [results, Tryd.results60, go_sem, s2, s3]
    done
  · exact ⟨rfl, (s7.setCell (by simp) _).setCell (by simp) _⟩

theorem drew_below (w : World) : Below w.heap.size w w.drew := (Below.refl _ _).drew

set_option maxRecDepth 100000 in
set_option maxHeartbeats 16000000 in
theorem rtune_any (A A' : Option Addr) (n c m c' : Nat) (C : List Cr) (S : List Int) (k d : Int) (w : World) (hC : Sl w w.heap.size 3 A n c (crC C)) (hS : Sl w w.heap.size 1 A' m c' (intC S)) (hn : n = C.length) (hm : m = S.length) (hb : n ≤ 65536) (hb2 : m ≤ 65536) :
    Calls Tryd.prog 36 #[.agg #[.slice A n c, .slice A' m c'], .int .i64 k, .int .i64 d] w (InP (okL (tuE C S k d) (tun C (k.toNat - 1) k.toNat d)) (okL (tuE C S k d) S) (tuE C S k d) w) := by
  have hC2 := (hC.below (ba w (iObj A n c A' m c'))).below (ba _ zIn)
  have hS2 := (hS.below (ba w (iObj A n c A' m c'))).below (ba _ zIn)
  have HCK := Lib.hid (rcheck_any A A' n c m c' C S _ hC2 hS2 hn hm (by omega) (by omega))
  have HC2 := Lib.hid hC2
  have HS2 := Lib.hid hS2
  have HN := Lib.hid hn
  have HM := Lib.hid hm
  clear hC hS hC2 hS2 hn hm
  by_cases h1 : chk C S = 0
  · have H1 := Lib.hid h1
    by_cases h2 : k < 1 ∨ (C.length : Int) < k
    · have HE : Hid (tuE C S k d = 12) := by unfold Hid tuE; rw [if_neg (by rw [h1]; simp), if_pos h2]
      have h3 : k < 1 ∨ ((n : Int) < k ∧ ¬ k < 1) := by have := HN.out; omega
      clear h1 h2
      rcases h3 with h3 | ⟨h3, h4⟩
      all_goals
        go_enter Tryd.func36, Tryd.ntmps36
        go_wp2_with (go_at_call 24; refine HCK.out.mono ?_; rintro e w1 ⟨rfl, hb1⟩; rw [H1.out]; obtain ⟨s0, s1, s2, s3, s4, s5, s6, s7⟩ := argsR hb1)
        refine bodyPost_ret (v := .tuple #[.agg #[.slice none 0 0, .slice none 0 0], .int .i64 12]) ?_ rfl ?_
        · simp [results, Tryd.results36, go_sem, s2, s3]
          done
        · rw [HE.out, okL_no (by decide), okL_no (by decide)]
          exact inP_err ((s7.setCell (by simp) _).setCell (by simp) _)
    · have HE : Hid (tuE C S k d = retE C S (k.toNat - 1) k.toNat d) := by unfold Hid tuE; rw [if_neg (by rw [h1]; simp), if_neg h2]
      obtain ⟨b, rfl⟩ : ∃ b : Nat, k = (b : Int) + 1 := ⟨(k - 1).toNat, by omega⟩
      have hbn : b < n := by have := HN.out; omega
      have e1 : ((b : Int) + 1).toNat = b + 1 := by omega
      rw [e1, Nat.add_sub_cancel] at HE ⊢
      have g1 : ¬ ((b : Int) + 1 < 1) := by omega
      have g2 : ¬ ((n : Int) < (b : Int) + 1) := by omega
      have g3 : (b : Int) < (n : Int) := by omega
      have g4 : IntKind.i64.wrap (b : Int) = b := IntWalk.i64_in _ ⟨by omega, by omega⟩
      clear h2 e1
      by_cases hd : d < -127 ∨ 127 < d
      · have HR : Hid (retE C S b (b + 1) d = 1) := by unfold Hid retE; rw [if_pos hd]
        have hd2 : d < -127 ∨ (127 < d ∧ ¬ d < -127) := by omega
        clear hd h1
        rcases hd2 with hd | ⟨hd, hd0⟩
        all_goals
          go_enter Tryd.func36, Tryd.ntmps36
          go_wp2_with (go_at_call 24; refine HCK.out.mono ?_; rintro e w1 ⟨rfl, hb1⟩; rw [H1.out]; obtain ⟨s0, s1, s2, s3, s4, s5, s6, s7⟩ := argsR hb1)
          refine bodyPost_ret (v := .tuple #[.agg #[.slice none 0 0, .slice none 0 0], .int .i64 1]) ?_ rfl ?_
          · simp [results, Tryd.results36, go_sem, s2, s3]
            done
          · rw [HE.out, HR.out, okL_no (by decide), okL_no (by decide)]
            exact inP_err ((s7.setCell (by simp) _).setCell (by simp) _)
      · have HR : Hid (retE C S b (b + 1) d = chk (tun C b (b + 1) d) S) := by unfold Hid retE; rw [if_neg hd]
        have d1 : ¬ d < -127 := by omega
        have d2 : ¬ 127 < d := by omega
        have d3 : -127 ≤ d := by omega
        have d4 : d ≤ 127 := by omega
        obtain ⟨p1, p2, _⟩ := chk_course h1 b (by have := HN.out; omega)
        have HP := Lib.hid (And.intro p1 p2)
        clear hd h1 p1 p2
        go_enter Tryd.func36, Tryd.ntmps36
        go_wp2_with (go_at_call 24; refine HCK.out.mono ?_; rintro e w1 ⟨rfl, hb1⟩; rw [H1.out]; obtain ⟨s0, s1, s2, s3, s4, s5, s6, s7⟩ := argsR hb1)
        refine (rcopy_any A A' n c m c' C S _ (HC2.out.below hb1) (HS2.out.below hb1) hb hb2).mono ?_
        rintro e w2 ⟨A1, c1, A2, c2, rfl, o1, o2, hb2'⟩
        have hI := TuI.start (CopyR.below (CopyR.below ⟨⟨_, _, blk_res w A n c A' m c'⟩, ba _ _⟩ hb1) hb2') (((blk_res w A n c A' m c').below hb1).below hb2') (o1.more (by have := s6; omega)) (o2.more (by have := s6; omega))
        obtain ⟨g, hg⟩ : ∃ g, w2.heap.size = g := ⟨_, rfl⟩
        rw [hg] at hI
        have HI := Lib.hid hI
        clear o1 o2 s0 s1 s2 s3 s4 s5 s6 s7 hI
        go_wp2_with (fail)
        have hI := HI.out
        obtain ⟨wq, hwq⟩ : ∃ wq, w2.alloc (.cells #[.slice A1 n c1, .slice A2 m c2] 36) = wq := ⟨_, rfl⟩
        rw [hwq] at hI
        rw [hwq]
        clear HI
        have hlI := hI.nlen
        obtain ⟨q0, q1, q2, q3, q4, q5, q6, q7, q8, q9, q10, q11⟩ := hI.cells
        obtain ⟨gA, rfl, hgA, k0, k1, k2, f0, f1, hne, hge⟩ := hI.course (k := b) hbn
        have hset := (hI.set0 (k := b) hbn ((C.getD b zc).p + d)).below (drew_below _)
        rw [show C.set b ⟨(C.getD b zc).p + d, (C.getD b zc).f, (C.getD b zc).o⟩ = tun C b (b + 1) d by rw [tun_step C b b d (Nat.le_refl _), tun_none]; rfl] at hset
        have HSET := Lib.hid hset
        obtain ⟨p1, p2⟩ : 0 ≤ (C.getD b zc).p ∧ (C.getD b zc).p ≤ 127 := HP.out
        clear hset hI k1 k2 f1 q0 q1 q2 q3 q4 q5 hlI
        generalize (C.getD b zc).p = xp at *
        have w64 : IntKind.i64.wrap (xp + d) = xp + d := IntWalk.i64_in _ ⟨by omega, by omega⟩
        go_region_with (fail)
        all_goals
          obtain ⟨w3, hw3⟩ : ∃ w3, (wq.setCell ⟨gA, b * 3, none⟩ (.int .i64 (xp + d))).drew = w3 := ⟨_, rfl⟩
          rw [hw3] at HSET
          rw [hw3]
          clear q6 q7 q8 q9 q10 q11 k0 f0 hgA
          have hI := HSET.out
          obtain ⟨q0, q1, q2, q3, q4, q5, q6, q7, q8, q9, q10, q11⟩ := hI.cells
          have HSL := Lib.hid (And.intro hI.2.2.1.sl (And.intro hI.2.2.2.1.sl hI.nlen))
          clear hI q0 q1 q2 q3 q4 q5
          by_cases h0 : chk (tun C b (b + 1) d) S = 0
          · have H0 := Lib.hid h0
            clear h0
            go_wp2_with (go_at_call 60; refine (rchecked_ok _ _ _ _ _ _ _ S _ HSL.out.1 HSL.out.2.1 HSL.out.2.2 HM.out hb hb2 H0.out).mono ?_; rintro e w4 ⟨rfl, hb4⟩; have hI2 := HSET.out.below hb4; have HI3 := Lib.hid hI2; obtain ⟨s0, s1, s2, s3, s4, s5, s6, s7, s8, s9, s10, s11⟩ := hI2.cells; clear hI2)
            refine bodyPost_ret (v := .tuple #[.agg #[.slice (some ⟨gA, 0, none⟩) n c1, .slice A2 m c2], .int .i64 0]) ?_ rfl ?_
            · simp [results, Tryd.results36, go_sem, s2, s3]
              done
            · rw [HE.out, HR.out, okL_ok H0.out, okL_ok H0.out, H0.out]
              exact HI3.out.done HM.out
          · obtain ⟨ev, hev⟩ : ∃ ev, chk (tun C b (b + 1) d) S = ev := ⟨_, rfl⟩
            rw [hev] at h0
            have HV := Lib.hid hev
            clear hev
            go_wp2_with (go_at_call 60; refine (rchecked_no _ _ _ _ _ _ _ S ev _ HSL.out.1 HSL.out.2.1 HSL.out.2.2 HM.out hb hb2 HV.out h0).mono ?_; rintro e w4 ⟨rfl, hb4⟩; have hI2 := HSET.out.below hb4; have HI3 := Lib.hid hI2; obtain ⟨s0, s1, s2, s3, s4, s5, s6, s7, s8, s9, s10, s11⟩ := hI2.cells; clear hI2)
            refine bodyPost_ret (v := .tuple #[.agg #[.slice none 0 0, .slice none 0 0], .int .i64 ev]) ?_ rfl ?_
            · simp [results, Tryd.results36, go_sem, s2, s3]
              done
            · rw [HE.out, HR.out, HV.out, okL_no h0, okL_no h0]
              exact HI3.out.fail ev
  · have HE : Hid (tuE C S k d = chk C S) := by unfold Hid tuE; rw [if_pos h1]
    obtain ⟨ev, hev⟩ : ∃ ev, chk C S = ev := ⟨_, rfl⟩
    rw [hev] at h1
    have HV := Lib.hid hev
    clear hev
    go_enter Tryd.func36, Tryd.ntmps36
    go_wp2_with (go_at_call 24; refine HCK.out.mono ?_; rintro e w1 ⟨rfl, hb1⟩; rw [HV.out]; obtain ⟨s0, s1, s2, s3, s4, s5, s6, s7⟩ := argsR hb1)
    refine bodyPost_ret (v := .tuple #[.agg #[.slice none 0 0, .slice none 0 0], .int .i64 ev]) ?_ rfl ?_
    · simp [results, Tryd.results36, go_sem, s2, s3]
      done
    · rw [HE.out, HV.out, okL_no h1, okL_no h1]
      exact inP_err ((s7.setCell (by simp) _).setCell (by simp) _)

end Go.Proofs.YtbjmlbmkfgocdaaDoor
