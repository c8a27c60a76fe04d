/- What the reference's Transpose returns for any instrument. -/
import Derived.Test.YtbjmlbmkfgocdaaDoorRefTune
namespace Go.Proofs.YtbjmlbmkfgocdaaDoor
open Go.RowKit

set_option maxRecDepth 100000 in
set_option maxHeartbeats 16000000 in
theorem rtranspose_any (A A' : Option Addr) (n c m c' : Nat) (C : List Cr) (S : List Int) (d : Int) (w : World) (hC : Sl w w.heap.size 3 A n c (crC C)) (hS : Sl w w.heap.size 1 A' m c' (intC S)) (hn : n = C.length) (hm : m = S.length) (hb : n ≤ 65536) (hb2 : m ≤ 65536) :
    Calls Tryd.prog 38 #[.agg #[.slice A n c, .slice A' m c'], .int .i64 d] w (InP (okL (trE C S d) (tun C 0 C.length d)) (okL (trE C S d) S) (trE C S d) w) := by
  have hC2 := (hC.below (ba w (iObj A n c A' m c'))).below (ba _ zIn)
  have hS2 := (hS.below (ba w (iObj A n c A' m c'))).below (ba _ zIn)
  have HCK := Lib.hid (rcheck_any A A' n c m c' C S _ hC2 hS2 hn hm (by omega) (by omega))
  have HC2 := Lib.hid hC2
  have HS2 := Lib.hid hS2
  have HN := Lib.hid hn
  have HM := Lib.hid hm
  clear hC hS hC2 hS2 hn hm
  by_cases h1 : chk C S = 0
  · have H1 := Lib.hid h1
    have HE : Hid (trE C S d = retE C S 0 C.length d) := by unfold Hid trE; rw [if_neg (by rw [h1]; simp)]
    by_cases hd : d < -127 ∨ 127 < d
    · have HR : Hid (retE C S 0 C.length d = 1) := by unfold Hid retE; rw [if_pos hd]
      have hd2 : d < -127 ∨ (127 < d ∧ ¬ d < -127) := by omega
      clear hd h1
      rcases hd2 with hd | ⟨hd, hd0⟩
      all_goals
        go_enter Tryd.func38, Tryd.ntmps38
        go_wp2_with (go_at_call 24; refine HCK.out.mono ?_; rintro e w1 ⟨rfl, hb1⟩; rw [H1.out]; obtain ⟨s0, s1, s2, s3, s4, s5, s6, s7⟩ := argsR hb1)
        refine bodyPost_ret (v := .tuple #[.agg #[.slice none 0 0, .slice none 0 0], .int .i64 1]) ?_ rfl ?_
        · simp [results, Tryd.results38, go_sem, s2, s3]
          done
        · rw [HE.out, HR.out, okL_no (by decide), okL_no (by decide)]
          exact inP_err ((s7.setCell (by simp) _).setCell (by simp) _)
    · have HR : Hid (retE C S 0 C.length d = chk (tun C 0 C.length d) S) := by unfold Hid retE; rw [if_neg hd]
      have d1 : ¬ d < -127 := by omega
      have d2 : ¬ 127 < d := by omega
      have d3 : -127 ≤ d := by omega
      have d4 : d ≤ 127 := by omega
      have HP : Hid (∀ b, b < n → 0 ≤ (C.getD b zc).p ∧ (C.getD b zc).p ≤ 127) := fun b hbn => by
        obtain ⟨p1, p2, _⟩ := chk_course h1 b (by have := HN.out; omega)
        exact ⟨p1, p2⟩
      clear hd h1
      go_enter Tryd.func38, Tryd.ntmps38
      go_wp2_with (go_at_call 24; refine HCK.out.mono ?_; rintro e w1 ⟨rfl, hb1⟩; rw [H1.out]; obtain ⟨s0, s1, s2, s3, s4, s5, s6, s7⟩ := argsR hb1)
      refine (rcopy_any A A' n c m c' C S _ (HC2.out.below hb1) (HS2.out.below hb1) hb hb2).mono ?_
      rintro e w2 ⟨A1, c1, A2, c2, rfl, o1, o2, hb2'⟩
      have hI := TuI.start (CopyR.below (CopyR.below ⟨⟨_, _, blk_res w A n c A' m c'⟩, ba _ _⟩ hb1) hb2') (((blk_res w A n c A' m c').below hb1).below hb2') (o1.more (by have := s6; omega)) (o2.more (by have := s6; omega))
      obtain ⟨g, hg⟩ : ∃ g, w2.heap.size = g := ⟨_, rfl⟩
      rw [hg] at hI
      have HI := Lib.hid hI
      clear o1 o2 s0 s1 s2 s3 s4 s5 s6 s7 hI
      go_wp2_with (fail)
      go_loopw [8] (fun i wr => ∃ b : Nat, b ≤ n ∧ i = .int .i64 b ∧ TuI w A n c A' m c' g A1 c1 A2 m c2 (.slice A2 m c2) (tun C 0 b d) S wr) (fun i _ => n - (intOf i).toNat)
      case atStart => exact ⟨0, by omega, rfl, by rw [tun_none]; exact HI.out⟩
      case round =>
        obtain ⟨b, hbn', rfl, hI⟩ := hrel
        have HI2 := Lib.hid hI
        obtain ⟨q0, q1, q2, q3, q4, q5, q6, q7, q8, q9, q10, q11⟩ := hI.cells
        by_cases hlt : b < n
        · have g3 : (b : Int) < (n : Int) := by omega
          obtain ⟨gA, rfl, hgA, k0, k1, k2, f0, f1, hne, hge⟩ := hI.course (k := b) hlt
          have hset := (hI.set0 (k := b) hlt ((C.getD b zc).p + d)).below (drew_below _)
          rw [tun_here C 0 b d (by have := HN.out; omega)] at k0 k1 k2 hset
          rw [show (tun C 0 b d).set b ⟨(C.getD b zc).p + d, (C.getD b zc).f, (C.getD b zc).o⟩ = tun C 0 (b + 1) d by rw [tun_step C 0 b d (by omega)]; rfl] at hset
          have HSET := Lib.hid hset
          obtain ⟨p1, p2⟩ := HP.out b hlt
          clear hset hI k1 k2 f1 q0 q1 q2 q3 q4 q5
          generalize (C.getD b zc).p = xp at *
          have w64 : IntKind.i64.wrap (xp + d) = xp + d := IntWalk.i64_in _ ⟨by omega, by omega⟩
          go_wp2_with (fail)
          go_region_with (fail)
          all_goals
            go_wp2_with (fail)
            go_roundw
            case rel => exact ⟨b + 1, by omega, by go_num, HSET.out⟩
            case measure => simp [intOf]; omega
        · obtain rfl : b = n := by omega
          have g3 : ¬ ((b : Int) < (b : Int)) := by omega
          have hI := HI2.out
          have hbl : b = C.length := HN.out
          have HSL := Lib.hid (And.intro hI.2.2.1.sl (And.intro hI.2.2.2.1.sl hI.nlen))
          have HR2 : Hid (retE C S 0 C.length d = chk (tun C 0 b d) S) := by unfold Hid; rw [HR.out, hbl]
          have HL : Hid (tun C 0 C.length d = tun C 0 b d) := by unfold Hid; rw [hbl]
          clear hI q0 q1 q2 q3 q4 q5 HR hbl
          by_cases h0 : chk (tun C 0 b d) S = 0
          · have H0 := Lib.hid h0
            clear h0
            go_wp2_with (go_at_call 60; refine (rchecked_ok _ _ _ _ _ _ _ S _ HSL.out.1 HSL.out.2.1 HSL.out.2.2 HM.out hb hb2 H0.out).mono ?_; rintro e w4 ⟨rfl, hb4⟩; have hI2 := HI2.out.below hb4; have HI3 := Lib.hid hI2; obtain ⟨s0, s1, s2, s3, s4, s5, s6, s7, s8, s9, s10, s11⟩ := hI2.cells; clear hI2)
            refine bodyPost_ret (v := .tuple #[.agg #[.slice A1 b c1, .slice A2 m c2], .int .i64 0]) ?_ rfl ?_
            · simp [results, Tryd.results38, go_sem, s2, s3]
              done
            · rw [HE.out, HR2.out, HL.out, okL_ok H0.out, okL_ok H0.out, H0.out]
              exact HI3.out.done HM.out
          · obtain ⟨ev, hev⟩ : ∃ ev, chk (tun C 0 b d) S = ev := ⟨_, rfl⟩
            rw [hev] at h0
            have HV := Lib.hid hev
            clear hev
            go_wp2_with (go_at_call 60; refine (rchecked_no _ _ _ _ _ _ _ S ev _ HSL.out.1 HSL.out.2.1 HSL.out.2.2 HM.out hb hb2 HV.out h0).mono ?_; rintro e w4 ⟨rfl, hb4⟩; have hI2 := HI2.out.below hb4; have HI3 := Lib.hid hI2; obtain ⟨s0, s1, s2, s3, s4, s5, s6, s7, s8, s9, s10, s11⟩ := hI2.cells; clear hI2)
            refine bodyPost_ret (v := .tuple #[.agg #[.slice none 0 0, .slice none 0 0], .int .i64 ev]) ?_ rfl ?_
            · simp [results, Tryd.results38, go_sem, s2, s3]
              done
            · rw [HE.out, HR2.out, HV.out, okL_no h0, okL_no h0]
              exact HI3.out.fail ev
  · have HE : Hid (trE C S d = chk C S) := by unfold Hid trE; rw [if_pos h1]
    obtain ⟨ev, hev⟩ : ∃ ev, chk C S = ev := ⟨_, rfl⟩
    rw [hev] at h1
    have HV := Lib.hid hev
    clear hev
    go_enter Tryd.func38, Tryd.ntmps38
    go_wp2_with (go_at_call 24; refine HCK.out.mono ?_; rintro e w1 ⟨rfl, hb1⟩; rw [HV.out]; obtain ⟨s0, s1, s2, s3, s4, s5, s6, s7⟩ := argsR hb1)
    refine bodyPost_ret (v := .tuple #[.agg #[.slice none 0 0, .slice none 0 0], .int .i64 ev]) ?_ rfl ?_
    · simp [results, Tryd.results38, go_sem, s2, s3]
      done
    · rw [HE.out, HV.out, okL_no h1, okL_no h1]
      exact inP_err ((s7.setCell (by simp) _).setCell (by simp) _)

end Go.Proofs.YtbjmlbmkfgocdaaDoor
