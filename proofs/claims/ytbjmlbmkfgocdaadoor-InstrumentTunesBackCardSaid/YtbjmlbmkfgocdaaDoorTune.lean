/- What the program's retune, Tune and Transpose return for any instrument. -/
import Derived.Test.YtbjmlbmkfgocdaaDoorTu
import Derived.Test.YtbjmlbmkfgocdaaDoorPlaces
namespace Go.Proofs.YtbjmlbmkfgocdaaDoor
open Go.RowKit

theorem tun_here (C : List Cr) (a b : Nat) (d : Int) (h : b < C.length) : (tun C a b d).getD b zc = C.getD b zc := by rw [tun_at _ _ _ _ _ h, if_neg (by omega)]

set_option maxRecDepth 100000 in
set_option maxHeartbeats 16000000 in
theorem retune_any (A A' : Option Addr) (n c m c' : Nat) (C : List Cr) (S : List Int) (a b : Nat) (d : Int) (w : World) (hC : Sl w w.heap.size 3 A n c (crC C)) (hS : Sl w w.heap.size 1 A' m c' (intC S)) (hn : n = C.length) (hm : m = S.length)
    (hb : n ≤ 65536) (hb2 : m ≤ 65536) (hab : a ≤ b) (hbn : b ≤ n) (hP : ∀ k, k < n → 0 ≤ (C.getD k zc).p ∧ (C.getD k zc).p ≤ 127) :
    Calls Tryd.prog 59 #[.agg #[.slice A n c, .slice A' m c'], .int .i64 ((a : Int) + 1), .int .i64 b, .int .i64 d] w (InP (okL (retE C S a b d) (tun C a b d)) (okL (retE C S a b d) S) (retE C S a b d) w) := by
  have HN := Lib.hid hn
  have HM := Lib.hid hm
  have HPP := Lib.hid hP
  have HC := Lib.hid hC
  have HS := Lib.hid hS
  clear hC hS hn hm hP
  by_cases hd : d < -127 ∨ 127 < d
  · have HR : Hid (retE C S a b d = 1) := by unfold Hid retE; rw [if_pos hd]
    have hd2 : d < -127 ∨ (127 < d ∧ ¬ d < -127) := by omega
    clear hd
    rcases hd2 with hd | ⟨hd, hd0⟩
    all_goals
      go_enter Tryd.func59, Tryd.ntmps59
      go_wp2_with (fail)
      refine bodyPost_ret (v := .tuple #[.agg #[.slice none 0 0, .slice none 0 0], .int .i64 1]) ?_ rfl ?_
      · simp [results, Tryd.results59, go_sem]
        done
      · rw [HR.out, okL_no (by decide), okL_no (by decide)]
        exact inP_err (balA (ba _ _) _)
  · have HR : Hid (retE C S a b d = chk (tun C a b d) S) := by unfold Hid retE; rw [if_neg hd]
    have d1 : ¬ d < -127 := by omega
    have d2 : ¬ 127 < d := by omega
    have d3 : -127 ≤ d := by omega
    have d4 : d ≤ 127 := by omega
    clear hd
    have hR0 : CopyR w A n c A' m c' ((w.alloc (iObj A n c A' m c')).alloc zIn) :=
      ⟨⟨_, _, by have := heap_alloc_new (w.alloc (iObj A n c A' m c')) zIn; rw [show (w.alloc (iObj A n c A' m c')).heap.size = w.heap.size + 1 by simp] at this; exact this⟩, ba _ _⟩
    have hz0 : Blk ((w.alloc (iObj A n c A' m c')).alloc zIn) (w.heap.size + 1) 36 #[.slice none 0 0, .slice none 0 0] := by
      have := heap_alloc_new (w.alloc (iObj A n c A' m c')) zIn
      rw [show (w.alloc (iObj A n c A' m c')).heap.size = w.heap.size + 1 by simp] at this
      exact this
    have hsz : ((w.alloc (iObj A n c A' m c')).alloc zIn).heap.size = w.heap.size + 2 := by simp
    have HCL := Lib.hid (clone_any A A' n c m c' C S _ (CopyR.sl hR0 HC.out) (CopyR.sl hR0 HS.out) hb hb2)
    have HR0 := Lib.hid hR0
    have HZ0 := Lib.hid hz0
    clear hR0 hz0
    go_enter Tryd.func59, Tryd.ntmps59
    go_wp2_with (fail)
    refine HCL.out.mono ?_
    rintro e w1 ⟨A1, c1, A2, c2, rfl, o1, o2, hb1⟩
    have HI := Lib.hid (TuI.start (HR0.out.below hb1) (HZ0.out.below hb1) (o1.more (by omega)) (o2.more (by omega)))
    clear o1 o2 HCL
    obtain ⟨g, hg⟩ : ∃ g, w1.heap.size = g := ⟨_, rfl⟩
    rw [hg] at HI
    go_wp2_with (fail)
    go_loopw [11] (fun i wr => ∃ b' : Nat, a ≤ b' ∧ b' ≤ b ∧ i = .int .i64 ((b' : Int) + 1) ∧ TuI w A n c A' m c' g A1 c1 A2 m c2 (.slice A2 m c2) (tun C a b' d) S wr) (fun i _ => b + 1 - (intOf i).toNat)
    case atStart => exact ⟨a, Nat.le_refl _, hab, rfl, by rw [tun_none]; exact HI.out⟩
    case round =>
      obtain ⟨b', h1, h2, rfl, hI⟩ := hrel
      have HI2 := Lib.hid hI
      obtain ⟨q0, q1, q2, q3, q4, q5, q6, q7, q8, q9, q10, q11⟩ := hI.cells
      by_cases hlt : b' < b
      · have hle : ((b' : Int) + 1 ≤ (b : Int)) := by omega
        have hbn2 : (b' : Int) < (n : Int) := by omega
        obtain ⟨gA, rfl, hgA, k0, k1, k2, f0, f1, hne, hge⟩ := hI.course (k := b') (by omega)
        rw [tun_here C a b' d (by have := HN.out; omega)] at k0 k1 k2
        obtain ⟨p1, p2⟩ := HPP.out b' (by omega)
        have hset : TuI w A n c A' m c' g (some ⟨gA, 0, none⟩) c1 A2 m c2 (.slice A2 m c2) (tun C a (b' + 1) d) S (wr.setCell ⟨gA, b' * 3, none⟩ (.int .i64 ((C.getD b' zc).p + d))) := by
          have := hI.set0 (k := b') (by omega) ((C.getD b' zc).p + d)
          rw [tun_step C a b' d h1]
          rw [tun_here C a b' d (by have := HN.out; omega)] at this
          exact this
        have HSET := Lib.hid hset
        clear hset hI q0 q1 q2 q3 q4 q5 k1 k2 f1
        generalize (C.getD b' zc).p = xp at *
        go_wp2_with (fail)
        go_roundw
        case rel => exact ⟨b' + 1, by omega, by omega, by go_num, HSET.out⟩
        case measure => simp [intOf]; omega
      · obtain rfl : b' = b := by omega
        have hle : ¬ ((b' : Int) + 1 ≤ (b' : Int)) := by omega
        have HCK := Lib.hid (check_any A1 A2 n c1 m c2 (tun C a b' d) S wr hI.2.2.1.sl hI.2.2.2.1.sl (by rw [tun_len]; exact HN.out) HM.out (by omega) (by omega))
        clear hI
        by_cases h0 : chk (tun C a b' d) S = 0
        · have H0 := Lib.hid h0
          clear h0
          go_wp2_with (go_at_call 23; refine HCK.out.mono ?_; rintro e w2 ⟨rfl, hb2⟩; rw [H0.out]; have hI2 := HI2.out.below hb2; have HI3 := Lib.hid hI2; obtain ⟨s0, s1, s2, s3, s4, s5, s6, s7, s8, s9, s10, s11⟩ := hI2.cells; clear hI2)
          refine bodyPost_ret (v := .tuple #[.agg #[.slice A1 n c1, .slice A2 m c2], .int .i64 0]) ?_ rfl ?_
          · simp [results, Tryd.results59, go_sem, s2, s3]
            done
          · rw [HR.out, okL_ok H0.out, okL_ok H0.out, H0.out]
            exact HI3.out.done HM.out
        · obtain ⟨ev, hev⟩ : ∃ ev, chk (tun C a b' d) S = ev := ⟨_, rfl⟩
          rw [hev] at h0
          have HV := Lib.hid hev
          clear hev
          go_wp2_with (go_at_call 23; refine HCK.out.mono ?_; rintro e w2 ⟨rfl, hb2⟩; rw [HV.out]; have hI2 := HI2.out.below hb2; have HI3 := Lib.hid hI2; obtain ⟨s0, s1, s2, s3, s4, s5, s6, s7, s8, s9, s10, s11⟩ := hI2.cells; clear hI2)
          refine bodyPost_ret (v := .tuple #[.agg #[.slice none 0 0, .slice none 0 0], .int .i64 ev]) ?_ rfl ?_
          · simp [results, Tryd.results59, go_sem, s2, s3]
            done
          · rw [HR.out, HV.out, okL_no h0, okL_no h0]
            exact HI3.out.fail ev

end Go.Proofs.YtbjmlbmkfgocdaaDoor
