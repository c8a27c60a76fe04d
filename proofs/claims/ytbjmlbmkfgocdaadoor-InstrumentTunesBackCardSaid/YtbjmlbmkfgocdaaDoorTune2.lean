/- What the program's Tune and Transpose return for any instrument. -/
import Derived.Test.YtbjmlbmkfgocdaaDoorTune
namespace Go.Proofs.YtbjmlbmkfgocdaaDoor
open Go.RowKit

theorem blk_res (w : World) (A : Option Addr) (n c : Nat) (A' : Option Addr) (m c' : Nat) : Blk ((w.alloc (iObj A n c A' m c')).alloc zIn) (w.heap.size + 1) 36 #[.slice none 0 0, .slice none 0 0] := by
  have := heap_alloc_new (w.alloc (iObj A n c A' m c')) zIn
  rw [show (w.alloc (iObj A n c A' m c')).heap.size = w.heap.size + 1 by simp] at this
  exact this
/-- The argument's block and the result's, in whatever world lies above them. -/
theorem argsR {w : World} {A : Option Addr} {n c : Nat} {A' : Option Addr} {m c' : Nat} {w' : World} (h : Below ((w.alloc (iObj A n c A' m c')).alloc zIn).heap.size ((w.alloc (iObj A n c A' m c')).alloc zIn) w') :
    w'.cell? ⟨w.heap.size, 0, none⟩ = some (.slice A n c) ∧ w'.cell? ⟨w.heap.size, 1, none⟩ = some (.slice A' m c') ∧ w'.cell? ⟨w.heap.size + 1, 0, none⟩ = some (.slice none 0 0) ∧ w'.cell? ⟨w.heap.size + 1, 1, none⟩ = some (.slice none 0 0) ∧
      w'.frozen? ⟨w.heap.size + 1, 0, none⟩ = false ∧ w'.frozen? ⟨w.heap.size + 1, 1, none⟩ = false ∧ w.heap.size + 1 < w'.heap.size ∧ Below w.heap.size w w' := by
  obtain ⟨c0, _⟩ := keepb (bt (ba _ _) h) 0
  obtain ⟨c1, _⟩ := keepb (bt (ba _ _) h) 1
  have hB := (blk_res w A n c A' m c').below h
  exact ⟨by simpa using c0, by simpa using c1, hB.cell 0, hB.cell 1, hB.frozen 0, hB.frozen 1, hB.lt, bx (bt (ba _ _) h)⟩

set_option maxRecDepth 100000 in
set_option maxHeartbeats 16000000 in
theorem tune_any (A A' : Option Addr) (n c m c' : Nat) (C : List Cr) (S : List Int) (k d : Int) (w : World) (hC : Sl w w.heap.size 3 A n c (crC C)) (hS : Sl w w.heap.size 1 A' m c' (intC S)) (hn : n = C.length) (hm : m = S.length) (hb : n ≤ 65536) (hb2 : m ≤ 65536) :
    Calls Tryd.prog 35 #[.agg #[.slice A n c, .slice A' m c'], .int .i64 k, .int .i64 d] w (InP (okL (tuE C S k d) (tun C (k.toNat - 1) k.toNat d)) (okL (tuE C S k d) S) (tuE C S k d) w) := by
  have hC2 := (hC.below (ba w (iObj A n c A' m c'))).below (ba _ zIn)
  have hS2 := (hS.below (ba w (iObj A n c A' m c'))).below (ba _ zIn)
  have HCK := Lib.hid (check_any A A' n c m c' C S _ hC2 hS2 hn hm (by omega) (by omega))
  have HC2 := Lib.hid hC2
  have HS2 := Lib.hid hS2
  have HN := Lib.hid hn
  have HM := Lib.hid hm
  clear hC hS hC2 hS2 hn hm
  by_cases h1 : chk C S = 0
  · have H1 := Lib.hid h1
    by_cases h2 : k < 1 ∨ (C.length : Int) < k
    · have HE : Hid (tuE C S k d = 12) := by unfold Hid tuE; rw [if_neg (by rw [h1]; simp), if_pos h2]
      have HH : Hid (hasB n k = false) := by unfold Hid; have := HN.out; simp [hasB]; omega
      clear h1 h2
      go_enter Tryd.func35, Tryd.ntmps35
      go_wp2_with (first | (go_at_call 23; refine HCK.out.mono ?_; rintro e w1 ⟨rfl, hb1⟩; rw [H1.out]; obtain ⟨q0, q1, q2, q3, q4, q5, q6, q7⟩ := argsR hb1; clear q7) | (go_at_call 51; refine (hasCourse_any A A' n c m c' k _).mono ?_; rintro e w2 ⟨rfl, hb2⟩; rw [HH.out]; obtain ⟨s0, s1, s2, s3, s4, s5, s6, s7⟩ := argsR (bt hb1 hb2)))
      refine bodyPost_ret (v := .tuple #[.agg #[.slice none 0 0, .slice none 0 0], .int .i64 12]) ?_ rfl ?_
      · simp [results, Tryd.results35, go_sem, s2, s3]
        done
      · rw [HE.out, okL_no (by decide), okL_no (by decide)]
        exact inP_err ((s7.setCell (by simp) _).setCell (by simp) _)
    · have HE : Hid (tuE C S k d = retE C S (k.toNat - 1) k.toNat d) := by unfold Hid tuE; rw [if_neg (by rw [h1]; simp), if_neg h2]
      have HH : Hid (hasB n k = true) := by unfold Hid; have := HN.out; simp [hasB]; omega
      have HRT : Hid (∀ w', Below ((w.alloc (iObj A n c A' m c')).alloc zIn).heap.size ((w.alloc (iObj A n c A' m c')).alloc zIn) w' →
          Calls Tryd.prog 59 #[.agg #[.slice A n c, .slice A' m c'], .int .i64 k, .int .i64 k, .int .i64 d] w' (InP (okL (retE C S (k.toNat - 1) k.toNat d) (tun C (k.toNat - 1) k.toNat d)) (okL (retE C S (k.toNat - 1) k.toNat d) S) (retE C S (k.toNat - 1) k.toNat d) w')) := by
        intro w' h
        have := retune_any A A' n c m c' C S (k.toNat - 1) k.toNat d w' (HC2.out.below h) (HS2.out.below h) HN.out HM.out hb hb2 (by omega) (by have := HN.out; omega) (fun j hj => by
          obtain ⟨x1, x2, _⟩ := chk_course h1 j (by have := HN.out; omega)
          exact ⟨x1, x2⟩)
        rw [show (((k.toNat - 1 : Nat) : Int) + 1) = k by omega, show ((k.toNat : Nat) : Int) = k by omega] at this
        exact this
      clear h1 h2
      generalize retE C S (k.toNat - 1) k.toNat d = er at *
      generalize tun C (k.toNat - 1) k.toNat d = D at *
      go_enter Tryd.func35, Tryd.ntmps35
      go_wp2_with (first | (go_at_call 23; refine HCK.out.mono ?_; rintro e w1 ⟨rfl, hb1⟩; rw [H1.out]; obtain ⟨q0, q1, q2, q3, q4, q5, q6, q7⟩ := argsR hb1; clear q7) | (go_at_call 51; refine (hasCourse_any A A' n c m c' k _).mono ?_; rintro e w2 ⟨rfl, hb2⟩; rw [HH.out]; obtain ⟨s0, s1, s2, s3, s4, s5, s6, s7⟩ := argsR (bt hb1 hb2); clear q0 q1 q2 q3 q4 q5 q6))
      refine (HRT.out _ (bt hb1 hb2)).mono ?_
      rintro e w3 ⟨B, n3, d3, B', m3, d3', rfl, hn3, hm3, t1, t2, f1, f2, hb3⟩
      have HREL := Lib.hid (InP.relay (er := er) (g := w.heap.size + 1) hn3 hm3 t1 t2 f1 f2 hb3 s7 (by omega) s6)
      obtain ⟨u0, u1, u2, u3, u4, u5, u6, u7⟩ := argsR (bt (bt hb1 hb2) hb3)
      clear t1 t2 f1 f2 s7 u7 hn3 hm3
      go_wp2_with (fail)
      refine bodyPost_ret (v := .tuple #[.agg #[.slice B n3 d3, .slice B' m3 d3'], .int .i64 er]) ?_ rfl ?_
      · simp [results, Tryd.results35, go_sem, u2, u3]
        done
      · rw [HE.out]
        exact HREL.out
  · have HE : Hid (tuE C S k d = chk C S) := by unfold Hid tuE; rw [if_pos h1]
    obtain ⟨ev, hev⟩ : ∃ ev, chk C S = ev := ⟨_, rfl⟩
    rw [hev] at h1
    have HV := Lib.hid hev
    clear hev
    go_enter Tryd.func35, Tryd.ntmps35
    go_wp2_with (go_at_call 23; refine HCK.out.mono ?_; rintro e w1 ⟨rfl, hb1⟩; rw [HV.out]; obtain ⟨s0, s1, s2, s3, s4, s5, s6, s7⟩ := argsR hb1)
    refine bodyPost_ret (v := .tuple #[.agg #[.slice none 0 0, .slice none 0 0], .int .i64 ev]) ?_ rfl ?_
    · simp [results, Tryd.results35, go_sem, s2, s3]
      done
    · rw [HE.out, HV.out, okL_no h1, okL_no h1]
      exact inP_err ((s7.setCell (by simp) _).setCell (by simp) _)

set_option maxRecDepth 100000 in
set_option maxHeartbeats 16000000 in
theorem transpose_any (A A' : Option Addr) (n c m c' : Nat) (C : List Cr) (S : List Int) (d : Int) (w : World) (hC : Sl w w.heap.size 3 A n c (crC C)) (hS : Sl w w.heap.size 1 A' m c' (intC S)) (hn : n = C.length) (hm : m = S.length) (hb : n ≤ 65536) (hb2 : m ≤ 65536) :
    Calls Tryd.prog 37 #[.agg #[.slice A n c, .slice A' m c'], .int .i64 d] w (InP (okL (trE C S d) (tun C 0 C.length d)) (okL (trE C S d) S) (trE C S d) w) := by
  have hC2 := (hC.below (ba w (iObj A n c A' m c'))).below (ba _ zIn)
  have hS2 := (hS.below (ba w (iObj A n c A' m c'))).below (ba _ zIn)
  have HCK := Lib.hid (check_any A A' n c m c' C S _ hC2 hS2 hn hm (by omega) (by omega))
  have HC2 := Lib.hid hC2
  have HS2 := Lib.hid hS2
  have HN := Lib.hid hn
  have HM := Lib.hid hm
  clear hC hS hC2 hS2 hn hm
  by_cases h1 : chk C S = 0
  · have H1 := Lib.hid h1
    have HE : Hid (trE C S d = retE C S 0 C.length d) := by unfold Hid trE; rw [if_neg (by rw [h1]; simp)]
    have HRT : Hid (∀ w', Below ((w.alloc (iObj A n c A' m c')).alloc zIn).heap.size ((w.alloc (iObj A n c A' m c')).alloc zIn) w' →
        Calls Tryd.prog 59 #[.agg #[.slice A n c, .slice A' m c'], .int .i64 1, .int .i64 n, .int .i64 d] w' (InP (okL (retE C S 0 C.length d) (tun C 0 C.length d)) (okL (retE C S 0 C.length d) S) (retE C S 0 C.length d) w')) := by
      intro w' h
      have := retune_any A A' n c m c' C S 0 n d w' (HC2.out.below h) (HS2.out.below h) HN.out HM.out hb hb2 (by omega) (by omega) (fun j hj => by
        obtain ⟨x1, x2, _⟩ := chk_course h1 j (by have := HN.out; omega)
        exact ⟨x1, x2⟩)
      rw [← HN.out]
      exact this
    clear h1
    generalize retE C S 0 C.length d = er at *
    generalize tun C 0 C.length d = D at *
    go_enter Tryd.func37, Tryd.ntmps37
    go_wp2_with (go_at_call 23; refine HCK.out.mono ?_; rintro e w1 ⟨rfl, hb1⟩; rw [H1.out]; obtain ⟨s0, s1, s2, s3, s4, s5, s6, s7⟩ := argsR hb1)
    refine (HRT.out _ hb1).mono ?_
    rintro e w3 ⟨B, n3, d3, B', m3, d3', rfl, hn3, hm3, t1, t2, f1, f2, hb3⟩
    have HREL := Lib.hid (InP.relay (er := er) (g := w.heap.size + 1) hn3 hm3 t1 t2 f1 f2 hb3 s7 (by omega) s6)
    obtain ⟨u0, u1, u2, u3, u4, u5, u6, u7⟩ := argsR (bt hb1 hb3)
    clear t1 t2 f1 f2 s7 u7 hn3 hm3
    go_wp2_with (fail)
    refine bodyPost_ret (v := .tuple #[.agg #[.slice B n3 d3, .slice B' m3 d3'], .int .i64 er]) ?_ rfl ?_
    · simp [results, Tryd.results37, go_sem, u2, u3]
      done
    · rw [HE.out]
      exact HREL.out
  · have HE : Hid (trE C S d = chk C S) := by unfold Hid trE; rw [if_pos h1]
    obtain ⟨ev, hev⟩ : ∃ ev, chk C S = ev := ⟨_, rfl⟩
    rw [hev] at h1
    have HV := Lib.hid hev
    clear hev
    go_enter Tryd.func37, Tryd.ntmps37
    go_wp2_with (go_at_call 23; refine HCK.out.mono ?_; rintro e w1 ⟨rfl, hb1⟩; rw [HV.out]; obtain ⟨s0, s1, s2, s3, s4, s5, s6, s7⟩ := argsR hb1)
    refine bodyPost_ret (v := .tuple #[.agg #[.slice none 0 0, .slice none 0 0], .int .i64 ev]) ?_ rfl ?_
    · simp [results, Tryd.results37, go_sem, s2, s3]
      done
    · rw [HE.out, HV.out, okL_no h1, okL_no h1]
      exact inP_err ((s7.setCell (by simp) _).setCell (by simp) _)

end Go.Proofs.YtbjmlbmkfgocdaaDoor
