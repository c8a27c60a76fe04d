/- Pieces: the first error of an event whose sign and tie are right. -/
import Derived.Test.YtlmpoklakbjpnaaDoorPcEv
namespace Go.Proofs.YtlmpoklakbjpnaaDoor
open Go Go.RowKit

set_option maxRecDepth 100000 in
set_option maxHeartbeats 4000000 in
theorem checkEvent_ok (A : Option Addr) (n c : Nat) (A' : Option Addr) (m c' : Nat) (A2 : Option Addr) (q cq : Nat) (C : List Cr) (P : List EvP) (k : Nat) (hk : k < q) (w : World) (hC : Sl w w.heap.size 3 A n c (crC C)) (hn : n = C.length) (hnb : n ≤ 1000000)
    (hE : EsIn w A2 q cq P) (hq : q ≤ 1000000) (hst : ∀ y ∈ P, y.L.length ≤ 1000000) (hs : sgnB k (P.getD k z6) = false) (ht : tieB k (P.getD k z6) = false) :
    Calls Tryd.prog 87 #[pcV A n c A' m c' A2 q cq, .int .i64 k] w fun e w' => e = .returned (.int .i64 (evErr C P k (P.getD k z6))) ∧ Below w.heap.size w w' := by
  have HX := Lib.hid (evErr_sts (C := C) (P := P) hs ht)
  have hb0 := ba w (pcO A n c A' m c' A2 q cq)
  obtain ⟨b, off, sa, sc, rfl, hbl, hPk, hd, ⟨c0, c1, c2, c3, c4, c5⟩, hS⟩ := (hE.below hb0).at hk
  have HS := Lib.hid (And.intro hS (evs_len hPk hst))
  have HE : Hid (∀ w', Below w.heap.size w w' → EsIn w' (some ⟨b, off, none⟩) q cq P ∧ Sl w' w'.heap.size 3 A n c (crC C)) := fun w' hb => ⟨hE.below hb, hC.below hb⟩
  have HST := Lib.hid (And.intro hst hn)
  clear hE hC hst hPk hd hS hb0 hn
  generalize P.getD k z6 = y at *
  obtain ⟨bar, v, d, t, tie, L⟩ := y
  dsimp only at c0 c1 c2 c3 c4 c5 HS HX
  have hki : (k : Int) < (q : Int) := by omega
  have HSG : Hid (sgnB k ⟨bar, v, d, t, tie, L⟩ = (!(!wrB v d t || okB v d t) || (decide (k = 0) && !wrB v d t))) := rfl
  have HTI : Hid (tieB k ⟨bar, v, d, t, tie, L⟩ = (tie && (!decide (L.length = 0) || decide (k = 0)))) := rfl
  have hv : (!wrB v d t || okB v d t) = true := by
    rw [HSG.out] at hs
    cases h : (!wrB v d t || okB v d t)
    · rw [h] at hs; simp at hs
    · rfl
  have HV := Lib.hid hv
  have HW : Hid (k = 0 → wrB v d t = true) := fun h => by
    rw [HSG.out, hv] at hs
    subst h
    simpa using hs
  have HN := Lib.hid (rfl : L.length = L.length)
  have HQ : Hid (tie = true → L.length = 0 ∧ ¬ k = 0) := fun h => by
    rw [HTI.out, h] at ht
    simpa using ht
  clear hv hs ht HSG HTI
  obtain ⟨N, hN⟩ : ∃ N, L.length = N := ⟨_, rfl⟩
  rw [hN] at c5 HS HQ
  have HL := Lib.hid hN
  have hNb := HS.out.2
  clear hN HN
  have hcase : (k = 0 ∧ tie = false) ∨ (¬ k = 0 ∧ tie = false) ∨ (¬ k = 0 ∧ tie = true ∧ N = 0) := by
    cases tie
    · by_cases h : k = 0
      · exact .inl ⟨h, rfl⟩
      · exact .inr (.inl ⟨h, rfl⟩)
    · obtain ⟨h1, h2⟩ := HQ.out rfl
      exact .inr (.inr ⟨h2, rfl, h1⟩)
  clear HQ
  rcases hcase with ⟨rfl, rfl⟩ | ⟨hk0, rfl⟩ | ⟨hk0, rfl, rfl⟩
  · have HW1 := Lib.hid (HW.out rfl)
    simp only [Nat.zero_mul, Nat.add_zero] at c0 c1 c2 c3 c4 c5
    clear HW
    go_enter Tryd.func87, Tryd.ntmps87
    go_wp2_with (first
      | (go_at_call 74; refine (validSign_any _ _ _ _).mono ?_; rintro e wz ⟨rfl, hbz⟩; rw [HV.out]; obtain ⟨x0, x1, x2, x3, x4, x5⟩ := cell6 hbz; simp only [World.size_alloc] at x0 x1 x2 x3 x4 x5)
      | (go_at_call 73; refine (written_any _ _ _ _).mono ?_; rintro e wz ⟨rfl, hbn⟩; rw [HW1.out]; replace hbz := bt hbz hbn; clear hbn; obtain ⟨x0, x1, x2, x3, x4, x5⟩ := cell6 hbz; simp only [World.size_alloc] at x0 x1 x2 x3 x4 x5))
    have T0 := Lib.hid (bx hbz)
    clear hbz x0 x1 x2 x3 x4
    go_loopw [6, 44] (fun bf i wr => ∃ (j : Nat) (bv : Int), j ≤ N ∧ i = .int .i64 j ∧ bf = .int .i64 bv ∧ stsErr C P 0 0 L = stsErr C P 0 bv (L.drop j) ∧ Below (w.alloc (pcO A n c A' m c' (some ⟨b, off, none⟩) q cq)).heap.size (w.alloc (pcO A n c A' m c' (some ⟨b, off, none⟩) q cq)) wr) (fun _ i _ => N - (intOf i).toNat)
    case atStart => exact ⟨0, 0, by omega, rfl, rfl, rfl, T0.out⟩
    case round =>
      obtain ⟨j, bv, hj, rfl, rfl, hr, hbw⟩ := hrel
      have HR := Lib.hid hr
      have HB := Lib.hid hbw
      obtain ⟨p0, p1, p2⟩ := cell3 hbw
      have hz : w.heap.size < wr.heap.size := by have := hbw.size; simp at this; omega
      clear hr hbw
      by_cases hlt : j < N
      · obtain ⟨sb, so, rfl, hsb, hsd, _, d0, d1, d2, d3, d4⟩ := st_at (HS.out.1.below HB.out) HL.out.symm hlt
        have HD := Lib.hid hsd
        clear hsd
        generalize L.getD j z5 = s at *
        obtain ⟨X, hX⟩ : ∃ X, stErr C P 0 bv s = X := ⟨_, rfl⟩
        by_cases hX0 : X = 0
        · subst hX0
          have HG := Lib.hid (stsErr_go HD.out hX)
          have HX0 := Lib.hid hX
          clear hX
          go_wp2_with (go_at_call 113; refine (checkStop_any A n c A' m c' _ q cq C P 0 bv s _ (HE.out _ (bx (bt HB.out (ba _ _)))).2 HST.out.2 hnb (HE.out _ (bx (bt HB.out (ba _ _)))).1 hq HST.out.1).mono ?_; rintro e w4 ⟨rfl, hb4⟩; rw [HX0.out]; obtain ⟨z0, _⟩ := cell5 hb4)
          go_roundw
          case rel => exact ⟨j + 1, s.c, by omega, by first | rfl | go_num, by first | rfl | go_num, by rw [HR.out, HG.out], bt HB.out (bx hb4)⟩
          case measure => simp [intOf]; omega
        · have HG := Lib.hid (stsErr_stop HD.out hX hX0)
          have HX0 := Lib.hid hX
          have hXb : (X != 0) = true := by simpa using hX0
          clear hX hX0
          go_wp2_with (go_at_call 113; refine (checkStop_any A n c A' m c' _ q cq C P 0 bv s _ (HE.out _ (bx (bt HB.out (ba _ _)))).2 HST.out.2 hnb (HE.out _ (bx (bt HB.out (ba _ _)))).1 hq HST.out.1).mono ?_; rintro e w4 ⟨rfl, hb4⟩; rw [HX0.out])
          go_ret
          exact ⟨ret_int (by rw [HX.out, HR.out, HG.out]), bx (bt HB.out (bx hb4))⟩
      · go_wp2_with (fail)
        go_ret
        exact ⟨ret_int (by rw [HX.out, HR.out, List.drop_of_length_le (by have := HL.out; omega)]; rfl), bx HB.out⟩
  · have hkz : ((k : Int) == 0) = false := by simpa using hk0
    clear HW
    go_enter Tryd.func87, Tryd.ntmps87
    go_wp2_with (go_at_call 74; refine (validSign_any _ _ _ _).mono ?_; rintro e wz ⟨rfl, hbz⟩; rw [HV.out]; obtain ⟨x0, x1, x2, x3, x4, x5⟩ := cell6 hbz; simp only [World.size_alloc] at x0 x1 x2 x3 x4 x5)
    have T0 := Lib.hid (bx hbz)
    clear hbz x0 x1 x2 x3 x4
    go_loopw [6, 44] (fun bf i wr => ∃ (j : Nat) (bv : Int), j ≤ N ∧ i = .int .i64 j ∧ bf = .int .i64 bv ∧ stsErr C P k 0 L = stsErr C P k bv (L.drop j) ∧ Below (w.alloc (pcO A n c A' m c' (some ⟨b, off, none⟩) q cq)).heap.size (w.alloc (pcO A n c A' m c' (some ⟨b, off, none⟩) q cq)) wr) (fun _ i _ => N - (intOf i).toNat)
    case atStart => exact ⟨0, 0, by omega, rfl, rfl, rfl, T0.out⟩
    case round =>
      obtain ⟨j, bv, hj, rfl, rfl, hr, hbw⟩ := hrel
      have HR := Lib.hid hr
      have HB := Lib.hid hbw
      obtain ⟨p0, p1, p2⟩ := cell3 hbw
      have hz : w.heap.size < wr.heap.size := by have := hbw.size; simp at this; omega
      clear hr hbw
      by_cases hlt : j < N
      · obtain ⟨sb, so, rfl, hsb, hsd, _, d0, d1, d2, d3, d4⟩ := st_at (HS.out.1.below HB.out) HL.out.symm hlt
        have HD := Lib.hid hsd
        clear hsd
        generalize L.getD j z5 = s at *
        obtain ⟨X, hX⟩ : ∃ X, stErr C P k bv s = X := ⟨_, rfl⟩
        by_cases hX0 : X = 0
        · subst hX0
          have HG := Lib.hid (stsErr_go HD.out hX)
          have HX0 := Lib.hid hX
          clear hX
          go_wp2_with (go_at_call 113; refine (checkStop_any A n c A' m c' _ q cq C P k bv s _ (HE.out _ (bx (bt HB.out (ba _ _)))).2 HST.out.2 hnb (HE.out _ (bx (bt HB.out (ba _ _)))).1 hq HST.out.1).mono ?_; rintro e w4 ⟨rfl, hb4⟩; rw [HX0.out]; obtain ⟨z0, _⟩ := cell5 hb4)
          go_roundw
          case rel => exact ⟨j + 1, s.c, by omega, by first | rfl | go_num, by first | rfl | go_num, by rw [HR.out, HG.out], bt HB.out (bx hb4)⟩
          case measure => simp [intOf]; omega
        · have HG := Lib.hid (stsErr_stop HD.out hX hX0)
          have HX0 := Lib.hid hX
          have hXb : (X != 0) = true := by simpa using hX0
          clear hX hX0
          go_wp2_with (go_at_call 113; refine (checkStop_any A n c A' m c' _ q cq C P k bv s _ (HE.out _ (bx (bt HB.out (ba _ _)))).2 HST.out.2 hnb (HE.out _ (bx (bt HB.out (ba _ _)))).1 hq HST.out.1).mono ?_; rintro e w4 ⟨rfl, hb4⟩; rw [HX0.out])
          go_ret
          exact ⟨ret_int (by rw [HX.out, HR.out, HG.out]), bx (bt HB.out (bx hb4))⟩
      · go_wp2_with (fail)
        go_ret
        exact ⟨ret_int (by rw [HX.out, HR.out, List.drop_of_length_le (by have := HL.out; omega)]; rfl), bx HB.out⟩
  · have hkz : ((k : Int) == 0) = false := by simpa using hk0
    have HZ : Hid (stsErr C P k 0 L = 0) := by unfold Hid; rw [List.length_eq_zero_iff.1 HL.out]; rfl
    clear HW
    go_enter Tryd.func87, Tryd.ntmps87
    go_wp2_with (go_at_call 74; refine (validSign_any _ _ _ _).mono ?_; rintro e wz ⟨rfl, hbz⟩; rw [HV.out]; obtain ⟨x0, x1, x2, x3, x4, x5⟩ := cell6 hbz; simp only [World.size_alloc] at x0 x1 x2 x3 x4 x5)
    refine wp_loop_rounds 1 ?_
    rw [rounds_succ]
    go_wp2_with (fail)
    go_ret
    exact ⟨ret_int (by rw [HX.out, HZ.out]), bx (bx hbz)⟩

end Go.Proofs.YtlmpoklakbjpnaaDoor
