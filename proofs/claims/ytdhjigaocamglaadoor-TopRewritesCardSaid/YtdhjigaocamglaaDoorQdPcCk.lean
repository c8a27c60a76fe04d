/- Pieces: the first error of an event, and of a piece. -/
import Derived.Test.YtdhjigaocamglaaDoorQdPcStop
namespace Go.Proofs.YtdhjigaocamglaaDoor
open Go Go.RowKit

theorem stsErr_go {C : List Cr} {P : List EvP} {k : Nat} {bf : Int} {L : List St} {j : Nat} {s : St} (hd : L.drop j = s :: L.drop (j + 1)) (h : stErr C P k bf s = 0) : stsErr C P k bf (L.drop j) = stsErr C P k s.c (L.drop (j + 1)) := by rw [hd, stsErr, if_pos h]
theorem stsErr_stop {C : List Cr} {P : List EvP} {k : Nat} {bf x : Int} {L : List St} {j : Nat} {s : St} (hd : L.drop j = s :: L.drop (j + 1)) (hx : stErr C P k bf s = x) (h : x ≠ 0) : stsErr C P k bf (L.drop j) = x := by rw [hd, stsErr, if_neg (by rw [hx]; exact h), hx]
theorem evErr_sgn {C : List Cr} {P : List EvP} {k : Nat} {y : EvP} (h : sgnB k y = true) : evErr C P k y = 20 := by rw [evErr, if_pos h]
theorem evErr_tie {C : List Cr} {P : List EvP} {k : Nat} {y : EvP} (h : sgnB k y = false) (h2 : tieB k y = true) : evErr C P k y = 21 := by rw [evErr, if_neg (by simp [h]), if_pos h2]
theorem evErr_sts {C : List Cr} {P : List EvP} {k : Nat} {y : EvP} (h : sgnB k y = false) (h2 : tieB k y = false) : evErr C P k y = stsErr C P k 0 y.L := by rw [evErr, if_neg (by simp [h]), if_neg (by simp [h2])]
theorem evs_len {P : List EvP} {k : Nat} {y : EvP} (h : P[k]? = some y) (hst : ∀ y ∈ P, y.L.length ≤ 1000000) : y.L.length ≤ 1000000 := hst y (List.mem_of_getElem? h)

set_option maxRecDepth 100000 in
set_option maxHeartbeats 4000000 in
theorem checkEvent_bad (A : Option Addr) (n c : Nat) (A' : Option Addr) (m c' : Nat) (A2 : Option Addr) (q cq : Nat) (C : List Cr) (P : List EvP) (k : Nat) (hk : k < q) (w : World)
    (hE : EsIn w A2 q cq P) (hX : sgnB k (P.getD k z6) = true ∨ (sgnB k (P.getD k z6) = false ∧ tieB k (P.getD k z6) = true)) :
    Calls Tryd.prog 64 #[pcV A n c A' m c' A2 q cq, .int .i64 k] w fun e w' => e = .returned (.int .i64 (evErr C P k (P.getD k z6))) ∧ Below w.heap.size w w' := by
  obtain ⟨b, off, sa, sc, rfl, hbl, hPk, hd, ⟨c0, c1, c2, c3, c4, c5⟩, _⟩ := (hE.below (ba w (pcO A n c A' m c' A2 q cq))).at hk
  clear hE hPk hd
  generalize P.getD k z6 = y at *
  have HR : Hid (∀ x, (sgnB k y = true → x = 20) → (sgnB k y = false → tieB k y = true → x = 21) → evErr C P k y = x) := fun x h1 h2 => by
    rcases hX with h | ⟨h, h'⟩
    · rw [evErr_sgn h, h1 h]
    · rw [evErr_tie h h', h2 h h']
  have hki : (k : Int) < (q : Int) := by omega
  obtain ⟨bar, v, d, t, tie, L⟩ := y
  dsimp only at c0 c1 c2 c3 c4 c5
  have HS : Hid (sgnB k ⟨bar, v, d, t, tie, L⟩ = (!(!wrB v d t || okB v d t) || (decide (k = 0) && !wrB v d t))) := rfl
  have HT : Hid (tieB k ⟨bar, v, d, t, tie, L⟩ = (tie && (!decide (L.length = 0) || decide (k = 0)))) := rfl
  cases hv : (!wrB v d t || okB v d t) with
  | false =>
    have HV := Lib.hid hv
    clear hv hX
    go_enter Tryd.func64, Tryd.ntmps64
    go_wp2_with (go_at_call 82; refine (validSign_any _ _ _ _).mono ?_; rintro e w1 ⟨rfl, hb1⟩; rw [HV.out])
    go_ret
    exact ⟨ret_int (by rw [HR.out 20 (fun _ => rfl) (fun h => by rw [HS.out, HV.out] at h; simp at h)]), bx (bx hb1)⟩
  | true =>
    have HV := Lib.hid hv
    clear hv
    by_cases hk0 : k = 0
    · subst hk0
      cases hw : wrB v d t with
      | false =>
        have HW := Lib.hid hw
        clear hw hX
        simp only [Nat.zero_mul, Nat.add_zero] at c0 c1 c2 c3 c4 c5
        go_enter Tryd.func64, Tryd.ntmps64
        go_wp2_with (first
          | (go_at_call 82; refine (validSign_any _ _ _ _).mono ?_; rintro e w1 ⟨rfl, hb1⟩; rw [HV.out]; obtain ⟨x0, x1, x2, x3, x4, x5⟩ := cell6 hb1; simp only [World.size_alloc] at x0 x1 x2 x3 x4 x5)
          | (go_at_call 69; refine (written_any _ _ _ _).mono ?_; rintro e w2 ⟨rfl, hb2⟩; rw [HW.out]))
        go_ret
        exact ⟨ret_int (by rw [HR.out 20 (fun _ => rfl) (fun h => by rw [HS.out, HV.out, HW.out] at h; simp at h)]), bx (bx (bt hb1 hb2))⟩
      | true =>
        have HW := Lib.hid hw
        have htt : tie = true := by
          rcases hX with h | ⟨_, h⟩
          · rw [HS.out, HV.out, HW.out] at h; simp at h
          · rw [HT.out] at h; simp at h; exact h
        subst htt
        clear hw hX
        simp only [Nat.zero_mul, Nat.add_zero] at c0 c1 c2 c3 c4 c5
        have HZ : Hid (sgnB 0 ⟨bar, v, d, t, true, L⟩ = false) := by unfold Hid; rw [HS.out, HV.out, HW.out]; rfl
        generalize L.length = N at *
        by_cases hl : N = 0
        · subst hl
          go_enter Tryd.func64, Tryd.ntmps64
          go_wp2_with (first
            | (go_at_call 82; refine (validSign_any _ _ _ _).mono ?_; rintro e w1 ⟨rfl, hb1⟩; rw [HV.out]; obtain ⟨x0, x1, x2, x3, x4, x5⟩ := cell6 hb1; simp only [World.size_alloc] at x0 x1 x2 x3 x4 x5)
            | (go_at_call 69; refine (written_any _ _ _ _).mono ?_; rintro e w2 ⟨rfl, hb2⟩; rw [HW.out]; obtain ⟨y0, y1, y2, y3, y4, y5⟩ := cell6 (bt hb1 hb2); simp only [World.size_alloc] at y0 y1 y2 y3 y4 y5; clear x0 x1 x2 x3 x4 x5))
          go_ret
          exact ⟨ret_int (by rw [HR.out 21 (fun h => by rw [HZ.out] at h; cases h) (fun _ _ => rfl)]), bx (bx (bt hb1 hb2))⟩
        · have hl0 : (0 : Int) < (N : Int) := by omega
          go_enter Tryd.func64, Tryd.ntmps64
          go_wp2_with (first
            | (go_at_call 82; refine (validSign_any _ _ _ _).mono ?_; rintro e w1 ⟨rfl, hb1⟩; rw [HV.out]; obtain ⟨x0, x1, x2, x3, x4, x5⟩ := cell6 hb1; simp only [World.size_alloc] at x0 x1 x2 x3 x4 x5)
            | (go_at_call 69; refine (written_any _ _ _ _).mono ?_; rintro e w2 ⟨rfl, hb2⟩; rw [HW.out]; obtain ⟨y0, y1, y2, y3, y4, y5⟩ := cell6 (bt hb1 hb2); simp only [World.size_alloc] at y0 y1 y2 y3 y4 y5; clear x0 x1 x2 x3 x4 x5))
          go_ret
          exact ⟨ret_int (by rw [HR.out 21 (fun h => by rw [HZ.out] at h; cases h) (fun _ _ => rfl)]), bx (bx (bt hb1 hb2))⟩
    · have hkz : ((k : Int) == 0) = false := by simpa using hk0
      have HK : Hid (decide (k = 0) = false) := by simpa [Hid] using hk0
      have hx : tie = true ∧ ¬ L.length = 0 := by
        rcases hX with h | ⟨_, h⟩
        · rw [HS.out, HV.out, HK.out] at h; simp at h
        · rw [HT.out, HK.out] at h; simp at h
          exact ⟨h.1, by simpa using h.2⟩
      obtain ⟨htt, hl⟩ := hx
      subst htt
      clear hX
      generalize L.length = N at *
      have hl0 : 0 < N := by omega
      have hl1 : (0 : Int) < (N : Int) := by omega
      have HZ : Hid (sgnB k ⟨bar, v, d, t, true, L⟩ = false) := by unfold Hid; rw [HS.out, HV.out, HK.out]; rfl
      clear hl
      go_enter Tryd.func64, Tryd.ntmps64
      go_wp2_with (go_at_call 82; refine (validSign_any _ _ _ _).mono ?_; rintro e w1 ⟨rfl, hb1⟩; rw [HV.out]; obtain ⟨x0, x1, x2, x3, x4, x5⟩ := cell6 hb1; simp only [World.size_alloc] at x0 x1 x2 x3 x4 x5)
      go_ret
      exact ⟨ret_int (by rw [HR.out 21 (fun h => by rw [HZ.out] at h; cases h) (fun _ _ => rfl)]), bx (bx hb1)⟩

end Go.Proofs.YtdhjigaocamglaaDoor

/- Pieces: the first error of an event whose sign and tie are right. -/
namespace Go.Proofs.YtdhjigaocamglaaDoor
open Go Go.RowKit

set_option maxRecDepth 100000 in
set_option maxHeartbeats 4000000 in
theorem checkEvent_ok (A : Option Addr) (n c : Nat) (A' : Option Addr) (m c' : Nat) (A2 : Option Addr) (q cq : Nat) (C : List Cr) (P : List EvP) (k : Nat) (hk : k < q) (w : World) (hC : Sl w w.heap.size 3 A n c (crC C)) (hn : n = C.length) (hnb : n ≤ 1000000)
    (hE : EsIn w A2 q cq P) (hq : q ≤ 1000000) (hst : ∀ y ∈ P, y.L.length ≤ 1000000) (hs : sgnB k (P.getD k z6) = false) (ht : tieB k (P.getD k z6) = false) :
    Calls Tryd.prog 64 #[pcV A n c A' m c' A2 q cq, .int .i64 k] w fun e w' => e = .returned (.int .i64 (evErr C P k (P.getD k z6))) ∧ Below w.heap.size w w' := by
  have HX := Lib.hid (evErr_sts (C := C) (P := P) hs ht)
  have hb0 := ba w (pcO A n c A' m c' A2 q cq)
  obtain ⟨b, off, sa, sc, rfl, hbl, hPk, hd, ⟨c0, c1, c2, c3, c4, c5⟩, hS⟩ := (hE.below hb0).at hk
  have HS := Lib.hid (And.intro hS (evs_len hPk hst))
  have HE : Hid (∀ w', Below w.heap.size w w' → EsIn w' (some ⟨b, off, none⟩) q cq P ∧ Sl w' w'.heap.size 3 A n c (crC C)) := fun w' hb => ⟨hE.below hb, hC.below hb⟩
  have HST := Lib.hid (And.intro hst hn)
  clear hE hC hst hPk hd hS hb0 hn
  generalize P.getD k z6 = y at *
  obtain ⟨bar, v, d, t, tie, L⟩ := y
  dsimp only at c0 c1 c2 c3 c4 c5 HS HX
  have hki : (k : Int) < (q : Int) := by omega
  have HSG : Hid (sgnB k ⟨bar, v, d, t, tie, L⟩ = (!(!wrB v d t || okB v d t) || (decide (k = 0) && !wrB v d t))) := rfl
  have HTI : Hid (tieB k ⟨bar, v, d, t, tie, L⟩ = (tie && (!decide (L.length = 0) || decide (k = 0)))) := rfl
  have hv : (!wrB v d t || okB v d t) = true := by
    rw [HSG.out] at hs
    cases h : (!wrB v d t || okB v d t)
    · rw [h] at hs; simp at hs
    · rfl
  have HV := Lib.hid hv
  have HW : Hid (k = 0 → wrB v d t = true) := fun h => by
    rw [HSG.out, hv] at hs
    subst h
    simpa using hs
  have HN := Lib.hid (rfl : L.length = L.length)
  have HQ : Hid (tie = true → L.length = 0 ∧ ¬ k = 0) := fun h => by
    rw [HTI.out, h] at ht
    simpa using ht
  clear hv hs ht HSG HTI
  obtain ⟨N, hN⟩ : ∃ N, L.length = N := ⟨_, rfl⟩
  rw [hN] at c5 HS HQ
  have HL := Lib.hid hN
  have hNb := HS.out.2
  clear hN HN
  have hcase : (k = 0 ∧ tie = false) ∨ (¬ k = 0 ∧ tie = false) ∨ (¬ k = 0 ∧ tie = true ∧ N = 0) := by
    cases tie
    · by_cases h : k = 0
      · exact .inl ⟨h, rfl⟩
      · exact .inr (.inl ⟨h, rfl⟩)
    · obtain ⟨h1, h2⟩ := HQ.out rfl
      exact .inr (.inr ⟨h2, rfl, h1⟩)
  clear HQ
  rcases hcase with ⟨rfl, rfl⟩ | ⟨hk0, rfl⟩ | ⟨hk0, rfl, rfl⟩
  · have HW1 := Lib.hid (HW.out rfl)
    simp only [Nat.zero_mul, Nat.add_zero] at c0 c1 c2 c3 c4 c5
    clear HW
    go_enter Tryd.func64, Tryd.ntmps64
    go_wp2_with (first
      | (go_at_call 82; refine (validSign_any _ _ _ _).mono ?_; rintro e wz ⟨rfl, hbz⟩; rw [HV.out]; obtain ⟨x0, x1, x2, x3, x4, x5⟩ := cell6 hbz; simp only [World.size_alloc] at x0 x1 x2 x3 x4 x5)
      | (go_at_call 69; refine (written_any _ _ _ _).mono ?_; rintro e wz ⟨rfl, hbn⟩; rw [HW1.out]; replace hbz := bt hbz hbn; clear hbn; obtain ⟨x0, x1, x2, x3, x4, x5⟩ := cell6 hbz; simp only [World.size_alloc] at x0 x1 x2 x3 x4 x5))
    have T0 := Lib.hid (bx hbz)
    clear hbz x0 x1 x2 x3 x4
    go_loopw [6, 44] (fun bf i wr => ∃ (j : Nat) (bv : Int), j ≤ N ∧ i = .int .i64 j ∧ bf = .int .i64 bv ∧ stsErr C P 0 0 L = stsErr C P 0 bv (L.drop j) ∧ Below (w.alloc (pcO A n c A' m c' (some ⟨b, off, none⟩) q cq)).heap.size (w.alloc (pcO A n c A' m c' (some ⟨b, off, none⟩) q cq)) wr) (fun _ i _ => N - (intOf i).toNat)
    case atStart => exact ⟨0, 0, by omega, rfl, rfl, rfl, T0.out⟩
    case round =>
      obtain ⟨j, bv, hj, rfl, rfl, hr, hbw⟩ := hrel
      have HR := Lib.hid hr
      have HB := Lib.hid hbw
      obtain ⟨p0, p1, p2⟩ := cell3 hbw
      have hz : w.heap.size < wr.heap.size := by have := hbw.size; simp at this; omega
      clear hr hbw
      by_cases hlt : j < N
      · obtain ⟨sb, so, rfl, hsb, hsd, _, d0, d1, d2, d3, d4⟩ := st_at (HS.out.1.below HB.out) HL.out.symm hlt
        have HD := Lib.hid hsd
        clear hsd
        generalize L.getD j z5 = s at *
        obtain ⟨X, hX⟩ : ∃ X, stErr C P 0 bv s = X := ⟨_, rfl⟩
        by_cases hX0 : X = 0
        · subst hX0
          have HG := Lib.hid (stsErr_go HD.out hX)
          have HX0 := Lib.hid hX
          clear hX
          go_wp2_with (go_at_call 85; refine (checkStop_any A n c A' m c' _ q cq C P 0 bv s _ (HE.out _ (bx (bt HB.out (ba _ _)))).2 HST.out.2 hnb (HE.out _ (bx (bt HB.out (ba _ _)))).1 hq HST.out.1).mono ?_; rintro e w4 ⟨rfl, hb4⟩; rw [HX0.out]; obtain ⟨z0, _⟩ := cell5 hb4)
          go_roundw
          case rel => exact ⟨j + 1, s.c, by omega, by first | rfl | go_num, by first | rfl | go_num, by rw [HR.out, HG.out], bt HB.out (bx hb4)⟩
          case measure => simp [intOf]; omega
        · have HG := Lib.hid (stsErr_stop HD.out hX hX0)
          have HX0 := Lib.hid hX
          have hXb : (X != 0) = true := by simpa using hX0
          clear hX hX0
          go_wp2_with (go_at_call 85; refine (checkStop_any A n c A' m c' _ q cq C P 0 bv s _ (HE.out _ (bx (bt HB.out (ba _ _)))).2 HST.out.2 hnb (HE.out _ (bx (bt HB.out (ba _ _)))).1 hq HST.out.1).mono ?_; rintro e w4 ⟨rfl, hb4⟩; rw [HX0.out])
          go_ret
          exact ⟨ret_int (by rw [HX.out, HR.out, HG.out]), bx (bt HB.out (bx hb4))⟩
      · go_wp2_with (fail)
        go_ret
        exact ⟨ret_int (by rw [HX.out, HR.out, List.drop_of_length_le (by have := HL.out; omega)]; rfl), bx HB.out⟩
  · have hkz : ((k : Int) == 0) = false := by simpa using hk0
    clear HW
    go_enter Tryd.func64, Tryd.ntmps64
    go_wp2_with (go_at_call 82; refine (validSign_any _ _ _ _).mono ?_; rintro e wz ⟨rfl, hbz⟩; rw [HV.out]; obtain ⟨x0, x1, x2, x3, x4, x5⟩ := cell6 hbz; simp only [World.size_alloc] at x0 x1 x2 x3 x4 x5)
    have T0 := Lib.hid (bx hbz)
    clear hbz x0 x1 x2 x3 x4
    go_loopw [6, 44] (fun bf i wr => ∃ (j : Nat) (bv : Int), j ≤ N ∧ i = .int .i64 j ∧ bf = .int .i64 bv ∧ stsErr C P k 0 L = stsErr C P k bv (L.drop j) ∧ Below (w.alloc (pcO A n c A' m c' (some ⟨b, off, none⟩) q cq)).heap.size (w.alloc (pcO A n c A' m c' (some ⟨b, off, none⟩) q cq)) wr) (fun _ i _ => N - (intOf i).toNat)
    case atStart => exact ⟨0, 0, by omega, rfl, rfl, rfl, T0.out⟩
    case round =>
      obtain ⟨j, bv, hj, rfl, rfl, hr, hbw⟩ := hrel
      have HR := Lib.hid hr
      have HB := Lib.hid hbw
      obtain ⟨p0, p1, p2⟩ := cell3 hbw
      have hz : w.heap.size < wr.heap.size := by have := hbw.size; simp at this; omega
      clear hr hbw
      by_cases hlt : j < N
      · obtain ⟨sb, so, rfl, hsb, hsd, _, d0, d1, d2, d3, d4⟩ := st_at (HS.out.1.below HB.out) HL.out.symm hlt
        have HD := Lib.hid hsd
        clear hsd
        generalize L.getD j z5 = s at *
        obtain ⟨X, hX⟩ : ∃ X, stErr C P k bv s = X := ⟨_, rfl⟩
        by_cases hX0 : X = 0
        · subst hX0
          have HG := Lib.hid (stsErr_go HD.out hX)
          have HX0 := Lib.hid hX
          clear hX
          go_wp2_with (go_at_call 85; refine (checkStop_any A n c A' m c' _ q cq C P k bv s _ (HE.out _ (bx (bt HB.out (ba _ _)))).2 HST.out.2 hnb (HE.out _ (bx (bt HB.out (ba _ _)))).1 hq HST.out.1).mono ?_; rintro e w4 ⟨rfl, hb4⟩; rw [HX0.out]; obtain ⟨z0, _⟩ := cell5 hb4)
          go_roundw
          case rel => exact ⟨j + 1, s.c, by omega, by first | rfl | go_num, by first | rfl | go_num, by rw [HR.out, HG.out], bt HB.out (bx hb4)⟩
          case measure => simp [intOf]; omega
        · have HG := Lib.hid (stsErr_stop HD.out hX hX0)
          have HX0 := Lib.hid hX
          have hXb : (X != 0) = true := by simpa using hX0
          clear hX hX0
          go_wp2_with (go_at_call 85; refine (checkStop_any A n c A' m c' _ q cq C P k bv s _ (HE.out _ (bx (bt HB.out (ba _ _)))).2 HST.out.2 hnb (HE.out _ (bx (bt HB.out (ba _ _)))).1 hq HST.out.1).mono ?_; rintro e w4 ⟨rfl, hb4⟩; rw [HX0.out])
          go_ret
          exact ⟨ret_int (by rw [HX.out, HR.out, HG.out]), bx (bt HB.out (bx hb4))⟩
      · go_wp2_with (fail)
        go_ret
        exact ⟨ret_int (by rw [HX.out, HR.out, List.drop_of_length_le (by have := HL.out; omega)]; rfl), bx HB.out⟩
  · have hkz : ((k : Int) == 0) = false := by simpa using hk0
    have HZ : Hid (stsErr C P k 0 L = 0) := by unfold Hid; rw [List.length_eq_zero_iff.1 HL.out]; rfl
    clear HW
    go_enter Tryd.func64, Tryd.ntmps64
    go_wp2_with (go_at_call 82; refine (validSign_any _ _ _ _).mono ?_; rintro e wz ⟨rfl, hbz⟩; rw [HV.out]; obtain ⟨x0, x1, x2, x3, x4, x5⟩ := cell6 hbz; simp only [World.size_alloc] at x0 x1 x2 x3 x4 x5)
    refine wp_loop_rounds 1 ?_
    rw [rounds_succ]
    go_wp2_with (fail)
    go_ret
    exact ⟨ret_int (by rw [HX.out, HZ.out]), bx (bx hbz)⟩

end Go.Proofs.YtdhjigaocamglaaDoor

/- Pieces: Check, for any piece. -/
namespace Go.Proofs.YtdhjigaocamglaaDoor
open Go Go.RowKit

theorem checkEvent_any (A : Option Addr) (n c : Nat) (A' : Option Addr) (m c' : Nat) (A2 : Option Addr) (q cq : Nat) (C : List Cr) (P : List EvP) (k : Nat) (hk : k < q) (w : World) (hC : Sl w w.heap.size 3 A n c (crC C)) (hn : n = C.length) (hnb : n ≤ 1000000)
    (hE : EsIn w A2 q cq P) (hq : q ≤ 1000000) (hst : ∀ y ∈ P, y.L.length ≤ 1000000) :
    Calls Tryd.prog 64 #[pcV A n c A' m c' A2 q cq, .int .i64 k] w fun e w' => e = .returned (.int .i64 (evErr C P k (P.getD k z6))) ∧ Below w.heap.size w w' := by
  cases h1 : sgnB k (P.getD k z6) with
  | true => exact checkEvent_bad A n c A' m c' A2 q cq C P k hk w hE (.inl h1)
  | false =>
    cases h2 : tieB k (P.getD k z6) with
    | true => exact checkEvent_bad A n c A' m c' A2 q cq C P k hk w hE (.inr ⟨h1, h2⟩)
    | false => exact checkEvent_ok A n c A' m c' A2 q cq C P k hk w hC hn hnb hE hq hst h1 h2
theorem evs_go {C : List Cr} {P : List EvP} {k : Nat} {y : EvP} (hd : P.drop k = y :: P.drop (k + 1)) (h : evErr C P k y = 0) : evsErr C P k (P.drop k) = evsErr C P (k + 1) (P.drop (k + 1)) := by rw [hd, evsErr, if_pos h]
theorem evs_stop {C : List Cr} {P : List EvP} {k : Nat} {y : EvP} {x : Int} (hd : P.drop k = y :: P.drop (k + 1)) (hx : evErr C P k y = x) (h : x ≠ 0) : evsErr C P k (P.drop k) = x := by rw [hd, evsErr, if_neg (by rw [hx]; exact h), hx]
theorem pcErr_in {C : List Cr} {S : List Int} {P : List EvP} {x : Int} (h : chk C S = x) (hx : x ≠ 0) : pcErr C S P = x := by rw [pcErr, if_pos (by rw [h]; exact hx), h]
theorem pcErr_many {C : List Cr} {S : List Int} {P : List EvP} (h : chk C S = 0) (hx : 400 < P.length) : pcErr C S P = 2 := by rw [pcErr, if_neg (by simp [h]), if_pos hx]
theorem pcErr_evs {C : List Cr} {S : List Int} {P : List EvP} (h : chk C S = 0) (hx : ¬ 400 < P.length) : pcErr C S P = evsErr C P 0 P := by rw [pcErr, if_neg (by simp [h]), if_neg hx]

set_option maxRecDepth 100000 in
set_option maxHeartbeats 3200000 in
theorem pcheck_any (A : Option Addr) (n c : Nat) (A' : Option Addr) (m c' : Nat) (A2 : Option Addr) (q cq : Nat) (C : List Cr) (S : List Int) (P : List EvP) (w : World) (hP : PcIn w A n c A' m c' A2 q cq C S P) (hnb : n ≤ 1000000) (hmb : m ≤ 1000000) (hq : q ≤ 1000000) (hst : ∀ y ∈ P, y.L.length ≤ 1000000) :
    Calls Tryd.prog 35 #[pcV A n c A' m c' A2 q cq] w fun e w' => e = .returned (.int .i64 (pcErr C S P)) ∧ Below w.heap.size w w' := by
  have HI := Lib.hid (hP.below (ba w (pcO A n c A' m c' A2 q cq)))
  have HP : Hid (∀ w', Below w.heap.size w w' → PcIn w' A n c A' m c' A2 q cq C S P) := fun w' hb => hP.below hb
  have HL := Lib.hid hP.es.hq
  have HST := Lib.hid hst
  clear hP hst
  obtain ⟨X, hX⟩ : ∃ X, chk C S = X := ⟨_, rfl⟩
  by_cases hX0 : X = 0
  · subst hX0
    have HX := Lib.hid hX
    clear hX
    by_cases h400 : (400 : Int) < (q : Int)
    · have HR := Lib.hid (pcErr_many (P := P) HX.out (by have := HL.out; omega))
      go_enter Tryd.func35, Tryd.ntmps35
      go_wp2_with (go_at_call 63; refine (check_any A A' n c m c' C S _ HI.out.crs HI.out.stp HI.out.hn HI.out.hm (by omega) (by omega)).mono ?_; rintro e w1 ⟨rfl, hb1⟩; rw [HX.out]; obtain ⟨p0, p1, p2⟩ := cell3 hb1)
      go_ret
      exact ⟨ret_int HR.out.symm, bx hb1⟩
    · have HR := Lib.hid (pcErr_evs (P := P) HX.out (by have := HL.out; omega))
      go_enter Tryd.func35, Tryd.ntmps35
      go_wp2_with (go_at_call 63; refine (check_any A A' n c m c' C S _ HI.out.crs HI.out.stp HI.out.hn HI.out.hm (by omega) (by omega)).mono ?_; rintro e w1 ⟨rfl, hb1⟩; rw [HX.out]; obtain ⟨p0, p1, p2⟩ := cell3 hb1)
      have HB1 := Lib.hid hb1
      clear hb1
      go_loopw [19] (fun i wr => ∃ j : Nat, j ≤ q ∧ i = .int .i64 j ∧ evsErr C P 0 P = evsErr C P j (P.drop j) ∧ Below (w.alloc (pcO A n c A' m c' A2 q cq)).heap.size (w.alloc (pcO A n c A' m c' A2 q cq)) wr) (fun i _ => q - (intOf i).toNat)
      case atStart => exact ⟨0, by omega, rfl, rfl, HB1.out⟩
      case round =>
        obtain ⟨j, hj, rfl, hr, hbw⟩ := hrel
        have HE := Lib.hid hr
        have HB := Lib.hid hbw
        obtain ⟨r0, r1, r2⟩ := cell3 hbw
        clear hr hbw
        by_cases hlt : j < q
        · have HD := Lib.hid (drop_consE P j (by have := HL.out; omega))
          have HQ := Lib.hid (HP.out _ (bx HB.out))
          obtain ⟨Y, hY⟩ : ∃ Y, evErr C P j (P.getD j z6) = Y := ⟨_, rfl⟩
          by_cases hY0 : Y = 0
          · subst hY0
            have HY := Lib.hid hY
            clear hY
            go_wp2_with (go_at_call 64; refine (checkEvent_any A n c A' m c' A2 q cq C P j hlt _ HQ.out.crs HQ.out.hn hnb HQ.out.es hq HST.out).mono ?_; rintro e w2 ⟨rfl, hb2⟩; rw [HY.out])
            go_roundw
            case rel => exact ⟨j + 1, by omega, by first | rfl | go_num, by rw [HE.out, evs_go HD.out HY.out], bt HB.out hb2⟩
            case measure => simp [intOf]; omega
          · have HY := Lib.hid hY
            have hYb : (Y != 0) = true := by simpa using hY0
            have HYn := Lib.hid hY0
            clear hY hY0
            go_wp2_with (go_at_call 64; refine (checkEvent_any A n c A' m c' A2 q cq C P j hlt _ HQ.out.crs HQ.out.hn hnb HQ.out.es hq HST.out).mono ?_; rintro e w2 ⟨rfl, hb2⟩; rw [HY.out])
            go_ret
            exact ⟨ret_int (by rw [HR.out, HE.out, evs_stop HD.out HY.out HYn.out]), bx (bt HB.out hb2)⟩
        · go_wp2_with (fail)
          go_ret
          exact ⟨ret_int (by rw [HR.out, HE.out, List.drop_of_length_le (by have := HL.out; omega)]; rfl), bx HB.out⟩
  · have HR := Lib.hid (pcErr_in (P := P) hX hX0)
    have HX := Lib.hid hX
    have hXb : (X != 0) = true := by simpa using hX0
    clear hX hX0
    go_enter Tryd.func35, Tryd.ntmps35
    go_wp2_with (go_at_call 63; refine (check_any A A' n c m c' C S _ HI.out.crs HI.out.stp HI.out.hn HI.out.hm (by omega) (by omega)).mono ?_; rintro e w1 ⟨rfl, hb1⟩; rw [HX.out])
    go_ret
    exact ⟨ret_int HR.out.symm, bx hb1⟩

end Go.Proofs.YtdhjigaocamglaaDoor
