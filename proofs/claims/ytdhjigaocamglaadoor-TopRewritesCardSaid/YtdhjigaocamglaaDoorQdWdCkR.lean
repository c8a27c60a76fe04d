/- Pieces: the reference's first error of an event whose sign or tie is wrong; of any event; of a piece. -/
import Derived.Test.YtdhjigaocamglaaDoorQdPcMeas2
import Derived.Test.YtdhjigaocamglaaDoorQdTkR
import Derived.Test.YtdhjigaocamglaaDoorQdWdEvR
import Derived.Test.YtdhjigaocamglaaDoorQdWdEvR2
import Derived.Test.YtdhjigaocamglaaDoorQdPcCk
import Derived.Test.YtdhjigaocamglaaDoorQdInst
namespace Go.Proofs.YtdhjigaocamglaaDoor
open Go Go.RowKit

set_option maxRecDepth 100000 in
set_option maxHeartbeats 4000000 in
theorem rEvent_bad_wide (A : Option Addr) (n c : Nat) (A' : Option Addr) (m c' : Nat) (A2 : Option Addr) (q cq : Nat) (C : List Cr) (P : List EvP) (k : Nat) (hk : k < q) (w : World)
    (hE : EsIn w A2 q cq P) (hX : sgnB k (P.getD k z6) = true ∨ (sgnB k (P.getD k z6) = false ∧ tieB k (P.getD k z6) = true)) :
    Calls Tryd.prog 56 #[pcV A n c A' m c' A2 q cq, .int .i64 k] w fun e w' => e = .returned (.int .i64 (evErr C P k (P.getD k z6))) ∧ Below w.heap.size w w' := by
  obtain ⟨b, off, sa, sc, rfl, hbl, hPk, hd, ⟨c0, c1, c2, c3, c4, c5⟩, _⟩ := (hE.below (ba w (pcO A n c A' m c' A2 q cq))).at hk
  clear hE hPk hd
  generalize P.getD k z6 = y at *
  have HR : Hid (∀ x, (sgnB k y = true → x = 20) → (sgnB k y = false → tieB k y = true → x = 21) → evErr C P k y = x) := fun x h1 h2 => by
    rcases hX with h | ⟨h, h'⟩
    · rw [evErr_sgn h, h1 h]
    · rw [evErr_tie h h', h2 h h']
  have hki : (k : Int) < (q : Int) := by omega
  obtain ⟨bar, v, d, t, tie, L⟩ := y
  dsimp only at c0 c1 c2 c3 c4 c5
  have HS : Hid (sgnB k ⟨bar, v, d, t, tie, L⟩ = (!(!wrB v d t || okB v d t) || (decide (k = 0) && !wrB v d t))) := rfl
  have HT : Hid (tieB k ⟨bar, v, d, t, tie, L⟩ = (tie && (!decide (L.length = 0) || decide (k = 0)))) := rfl
  cases hv : (!wrB v d t || okB v d t) with
  | false =>
    have HV := Lib.hid hv
    clear hv hX
    go_enter Tryd.func56, Tryd.ntmps56
    go_wp2_with (go_at_call 72; refine (rRight_any _ _ _ _).mono ?_; rintro e w1 ⟨rfl, hb1⟩; rw [HV.out])
    go_ret
    exact ⟨ret_int (by rw [HR.out 20 (fun _ => rfl) (fun h => by rw [HS.out, HV.out] at h; simp at h)]), bx (bx hb1)⟩
  | true =>
    have HV := Lib.hid hv
    clear hv
    by_cases hk0 : k = 0
    · subst hk0
      cases hw : wrB v d t with
      | false =>
        have HW := Lib.hid hw
        obtain rfl : v = 0 := by simp [wrB] at hw; exact hw.1.1
        clear hw hX
        simp only [Nat.zero_mul, Nat.add_zero] at c0 c1 c2 c3 c4 c5
        go_enter Tryd.func56, Tryd.ntmps56
        go_wp2_with (go_at_call 72; refine (rRight_any _ _ _ _).mono ?_; rintro e w1 ⟨rfl, hb1⟩; rw [HV.out]; obtain ⟨x0, x1, x2, x3, x4, x5⟩ := cell6 hb1; simp only [World.size_alloc] at x0 x1 x2 x3 x4 x5)
        go_ret
        exact ⟨ret_int (by rw [HR.out 20 (fun _ => rfl) (fun h => by rw [HS.out, HV.out, HW.out] at h; simp at h)]), bx (bx (hb1))⟩
      | true =>
        have HW := Lib.hid hw
        have htt : tie = true := by
          rcases hX with h | ⟨_, h⟩
          · rw [HS.out, HV.out, HW.out] at h; simp at h
          · rw [HT.out] at h; simp at h; exact h
        subst htt
        have hv1 : 1 ≤ v := by
          have h := HV.out
          rw [hw] at h
          simp [okB] at h
          exact h.1.1
        have hv0 : (v == 0) = false := by simp; omega
        clear hw hX
        simp only [Nat.zero_mul, Nat.add_zero] at c0 c1 c2 c3 c4 c5
        have HZ : Hid (sgnB 0 ⟨bar, v, d, t, true, L⟩ = false) := by unfold Hid; rw [HS.out, HV.out, HW.out]; rfl
        generalize L.length = N at *
        by_cases hl : N = 0
        · subst hl
          go_enter Tryd.func56, Tryd.ntmps56
          go_wp2_with (go_at_call 72; refine (rRight_any _ _ _ _).mono ?_; rintro e w1 ⟨rfl, hb1⟩; rw [HV.out]; obtain ⟨x0, x1, x2, x3, x4, x5⟩ := cell6 hb1; simp only [World.size_alloc] at x0 x1 x2 x3 x4 x5)
          go_ret
          exact ⟨ret_int (by rw [HR.out 21 (fun h => by rw [HZ.out] at h; cases h) (fun _ _ => rfl)]), bx (bx (hb1))⟩
        · have hl0 : (0 : Int) < (N : Int) := by omega
          go_enter Tryd.func56, Tryd.ntmps56
          go_wp2_with (go_at_call 72; refine (rRight_any _ _ _ _).mono ?_; rintro e w1 ⟨rfl, hb1⟩; rw [HV.out]; obtain ⟨x0, x1, x2, x3, x4, x5⟩ := cell6 hb1; simp only [World.size_alloc] at x0 x1 x2 x3 x4 x5)
          go_ret
          exact ⟨ret_int (by rw [HR.out 21 (fun h => by rw [HZ.out] at h; cases h) (fun _ _ => rfl)]), bx (bx (hb1))⟩
    · have hkz : ((k : Int) == 0) = false := by simpa using hk0
      have HK : Hid (decide (k = 0) = false) := by simpa [Hid] using hk0
      have hx : tie = true ∧ ¬ L.length = 0 := by
        rcases hX with h | ⟨_, h⟩
        · rw [HS.out, HV.out, HK.out] at h; simp at h
        · rw [HT.out, HK.out] at h; simp at h
          exact ⟨h.1, by simpa using h.2⟩
      obtain ⟨htt, hl⟩ := hx
      subst htt
      clear hX
      generalize L.length = N at *
      have hl0 : 0 < N := by omega
      have hl1 : (0 : Int) < (N : Int) := by omega
      have HZ : Hid (sgnB k ⟨bar, v, d, t, true, L⟩ = false) := by unfold Hid; rw [HS.out, HV.out, HK.out]; rfl
      clear hl
      go_enter Tryd.func56, Tryd.ntmps56
      go_wp2_with (go_at_call 72; refine (rRight_any _ _ _ _).mono ?_; rintro e w1 ⟨rfl, hb1⟩; rw [HV.out]; obtain ⟨x0, x1, x2, x3, x4, x5⟩ := cell6 hb1; simp only [World.size_alloc] at x0 x1 x2 x3 x4 x5)
      go_ret
      exact ⟨ret_int (by rw [HR.out 21 (fun h => by rw [HZ.out] at h; cases h) (fun _ _ => rfl)]), bx (bx hb1)⟩

end Go.Proofs.YtdhjigaocamglaaDoor

/- Pieces: the reference's Check, for any piece. -/
namespace Go.Proofs.YtdhjigaocamglaaDoor
open Go Go.RowKit

theorem rEvent_wide (A : Option Addr) (n c : Nat) (A' : Option Addr) (m c' : Nat) (A2 : Option Addr) (q cq : Nat) (C : List Cr) (P : List EvP) (k : Nat) (hk : k < q) (w : World) (hC : Sl w w.heap.size 3 A n c (crC C)) (hn : n = C.length) (hnb : n ≤ 1000000)
    (hE : EsIn w A2 q cq P) (hq : q ≤ 1000000) (hst : ∀ y ∈ P, y.L.length ≤ 9223372036854775807) :
    Calls Tryd.prog 56 #[pcV A n c A' m c' A2 q cq, .int .i64 k] w fun e w' => e = .returned (.int .i64 (evErr C P k (P.getD k z6))) ∧ Below w.heap.size w w' := by
  cases h1 : sgnB k (P.getD k z6) with
  | true => exact rEvent_bad_wide A n c A' m c' A2 q cq C P k hk w hE (.inl h1)
  | false =>
    cases h2 : tieB k (P.getD k z6) with
    | true => exact rEvent_bad_wide A n c A' m c' A2 q cq C P k hk w hE (.inr ⟨h1, h2⟩)
    | false =>
      by_cases hk0 : k = 0
      · exact rEvent_first_wide A n c A' m c' A2 q cq C P k hk w hC hn hnb hE hq hst h1 h2 hk0
      · cases h3 : (P.getD k z6).tie with
        | true => exact rEvent_tied_wide A n c A' m c' A2 q cq C P k hk w hE hst h1 h2 hk0 h3
        | false => exact rEvent_later_wide A n c A' m c' A2 q cq C P k hk w hC hn hnb hE hq hst h1 h2 hk0 h3
set_option maxRecDepth 100000 in
set_option maxHeartbeats 3200000 in
theorem rpcheck_wide (A : Option Addr) (n c : Nat) (A' : Option Addr) (m c' : Nat) (A2 : Option Addr) (q cq : Nat) (C : List Cr) (S : List Int) (P : List EvP) (w : World) (hP : PcIn w A n c A' m c' A2 q cq C S P) (hnb : n ≤ 1000000) (hmb : m ≤ 1000000) (hq : q ≤ 1000000) (hst : ∀ y ∈ P, y.L.length ≤ 9223372036854775807) :
    Calls Tryd.prog 23 #[pcV A n c A' m c' A2 q cq] w fun e w' => e = .returned (.int .i64 (pcErr C S P)) ∧ Below w.heap.size w w' := by
  have HI := Lib.hid (hP.below (ba w (pcO A n c A' m c' A2 q cq)))
  have HP : Hid (∀ w', Below w.heap.size w w' → PcIn w' A n c A' m c' A2 q cq C S P) := fun w' hb => hP.below hb
  have HL := Lib.hid hP.es.hq
  have HST := Lib.hid hst
  clear hP hst
  obtain ⟨X, hX⟩ : ∃ X, chk C S = X := ⟨_, rfl⟩
  by_cases hX0 : X = 0
  · subst hX0
    have HX := Lib.hid hX
    clear hX
    by_cases h400 : (400 : Int) < (q : Int)
    · have HR := Lib.hid (pcErr_many (P := P) HX.out (by have := HL.out; omega))
      go_enter Tryd.func23, Tryd.ntmps23
      go_wp2_with (go_at_call 55; refine (rcheck_any A A' n c m c' C S _ HI.out.crs HI.out.stp HI.out.hn HI.out.hm (by omega) (by omega)).mono ?_; rintro e w1 ⟨rfl, hb1⟩; rw [HX.out]; obtain ⟨p0, p1, p2⟩ := cell3 hb1)
      go_ret
      exact ⟨ret_int HR.out.symm, bx hb1⟩
    · have HR := Lib.hid (pcErr_evs (P := P) HX.out (by have := HL.out; omega))
      go_enter Tryd.func23, Tryd.ntmps23
      go_wp2_with (go_at_call 55; refine (rcheck_any A A' n c m c' C S _ HI.out.crs HI.out.stp HI.out.hn HI.out.hm (by omega) (by omega)).mono ?_; rintro e w1 ⟨rfl, hb1⟩; rw [HX.out]; obtain ⟨p0, p1, p2⟩ := cell3 hb1)
      have HB1 := Lib.hid hb1
      clear hb1
      go_loopw [4] (fun i wr => ∃ j : Nat, j ≤ q ∧ i = .int .i64 j ∧ evsErr C P 0 P = evsErr C P j (P.drop j) ∧ Below (w.alloc (pcO A n c A' m c' A2 q cq)).heap.size (w.alloc (pcO A n c A' m c' A2 q cq)) wr) (fun i _ => q - (intOf i).toNat)
      case atStart => exact ⟨0, by omega, rfl, rfl, HB1.out⟩
      case round =>
        obtain ⟨j, hj, rfl, hr, hbw⟩ := hrel
        have HE := Lib.hid hr
        have HB := Lib.hid hbw
        obtain ⟨r0, r1, r2⟩ := cell3 hbw
        clear hr hbw
        by_cases hlt : j < q
        · have HD := Lib.hid (drop_consE P j (by have := HL.out; omega))
          have HQ := Lib.hid (HP.out _ (bx HB.out))
          obtain ⟨Y, hY⟩ : ∃ Y, evErr C P j (P.getD j z6) = Y := ⟨_, rfl⟩
          by_cases hY0 : Y = 0
          · subst hY0
            have HY := Lib.hid hY
            clear hY
            go_wp2_with (go_at_call 56; refine (rEvent_wide A n c A' m c' A2 q cq C P j hlt _ HQ.out.crs HQ.out.hn hnb HQ.out.es hq HST.out).mono ?_; rintro e w2 ⟨rfl, hb2⟩; rw [HY.out])
            go_roundw
            case rel => exact ⟨j + 1, by omega, by first | rfl | go_num, by rw [HE.out, evs_go HD.out HY.out], bt HB.out hb2⟩
            case measure => simp [intOf]; omega
          · have HY := Lib.hid hY
            have hYb : (Y != 0) = true := by simpa using hY0
            have HYn := Lib.hid hY0
            clear hY hY0
            go_wp2_with (go_at_call 56; refine (rEvent_wide A n c A' m c' A2 q cq C P j hlt _ HQ.out.crs HQ.out.hn hnb HQ.out.es hq HST.out).mono ?_; rintro e w2 ⟨rfl, hb2⟩; rw [HY.out])
            go_ret
            exact ⟨ret_int (by rw [HR.out, HE.out, evs_stop HD.out HY.out HYn.out]), bx (bt HB.out hb2)⟩
        · go_wp2_with (fail)
          go_ret
          exact ⟨ret_int (by rw [HR.out, HE.out, List.drop_of_length_le (by have := HL.out; omega)]; rfl), bx HB.out⟩
  · have HR := Lib.hid (pcErr_in (P := P) hX hX0)
    have HX := Lib.hid hX
    have hXb : (X != 0) = true := by simpa using hX0
    clear hX hX0
    go_enter Tryd.func23, Tryd.ntmps23
    go_wp2_with (go_at_call 55; refine (rcheck_any A A' n c m c' C S _ HI.out.crs HI.out.stp HI.out.hn HI.out.hm (by omega) (by omega)).mono ?_; rintro e w1 ⟨rfl, hb1⟩; rw [HX.out])
    go_ret
    exact ⟨ret_int HR.out.symm, bx hb1⟩

end Go.Proofs.YtdhjigaocamglaaDoor
