/- Notation: the line, as the reference tells it. -/
import Derived.Test.YtdaeanjjmbibmaaNtLine
namespace Go.Proofs.Ytdaeanjjmbibmaa
open Go.RowKit Go.Sort

set_option maxHeartbeats 1600000 in
theorem rstaff_any (A A' : Option Addr) (n c m c' : Nat) (w : World) : Calls Try.prog 28 #[.agg #[.slice A n c, .slice A' m c']] w fun e w' => e = .returned (.int .i64 (min n 6 : Nat)) ∧ Below w.heap.size w w' := by
  have HM : Hid (min (6 : Int) n = ((min n 6 : Nat) : Int)) := by unfold Hid; omega
  generalize min n 6 = k at *
  go_enter Try.func28, Try.ntmps28
  go_wp2_with (fail)
  go_ret
  exact ⟨by rw [← HM.out]; rfl, nBa _ _⟩

set_option maxRecDepth 100000 in
set_option maxHeartbeats 3200000 in
theorem rline_any (s : Int) (A A' : Option Addr) (n c m c' : Nat) (C : List Cr) (S : List Int) (co : Int) (w : World) (hC : Sl w w.heap.size 3 A n c (crC C)) (hS : Sl w w.heap.size 1 A' m c' (intC S)) (hn : n = C.length) (hm : m = S.length)
    (b3 : n ≤ 9223372036854775807) (b4 : m ≤ 9223372036854775807) :
    Calls Try.prog 14 #[.int .u8 s, .agg #[.slice A n c, .slice A' m c'], .int .i64 co] w fun e w' => e = .returned (.tuple #[.int .i64 (lnV C S s n co), .int .i64 (lnE C S s n co)]) ∧ Below w.heap.size w w' := by
  have HCC : Hid (∀ o, Sl (w.alloc o) (w.alloc o).heap.size 3 A n c (crC C) ∧ Sl (w.alloc o) (w.alloc o).heap.size 1 A' m c' (intC S)) := fun o => ⟨hC.below (nBa w o), hS.below (nBa w o)⟩
  have HN := Lib.hid hn
  have HM := Lib.hid hm
  clear hC hS
  by_cases hk : 1 ≤ s ∧ s ≤ 4
  · have HK : Hid ((decide (1 ≤ s) && decide (s ≤ 4)) = true) := by simp [Hid]; omega
    by_cases hz : chk C S = 0
    · obtain ⟨hl1, hl2⟩ := chk_len hz
      have HV := Lib.hid hz
      by_cases hco : co < 1 ∨ n < co
      · have HE : Hid (lnV C S s n co = 0 ∧ lnE C S s n co = 12) := by
          have : lnE C S s n co = 12 := by rw [lnE, if_pos hk, if_neg (by simp [hz]), if_pos hco]
          exact ⟨by rw [lnV, this, if_pos (by decide)], this⟩
        skip
        skip
        skip
        clear hk hz hl1 hl2 hn hm
        by_cases g1 : co < 1
        · clear hco
          go_enter Try.func14, Try.ntmps14
          go_wp2_with (first | (go_at_call 21; refine (known_any _ _).mono ?_; rintro e w1 ⟨rfl, rfl⟩; rw [HK.out]) | (go_at_call 27; refine (rcheck_any A A' n c m c' C S _ (HCC.out _).1 (HCC.out _).2 HN.out HM.out b3 b4).mono ?_; rintro e w2 ⟨rfl, hb2⟩; obtain ⟨q0, q1⟩ := argsN hb2; rw [HV.out]))
          go_ret2
          exact ⟨ret_iiN HE.out.1.symm HE.out.2.symm, nBx hb2⟩
        · have g2 : (n : Int) < co := by omega
          clear hco
          go_enter Try.func14, Try.ntmps14
          go_wp2_with (first | (go_at_call 21; refine (known_any _ _).mono ?_; rintro e w1 ⟨rfl, rfl⟩; rw [HK.out]) | (go_at_call 27; refine (rcheck_any A A' n c m c' C S _ (HCC.out _).1 (HCC.out _).2 HN.out HM.out b3 b4).mono ?_; rintro e w2 ⟨rfl, hb2⟩; obtain ⟨q0, q1⟩ := argsN hb2; rw [HV.out]))
          go_ret2
          exact ⟨ret_iiN HE.out.1.symm HE.out.2.symm, nBx hb2⟩
      · have c1 : ¬ co < 1 := by omega
        have c2 : ¬ (n : Int) < co := by omega
        have he : lnE C S s n co = 0 := by rw [lnE, if_pos hk, if_neg (by simp [hz]), if_neg hco]
        have hv : lnV C S s n co = if s = 4 ∨ 6 < co then 0 else if s = 2 then ((min n 6 : Nat) : Int) + 1 - co else co := by rw [lnV, he, if_neg (by decide)]
        have HE := Lib.hid he
        have HVV := Lib.hid hv
        have hl14 : n ≤ 14 := by omega
        have HK4 := Lib.hid hk
        clear hk hz hl1 hl2 hn hm hco he hv
        by_cases g4 : s = 4
        · subst g4
          go_enter Try.func14, Try.ntmps14
          go_wp2_with (first | (go_at_call 21; refine (known_any _ _).mono ?_; rintro e w1 ⟨rfl, rfl⟩; rw [HK.out]) | (go_at_call 27; refine (rcheck_any A A' n c m c' C S _ (HCC.out _).1 (HCC.out _).2 HN.out HM.out b3 b4).mono ?_; rintro e w2 ⟨rfl, hb2⟩; obtain ⟨q0, q1⟩ := argsN hb2; rw [HV.out]))
          go_ret2
          exact ⟨ret_iiN (by rw [HVV.out]; simp) HE.out.symm, nBx hb2⟩
        · by_cases g6 : (6 : Int) < co
          · have g4' : (s == 4) = false := by simpa using g4
            go_enter Try.func14, Try.ntmps14
            go_wp2_with (first | (go_at_call 21; refine (known_any _ _).mono ?_; rintro e w1 ⟨rfl, rfl⟩; rw [HK.out]) | (go_at_call 27; refine (rcheck_any A A' n c m c' C S _ (HCC.out _).1 (HCC.out _).2 HN.out HM.out b3 b4).mono ?_; rintro e w2 ⟨rfl, hb2⟩; obtain ⟨q0, q1⟩ := argsN hb2; rw [HV.out]))
            go_ret2
            exact ⟨ret_iiN (by rw [HVV.out, if_pos (.inr g6)]) HE.out.symm, nBx hb2⟩
          · by_cases g2 : s = 2
            · have g2' : ((2 : Int) == 4) = false := rfl
              subst g2
              rcases Nat.lt_or_ge n 6 with h6 | h6
              · have g5 : (n : Int) < 6 := by omega
                have hmin : min n 6 = n := by omega
                have HMI := Lib.hid hmin
                have HST : Hid (∀ w : World, Calls Try.prog 28 #[.agg #[.slice A n c, .slice A' m c']] w fun e w' => e = .returned (.int .i64 (min n 6 : Nat)) ∧ Below w.heap.size w w') := fun w => rstaff_any A A' n c m c' w
                clear hmin h6
                go_enter Try.func14, Try.ntmps14
                go_wp2_with (first | (go_at_call 21; refine (known_any _ _).mono ?_; rintro e w1 ⟨rfl, rfl⟩; rw [HK.out]) | (go_at_call 27; refine (rcheck_any A A' n c m c' C S _ (HCC.out _).1 (HCC.out _).2 HN.out HM.out b3 b4).mono ?_; rintro e w2 ⟨rfl, hb2⟩; obtain ⟨q0, q1⟩ := argsN hb2; rw [HV.out]) | (go_at_call 28; refine (HST.out _).mono ?_; rintro e w3 ⟨rfl, hb3⟩; rw [HMI.out]))
                go_ret2
                exact ⟨ret_iiN (by rw [HVV.out, if_neg (by omega), if_pos trivial, HMI.out]; try omega) HE.out.symm, nBx (nBt hb2 hb3)⟩
              · have hmin : min n 6 = 6 := by omega
                have HMI := Lib.hid hmin
                have HST : Hid (∀ w : World, Calls Try.prog 28 #[.agg #[.slice A n c, .slice A' m c']] w fun e w' => e = .returned (.int .i64 (min n 6 : Nat)) ∧ Below w.heap.size w w') := fun w => rstaff_any A A' n c m c' w
                clear hmin h6
                go_enter Try.func14, Try.ntmps14
                go_wp2_with (first | (go_at_call 21; refine (known_any _ _).mono ?_; rintro e w1 ⟨rfl, rfl⟩; rw [HK.out]) | (go_at_call 27; refine (rcheck_any A A' n c m c' C S _ (HCC.out _).1 (HCC.out _).2 HN.out HM.out b3 b4).mono ?_; rintro e w2 ⟨rfl, hb2⟩; obtain ⟨q0, q1⟩ := argsN hb2; rw [HV.out]) | (go_at_call 28; refine (HST.out _).mono ?_; rintro e w3 ⟨rfl, hb3⟩; rw [HMI.out]))
                go_ret2
                exact ⟨ret_iiN (by rw [HVV.out, if_neg (by omega), if_pos trivial, HMI.out]; try omega) HE.out.symm, nBx (nBt hb2 hb3)⟩
            · have g4' : (s == 4) = false := by simpa using g4
              have g2' : (s == 2) = false := by simpa using g2
              go_enter Try.func14, Try.ntmps14
              go_wp2_with (first | (go_at_call 21; refine (known_any _ _).mono ?_; rintro e w1 ⟨rfl, rfl⟩; rw [HK.out]) | (go_at_call 27; refine (rcheck_any A A' n c m c' C S _ (HCC.out _).1 (HCC.out _).2 HN.out HM.out b3 b4).mono ?_; rintro e w2 ⟨rfl, hb2⟩; obtain ⟨q0, q1⟩ := argsN hb2; rw [HV.out]))
              go_ret2
              exact ⟨ret_iiN (by rw [HVV.out, if_neg (by omega), if_neg g2]) HE.out.symm, nBx hb2⟩
    · have HE : Hid (lnV C S s n co = 0 ∧ lnE C S s n co = chk C S) := by
        have : lnE C S s n co = chk C S := by rw [lnE, if_pos hk, if_pos hz]
        exact ⟨by rw [lnV, this, if_pos hz], this⟩
      have HCK : Hid (∀ o, Calls Try.prog 27 #[.agg #[.slice A n c, .slice A' m c']] (w.alloc o) fun e w' => e = .returned (.int .i64 (chk C S)) ∧ Below (w.alloc o).heap.size (w.alloc o) w') := fun o => rcheck_any A A' n c m c' C S _ (HCC.out o).1 (HCC.out o).2 hn hm b3 b4
      have hz2 : (chk C S == 0) = false := by simpa using hz
      skip
      skip
      skip
      clear hk hz hn hm
      generalize chk C S = z at *
      go_enter Try.func14, Try.ntmps14
      go_wp2_with (first | (go_at_call 21; refine (known_any _ _).mono ?_; rintro e w1 ⟨rfl, rfl⟩; rw [HK.out]) | (go_at_call 27; refine (HCK.out _).mono ?_; rintro e w2 ⟨rfl, hb2⟩))
      go_ret2
      exact ⟨ret_iiN HE.out.1.symm HE.out.2.symm, nBx hb2⟩
  · have HE : Hid (lnV C S s n co = 0 ∧ lnE C S s n co = 30) := by
      have : lnE C S s n co = 30 := by rw [lnE, if_neg hk]
      exact ⟨by rw [lnV, this, if_pos (by decide)], this⟩
    have HK : Hid ((decide (1 ≤ s) && decide (s ≤ 4)) = false) := by simp [Hid]; omega
    skip
    clear hk hn hm
    go_enter Try.func14, Try.ntmps14
    go_wp2_with (first | (go_at_call 21; refine (known_any _ _).mono ?_; rintro e w1 ⟨rfl, rfl⟩; rw [HK.out]))
    go_ret2
    exact ⟨ret_iiN HE.out.1.symm HE.out.2.symm, nBa _ _⟩

end Go.Proofs.Ytdaeanjjmbibmaa
