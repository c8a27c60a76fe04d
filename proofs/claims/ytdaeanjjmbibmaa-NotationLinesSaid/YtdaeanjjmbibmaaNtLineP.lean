/- Notation: the line, as the program tells it. -/
import Derived.Test.YtdaeanjjmbibmaaNtLine
namespace Go.Proofs.Ytdaeanjjmbibmaa
open Go.RowKit Go.Sort

set_option maxRecDepth 100000 in
set_option maxHeartbeats 3200000 in
theorem line_any (s : Int) (A A' : Option Addr) (n c m c' : Nat) (C : List Cr) (S : List Int) (co : Int) (w : World) (hC : Sl w w.heap.size 3 A n c (crC C)) (hS : Sl w w.heap.size 1 A' m c' (intC S)) (hn : n = C.length) (hm : m = S.length)
    (b3 : n ≤ 9223372036854775807) (b4 : m ≤ 9223372036854775807) :
    Calls Try.prog 13 #[.int .u8 s, .agg #[.slice A n c, .slice A' m c'], .int .i64 co] w fun e w' => e = .returned (.tuple #[.int .i64 (lnV C S s n co), .int .i64 (lnE C S s n co)]) ∧ Below w.heap.size w w' := by
  have HCC : Hid (∀ o, Sl (w.alloc o) (w.alloc o).heap.size 3 A n c (crC C) ∧ Sl (w.alloc o) (w.alloc o).heap.size 1 A' m c' (intC S)) := fun o => ⟨hC.below (nBa w o), hS.below (nBa w o)⟩
  have HN := Lib.hid hn
  have HM := Lib.hid hm
  clear hC hS
  by_cases hk : 1 ≤ s ∧ s ≤ 4
  · have HK : Hid ((decide (1 ≤ s) && decide (s ≤ 4)) = true) := by simp [Hid]; omega
    by_cases hz : chk C S = 0
    · obtain ⟨hl1, hl2⟩ := chk_len hz
      have HV := Lib.hid hz
      by_cases hco : co < 1 ∨ n < co
      · have HE : Hid (lnV C S s n co = 0 ∧ lnE C S s n co = 12) := by
          have : lnE C S s n co = 12 := by rw [lnE, if_pos hk, if_neg (by simp [hz]), if_pos hco]
          exact ⟨by rw [lnV, this, if_pos (by decide)], this⟩
        obtain ⟨T, hsy, -⟩ := sys_any s hk
        have HSY := Lib.hid hsy
        clear hsy
        clear hk hz hl1 hl2 hn hm
        by_cases g1 : co < 1
        · clear hco
          go_enter Try.func13, Try.ntmps13
          go_wp2_with (first | (go_at_call 20; refine (HSY.out _).mono ?_; rintro e w1 ⟨rfl, rfl⟩) | (go_at_call 24; refine (check_any A A' n c m c' C S _ (HCC.out _).1 (HCC.out _).2 HN.out HM.out b3 b4).mono ?_; rintro e w2 ⟨rfl, hb2⟩; obtain ⟨q0, q1⟩ := argsN hb2; rw [HV.out]))
          go_ret2
          exact ⟨ret_iiN HE.out.1.symm HE.out.2.symm, nBx hb2⟩
        · have g2 : (n : Int) < co := by omega
          clear hco
          go_enter Try.func13, Try.ntmps13
          go_wp2_with (first | (go_at_call 20; refine (HSY.out _).mono ?_; rintro e w1 ⟨rfl, rfl⟩) | (go_at_call 24; refine (check_any A A' n c m c' C S _ (HCC.out _).1 (HCC.out _).2 HN.out HM.out b3 b4).mono ?_; rintro e w2 ⟨rfl, hb2⟩; obtain ⟨q0, q1⟩ := argsN hb2; rw [HV.out]))
          go_ret2
          exact ⟨ret_iiN HE.out.1.symm HE.out.2.symm, nBx hb2⟩
      · have c1 : ¬ co < 1 := by omega
        have c2 : ¬ (n : Int) < co := by omega
        have he : lnE C S s n co = 0 := by rw [lnE, if_pos hk, if_neg (by simp [hz]), if_neg hco]
        have hv : lnV C S s n co = if s = 4 ∨ 6 < co then 0 else if s = 2 then ((min n 6 : Nat) : Int) + 1 - co else co := by rw [lnV, he, if_neg (by decide)]
        have g1 : 1 ≤ n := by omega
        have hx := idx_st s co n (by omega) (by omega) (by omega)
        have HX : Hid (Lib.idxOf (stL s (min n 6)) co = lnV C S s n co - 1) := by
          rw [hv, ← hx]
          show _ = _
          omega
        have HL := Lib.hid (stL_len s (min n 6) (by omega))
        have HE := Lib.hid he
        have HB : Hid (-1 ≤ lnV C S s n co - 1 ∧ lnV C S s n co - 1 ≤ 14) := by
          rw [hv]
          refine ⟨?_, ?_⟩ <;> (repeat' split) <;> omega
        obtain ⟨HB1, HB2⟩ := HB.out
        obtain ⟨T, hsy, hst⟩ := sys_any s hk
        have HSY := Lib.hid hsy
        have HST := Lib.hid hst
        clear hsy hst hk hz hl1 hl2 hn hm hco he hv hx
        generalize lnV C S s n co = V at *
        go_enter Try.func13, Try.ntmps13
        go_wp2_with (first | (go_at_call 20; refine (HSY.out _).mono ?_; rintro e w1 ⟨rfl, rfl⟩) | (go_at_call 24; refine (check_any A A' n c m c' C S _ (HCC.out _).1 (HCC.out _).2 HN.out HM.out b3 b4).mono ?_; rintro e w2 ⟨rfl, hb2⟩; obtain ⟨q0, q1⟩ := argsN hb2; rw [HV.out]) | (go_at_call 26; refine (HST.out A A' n c m c' _ g1).mono ?_; rintro e w3 hp; obtain ⟨a, x, y, rfl⟩ := staffP_ret hp; have hb3 := hp.1; have HI := Lib.hid (staffP_idx co HL.out hp); clear hp) | (go_at_call 25; refine HI.out.mono ?_; rintro e w4 ⟨rfl, rfl⟩; rw [HX.out]))
        go_ret2
        exact ⟨ret_iiN (by first | omega | (rw [Int.sub_add_cancel]) | skip) HE.out.symm, nBx (nBt hb2 hb3)⟩
    · have HE : Hid (lnV C S s n co = 0 ∧ lnE C S s n co = chk C S) := by
        have : lnE C S s n co = chk C S := by rw [lnE, if_pos hk, if_pos hz]
        exact ⟨by rw [lnV, this, if_pos hz], this⟩
      have HCK : Hid (∀ o, Calls Try.prog 24 #[.agg #[.slice A n c, .slice A' m c']] (w.alloc o) fun e w' => e = .returned (.int .i64 (chk C S)) ∧ Below (w.alloc o).heap.size (w.alloc o) w') := fun o => check_any A A' n c m c' C S _ (HCC.out o).1 (HCC.out o).2 hn hm b3 b4
      have hz2 : (chk C S == 0) = false := by simpa using hz
      obtain ⟨T, hsy, -⟩ := sys_any s hk
      have HSY := Lib.hid hsy
      clear hsy
      clear hk hz hn hm
      generalize chk C S = z at *
      go_enter Try.func13, Try.ntmps13
      go_wp2_with (first | (go_at_call 20; refine (HSY.out _).mono ?_; rintro e w1 ⟨rfl, rfl⟩) | (go_at_call 24; refine (HCK.out _).mono ?_; rintro e w2 ⟨rfl, hb2⟩))
      go_ret2
      exact ⟨ret_iiN HE.out.1.symm HE.out.2.symm, nBx hb2⟩
  · have HE : Hid (lnV C S s n co = 0 ∧ lnE C S s n co = 30) := by
      have : lnE C S s n co = 30 := by rw [lnE, if_neg hk]
      exact ⟨by rw [lnV, this, if_pos (by decide)], this⟩
    have HK : Hid ((decide (1 ≤ s) && decide (s ≤ 4)) = false) := by simp [Hid]; omega
    have HS := Lib.hid (fun w => sysNo s w (by omega))
    clear hk hn hm
    go_enter Try.func13, Try.ntmps13
    go_wp2_with (first | (go_at_call 20; refine (HS.out _).mono ?_; rintro e w1 ⟨rfl, rfl⟩))
    go_ret2
    exact ⟨ret_iiN HE.out.1.symm HE.out.2.symm, nBa _ _⟩

end Go.Proofs.Ytdaeanjjmbibmaa
