/- Pieces: the first error of an event, and of a piece. -/
import Derived.Test.YtlmpoklakbjpnaaDoorPcStop
namespace Go.Proofs.YtlmpoklakbjpnaaDoor
open Go Go.RowKit

theorem stsErr_go {C : List Cr} {P : List EvP} {k : Nat} {bf : Int} {L : List St} {j : Nat} {s : St} (hd : L.drop j = s :: L.drop (j + 1)) (h : stErr C P k bf s = 0) : stsErr C P k bf (L.drop j) = stsErr C P k s.c (L.drop (j + 1)) := by rw [hd, stsErr, if_pos h]
theorem stsErr_stop {C : List Cr} {P : List EvP} {k : Nat} {bf x : Int} {L : List St} {j : Nat} {s : St} (hd : L.drop j = s :: L.drop (j + 1)) (hx : stErr C P k bf s = x) (h : x ≠ 0) : stsErr C P k bf (L.drop j) = x := by rw [hd, stsErr, if_neg (by rw [hx]; exact h), hx]
theorem evErr_sgn {C : List Cr} {P : List EvP} {k : Nat} {y : EvP} (h : sgnB k y = true) : evErr C P k y = 20 := by rw [evErr, if_pos h]
theorem evErr_tie {C : List Cr} {P : List EvP} {k : Nat} {y : EvP} (h : sgnB k y = false) (h2 : tieB k y = true) : evErr C P k y = 21 := by rw [evErr, if_neg (by simp [h]), if_pos h2]
theorem evErr_sts {C : List Cr} {P : List EvP} {k : Nat} {y : EvP} (h : sgnB k y = false) (h2 : tieB k y = false) : evErr C P k y = stsErr C P k 0 y.L := by rw [evErr, if_neg (by simp [h]), if_neg (by simp [h2])]
theorem evs_len {P : List EvP} {k : Nat} {y : EvP} (h : P[k]? = some y) (hst : ∀ y ∈ P, y.L.length ≤ 1000000) : y.L.length ≤ 1000000 := hst y (List.mem_of_getElem? h)

set_option maxRecDepth 100000 in
set_option maxHeartbeats 4000000 in
theorem checkEvent_bad (A : Option Addr) (n c : Nat) (A' : Option Addr) (m c' : Nat) (A2 : Option Addr) (q cq : Nat) (C : List Cr) (P : List EvP) (k : Nat) (hk : k < q) (w : World)
    (hE : EsIn w A2 q cq P) (hX : sgnB k (P.getD k z6) = true ∨ (sgnB k (P.getD k z6) = false ∧ tieB k (P.getD k z6) = true)) :
    Calls Tryd.prog 87 #[pcV A n c A' m c' A2 q cq, .int .i64 k] w fun e w' => e = .returned (.int .i64 (evErr C P k (P.getD k z6))) ∧ Below w.heap.size w w' := by
  obtain ⟨b, off, sa, sc, rfl, hbl, hPk, hd, ⟨c0, c1, c2, c3, c4, c5⟩, _⟩ := (hE.below (ba w (pcO A n c A' m c' A2 q cq))).at hk
  clear hE hPk hd
  generalize P.getD k z6 = y at *
  have HR : Hid (∀ x, (sgnB k y = true → x = 20) → (sgnB k y = false → tieB k y = true → x = 21) → evErr C P k y = x) := fun x h1 h2 => by
    rcases hX with h | ⟨h, h'⟩
    · rw [evErr_sgn h, h1 h]
    · rw [evErr_tie h h', h2 h h']
  have hki : (k : Int) < (q : Int) := by omega
  obtain ⟨bar, v, d, t, tie, L⟩ := y
  dsimp only at c0 c1 c2 c3 c4 c5
  have HS : Hid (sgnB k ⟨bar, v, d, t, tie, L⟩ = (!(!wrB v d t || okB v d t) || (decide (k = 0) && !wrB v d t))) := rfl
  have HT : Hid (tieB k ⟨bar, v, d, t, tie, L⟩ = (tie && (!decide (L.length = 0) || decide (k = 0)))) := rfl
  cases hv : (!wrB v d t || okB v d t) with
  | false =>
    have HV := Lib.hid hv
    clear hv hX
    go_enter Tryd.func87, Tryd.ntmps87
    go_wp2_with (go_at_call 74; refine (validSign_any _ _ _ _).mono ?_; rintro e w1 ⟨rfl, hb1⟩; rw [HV.out])
    go_ret
    exact ⟨ret_int (by rw [HR.out 20 (fun _ => rfl) (fun h => by rw [HS.out, HV.out] at h; simp at h)]), bx (bx hb1)⟩
  | true =>
    have HV := Lib.hid hv
    clear hv
    by_cases hk0 : k = 0
    · subst hk0
      cases hw : wrB v d t with
      | false =>
        have HW := Lib.hid hw
        clear hw hX
        simp only [Nat.zero_mul, Nat.add_zero] at c0 c1 c2 c3 c4 c5
        go_enter Tryd.func87, Tryd.ntmps87
        go_wp2_with (first
          | (go_at_call 74; refine (validSign_any _ _ _ _).mono ?_; rintro e w1 ⟨rfl, hb1⟩; rw [HV.out]; obtain ⟨x0, x1, x2, x3, x4, x5⟩ := cell6 hb1; simp only [World.size_alloc] at x0 x1 x2 x3 x4 x5)
          | (go_at_call 73; refine (written_any _ _ _ _).mono ?_; rintro e w2 ⟨rfl, hb2⟩; rw [HW.out]))
        go_ret
        exact ⟨ret_int (by rw [HR.out 20 (fun _ => rfl) (fun h => by rw [HS.out, HV.out, HW.out] at h; simp at h)]), bx (bx (bt hb1 hb2))⟩
      | true =>
        have HW := Lib.hid hw
        have htt : tie = true := by
          rcases hX with h | ⟨_, h⟩
          · rw [HS.out, HV.out, HW.out] at h; simp at h
          · rw [HT.out] at h; simp at h; exact h
        subst htt
        clear hw hX
        simp only [Nat.zero_mul, Nat.add_zero] at c0 c1 c2 c3 c4 c5
        have HZ : Hid (sgnB 0 ⟨bar, v, d, t, true, L⟩ = false) := by unfold Hid; rw [HS.out, HV.out, HW.out]; rfl
        generalize L.length = N at *
        by_cases hl : N = 0
        · subst hl
          go_enter Tryd.func87, Tryd.ntmps87
          go_wp2_with (first
            | (go_at_call 74; refine (validSign_any _ _ _ _).mono ?_; rintro e w1 ⟨rfl, hb1⟩; rw [HV.out]; obtain ⟨x0, x1, x2, x3, x4, x5⟩ := cell6 hb1; simp only [World.size_alloc] at x0 x1 x2 x3 x4 x5)
            | (go_at_call 73; refine (written_any _ _ _ _).mono ?_; rintro e w2 ⟨rfl, hb2⟩; rw [HW.out]; obtain ⟨y0, y1, y2, y3, y4, y5⟩ := cell6 (bt hb1 hb2); simp only [World.size_alloc] at y0 y1 y2 y3 y4 y5; clear x0 x1 x2 x3 x4 x5))
          go_ret
          exact ⟨ret_int (by rw [HR.out 21 (fun h => by rw [HZ.out] at h; cases h) (fun _ _ => rfl)]), bx (bx (bt hb1 hb2))⟩
        · have hl0 : (0 : Int) < (N : Int) := by omega
          go_enter Tryd.func87, Tryd.ntmps87
          go_wp2_with (first
            | (go_at_call 74; refine (validSign_any _ _ _ _).mono ?_; rintro e w1 ⟨rfl, hb1⟩; rw [HV.out]; obtain ⟨x0, x1, x2, x3, x4, x5⟩ := cell6 hb1; simp only [World.size_alloc] at x0 x1 x2 x3 x4 x5)
            | (go_at_call 73; refine (written_any _ _ _ _).mono ?_; rintro e w2 ⟨rfl, hb2⟩; rw [HW.out]; obtain ⟨y0, y1, y2, y3, y4, y5⟩ := cell6 (bt hb1 hb2); simp only [World.size_alloc] at y0 y1 y2 y3 y4 y5; clear x0 x1 x2 x3 x4 x5))
          go_ret
          exact ⟨ret_int (by rw [HR.out 21 (fun h => by rw [HZ.out] at h; cases h) (fun _ _ => rfl)]), bx (bx (bt hb1 hb2))⟩
    · have hkz : ((k : Int) == 0) = false := by simpa using hk0
      have HK : Hid (decide (k = 0) = false) := by simpa [Hid] using hk0
      have hx : tie = true ∧ ¬ L.length = 0 := by
        rcases hX with h | ⟨_, h⟩
        · rw [HS.out, HV.out, HK.out] at h; simp at h
        · rw [HT.out, HK.out] at h; simp at h
          exact ⟨h.1, by simpa using h.2⟩
      obtain ⟨htt, hl⟩ := hx
      subst htt
      clear hX
      generalize L.length = N at *
      have hl0 : 0 < N := by omega
      have hl1 : (0 : Int) < (N : Int) := by omega
      have HZ : Hid (sgnB k ⟨bar, v, d, t, true, L⟩ = false) := by unfold Hid; rw [HS.out, HV.out, HK.out]; rfl
      clear hl
      go_enter Tryd.func87, Tryd.ntmps87
      go_wp2_with (go_at_call 74; refine (validSign_any _ _ _ _).mono ?_; rintro e w1 ⟨rfl, hb1⟩; rw [HV.out]; obtain ⟨x0, x1, x2, x3, x4, x5⟩ := cell6 hb1; simp only [World.size_alloc] at x0 x1 x2 x3 x4 x5)
      go_ret
      exact ⟨ret_int (by rw [HR.out 21 (fun h => by rw [HZ.out] at h; cases h) (fun _ _ => rfl)]), bx (bx hb1)⟩

end Go.Proofs.YtlmpoklakbjpnaaDoor
