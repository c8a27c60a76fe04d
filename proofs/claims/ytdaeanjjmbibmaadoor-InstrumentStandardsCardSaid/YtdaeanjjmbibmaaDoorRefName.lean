/- What the reference's letter and ParseName return. -/
import Derived.Test.YtdaeanjjmbibmaaDoorPName
namespace Go.Proofs.YtdaeanjjmbibmaaDoor
open Go.RowKit

def ltrV (c : UInt8) : Int := match ltrOf c with | some n => n | none => -1
theorem ltrV_none {c : UInt8} (h : ltrOf c = none) : ltrV c = -1 := by rw [ltrV, h]
theorem ltrV_some {c : UInt8} {n : Nat} (h : ltrOf c = some n) : ltrV c = n := by rw [ltrV, h]

set_option maxHeartbeats 800000 in
theorem letter_hit0 (w : World) : Calls Tryd.prog 119 #[.int .u8 ((67 : Nat) : Int)] w fun e w' => e = .returned (.int .i64 ((0 : Nat) : Int)) ∧ w = w' := by
  go_enter Tryd.func119, Tryd.ntmps119
  go_wp2_with (fail)
  refine wp_loop_rounds 8 ?_
  rw [rounds_succ]
  go_wp2_with (fail)
  go_ret
  exact ⟨rfl, rfl⟩
set_option maxHeartbeats 800000 in
theorem letter_hit1 (w : World) : Calls Tryd.prog 119 #[.int .u8 ((68 : Nat) : Int)] w fun e w' => e = .returned (.int .i64 ((1 : Nat) : Int)) ∧ w = w' := by
  go_enter Tryd.func119, Tryd.ntmps119
  go_wp2_with (fail)
  refine wp_loop_rounds 8 ?_
  rw [rounds_succ]
  go_wp2_with (fail)
  rw [rounds_succ]
  go_wp2_with (fail)
  go_ret
  exact ⟨rfl, rfl⟩
set_option maxHeartbeats 800000 in
theorem letter_hit2 (w : World) : Calls Tryd.prog 119 #[.int .u8 ((69 : Nat) : Int)] w fun e w' => e = .returned (.int .i64 ((2 : Nat) : Int)) ∧ w = w' := by
  go_enter Tryd.func119, Tryd.ntmps119
  go_wp2_with (fail)
  refine wp_loop_rounds 8 ?_
  rw [rounds_succ]
  go_wp2_with (fail)
  rw [rounds_succ]
  go_wp2_with (fail)
  rw [rounds_succ]
  go_wp2_with (fail)
  go_ret
  exact ⟨rfl, rfl⟩
set_option maxHeartbeats 800000 in
theorem letter_hit3 (w : World) : Calls Tryd.prog 119 #[.int .u8 ((70 : Nat) : Int)] w fun e w' => e = .returned (.int .i64 ((3 : Nat) : Int)) ∧ w = w' := by
  go_enter Tryd.func119, Tryd.ntmps119
  go_wp2_with (fail)
  refine wp_loop_rounds 8 ?_
  rw [rounds_succ]
  go_wp2_with (fail)
  rw [rounds_succ]
  go_wp2_with (fail)
  rw [rounds_succ]
  go_wp2_with (fail)
  rw [rounds_succ]
  go_wp2_with (fail)
  go_ret
  exact ⟨rfl, rfl⟩
set_option maxHeartbeats 800000 in
theorem letter_hit4 (w : World) : Calls Tryd.prog 119 #[.int .u8 ((71 : Nat) : Int)] w fun e w' => e = .returned (.int .i64 ((4 : Nat) : Int)) ∧ w = w' := by
  go_enter Tryd.func119, Tryd.ntmps119
  go_wp2_with (fail)
  refine wp_loop_rounds 8 ?_
  rw [rounds_succ]
  go_wp2_with (fail)
  rw [rounds_succ]
  go_wp2_with (fail)
  rw [rounds_succ]
  go_wp2_with (fail)
  rw [rounds_succ]
  go_wp2_with (fail)
  rw [rounds_succ]
  go_wp2_with (fail)
  go_ret
  exact ⟨rfl, rfl⟩
set_option maxHeartbeats 800000 in
theorem letter_hit5 (w : World) : Calls Tryd.prog 119 #[.int .u8 ((65 : Nat) : Int)] w fun e w' => e = .returned (.int .i64 ((5 : Nat) : Int)) ∧ w = w' := by
  go_enter Tryd.func119, Tryd.ntmps119
  go_wp2_with (fail)
  refine wp_loop_rounds 8 ?_
  rw [rounds_succ]
  go_wp2_with (fail)
  rw [rounds_succ]
  go_wp2_with (fail)
  rw [rounds_succ]
  go_wp2_with (fail)
  rw [rounds_succ]
  go_wp2_with (fail)
  rw [rounds_succ]
  go_wp2_with (fail)
  rw [rounds_succ]
  go_wp2_with (fail)
  go_ret
  exact ⟨rfl, rfl⟩
set_option maxHeartbeats 800000 in
theorem letter_hit6 (w : World) : Calls Tryd.prog 119 #[.int .u8 ((66 : Nat) : Int)] w fun e w' => e = .returned (.int .i64 ((6 : Nat) : Int)) ∧ w = w' := by
  go_enter Tryd.func119, Tryd.ntmps119
  go_wp2_with (fail)
  refine wp_loop_rounds 8 ?_
  rw [rounds_succ]
  go_wp2_with (fail)
  rw [rounds_succ]
  go_wp2_with (fail)
  rw [rounds_succ]
  go_wp2_with (fail)
  rw [rounds_succ]
  go_wp2_with (fail)
  rw [rounds_succ]
  go_wp2_with (fail)
  rw [rounds_succ]
  go_wp2_with (fail)
  rw [rounds_succ]
  go_wp2_with (fail)
  go_ret
  exact ⟨rfl, rfl⟩

set_option maxHeartbeats 1600000 in
theorem letter_miss (c : UInt8) (w : World) (h : ltrOf c = none) :
    Calls Tryd.prog 119 #[.int .u8 c.toNat] w fun e w' => e = .returned (.int .i64 (-1)) ∧ w = w' := by
  have hh : c.toNat ≠ 67 ∧ c.toNat ≠ 68 ∧ c.toNat ≠ 69 ∧ c.toNat ≠ 70 ∧ c.toNat ≠ 71 ∧ c.toNat ≠ 65 ∧ c.toNat ≠ 66 := by
    refine ⟨?_, ?_, ?_, ?_, ?_, ?_, ?_⟩ <;> intro e <;> (have e2 : c = UInt8.ofNat c.toNat := by simp) <;> rw [e] at e2 <;> subst e2 <;> cases h
  obtain ⟨h0, h1, h2, h3, h4, h5, h6⟩ := hh
  have g0 : ((((ByteArray.mk #[67, 68, 69, 70, 71, 65, 66])[0]'(by decide)).toNat : Int) == (c.toNat : Int)) = false := by show ((67 : Int) == (c.toNat : Int)) = false; simp; omega
  have g1 : ((((ByteArray.mk #[67, 68, 69, 70, 71, 65, 66])[1]'(by decide)).toNat : Int) == (c.toNat : Int)) = false := by show ((68 : Int) == (c.toNat : Int)) = false; simp; omega
  have g2 : ((((ByteArray.mk #[67, 68, 69, 70, 71, 65, 66])[2]'(by decide)).toNat : Int) == (c.toNat : Int)) = false := by show ((69 : Int) == (c.toNat : Int)) = false; simp; omega
  have g3 : ((((ByteArray.mk #[67, 68, 69, 70, 71, 65, 66])[3]'(by decide)).toNat : Int) == (c.toNat : Int)) = false := by show ((70 : Int) == (c.toNat : Int)) = false; simp; omega
  have g4 : ((((ByteArray.mk #[67, 68, 69, 70, 71, 65, 66])[4]'(by decide)).toNat : Int) == (c.toNat : Int)) = false := by show ((71 : Int) == (c.toNat : Int)) = false; simp; omega
  have g5 : ((((ByteArray.mk #[67, 68, 69, 70, 71, 65, 66])[5]'(by decide)).toNat : Int) == (c.toNat : Int)) = false := by show ((65 : Int) == (c.toNat : Int)) = false; simp; omega
  have g6 : ((((ByteArray.mk #[67, 68, 69, 70, 71, 65, 66])[6]'(by decide)).toNat : Int) == (c.toNat : Int)) = false := by show ((66 : Int) == (c.toNat : Int)) = false; simp; omega
  clear h h0 h1 h2 h3 h4 h5 h6
  go_enter Tryd.func119, Tryd.ntmps119
  go_wp2_with (fail)
  refine wp_loop_rounds 8 ?_
  rw [rounds_succ]
  go_wp2_with (fail)
  rw [rounds_succ]
  go_wp2_with (fail)
  rw [rounds_succ]
  go_wp2_with (fail)
  rw [rounds_succ]
  go_wp2_with (fail)
  rw [rounds_succ]
  go_wp2_with (fail)
  rw [rounds_succ]
  go_wp2_with (fail)
  rw [rounds_succ]
  go_wp2_with (fail)
  rw [rounds_succ]
  go_wp2_with (fail)
  go_ret
  exact ⟨rfl, rfl⟩

theorem ltrOf_cases (c : UInt8) : ltrOf c = none ∨ (c = 67 ∧ ltrOf c = some 0) ∨ (c = 68 ∧ ltrOf c = some 1) ∨ (c = 69 ∧ ltrOf c = some 2) ∨ (c = 70 ∧ ltrOf c = some 3) ∨ (c = 71 ∧ ltrOf c = some 4) ∨ (c = 65 ∧ ltrOf c = some 5) ∨ (c = 66 ∧ ltrOf c = some 6) := by
  by_cases h0 : c = 67
  · subst h0; exact .inr (.inl ⟨rfl, rfl⟩)
  by_cases h1 : c = 68
  · subst h1; exact .inr (.inr (.inl ⟨rfl, rfl⟩))
  by_cases h2 : c = 69
  · subst h2; exact .inr (.inr (.inr (.inl ⟨rfl, rfl⟩)))
  by_cases h3 : c = 70
  · subst h3; exact .inr (.inr (.inr (.inr (.inl ⟨rfl, rfl⟩))))
  by_cases h4 : c = 71
  · subst h4; exact .inr (.inr (.inr (.inr (.inr (.inl ⟨rfl, rfl⟩)))))
  by_cases h5 : c = 65
  · subst h5; exact .inr (.inr (.inr (.inr (.inr (.inr (.inl ⟨rfl, rfl⟩))))))
  by_cases h6 : c = 66
  · subst h6; exact .inr (.inr (.inr (.inr (.inr (.inr (.inr ⟨rfl, rfl⟩))))))
  exact .inl (by simp [ltrOf, h0, h1, h2, h3, h4, h5, h6])

theorem letter_any (c : UInt8) (w : World) :
    Calls Tryd.prog 119 #[.int .u8 c.toNat] w fun e w' => e = .returned (.int .i64 (ltrV c)) ∧ w = w' := by
  rcases ltrOf_cases c with h | ⟨rfl, h⟩ | ⟨rfl, h⟩ | ⟨rfl, h⟩ | ⟨rfl, h⟩ | ⟨rfl, h⟩ | ⟨rfl, h⟩ | ⟨rfl, h⟩
  · rw [ltrV_none h]; exact letter_miss c w h
  · rw [ltrV_some h]; exact letter_hit0 w
  · rw [ltrV_some h]; exact letter_hit1 w
  · rw [ltrV_some h]; exact letter_hit2 w
  · rw [ltrV_some h]; exact letter_hit3 w
  · rw [ltrV_some h]; exact letter_hit4 w
  · rw [ltrV_some h]; exact letter_hit5 w
  · rw [ltrV_some h]; exact letter_hit6 w

set_option maxHeartbeats 1600000 in
theorem rparse_short (l : List UInt8) (w : World) (h : l.length < 2) :
    Calls Tryd.prog 98 #[.string ⟨l.toArray⟩] w fun e w' => e = .returned (.tuple #[.agg #[.int .i64 (nmL l), .int .i64 (nmA l), .int .i64 (nmO l)], .int .i64 (nmE l)]) ∧ Below w.heap.size w w' := by
  have hp : pForm l = none := by
    match l, h with
    | [], _ => rfl
    | [c], _ =>
      rcases ltrOf_cases c with h | ⟨rfl, h⟩ | ⟨rfl, h⟩ | ⟨rfl, h⟩ | ⟨rfl, h⟩ | ⟨rfl, h⟩ | ⟨rfl, h⟩ | ⟨rfl, h⟩
      · simp [pForm, h]
      all_goals rfl
  have H : Hid (nmL l = 0 ∧ nmA l = 0 ∧ nmO l = 0 ∧ nmE l = 4) := by simp [Hid, nmL, nmA, nmO, nmE, hp]
  have h2 : (l.length : Int) < 2 := by omega
  clear hp h
  go_enter Tryd.func98, Tryd.ntmps98
  go_wp2_with (fail)
  refine bodyPost_ret (v := .tuple #[.agg #[.int .i64 0, .int .i64 0, .int .i64 0], .int .i64 4]) ?_ rfl ?_
  · simp [results, Tryd.results98, go_sem]
    done
  · rw [H.out.1, H.out.2.1, H.out.2.2.1, H.out.2.2.2]
    exact ⟨rfl, ba _ _⟩


end Go.Proofs.YtdaeanjjmbibmaaDoor
