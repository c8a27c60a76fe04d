/- What the reference's Number returns. -/
import Derived.Test.YtdaeanjjmbibmaaDoorNumber
namespace Go.Proofs.YtdaeanjjmbibmaaDoor
open Go.RowKit

set_option maxHeartbeats 800000 in
theorem rnumber_0 (w : World) :
    Calls Tryd.prog 65 #[.string ⟨#[]⟩] w fun e w' => e = .returned (.tuple #[.int .i64 (numV []), .bool (numB [])]) ∧ w = w' := by
  go_enter Tryd.func65, Tryd.ntmps65
  go_wp2_with (fail)
  go_ret2
  exact ⟨rfl, rfl⟩

set_option maxHeartbeats 800000 in
theorem rnumber_big (l : List UInt8) (h : 3 < l.length) (w : World) :
    Calls Tryd.prog 65 #[.string ⟨l.toArray⟩] w fun e w' => e = .returned (.tuple #[.int .i64 (numV l), .bool (numB l)]) ∧ w = w' := by
  have hb : numB l = false := by simp [numB]; omega
  have hv := Lib.hid (num_no hb)
  have HB := Lib.hid hb
  clear hb
  go_enter Tryd.func65, Tryd.ntmps65
  go_wp2_with (fail)
  go_ret2
  exact ⟨ret_ib hv.out.symm HB.out.symm, rfl⟩

set_option maxHeartbeats 1600000 in
theorem rnumber_1 (a : UInt8) (w : World) :
    Calls Tryd.prog 65 #[.string ⟨#[a]⟩] w fun e w' => e = .returned (.tuple #[.int .i64 (numV [a]), .bool (numB [a])]) ∧ w = w' := by
  by_cases h48 : a = 48
  · subst h48
    go_enter Tryd.func65, Tryd.ntmps65
    go_wp2_with (fail)
    refine wp_loop_rounds 2 ?_
    rw [rounds_succ]
    go_wp2_with (fail)
    rw [rounds_succ]
    go_wp2_with (fail)
    go_ret2
    exact ⟨ret_ib (by decide) (by decide), rfl⟩
  · have h1 : ¬ (((ByteArray.mk #[a])[0]'(show 0 < 1 by decide)).toNat : Int) = 48 := by rw [b48] at h48; show ¬ (a.toNat : Int) = 48; omega
    clear h48
    go_enter Tryd.func65, Tryd.ntmps65
    go_wp2_with (fail)
    refine wp_loop_rounds 2 ?_
    rw [rounds_succ]
    go_wp2_with (fail)
    all_goals first | (rw [rounds_succ]; go_wp2_with (fail)) | skip
    all_goals go_ret2
    all_goals first | (refine ⟨ret_ib (no1 (a := ((ByteArray.mk #[a])[0]'(show 0 < 1 by decide))) ?_).2.symm (no1 (a := ((ByteArray.mk #[a])[0]'(show 0 < 1 by decide))) ?_).1.symm, rfl⟩ <;> omega) | (refine ⟨ret_ib (yes1 (a := ((ByteArray.mk #[a])[0]'(show 0 < 1 by decide))) ?_).2.symm (yes1 (a := ((ByteArray.mk #[a])[0]'(show 0 < 1 by decide))) ?_).1.symm, rfl⟩ <;> omega)

set_option maxHeartbeats 1600000 in
theorem rnumber_2 (a b : UInt8) (w : World) :
    Calls Tryd.prog 65 #[.string ⟨#[a, b]⟩] w fun e w' => e = .returned (.tuple #[.int .i64 (numV [a, b]), .bool (numB [a, b])]) ∧ w = w' := by
  by_cases h48 : a = 48
  · subst h48
    go_enter Tryd.func65, Tryd.ntmps65
    go_wp2_with (fail)
    go_ret2
    have H := no2 (a := 48) (b := b) (.inl rfl)
    exact ⟨ret_ib H.2.symm H.1.symm, rfl⟩
  · have h1 : ¬ (((ByteArray.mk #[a, b])[0]'(show 0 < 2 by decide)).toNat : Int) = 48 := by rw [b48] at h48; show ¬ (a.toNat : Int) = 48; omega
    clear h48
    go_enter Tryd.func65, Tryd.ntmps65
    go_wp2_with (fail)
    refine wp_loop_rounds 3 ?_
    rw [rounds_succ]
    go_wp2_with (fail)
    all_goals first | (rw [rounds_succ]; go_wp2_with (fail)) | skip
    all_goals first | (rw [rounds_succ]; go_wp2_with (fail)) | skip
    all_goals go_ret2
    all_goals first | (refine ⟨ret_ib (no2 (a := ((ByteArray.mk #[a, b])[0]'(show 0 < 2 by decide))) (b := ((ByteArray.mk #[a, b])[1]'(show 1 < 2 by decide))) ?_).2.symm (no2 (a := ((ByteArray.mk #[a, b])[0]'(show 0 < 2 by decide))) (b := ((ByteArray.mk #[a, b])[1]'(show 1 < 2 by decide))) ?_).1.symm, rfl⟩ <;> omega) | (refine ⟨ret_ib (yes2 (a := ((ByteArray.mk #[a, b])[0]'(show 0 < 2 by decide))) (b := ((ByteArray.mk #[a, b])[1]'(show 1 < 2 by decide))) ?_ ?_ ?_).2.symm (yes2 (a := ((ByteArray.mk #[a, b])[0]'(show 0 < 2 by decide))) (b := ((ByteArray.mk #[a, b])[1]'(show 1 < 2 by decide))) ?_ ?_ ?_).1.symm, rfl⟩ <;> omega)

set_option maxHeartbeats 1600000 in
theorem rnumber_3 (a b c : UInt8) (w : World) :
    Calls Tryd.prog 65 #[.string ⟨#[a, b, c]⟩] w fun e w' => e = .returned (.tuple #[.int .i64 (numV [a, b, c]), .bool (numB [a, b, c])]) ∧ w = w' := by
  by_cases h48 : a = 48
  · subst h48
    go_enter Tryd.func65, Tryd.ntmps65
    go_wp2_with (fail)
    go_ret2
    have H := no3 (a := 48) (b := b) (c := c) (.inl rfl)
    exact ⟨ret_ib H.2.symm H.1.symm, rfl⟩
  · have h1 : ¬ (((ByteArray.mk #[a, b, c])[0]'(show 0 < 3 by decide)).toNat : Int) = 48 := by rw [b48] at h48; show ¬ (a.toNat : Int) = 48; omega
    clear h48
    go_enter Tryd.func65, Tryd.ntmps65
    go_wp2_with (fail)
    refine wp_loop_rounds 4 ?_
    rw [rounds_succ]
    go_wp2_with (fail)
    all_goals first | (rw [rounds_succ]; go_wp2_with (fail)) | skip
    all_goals first | (rw [rounds_succ]; go_wp2_with (fail)) | skip
    all_goals first | (rw [rounds_succ]; go_wp2_with (fail)) | skip
    all_goals go_ret2
    all_goals first | (refine ⟨ret_ib (no3 (a := ((ByteArray.mk #[a, b, c])[0]'(show 0 < 3 by decide))) (b := ((ByteArray.mk #[a, b, c])[1]'(show 1 < 3 by decide))) (c := ((ByteArray.mk #[a, b, c])[2]'(show 2 < 3 by decide))) ?_).2.symm (no3 (a := ((ByteArray.mk #[a, b, c])[0]'(show 0 < 3 by decide))) (b := ((ByteArray.mk #[a, b, c])[1]'(show 1 < 3 by decide))) (c := ((ByteArray.mk #[a, b, c])[2]'(show 2 < 3 by decide))) ?_).1.symm, rfl⟩ <;> omega) | (refine ⟨ret_ib (yes3 (a := ((ByteArray.mk #[a, b, c])[0]'(show 0 < 3 by decide))) (b := ((ByteArray.mk #[a, b, c])[1]'(show 1 < 3 by decide))) (c := ((ByteArray.mk #[a, b, c])[2]'(show 2 < 3 by decide))) ?_ ?_ ?_ ?_).2.symm (yes3 (a := ((ByteArray.mk #[a, b, c])[0]'(show 0 < 3 by decide))) (b := ((ByteArray.mk #[a, b, c])[1]'(show 1 < 3 by decide))) (c := ((ByteArray.mk #[a, b, c])[2]'(show 2 < 3 by decide))) ?_ ?_ ?_ ?_).1.symm, rfl⟩ <;> omega)

theorem rnumber_any (l : List UInt8) (w : World) :
    Calls Tryd.prog 65 #[.string ⟨l.toArray⟩] w fun e w' => e = .returned (.tuple #[.int .i64 (numV l), .bool (numB l)]) ∧ w = w' :=
  match l with
  | [] => rnumber_0 w
  | [a] => rnumber_1 a w
  | [a, b] => rnumber_2 a b w
  | [a, b, c] => rnumber_3 a b c w
  | a :: b :: c :: d :: r => rnumber_big _ (by simp) w

end Go.Proofs.YtdaeanjjmbibmaaDoor
