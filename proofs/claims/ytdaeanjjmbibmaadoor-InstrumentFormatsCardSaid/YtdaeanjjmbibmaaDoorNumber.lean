/- What the program's parseNumber returns. -/
import Derived.Test.YtdaeanjjmbibmaaDoorPName
namespace Go.Proofs.YtdaeanjjmbibmaaDoor
open Go.RowKit

def numB (l : List UInt8) : Bool := decide (1 ≤ l.length) && decide (l.length ≤ 3) && !(l.head? == some 48 && decide (1 < l.length)) && l.all isDig
def numF (l : List UInt8) : Int := l.foldl (fun v c => 10 * v + ((c.toNat : Int) - 48)) 0
def numV (l : List UInt8) : Int := if numB l then numF l else 0

theorem num_yes {l : List UInt8} (h : numB l = true) : numV l = numF l := by rw [numV, if_pos h]
theorem num_no {l : List UInt8} (h : numB l = false) : numV l = 0 := by rw [numV, if_neg (by simp [h])]
theorem dig_iff {c : UInt8} : isDig c = true ↔ 48 ≤ (c.toNat : Int) ∧ (c.toNat : Int) ≤ 57 := by simp [isDig]; omega
theorem dig_niff {c : UInt8} : isDig c = false ↔ (c.toNat : Int) < 48 ∨ 57 < (c.toNat : Int) := by simp [isDig]; omega
theorem b48 {c : UInt8} : c = 48 ↔ c.toNat = 48 := ⟨fun h => by rw [h]; rfl, fun h => UInt8.toNat_inj.1 (by rw [h]; rfl)⟩

set_option maxHeartbeats 800000 in
theorem parseNumber_0 (w : World) :
    Calls Tryd.prog 62 #[.string ⟨#[]⟩] w fun e w' => e = .returned (.tuple #[.int .i64 (numV []), .bool (numB [])]) ∧ w = w' := by
  go_enter Tryd.func62, Tryd.ntmps62
  go_wp2_with (fail)
  go_ret2
  exact ⟨rfl, rfl⟩

set_option maxHeartbeats 800000 in
theorem parseNumber_big (l : List UInt8) (h : 3 < l.length) (w : World) :
    Calls Tryd.prog 62 #[.string ⟨l.toArray⟩] w fun e w' => e = .returned (.tuple #[.int .i64 (numV l), .bool (numB l)]) ∧ w = w' := by
  have hb : numB l = false := by simp [numB]; omega
  have hv := Lib.hid (num_no hb)
  have HB := Lib.hid hb
  clear hb
  go_enter Tryd.func62, Tryd.ntmps62
  go_wp2_with (fail)
  go_ret2
  exact ⟨ret_ib hv.out.symm HB.out.symm, rfl⟩

theorem yes1 {a : UInt8} (h : 48 ≤ (a.toNat : Int) ∧ (a.toNat : Int) ≤ 57) : numB [a] = true ∧ numV [a] = (a.toNat : Int) - 48 := by
  have hb : numB [a] = true := by simp [numB, dig_iff.2 h]
  exact ⟨hb, by rw [num_yes hb]; simp [numF]⟩
theorem no1 {a : UInt8} (h : (a.toNat : Int) < 48 ∨ 57 < (a.toNat : Int)) : numB [a] = false ∧ numV [a] = 0 := by
  have hb : numB [a] = false := by simp [numB, dig_niff.2 h]
  exact ⟨hb, num_no hb⟩
theorem yes2 {a b : UInt8} (h0 : ¬ (a.toNat : Int) = 48) (h : 48 ≤ (a.toNat : Int) ∧ (a.toNat : Int) ≤ 57) (h2 : 48 ≤ (b.toNat : Int) ∧ (b.toNat : Int) ≤ 57) :
    numB [a, b] = true ∧ numV [a, b] = 10 * ((a.toNat : Int) - 48) + ((b.toNat : Int) - 48) := by
  have h1 : ¬ a = 48 := by rw [b48]; omega
  have hb : numB [a, b] = true := by simp [numB, dig_iff.2 h, dig_iff.2 h2, h1]
  exact ⟨hb, by rw [num_yes hb]; simp [numF]⟩
theorem no2 {a b : UInt8} (h : (a.toNat : Int) = 48 ∨ ((a.toNat : Int) < 48 ∨ 57 < (a.toNat : Int)) ∨ (b.toNat : Int) < 48 ∨ 57 < (b.toNat : Int)) : numB [a, b] = false ∧ numV [a, b] = 0 := by
  have hb : numB [a, b] = false := by
    rcases h with h | h | h
    · have : a = 48 := by rw [b48]; omega
      simp [numB, this]
    · simp [numB, dig_niff.2 h]
    · simp [numB, dig_niff.2 h]
  exact ⟨hb, num_no hb⟩
theorem yes3 {a b c : UInt8} (h0 : ¬ (a.toNat : Int) = 48) (h : 48 ≤ (a.toNat : Int) ∧ (a.toNat : Int) ≤ 57) (h2 : 48 ≤ (b.toNat : Int) ∧ (b.toNat : Int) ≤ 57) (h3 : 48 ≤ (c.toNat : Int) ∧ (c.toNat : Int) ≤ 57) :
    numB [a, b, c] = true ∧ numV [a, b, c] = 10 * (10 * ((a.toNat : Int) - 48) + ((b.toNat : Int) - 48)) + ((c.toNat : Int) - 48) := by
  have h1 : ¬ a = 48 := by rw [b48]; omega
  have hb : numB [a, b, c] = true := by simp [numB, dig_iff.2 h, dig_iff.2 h2, dig_iff.2 h3, h1]
  exact ⟨hb, by rw [num_yes hb]; simp [numF]⟩
theorem no3 {a b c : UInt8} (h : (a.toNat : Int) = 48 ∨ ((a.toNat : Int) < 48 ∨ 57 < (a.toNat : Int)) ∨ ((b.toNat : Int) < 48 ∨ 57 < (b.toNat : Int)) ∨ (c.toNat : Int) < 48 ∨ 57 < (c.toNat : Int)) : numB [a, b, c] = false ∧ numV [a, b, c] = 0 := by
  have hb : numB [a, b, c] = false := by
    rcases h with h | h | h | h
    · have : a = 48 := by rw [b48]; omega
      simp [numB, this]
    · simp [numB, dig_niff.2 h]
    · simp [numB, dig_niff.2 h]
    · simp [numB, dig_niff.2 h]
  exact ⟨hb, num_no hb⟩

set_option maxHeartbeats 1600000 in
theorem parseNumber_1 (a : UInt8) (w : World) :
    Calls Tryd.prog 62 #[.string ⟨#[a]⟩] w fun e w' => e = .returned (.tuple #[.int .i64 (numV [a]), .bool (numB [a])]) ∧ w = w' := by
  by_cases h48 : a = 48
  · subst h48
    go_enter Tryd.func62, Tryd.ntmps62
    go_wp2_with (fail)
    refine wp_loop_rounds 2 ?_
    rw [rounds_succ]
    go_wp2_with (fail)
    rw [rounds_succ]
    go_wp2_with (fail)
    go_ret2
    exact ⟨ret_ib (by decide) (by decide), rfl⟩
  · have h1 : ¬ (((ByteArray.mk #[a])[0]'(show 0 < 1 by decide)).toNat : Int) = 48 := by rw [b48] at h48; show ¬ (a.toNat : Int) = 48; omega
    clear h48
    go_enter Tryd.func62, Tryd.ntmps62
    go_wp2_with (fail)
    refine wp_loop_rounds 2 ?_
    rw [rounds_succ]
    go_wp2_with (fail)
    all_goals first | (rw [rounds_succ]; go_wp2_with (fail)) | skip
    all_goals go_ret2
    all_goals first | (refine ⟨ret_ib (no1 (a := ((ByteArray.mk #[a])[0]'(show 0 < 1 by decide))) ?_).2.symm (no1 (a := ((ByteArray.mk #[a])[0]'(show 0 < 1 by decide))) ?_).1.symm, rfl⟩ <;> omega) | (refine ⟨ret_ib (yes1 (a := ((ByteArray.mk #[a])[0]'(show 0 < 1 by decide))) ?_).2.symm (yes1 (a := ((ByteArray.mk #[a])[0]'(show 0 < 1 by decide))) ?_).1.symm, rfl⟩ <;> omega)

set_option maxHeartbeats 1600000 in
theorem parseNumber_2 (a b : UInt8) (w : World) :
    Calls Tryd.prog 62 #[.string ⟨#[a, b]⟩] w fun e w' => e = .returned (.tuple #[.int .i64 (numV [a, b]), .bool (numB [a, b])]) ∧ w = w' := by
  by_cases h48 : a = 48
  · subst h48
    go_enter Tryd.func62, Tryd.ntmps62
    go_wp2_with (fail)
    go_ret2
    have H := no2 (a := 48) (b := b) (.inl rfl)
    exact ⟨ret_ib H.2.symm H.1.symm, rfl⟩
  · have h1 : ¬ (((ByteArray.mk #[a, b])[0]'(show 0 < 2 by decide)).toNat : Int) = 48 := by rw [b48] at h48; show ¬ (a.toNat : Int) = 48; omega
    clear h48
    go_enter Tryd.func62, Tryd.ntmps62
    go_wp2_with (fail)
    refine wp_loop_rounds 3 ?_
    rw [rounds_succ]
    go_wp2_with (fail)
    all_goals first | (rw [rounds_succ]; go_wp2_with (fail)) | skip
    all_goals first | (rw [rounds_succ]; go_wp2_with (fail)) | skip
    all_goals go_ret2
    all_goals first | (refine ⟨ret_ib (no2 (a := ((ByteArray.mk #[a, b])[0]'(show 0 < 2 by decide))) (b := ((ByteArray.mk #[a, b])[1]'(show 1 < 2 by decide))) ?_).2.symm (no2 (a := ((ByteArray.mk #[a, b])[0]'(show 0 < 2 by decide))) (b := ((ByteArray.mk #[a, b])[1]'(show 1 < 2 by decide))) ?_).1.symm, rfl⟩ <;> omega) | (refine ⟨ret_ib (yes2 (a := ((ByteArray.mk #[a, b])[0]'(show 0 < 2 by decide))) (b := ((ByteArray.mk #[a, b])[1]'(show 1 < 2 by decide))) ?_ ?_ ?_).2.symm (yes2 (a := ((ByteArray.mk #[a, b])[0]'(show 0 < 2 by decide))) (b := ((ByteArray.mk #[a, b])[1]'(show 1 < 2 by decide))) ?_ ?_ ?_).1.symm, rfl⟩ <;> omega)

set_option maxHeartbeats 1600000 in
theorem parseNumber_3 (a b c : UInt8) (w : World) :
    Calls Tryd.prog 62 #[.string ⟨#[a, b, c]⟩] w fun e w' => e = .returned (.tuple #[.int .i64 (numV [a, b, c]), .bool (numB [a, b, c])]) ∧ w = w' := by
  by_cases h48 : a = 48
  · subst h48
    go_enter Tryd.func62, Tryd.ntmps62
    go_wp2_with (fail)
    go_ret2
    have H := no3 (a := 48) (b := b) (c := c) (.inl rfl)
    exact ⟨ret_ib H.2.symm H.1.symm, rfl⟩
  · have h1 : ¬ (((ByteArray.mk #[a, b, c])[0]'(show 0 < 3 by decide)).toNat : Int) = 48 := by rw [b48] at h48; show ¬ (a.toNat : Int) = 48; omega
    clear h48
    go_enter Tryd.func62, Tryd.ntmps62
    go_wp2_with (fail)
    refine wp_loop_rounds 4 ?_
    rw [rounds_succ]
    go_wp2_with (fail)
    all_goals first | (rw [rounds_succ]; go_wp2_with (fail)) | skip
    all_goals first | (rw [rounds_succ]; go_wp2_with (fail)) | skip
    all_goals first | (rw [rounds_succ]; go_wp2_with (fail)) | skip
    all_goals go_ret2
    all_goals first | (refine ⟨ret_ib (no3 (a := ((ByteArray.mk #[a, b, c])[0]'(show 0 < 3 by decide))) (b := ((ByteArray.mk #[a, b, c])[1]'(show 1 < 3 by decide))) (c := ((ByteArray.mk #[a, b, c])[2]'(show 2 < 3 by decide))) ?_).2.symm (no3 (a := ((ByteArray.mk #[a, b, c])[0]'(show 0 < 3 by decide))) (b := ((ByteArray.mk #[a, b, c])[1]'(show 1 < 3 by decide))) (c := ((ByteArray.mk #[a, b, c])[2]'(show 2 < 3 by decide))) ?_).1.symm, rfl⟩ <;> omega) | (refine ⟨ret_ib (yes3 (a := ((ByteArray.mk #[a, b, c])[0]'(show 0 < 3 by decide))) (b := ((ByteArray.mk #[a, b, c])[1]'(show 1 < 3 by decide))) (c := ((ByteArray.mk #[a, b, c])[2]'(show 2 < 3 by decide))) ?_ ?_ ?_ ?_).2.symm (yes3 (a := ((ByteArray.mk #[a, b, c])[0]'(show 0 < 3 by decide))) (b := ((ByteArray.mk #[a, b, c])[1]'(show 1 < 3 by decide))) (c := ((ByteArray.mk #[a, b, c])[2]'(show 2 < 3 by decide))) ?_ ?_ ?_ ?_).1.symm, rfl⟩ <;> omega)

theorem parseNumber_any (l : List UInt8) (w : World) :
    Calls Tryd.prog 62 #[.string ⟨l.toArray⟩] w fun e w' => e = .returned (.tuple #[.int .i64 (numV l), .bool (numB l)]) ∧ w = w' :=
  match l with
  | [] => parseNumber_0 w
  | [a] => parseNumber_1 a w
  | [a, b] => parseNumber_2 a b w
  | [a, b, c] => parseNumber_3 a b c w
  | a :: b :: c :: d :: r => parseNumber_big _ (by simp) w

end Go.Proofs.YtdaeanjjmbibmaaDoor
