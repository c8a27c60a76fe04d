/- What SameSigns returns at two equal lists. -/
import Derived.Test.YtamfbglhachffaaDoorRefSg
namespace Go.Proofs.YtamfbglhachffaaDoor
open Go Go.RowKit

theorem sgLs_at : ∀ (L : List Nat) (k : Nat), k < L.length → (L.flatMap sgL)[k * 3]? = some (.int .i64 (sgv (L.getD k 0)).1) ∧ (L.flatMap sgL)[k * 3 + 1]? = some (.bool (sgv (L.getD k 0)).2.1) ∧ (L.flatMap sgL)[k * 3 + 2]? = some (.bool (sgv (L.getD k 0)).2.2)
  | c :: r, 0, _ => ⟨rfl, rfl, rfl⟩
  | c :: r, k + 1, h => by
    have := sgLs_at r k (by simpa using h)
    have e : (c :: r).flatMap sgL = .int .i64 (sgv c).1 :: .bool (sgv c).2.1 :: .bool (sgv c).2.2 :: r.flatMap sgL := rfl
    rw [e, show (k + 1) * 3 = k * 3 + 3 from by omega]
    exact this

set_option maxHeartbeats 1600000 in
theorem sameSigns_eq (A B : Option Addr) (n c d : Nat) (L : List Nat) (w : World) (hA : Sl w w.heap.size 3 A n c (L.flatMap sgL)) (hB : Sl w w.heap.size 3 B n d (L.flatMap sgL)) (hn : n = L.length) (hb : n ≤ 9223372036854775807) :
    Calls Tryd.prog 11 #[.slice A n c, .slice B n d] w fun e w' => e = .returned (.bool true) ∧ Below w.heap.size w w' := by
  have HN := Lib.hid hn
  clear hn
  go_enter Tryd.func11, Tryd.ntmps11
  go_wp2_with (fail)
  go_loopw [5] (fun i wr => ∃ k : Nat, k ≤ n ∧ i = .int .i64 k ∧ Below w.heap.size w wr) (fun i _ => n - (intOf i).toNat)
  case atStart => exact ⟨0, by omega, rfl, Below.refl _ _⟩
  case round =>
    obtain ⟨k, hk, rfl, hbw⟩ := hrel
    by_cases hlt : k < n
    · have hkn : (k : Int) < (n : Int) := by omega
      obtain ⟨b1, o1, hA1, hB1, hc1⟩ := (hA.below hbw).2.2 (by omega)
      obtain ⟨b2, o2, hA2, hB2, hc2⟩ := (hB.below hbw).2.2 (by omega)
      subst hA1 hA2
      obtain ⟨i0, i1, i2⟩ := sgLs_at L k (by have := HN.out; omega)
      have a0 := hc1 _ _ i0
      have a1 := hc1 _ _ i1
      have a2 := hc1 _ _ i2
      have b0 := hc2 _ _ i0
      have b1' := hc2 _ _ i1
      have b2' := hc2 _ _ i2
      rw [← Nat.add_assoc] at a1 b1' a2 b2'
      clear hc1 hc2 i0 i1 i2 hA hB
      generalize (sgv (L.getD k 0)).1 = x at *
      generalize (sgv (L.getD k 0)).2.1 = y at *
      generalize (sgv (L.getD k 0)).2.2 = z at *
      go_wp2_with (fail)
      go_quiet (fail)
      go_wp2_with (fail)
      go_roundw
      case rel => exact ⟨k + 1, by omega, by go_num, bd hbw _⟩
      case measure => simp [intOf]; omega
    · have hkn : ¬ ((k : Int) < (n : Int)) := by omega
      go_wp2_with (fail)
      go_ret
      exact ⟨rfl, hbw⟩

end Go.Proofs.YtamfbglhachffaaDoor
