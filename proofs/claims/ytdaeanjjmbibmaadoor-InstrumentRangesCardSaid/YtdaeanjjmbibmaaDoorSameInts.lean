/- What SameInts returns at two equal lists. -/
import Derived.Test.YtdaeanjjmbibmaaDoorSamePl
namespace Go.Proofs.YtdaeanjjmbibmaaDoor
open Go.RowKit

set_option maxHeartbeats 1600000 in
theorem sameInts_eq (A B : Option Addr) (n c d : Nat) (L : List Int) (w : World) (hA : Sl w w.heap.size 1 A n c (intC L)) (hB : Sl w w.heap.size 1 B n d (intC L)) (hn : n = L.length) (hb : n ≤ 9223372036854775807) :
    Calls Tryd.prog 17 #[.slice A n c, .slice B n d] w fun e w' => e = .returned (.bool true) ∧ Below w.heap.size w w' := by
  have HN := Lib.hid hn
  clear hn
  go_enter Tryd.func17, Tryd.ntmps17
  go_wp2_with (fail)
  go_loopw [5] (fun i wr => ∃ k : Nat, k ≤ n ∧ i = .int .i64 k ∧ Below w.heap.size w wr) (fun i _ => n - (intOf i).toNat)
  case atStart => exact ⟨0, by omega, rfl, Below.refl _ _⟩
  case round =>
    obtain ⟨k, hk, rfl, hbw⟩ := hrel
    by_cases hlt : k < n
    · have hkn : (k : Int) < (n : Int) := by omega
      obtain ⟨b1, o1, hA1, hB1, hc1⟩ := (hA.below hbw).2.2 (by omega)
      obtain ⟨b2, o2, hA2, hB2, hc2⟩ := (hB.below hbw).2.2 (by omega)
      subst hA1 hA2
      have i0 := intC_at L k (by have := HN.out; omega)
      have a0 := hc1 _ _ i0
      have b0 := hc2 _ _ i0
      clear hc1 hc2 i0 hA hB
      generalize L.getD k 0 = x at *
      go_wp2_with (fail)
      go_quiet (fail)
      go_wp2_with (fail)
      go_roundw
      case rel => exact ⟨k + 1, by omega, by go_num, bd hbw _⟩
      case measure => simp [intOf]; omega
    · have hkn : ¬ ((k : Int) < (n : Int)) := by omega
      go_wp2_with (fail)
      go_ret
      exact ⟨rfl, hbw⟩

end Go.Proofs.YtdaeanjjmbibmaaDoor
