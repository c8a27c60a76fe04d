/- What SamePlaces returns at two equal lists. -/
import Derived.Test.YtbjmlbmkfgocdaaDoorRefPlaces
namespace Go.Proofs.YtbjmlbmkfgocdaaDoor
open Go.RowKit

theorem plC_at : ∀ (L : List (Int × Int)) (k : Nat), k < L.length → (plC L)[k * 2]? = some (.int .i64 (L.getD k (0, 0)).1) ∧ (plC L)[k * 2 + 1]? = some (.int .i64 (L.getD k (0, 0)).2)
  | c :: r, 0, _ => ⟨rfl, rfl⟩
  | c :: r, k + 1, h => by
    have := plC_at r k (by simpa using h)
    have e : plC (c :: r) = .int .i64 c.1 :: .int .i64 c.2 :: plC r := rfl
    rw [e, show (k + 1) * 2 = k * 2 + 2 from by omega]
    exact this

set_option maxHeartbeats 1600000 in
theorem samePlaces_eq (A B : Option Addr) (n c d : Nat) (L : List (Int × Int)) (w : World) (hA : Sl w w.heap.size 2 A n c (plC L)) (hB : Sl w w.heap.size 2 B n d (plC L)) (hn : n = L.length) (hb : n ≤ 9223372036854775807) :
    Calls Tryd.prog 27 #[.slice A n c, .slice B n d] w fun e w' => e = .returned (.bool true) ∧ Below w.heap.size w w' := by
  have HN := Lib.hid hn
  clear hn
  go_enter Tryd.func27, Tryd.ntmps27
  go_wp2_with (fail)
  go_loopw [5] (fun i wr => ∃ k : Nat, k ≤ n ∧ i = .int .i64 k ∧ Below w.heap.size w wr) (fun i _ => n - (intOf i).toNat)
  case atStart => exact ⟨0, by omega, rfl, Below.refl _ _⟩
  case round =>
    obtain ⟨k, hk, rfl, hbw⟩ := hrel
    by_cases hlt : k < n
    · have hkn : (k : Int) < (n : Int) := by omega
      obtain ⟨b1, o1, hA1, hB1, hc1⟩ := (hA.below hbw).2.2 (by omega)
      obtain ⟨b2, o2, hA2, hB2, hc2⟩ := (hB.below hbw).2.2 (by omega)
      subst hA1 hA2
      obtain ⟨i0, i1⟩ := plC_at L k (by have := HN.out; omega)
      have a0 := hc1 _ _ i0
      have a1 := hc1 _ _ i1
      have b0 := hc2 _ _ i0
      have b1' := hc2 _ _ i1
      rw [← Nat.add_assoc] at a1 b1'
      clear hc1 hc2 i0 i1 hA hB
      generalize (L.getD k (0, 0)).1 = x at *
      generalize (L.getD k (0, 0)).2 = y at *
      go_wp2_with (fail)
      go_quiet (fail)
      go_wp2_with (fail)
      go_roundw
      case rel => exact ⟨k + 1, by omega, by go_num, bd hbw _⟩
      case measure => simp [intOf]; omega
    · have hkn : ¬ ((k : Int) < (n : Int)) := by omega
      go_wp2_with (fail)
      go_ret
      exact ⟨rfl, hbw⟩

/-- The argument's block, in whatever world lies above it. -/
theorem args1 {w : World} {A : Option Addr} {n c : Nat} {A' : Option Addr} {m c' : Nat} {w' : World} (h : Below (w.alloc (iObj A n c A' m c')).heap.size (w.alloc (iObj A n c A' m c')) w') :
    w'.cell? ⟨w.heap.size, 0, none⟩ = some (.slice A n c) ∧ w'.cell? ⟨w.heap.size, 1, none⟩ = some (.slice A' m c') ∧ w.heap.size < w'.heap.size ∧ Below (w.alloc (iObj A n c A' m c')).heap.size (w.alloc (iObj A n c A' m c')) w' := by
  obtain ⟨c0, _⟩ := keepb h 0
  obtain ⟨c1, _⟩ := keepb h 1
  have hz := h.size
  simp at c0 c1 hz
  exact ⟨c0, c1, by omega, h⟩

end Go.Proofs.YtbjmlbmkfgocdaaDoor
