/- Piece: the closure of Signs: a call that finds nothing, and one that takes a sign. -/
import Derived.Test.YtncgikfalimnjaaDoorTkT
import Derived.Test.YtncgikfalimnjaaDoorCopy
import Derived.RangeFuncBox
namespace Go.Proofs.YtncgikfalimnjaaDoor
open Go Go.RowKit

/-- The sign k of the table. -/
def sgv : Nat → Int × Bool × Bool
  | 0 => (1, true, false) | 1 => (1, false, false) | 2 => (2, true, false) | 3 => (1, false, true) | 4 => (2, false, false) | 5 => (3, true, false) | 6 => (2, false, true)
  | 7 => (3, false, false) | 8 => (4, true, false) | 9 => (3, false, true) | 10 => (4, false, false) | 11 => (5, true, false) | 12 => (4, false, true) | 13 => (5, false, false)
  | 14 => (6, true, false) | 15 => (5, false, true) | 16 => (6, false, false) | 17 => (7, true, false) | 18 => (6, false, true) | 19 => (7, false, false) | _ => (7, false, true)
def tks (k : Nat) : Int := tkV (sgv k).1 (sgv k).2.1 (sgv k).2.2
theorem tkV_bd0 (k : Nat) : 0 ≤ tks k ∧ tks k ≤ 576 := by
  have hb : ∀ v, 6 ≤ tbase v ∧ tbase v ≤ 384 := fun v => by
    unfold tbase
    repeat' split
    all_goals omega
  have := hb (sgv k).1
  unfold tks tkV
  repeat' split
  all_goals omega
/-- The table lies in its variable. -/
def SgT (w : World) : Prop := 0 < w.heap.size ∧ ∀ k, k < 21 → w.cell? ⟨0, k * 3, none⟩ = some (.int .i64 (sgv k).1) ∧ w.cell? ⟨0, k * 3 + 1, none⟩ = some (.bool (sgv k).2.1) ∧ w.cell? ⟨0, k * 3 + 2, none⟩ = some (.bool (sgv k).2.2)
theorem SgT.below {w w' : World} (h : SgT w) (hb : Below w.heap.size w w') : SgT w' := by
  have hs := hb.block 0 h.1
  have hc : ∀ (o : Nat) (v : Value), w.cell? ⟨0, o, none⟩ = some v → w'.cell? ⟨0, o, none⟩ = some v := fun o v hv => by
    unfold World.cell? at hv ⊢
    simp only at hv ⊢
    rw [hs]
    exact hv
  refine ⟨Nat.lt_of_lt_of_le h.1 hb.size, fun k hk => ?_⟩
  obtain ⟨h0, h1, h2⟩ := h.2 k hk
  exact ⟨hc _ _ h0, hc _ _ h1, hc _ _ h2⟩

set_option maxHeartbeats 1600000 in
theorem fill_zero (r i : Int) (cb fb : Value) (w : World) : Calls Tryd.prog 53 #[.int .i64 r, .int .i64 i, .int .i64 0, cb, fb] w fun e w' => e = .returned (.bool (decide (r = 0))) ∧ w = w' := by
  have H0 : Hid ((r == 0) = decide (r = 0)) := by
    unfold Hid
    by_cases h : r = 0 <;> simp [h]
  cases hr : decide (r = 0) with
  | true =>
    have h : r = 0 := by simpa using hr
    subst h
    clear hr H0
    go_enter Tryd.func53, Tryd.ntmps53
    go_wp2_with (fail)
    go_ret
    exact ⟨rfl, rfl⟩
  | false =>
    have h : (r == 0) = false := H0.out.trans hr
    clear hr H0
    go_enter Tryd.func53, Tryd.ntmps53
    go_wp2_with (fail)
    go_ret
    exact ⟨rfl, rfl⟩

set_option maxRecDepth 100000 in
set_option maxHeartbeats 1600000 in
theorem fill_miss (r : Int) (i stop : Nat) (n : Int) (cb fb : Value) (w : World) (hT : SgT w) (hi : i ≤ stop) (hst : stop < 21) (hn : (n == 0) = false) (hlong : ∀ j, i ≤ j → j < stop → r < tks j) (h1 : tks stop ≤ r) (h2 : tks stop * n < r) (hb1 : -100000 ≤ tks stop * n) (hb2 : tks stop * n ≤ 100000) :
    Calls Tryd.prog 53 #[.int .i64 r, .int .i64 i, .int .i64 n, cb, fb] w fun e w' => e = .returned (.bool false) ∧ Below w.heap.size w w' := by
  have HT := Lib.hid hT
  have HL := Lib.hid hlong
  have H1 := Lib.hid (And.intro h1 (And.intro h2 (And.intro hb1 hb2)))
  clear hT hlong h1 h2 hb1 hb2
  go_enter Tryd.func53, Tryd.ntmps53
  go_wp2_with (fail)
  go_loopw [9] (fun v wr => ∃ k : Nat, k ≤ stop ∧ i ≤ k ∧ v = .int .i64 k ∧ Below w.heap.size w wr) (fun v _ => stop - (intOf v).toNat)
  case atStart => exact ⟨i, hi, Nat.le_refl _, rfl, Below.refl _ _⟩
  case round =>
    obtain ⟨k, hk, hik, rfl, hB⟩ := hrel
    have HB := Lib.hid hB
    have g21 : (k : Int) < 21 := by omega
    obtain ⟨hg, hc⟩ := HT.out.below hB
    obtain ⟨c0, c1, c2⟩ := hc k (by omega)
    clear hc hB
    by_cases hlt : k < stop
    · have HLK := Lib.hid (HL.out k hik hlt)
      go_wp2_with (go_at_call 18; refine (ticks_any _ _ _ _).mono ?_; rintro e w1 ⟨rfl, hb1⟩; have hlk : r < tkV (sgv k).1 (sgv k).2.1 (sgv k).2.2 := HLK.out)
      go_roundw
      case rel => exact ⟨k + 1, by omega, by omega, by simp, bt HB.out hb1⟩
      case measure => simp [intOf]; omega
    · obtain rfl : k = stop := by omega
      go_wp2_with (go_at_call 18; refine (ticks_any _ _ _ _).mono ?_; rintro e w1 ⟨rfl, hb1⟩; have hl1 : tkV (sgv k).1 (sgv k).2.1 (sgv k).2.2 ≤ r := H1.out.1; have hl2 : tkV (sgv k).1 (sgv k).2.1 (sgv k).2.2 * n < r := H1.out.2.1; have hl3 : -100000 ≤ tkV (sgv k).1 (sgv k).2.1 (sgv k).2.2 * n := H1.out.2.2.1; have hl4 : tkV (sgv k).1 (sgv k).2.1 (sgv k).2.2 * n ≤ 100000 := H1.out.2.2.2)
      go_ret
      exact ⟨rfl, bt HB.out hb1⟩

end Go.Proofs.YtncgikfalimnjaaDoor
