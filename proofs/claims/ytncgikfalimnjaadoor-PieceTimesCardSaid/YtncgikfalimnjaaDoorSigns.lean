/- Piece: Signs(120). -/
import Derived.Test.YtncgikfalimnjaaDoorFillH
import Derived.Laws.EntriesVeiled
namespace Go.Proofs.YtncgikfalimnjaaDoor
open Go Go.RowKit

theorem tks_long7 : ∀ j, 0 ≤ j → j < 7 → (120 : Int) < tks j := by
  intro j _ h
  have : j = 0 ∨ j = 1 ∨ j = 2 ∨ j = 3 ∨ j = 4 ∨ j = 5 ∨ j = 6 := by omega
  rcases this with rfl | rfl | rfl | rfl | rfl | rfl | rfl <;> decide
theorem tks_long13 : ∀ j, 7 ≤ j → j < 13 → (24 : Int) < tks j := by
  intro j h1 h
  have : j = 7 ∨ j = 8 ∨ j = 9 ∨ j = 10 ∨ j = 11 ∨ j = 12 := by omega
  rcases this with rfl | rfl | rfl | rfl | rfl | rfl <;> decide

set_option maxRecDepth 100000 in
set_option maxHeartbeats 1600000 in
theorem signs120 (w : World) (hT : SgT w) : Calls Tryd.prog 17 #[.int .i64 120] w fun e w' => ∃ v, e = .returned (.tuple #[v, .int .i64 0]) ∧ w'.ownsRow w.heap.size 29 3 v 2 (sgL 7 ++ sgL 13) ∧ Below w.heap.size w w' := by
  have hmf : ∀ (fn : Fn) (first cap : Array Value) (w : World), (Instr.makeFunc fn first cap).run Tryd.prog w = .ok (.func fn first cap) w := fun _ _ _ _ => rfl
  have bF := Boxed.new (w.alloc (.cells #[.slice none 0 0] 23)) 74 (fillV w.heap.size (w.heap.size + 1))
  rw [World.size_alloc] at bF
  have bC := (Boxed.new w 23 (.slice none 0 0)).alloc (.cells #[fillV w.heap.size (w.heap.size + 1)] 74)
  have lo : Below w.heap.size w ((w.alloc (.cells #[.slice none 0 0] 23)).alloc (.cells #[fillV w.heap.size (w.heap.size + 1)] 74)) := (ba w _).alloc (by simp) _
  have hFS : FS w w.heap.size (w.heap.size + 1) 0 [] ((w.alloc (.cells #[.slice none 0 0] 23)).alloc (.cells #[fillV w.heap.size (w.heap.size + 1)] 74)) := ⟨⟨_, bC, World.ownsRow_nil _ _ _ _⟩, bF, lo, hT.below lo⟩
  have hg : 0 < w.heap.size := hT.1
  have HT := Lib.hid hT
  have HFS := Lib.hid hFS
  clear hT bF bC lo hFS
  go_enter Tryd.func17, Tryd.ntmps17
  go_wp2_with (fail)
  obtain ⟨W3, hW3⟩ : ∃ W3, (w.alloc (.cells #[.slice none 0 0] 23)).alloc (.cells #[fillV w.heap.size (w.heap.size + 1)] 74) = W3 := ⟨_, rfl⟩
  rw [hW3] at HFS ⊢
  clear hW3
  have hc0 := HFS.out.fn.cell
  refine wp_loop_rounds 3 ?_
  rw [rounds_succ]
  go_wp2_with (go_at_call 53; refine (fill_zero 120 0 _ _ _).mono ?_; rintro e w1 ⟨rfl, rfl⟩)
  rw [rounds_succ]
  go_wp2_with (go_at_call 53; refine (fill_miss 120 0 7 1 _ _ _ HFS.out.tab (by omega) (by omega) rfl tks_long7 (by decide) (by decide) (by decide) (by decide)).mono ?_; rintro e w2 ⟨rfl, hb2⟩)
  have HF2 := Lib.hid (HFS.out.below hb2)
  have hc2 := HF2.out.fn.cell
  have HH : Hid (∀ w', FS w w.heap.size (w.heap.size + 1) 1 ([] ++ sgL 7) w' → Calls Tryd.prog 53 #[.int .i64 24, .int .i64 7, .int .i64 1, .pointer (some ⟨w.heap.size, 0, none⟩), .pointer (some ⟨w.heap.size + 1, 0, none⟩)] w' fun e w'' => e = .returned (.bool true) ∧ FS w w.heap.size (w.heap.size + 1) 2 (([] ++ sgL 7) ++ sgL 13) w'') := fun w' h =>
    fill_hit w w.heap.size (w.heap.size + 1) 1 ([] ++ sgL 7) (([] ++ sgL 7) ++ sgL 13) 2 hg (Nat.le_refl _) (by omega) 24 7 13 1 w' h (by omega) (by omega) rfl (by omega) (by omega) (by omega) (by omega) tks_long13 (by decide) (by decide) (by decide)
      (fun w'' h2 => (fill_zero 0 13 _ _ w'').mono fun e w3 ⟨he, hw⟩ => ⟨he, hw ▸ h2⟩)
  rw [rounds_succ]
  go_wp2_with (go_at_call 53; refine (fill_hit w w.heap.size (w.heap.size + 1) 0 [] (([] ++ sgL 7) ++ sgL 13) 2 hg (Nat.le_refl _) (by omega) 120 0 7 2 _ HF2.out (by omega) (by omega) rfl (by omega) (by omega) (by omega) (by omega) tks_long7 (by decide) (by decide) (by decide) HH).mono ?_; rintro e w3 ⟨rfl, hF3⟩; obtain ⟨v, hv, hr⟩ := hF3.row; have hcv := hv.cell)
  go_ret2
  exact ⟨v, rfl, hr, hF3.low⟩

end Go.Proofs.YtncgikfalimnjaaDoor
