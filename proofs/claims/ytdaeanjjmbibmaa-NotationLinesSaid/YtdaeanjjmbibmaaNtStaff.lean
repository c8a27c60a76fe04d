/- Notation: the courses of a staff, of each system. -/
import Derived.Test.YtdaeanjjmbibmaaPartAt
import Derived.OwnWalk
import Derived.Laws.MakeOwn
import Derived.Deep.AppendLies
namespace Go.Proofs.Ytdaeanjjmbibmaa
open Go.RowKit Go.Sort

def upL (k : Nat) : List Int := (List.range k).map fun j => ((j : Nat) : Int) + 1
/-- The courses of a staff with k lines, from top to bottom. -/
def stL (s : Int) (k : Nat) : List Int := if s = 4 then [] else if s = 2 then (upL k).reverse else upL k
/-- What a call returns that hands back a list of numbers, in memory of its own or none. -/
def StaffP (L : List Int) (w : World) (e : Ending) (w' : World) : Prop :=
  Below w.heap.size w w' ∧ ((L = [] ∧ e = .returned (.slice none 0 0)) ∨ (∃ g, e = .returned (.slice (some ⟨g, 0, none⟩) L.length L.length) ∧ g < w'.heap.size ∧ w.heap.size ≤ g ∧ ∀ j, j < L.length → w'.cell? ⟨g, j, none⟩ = some (.int .i64 (L.getD j 0)) ∧ w'.frozen? ⟨g, j, none⟩ = false))
theorem staffP_row {L : List Int} {w w1 : World} {cs : Array Value} {t : TypeId} {g k : Nat} (h : Below w.heap.size w w1) (hc : cs.toList = L.map (Value.int .i64)) (hg : g = w1.heap.size) (hk : k = L.length) : StaffP L w (.returned (.slice (some ⟨g, 0, none⟩) k k)) (w1.alloc (.cells cs t)) := by
  subst hg hk
  refine ⟨nBt h (nBa _ _), .inr ⟨w1.heap.size, rfl, by simp, h.size, fun j hj => ?_⟩⟩
  obtain ⟨c0, c1⟩ := nKeep (Below.refl (w1.alloc (.cells cs t)).heap.size (w1.alloc (.cells cs t))) j
  refine ⟨?_, c1⟩
  rw [c0, ← Array.getElem?_toList, hc, List.getElem?_map, List.getElem?_eq_getElem hj]
  simp [List.getElem?_eq_getElem hj]

set_option maxRecDepth 100000 in
set_option maxHeartbeats 1600000 in
theorem td_1 (w : World) : Calls Try.prog 66 #[.agg #[], .int .i64 1] w (StaffP (upL 1) w) := by
  have hmk : ∀ w : World, (Instr.makeSlice 31 (.int .i64 1) (.int .i64 1)).run Try.prog w = .ok (.slice (some ⟨w.heap.size, 0, none⟩) 1 1) (w.alloc (.cells #[.int .i64 0] 3)) := fun _ => by kernel_rfl
  go_enter Try.func66, Try.ntmps66
  go_wp2_with (fail)
  refine wp_loop_rounds 2 ?_
  rw [rounds_succ]
  go_wp2_with (fail)
  rw [rounds_succ]
  go_wp2_with (fail)
  go_ret
  exact staffP_row (L := upL 1) (cs := #[.int .i64 1]) (g := w.heap.size + 1) (k := 1) (nBa w _) rfl (by simp) rfl
set_option maxRecDepth 100000 in
set_option maxHeartbeats 1600000 in
theorem td_2 (w : World) : Calls Try.prog 66 #[.agg #[], .int .i64 2] w (StaffP (upL 2) w) := by
  have hmk : ∀ w : World, (Instr.makeSlice 31 (.int .i64 2) (.int .i64 2)).run Try.prog w = .ok (.slice (some ⟨w.heap.size, 0, none⟩) 2 2) (w.alloc (.cells #[.int .i64 0, .int .i64 0] 3)) := fun _ => by kernel_rfl
  go_enter Try.func66, Try.ntmps66
  go_wp2_with (fail)
  refine wp_loop_rounds 3 ?_
  rw [rounds_succ]
  go_wp2_with (fail)
  rw [rounds_succ]
  go_wp2_with (fail)
  rw [rounds_succ]
  go_wp2_with (fail)
  go_ret
  exact staffP_row (L := upL 2) (cs := #[.int .i64 1, .int .i64 2]) (g := w.heap.size + 1) (k := 2) (nBa w _) rfl (by simp) rfl
set_option maxRecDepth 100000 in
set_option maxHeartbeats 1600000 in
theorem td_3 (w : World) : Calls Try.prog 66 #[.agg #[], .int .i64 3] w (StaffP (upL 3) w) := by
  have hmk : ∀ w : World, (Instr.makeSlice 31 (.int .i64 3) (.int .i64 3)).run Try.prog w = .ok (.slice (some ⟨w.heap.size, 0, none⟩) 3 3) (w.alloc (.cells #[.int .i64 0, .int .i64 0, .int .i64 0] 3)) := fun _ => by kernel_rfl
  go_enter Try.func66, Try.ntmps66
  go_wp2_with (fail)
  refine wp_loop_rounds 4 ?_
  rw [rounds_succ]
  go_wp2_with (fail)
  rw [rounds_succ]
  go_wp2_with (fail)
  rw [rounds_succ]
  go_wp2_with (fail)
  rw [rounds_succ]
  go_wp2_with (fail)
  go_ret
  exact staffP_row (L := upL 3) (cs := #[.int .i64 1, .int .i64 2, .int .i64 3]) (g := w.heap.size + 1) (k := 3) (nBa w _) rfl (by simp) rfl
set_option maxRecDepth 100000 in
set_option maxHeartbeats 1600000 in
theorem td_4 (w : World) : Calls Try.prog 66 #[.agg #[], .int .i64 4] w (StaffP (upL 4) w) := by
  have hmk : ∀ w : World, (Instr.makeSlice 31 (.int .i64 4) (.int .i64 4)).run Try.prog w = .ok (.slice (some ⟨w.heap.size, 0, none⟩) 4 4) (w.alloc (.cells #[.int .i64 0, .int .i64 0, .int .i64 0, .int .i64 0] 3)) := fun _ => by kernel_rfl
  go_enter Try.func66, Try.ntmps66
  go_wp2_with (fail)
  refine wp_loop_rounds 5 ?_
  rw [rounds_succ]
  go_wp2_with (fail)
  rw [rounds_succ]
  go_wp2_with (fail)
  rw [rounds_succ]
  go_wp2_with (fail)
  rw [rounds_succ]
  go_wp2_with (fail)
  rw [rounds_succ]
  go_wp2_with (fail)
  go_ret
  exact staffP_row (L := upL 4) (cs := #[.int .i64 1, .int .i64 2, .int .i64 3, .int .i64 4]) (g := w.heap.size + 1) (k := 4) (nBa w _) rfl (by simp) rfl
set_option maxRecDepth 100000 in
set_option maxHeartbeats 1600000 in
theorem td_5 (w : World) : Calls Try.prog 66 #[.agg #[], .int .i64 5] w (StaffP (upL 5) w) := by
  have hmk : ∀ w : World, (Instr.makeSlice 31 (.int .i64 5) (.int .i64 5)).run Try.prog w = .ok (.slice (some ⟨w.heap.size, 0, none⟩) 5 5) (w.alloc (.cells #[.int .i64 0, .int .i64 0, .int .i64 0, .int .i64 0, .int .i64 0] 3)) := fun _ => by kernel_rfl
  go_enter Try.func66, Try.ntmps66
  go_wp2_with (fail)
  refine wp_loop_rounds 6 ?_
  rw [rounds_succ]
  go_wp2_with (fail)
  rw [rounds_succ]
  go_wp2_with (fail)
  rw [rounds_succ]
  go_wp2_with (fail)
  rw [rounds_succ]
  go_wp2_with (fail)
  rw [rounds_succ]
  go_wp2_with (fail)
  rw [rounds_succ]
  go_wp2_with (fail)
  go_ret
  exact staffP_row (L := upL 5) (cs := #[.int .i64 1, .int .i64 2, .int .i64 3, .int .i64 4, .int .i64 5]) (g := w.heap.size + 1) (k := 5) (nBa w _) rfl (by simp) rfl
set_option maxRecDepth 100000 in
set_option maxHeartbeats 1600000 in
theorem td_6 (w : World) : Calls Try.prog 66 #[.agg #[], .int .i64 6] w (StaffP (upL 6) w) := by
  have hmk : ∀ w : World, (Instr.makeSlice 31 (.int .i64 6) (.int .i64 6)).run Try.prog w = .ok (.slice (some ⟨w.heap.size, 0, none⟩) 6 6) (w.alloc (.cells #[.int .i64 0, .int .i64 0, .int .i64 0, .int .i64 0, .int .i64 0, .int .i64 0] 3)) := fun _ => by kernel_rfl
  go_enter Try.func66, Try.ntmps66
  go_wp2_with (fail)
  refine wp_loop_rounds 7 ?_
  rw [rounds_succ]
  go_wp2_with (fail)
  rw [rounds_succ]
  go_wp2_with (fail)
  rw [rounds_succ]
  go_wp2_with (fail)
  rw [rounds_succ]
  go_wp2_with (fail)
  rw [rounds_succ]
  go_wp2_with (fail)
  rw [rounds_succ]
  go_wp2_with (fail)
  rw [rounds_succ]
  go_wp2_with (fail)
  go_ret
  exact staffP_row (L := upL 6) (cs := #[.int .i64 1, .int .i64 2, .int .i64 3, .int .i64 4, .int .i64 5, .int .i64 6]) (g := w.heap.size + 1) (k := 6) (nBa w _) rfl (by simp) rfl
theorem td_any (k : Nat) (h1 : 1 ≤ k) (h6 : k ≤ 6) (w : World) : Calls Try.prog 66 #[.agg #[], .int .i64 k] w (StaffP (upL k) w) := by
  have : k = 1 ∨ k = 2 ∨ k = 3 ∨ k = 4 ∨ k = 5 ∨ k = 6 := by omega
  rcases this with rfl | rfl | rfl | rfl | rfl | rfl
  · exact td_1 w
  · exact td_2 w
  · exact td_3 w
  · exact td_4 w
  · exact td_5 w
  · exact td_6 w

theorem below_putRow {w0 w : World} {B : Nat} (h : Below B w0 w) (enc : Int → Value) (blk n : Nat) (d : Array Int) (hB : B ≤ blk) : Below B w0 (putRow enc (Sort.ahead w n) blk 0 d) := by
  refine ⟨h.os, h.tape, h.output, by rw [size_putRow]; exact h.size, fun k hk => ?_⟩
  have : (putRow enc (Sort.ahead w n) blk 0 d).heap[k]? = w.heap[k]? := by
    simp only [putRow, mapBlock, Array.getElem?_modify]
    rw [if_neg (by omega)]
    rfl
  rw [this]
  exact h.block k hk
theorem upL_len (k : Nat) : (upL k).length = k := by simp [upL]

theorem mTopStaff : ∀ w : World, (method 247 73 (.agg #[]) "theorbo/notation.staff").run Try.prog w = .ok (66, .agg #[]) w := fun _ => by kernel_rfl
theorem mTopStaffS : ∀ w : World, (method 247 79 (.agg #[]) "theorbo/notation.staff").run Try.prog w = .ok (66, .agg #[]) w := fun _ => by kernel_rfl
theorem mStaffI : ∀ w : World, (method 247 77 (.agg #[]) "theorbo/notation.staff").run Try.prog w = .ok (107, .agg #[]) w := fun _ => by kernel_rfl

set_option maxRecDepth 100000 in
set_option maxHeartbeats 1600000 in
theorem italStaff (k : Nat) (h1 : 1 ≤ k) (h6 : k ≤ 6) (w : World) : Calls Try.prog 107 #[.agg #[], .int .i64 k] w (StaffP (upL k).reverse w) := by
  have hpt := part0 w
  go_enter Try.func107, Try.ntmps107
  go_wp2_with (fail)
  refine (td_any k h1 h6 _).mono ?_
  rintro e w1 ⟨hb1, ⟨h0, _⟩ | ⟨g, rfl, hg, hgw, hcs⟩⟩
  · have := congrArg List.length h0
    rw [upL_len] at this
    exact absurd this (by simp; omega)
  · have hH : Holds (Value.int .i64) w1 g 0 (upL k).toArray := by
      intro j hj
      have := hcs j (by simpa using hj)
      rw [Nat.zero_add]
      refine ⟨?_, this.2⟩
      rw [this.1]
      have hj' : j < (upL k).length := by simpa using hj
      rw [getElem!_pos _ j hj, List.getD_eq_getElem?_getD, List.getElem?_eq_getElem hj']
      rfl
    have HR := Lib.hid (Try.slices_Reverse_int g 0 (upL k).length (upL k) w1 hH (by rw [upL_len]; omega))
    have HH := Lib.hid hH
    have HL := Lib.hid (upL_len k)
    have HG := Lib.hid (And.intro hg hgw)
    clear hH hcs hg hgw
    generalize upL k = L at *
    go_wp2_with (fail)
    refine HR.out.mono ?_
    rintro e w2 ⟨rfl, n, rfl⟩
    go_wp2_with (fail)
    go_ret
    refine ⟨nBx (below_putRow hb1 _ g n _ (by have := HG.out.2; simpa using this)), .inr ⟨g, by rw [List.length_reverse]; rfl, by rw [size_putRow]; exact HG.out.1, by have := HG.out.2; simp at this; omega, fun j hj => ?_⟩⟩
    have hz : (L.reverse.toArray).size = (L.toArray).size := by simp
    have := holds_putRow (Value.int .i64) (Sort.ahead w1 n) g 0 L.toArray L.reverse.toArray (holds_ahead _ _ _ _ _ _ HH.out) hz j (by simpa using hj)
    rw [Nat.zero_add] at this
    refine ⟨?_, this.2⟩
    rw [this.1]
    have hj' : j < L.reverse.toArray.size := by simpa using hj
    rw [getElem!_pos _ j hj', List.getD_eq_getElem?_getD, List.getElem?_eq_getElem hj]
    rfl

end Go.Proofs.Ytdaeanjjmbibmaa
