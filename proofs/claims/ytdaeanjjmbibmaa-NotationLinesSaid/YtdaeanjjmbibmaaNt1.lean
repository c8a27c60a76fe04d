/- Notation: which system a number names; one byte of a list; the German symbols that the search for an ampersand meets. -/
import Derived.Test.YtdaeanjjmbibmaaProg
import Derived.WalkKit
import Derived.WalkSpells
import Derived.WalkLawsBesides
import Derived.Deep.QuietTactic
import Derived.BigQuiet
import Derived.Lib.Hide
namespace Go.Proofs.Ytdaeanjjmbibmaa
open Go.RowKit

theorem nBt {w w1 w2 : World} (h1 : Below w.heap.size w w1) (h2 : Below w1.heap.size w1 w2) : Below w.heap.size w w2 := h1.trans (h2.mono h1.size)
theorem nBa (w : World) (o : Obj) : Below w.heap.size w (w.alloc o) := (Below.refl _ _).alloc (Nat.le_refl _) o
theorem nBx {w w1 : World} {o : Obj} (h : Below (w.alloc o).heap.size (w.alloc o) w1) : Below w.heap.size w w1 := nBt (nBa w o) h
theorem nRet {a b : ByteArray} (h : a = b) : Ending.returned (.string a) = .returned (.string b) := by rw [h]

theorem nKeep {w W : World} {cs : Array Value} {t : TypeId} (hb : Below (w.alloc (.cells cs t)).heap.size (w.alloc (.cells cs t)) W) (j : Nat) :
    W.cell? ⟨w.heap.size, j, none⟩ = cs[j]? ∧ W.frozen? ⟨w.heap.size, j, none⟩ = false := by
  have hnew : (w.alloc (.cells cs t)).heap[w.heap.size]? = some (.cells cs t (0, 0)) := heap_alloc_new w _
  have hlt : w.heap.size < (w.alloc (.cells cs t)).heap.size := by simp
  have h := (hb.block w.heap.size hlt).trans hnew
  exact ⟨cell_of_row W _ j cs t (0, 0) h, by simp [World.frozen?, h]⟩
abbrev fr : Value := .iface 73 (.agg #[])
abbrev ital : Value := .iface 77 (.agg #[])
abbrev spa : Value := .iface 79 (.agg #[])
abbrev ger : Value := .iface 81 (.agg #[])
set_option maxHeartbeats 800000 in
theorem sys1 (w : World) : Calls Try.prog 20 #[.int .u8 1] w fun e w' => e = .returned (.tuple #[fr, .bool true]) ∧ w = w' := by
  go_enter Try.func20, Try.ntmps20
  go_wp2_with (fail)
  go_ret2
  exact ⟨rfl, rfl⟩
set_option maxHeartbeats 800000 in
theorem sys2 (w : World) : Calls Try.prog 20 #[.int .u8 2] w fun e w' => e = .returned (.tuple #[ital, .bool true]) ∧ w = w' := by
  go_enter Try.func20, Try.ntmps20
  go_wp2_with (fail)
  go_ret2
  exact ⟨rfl, rfl⟩
set_option maxHeartbeats 800000 in
theorem sys3 (w : World) : Calls Try.prog 20 #[.int .u8 3] w fun e w' => e = .returned (.tuple #[spa, .bool true]) ∧ w = w' := by
  go_enter Try.func20, Try.ntmps20
  go_wp2_with (fail)
  go_ret2
  exact ⟨rfl, rfl⟩
set_option maxHeartbeats 800000 in
theorem sys4 (w : World) : Calls Try.prog 20 #[.int .u8 4] w fun e w' => e = .returned (.tuple #[ger, .bool true]) ∧ w = w' := by
  go_enter Try.func20, Try.ntmps20
  go_wp2_with (fail)
  go_ret2
  exact ⟨rfl, rfl⟩
set_option maxHeartbeats 800000 in
theorem sysNo (s : Int) (w : World) (h : s ≠ 1 ∧ s ≠ 2 ∧ s ≠ 3 ∧ s ≠ 4) : Calls Try.prog 20 #[.int .u8 s] w fun e w' => e = .returned (.tuple #[.nilIface, .bool false]) ∧ w = w' := by
  obtain ⟨h1, h2, h3, h4⟩ := h
  have g1 : (s == 1) = false := by simpa using h1
  have g2 : (s == 2) = false := by simpa using h2
  have g3 : (s == 3) = false := by simpa using h3
  have g4 : (s == 4) = false := by simpa using h4
  go_enter Try.func20, Try.ntmps20
  go_wp2_with (fail)
  go_ret2
  exact ⟨rfl, rfl⟩

/-- One byte of a list, or nothing behind its end. -/
def atL (s : List UInt8) (i : Nat) : List UInt8 := (s.drop i).take 1
set_option maxHeartbeats 800000 in
theorem atN_any (s : List UInt8) (i : Nat) (w : World) (hi : i ≤ 100000) : Calls Try.prog 48 #[.string ⟨s.toArray⟩, .int .i64 i] w fun e w' => e = .returned (.string ⟨(atL s i).toArray⟩) ∧ w = w' := by
  by_cases h : i < s.length
  · have h1 : (i : Int) < (s.length : Int) := by omega
    have h2 : ¬ (s.length : Int) ≤ (i : Int) := by omega
    have w1 : IntKind.i64.wrap ((i : Int) + 1) = (i : Int) + 1 := IntWalk.i64_in _ ⟨by omega, by omega⟩
    have HX : Hid ((ByteArray.mk s.toArray).extract i (i + 1) = ⟨(atL s i).toArray⟩) := by
      apply ByteArray.ext
      simp [atL, ByteArray.data_extract, List.extract_toArray, List.extract]
    go_enter Try.func48, Try.ntmps48
    go_wp2_with (fail)
    go_ret
    exact ⟨nRet HX.out, rfl⟩
  · have h2 : (s.length : Int) ≤ (i : Int) := by omega
    have HX : Hid (atL s i = []) := by simp [Hid, atL]; omega
    go_enter Try.func48, Try.ntmps48
    go_wp2_with (fail)
    go_ret
    exact ⟨nRet (by rw [HX.out]), rfl⟩

set_option maxHeartbeats 800000 in
theorem checkPlace_ok (c f : Int) (w : World) (h : 1 ≤ c ∧ c ≤ 14 ∧ 0 ≤ f ∧ f ≤ 18) : Calls Try.prog 29 #[.agg #[.int .i64 c, .int .i64 f]] w fun e w' => e = .returned (.int .i64 0) ∧ Below w.heap.size w w' := by
  obtain ⟨h1, h2, h3, h4⟩ := h
  go_enter Try.func29, Try.ntmps29
  go_wp2_with (fail)
  go_ret
  exact ⟨rfl, nBa _ _⟩

set_option maxHeartbeats 800000 in
theorem gsym_1_0 (w : World) : Calls Try.prog 123 #[.agg #[], .agg #[.int .i64 1, .int .i64 0]] w fun e w' => e = .returned (.string ⟨[53].toArray⟩) ∧ Below w.heap.size w w' := by
  go_enter Try.func123, Try.ntmps123
  go_wp2_with (go_at_call 48; refine (atN_any [53, 52, 51, 50, 49] 0 _ (by decide)).mono ?_; rintro e w1 ⟨rfl, rfl⟩)
  go_ret
  exact ⟨rfl, nBt (nBa _ _) (nBa _ _)⟩
set_option maxHeartbeats 800000 in
theorem gsym_1_1 (w : World) : Calls Try.prog 123 #[.agg #[], .agg #[.int .i64 1, .int .i64 1]] w fun e w' => e = .returned (.string ⟨[101].toArray⟩) ∧ Below w.heap.size w w' := by
  go_enter Try.func123, Try.ntmps123
  go_wp2_with (go_at_call 48; refine (atN_any [97, 98, 99, 100, 101, 102, 103, 104, 105, 107, 108, 109, 110, 111, 112, 113, 114, 115, 116, 118, 120, 121, 122, 38, 57] 4 _ (by decide)).mono ?_; rintro e w1 ⟨rfl, rfl⟩)
  go_ret
  exact ⟨rfl, nBt (nBa _ _) (nBa _ _)⟩
set_option maxHeartbeats 800000 in
theorem gsym_1_2 (w : World) : Calls Try.prog 123 #[.agg #[], .agg #[.int .i64 1, .int .i64 2]] w fun e w' => e = .returned (.string ⟨[107].toArray⟩) ∧ Below w.heap.size w w' := by
  go_enter Try.func123, Try.ntmps123
  go_wp2_with (go_at_call 48; refine (atN_any [97, 98, 99, 100, 101, 102, 103, 104, 105, 107, 108, 109, 110, 111, 112, 113, 114, 115, 116, 118, 120, 121, 122, 38, 57] 9 _ (by decide)).mono ?_; rintro e w1 ⟨rfl, rfl⟩)
  go_ret
  exact ⟨rfl, nBt (nBa _ _) (nBa _ _)⟩
set_option maxHeartbeats 800000 in
theorem gsym_1_3 (w : World) : Calls Try.prog 123 #[.agg #[], .agg #[.int .i64 1, .int .i64 3]] w fun e w' => e = .returned (.string ⟨[112].toArray⟩) ∧ Below w.heap.size w w' := by
  go_enter Try.func123, Try.ntmps123
  go_wp2_with (go_at_call 48; refine (atN_any [97, 98, 99, 100, 101, 102, 103, 104, 105, 107, 108, 109, 110, 111, 112, 113, 114, 115, 116, 118, 120, 121, 122, 38, 57] 14 _ (by decide)).mono ?_; rintro e w1 ⟨rfl, rfl⟩)
  go_ret
  exact ⟨rfl, nBt (nBa _ _) (nBa _ _)⟩
set_option maxHeartbeats 800000 in
theorem gsym_1_4 (w : World) : Calls Try.prog 123 #[.agg #[], .agg #[.int .i64 1, .int .i64 4]] w fun e w' => e = .returned (.string ⟨[118].toArray⟩) ∧ Below w.heap.size w w' := by
  go_enter Try.func123, Try.ntmps123
  go_wp2_with (go_at_call 48; refine (atN_any [97, 98, 99, 100, 101, 102, 103, 104, 105, 107, 108, 109, 110, 111, 112, 113, 114, 115, 116, 118, 120, 121, 122, 38, 57] 19 _ (by decide)).mono ?_; rintro e w1 ⟨rfl, rfl⟩)
  go_ret
  exact ⟨rfl, nBt (nBa _ _) (nBa _ _)⟩
set_option maxHeartbeats 800000 in
theorem gsym_1_5 (w : World) : Calls Try.prog 123 #[.agg #[], .agg #[.int .i64 1, .int .i64 5]] w fun e w' => e = .returned (.string ⟨[57].toArray⟩) ∧ Below w.heap.size w w' := by
  go_enter Try.func123, Try.ntmps123
  go_wp2_with (go_at_call 48; refine (atN_any [97, 98, 99, 100, 101, 102, 103, 104, 105, 107, 108, 109, 110, 111, 112, 113, 114, 115, 116, 118, 120, 121, 122, 38, 57] 24 _ (by decide)).mono ?_; rintro e w1 ⟨rfl, rfl⟩)
  go_ret
  exact ⟨rfl, nBt (nBa _ _) (nBa _ _)⟩
set_option maxHeartbeats 800000 in
theorem gsym_1_6 (w : World) : Calls Try.prog 123 #[.agg #[], .agg #[.int .i64 1, .int .i64 6]] w fun e w' => e = .returned (.string ⟨[101, 101].toArray⟩) ∧ Below w.heap.size w w' := by
  go_enter Try.func123, Try.ntmps123
  go_wp2_with (go_at_call 48; refine (atN_any [97, 98, 99, 100, 101, 102, 103, 104, 105, 107, 108, 109, 110, 111, 112, 113, 114, 115, 116, 118, 120, 121, 122, 38, 57] 4 _ (by decide)).mono ?_; rintro e w1 ⟨rfl, rfl⟩)
  go_ret
  exact ⟨rfl, nBt (nBa _ _) (nBa _ _)⟩
set_option maxHeartbeats 800000 in
theorem gsym_1_7 (w : World) : Calls Try.prog 123 #[.agg #[], .agg #[.int .i64 1, .int .i64 7]] w fun e w' => e = .returned (.string ⟨[107, 107].toArray⟩) ∧ Below w.heap.size w w' := by
  go_enter Try.func123, Try.ntmps123
  go_wp2_with (go_at_call 48; refine (atN_any [97, 98, 99, 100, 101, 102, 103, 104, 105, 107, 108, 109, 110, 111, 112, 113, 114, 115, 116, 118, 120, 121, 122, 38, 57] 9 _ (by decide)).mono ?_; rintro e w1 ⟨rfl, rfl⟩)
  go_ret
  exact ⟨rfl, nBt (nBa _ _) (nBa _ _)⟩
set_option maxHeartbeats 800000 in
theorem gsym_1_8 (w : World) : Calls Try.prog 123 #[.agg #[], .agg #[.int .i64 1, .int .i64 8]] w fun e w' => e = .returned (.string ⟨[112, 112].toArray⟩) ∧ Below w.heap.size w w' := by
  go_enter Try.func123, Try.ntmps123
  go_wp2_with (go_at_call 48; refine (atN_any [97, 98, 99, 100, 101, 102, 103, 104, 105, 107, 108, 109, 110, 111, 112, 113, 114, 115, 116, 118, 120, 121, 122, 38, 57] 14 _ (by decide)).mono ?_; rintro e w1 ⟨rfl, rfl⟩)
  go_ret
  exact ⟨rfl, nBt (nBa _ _) (nBa _ _)⟩
set_option maxHeartbeats 800000 in
theorem gsym_1_9 (w : World) : Calls Try.prog 123 #[.agg #[], .agg #[.int .i64 1, .int .i64 9]] w fun e w' => e = .returned (.string ⟨[118, 118].toArray⟩) ∧ Below w.heap.size w w' := by
  go_enter Try.func123, Try.ntmps123
  go_wp2_with (go_at_call 48; refine (atN_any [97, 98, 99, 100, 101, 102, 103, 104, 105, 107, 108, 109, 110, 111, 112, 113, 114, 115, 116, 118, 120, 121, 122, 38, 57] 19 _ (by decide)).mono ?_; rintro e w1 ⟨rfl, rfl⟩)
  go_ret
  exact ⟨rfl, nBt (nBa _ _) (nBa _ _)⟩
set_option maxHeartbeats 800000 in
theorem gsym_1_10 (w : World) : Calls Try.prog 123 #[.agg #[], .agg #[.int .i64 1, .int .i64 10]] w fun e w' => e = .returned (.string ⟨[57, 57].toArray⟩) ∧ Below w.heap.size w w' := by
  go_enter Try.func123, Try.ntmps123
  go_wp2_with (go_at_call 48; refine (atN_any [97, 98, 99, 100, 101, 102, 103, 104, 105, 107, 108, 109, 110, 111, 112, 113, 114, 115, 116, 118, 120, 121, 122, 38, 57] 24 _ (by decide)).mono ?_; rintro e w1 ⟨rfl, rfl⟩)
  go_ret
  exact ⟨rfl, nBt (nBa _ _) (nBa _ _)⟩
set_option maxHeartbeats 800000 in
theorem gsym_1_11 (w : World) : Calls Try.prog 123 #[.agg #[], .agg #[.int .i64 1, .int .i64 11]] w fun e w' => e = .returned (.string ⟨[].toArray⟩) ∧ Below w.heap.size w w' := by
  go_enter Try.func123, Try.ntmps123
  go_wp2_with (fail)
  go_ret
  exact ⟨rfl, nBt (nBa _ _) (nBa _ _)⟩
set_option maxHeartbeats 800000 in
theorem gsym_1_12 (w : World) : Calls Try.prog 123 #[.agg #[], .agg #[.int .i64 1, .int .i64 12]] w fun e w' => e = .returned (.string ⟨[].toArray⟩) ∧ Below w.heap.size w w' := by
  go_enter Try.func123, Try.ntmps123
  go_wp2_with (fail)
  go_ret
  exact ⟨rfl, nBt (nBa _ _) (nBa _ _)⟩
set_option maxHeartbeats 800000 in
theorem gsym_1_13 (w : World) : Calls Try.prog 123 #[.agg #[], .agg #[.int .i64 1, .int .i64 13]] w fun e w' => e = .returned (.string ⟨[].toArray⟩) ∧ Below w.heap.size w w' := by
  go_enter Try.func123, Try.ntmps123
  go_wp2_with (fail)
  go_ret
  exact ⟨rfl, nBt (nBa _ _) (nBa _ _)⟩
set_option maxHeartbeats 800000 in
theorem gsym_1_14 (w : World) : Calls Try.prog 123 #[.agg #[], .agg #[.int .i64 1, .int .i64 14]] w fun e w' => e = .returned (.string ⟨[].toArray⟩) ∧ Below w.heap.size w w' := by
  go_enter Try.func123, Try.ntmps123
  go_wp2_with (fail)
  go_ret
  exact ⟨rfl, nBt (nBa _ _) (nBa _ _)⟩
set_option maxHeartbeats 800000 in
theorem gsym_1_15 (w : World) : Calls Try.prog 123 #[.agg #[], .agg #[.int .i64 1, .int .i64 15]] w fun e w' => e = .returned (.string ⟨[].toArray⟩) ∧ Below w.heap.size w w' := by
  go_enter Try.func123, Try.ntmps123
  go_wp2_with (fail)
  go_ret
  exact ⟨rfl, nBt (nBa _ _) (nBa _ _)⟩
set_option maxHeartbeats 800000 in
theorem gsym_1_16 (w : World) : Calls Try.prog 123 #[.agg #[], .agg #[.int .i64 1, .int .i64 16]] w fun e w' => e = .returned (.string ⟨[].toArray⟩) ∧ Below w.heap.size w w' := by
  go_enter Try.func123, Try.ntmps123
  go_wp2_with (fail)
  go_ret
  exact ⟨rfl, nBt (nBa _ _) (nBa _ _)⟩
set_option maxHeartbeats 800000 in
theorem gsym_1_17 (w : World) : Calls Try.prog 123 #[.agg #[], .agg #[.int .i64 1, .int .i64 17]] w fun e w' => e = .returned (.string ⟨[].toArray⟩) ∧ Below w.heap.size w w' := by
  go_enter Try.func123, Try.ntmps123
  go_wp2_with (fail)
  go_ret
  exact ⟨rfl, nBt (nBa _ _) (nBa _ _)⟩
set_option maxHeartbeats 800000 in
theorem gsym_1_18 (w : World) : Calls Try.prog 123 #[.agg #[], .agg #[.int .i64 1, .int .i64 18]] w fun e w' => e = .returned (.string ⟨[].toArray⟩) ∧ Below w.heap.size w w' := by
  go_enter Try.func123, Try.ntmps123
  go_wp2_with (fail)
  go_ret
  exact ⟨rfl, nBt (nBa _ _) (nBa _ _)⟩
set_option maxHeartbeats 800000 in
theorem gsym_2_0 (w : World) : Calls Try.prog 123 #[.agg #[], .agg #[.int .i64 2, .int .i64 0]] w fun e w' => e = .returned (.string ⟨[52].toArray⟩) ∧ Below w.heap.size w w' := by
  go_enter Try.func123, Try.ntmps123
  go_wp2_with (go_at_call 48; refine (atN_any [53, 52, 51, 50, 49] 1 _ (by decide)).mono ?_; rintro e w1 ⟨rfl, rfl⟩)
  go_ret
  exact ⟨rfl, nBt (nBa _ _) (nBa _ _)⟩
set_option maxHeartbeats 800000 in
theorem gsym_2_1 (w : World) : Calls Try.prog 123 #[.agg #[], .agg #[.int .i64 2, .int .i64 1]] w fun e w' => e = .returned (.string ⟨[100].toArray⟩) ∧ Below w.heap.size w w' := by
  go_enter Try.func123, Try.ntmps123
  go_wp2_with (go_at_call 48; refine (atN_any [97, 98, 99, 100, 101, 102, 103, 104, 105, 107, 108, 109, 110, 111, 112, 113, 114, 115, 116, 118, 120, 121, 122, 38, 57] 3 _ (by decide)).mono ?_; rintro e w1 ⟨rfl, rfl⟩)
  go_ret
  exact ⟨rfl, nBt (nBa _ _) (nBa _ _)⟩
set_option maxHeartbeats 800000 in
theorem gsym_2_2 (w : World) : Calls Try.prog 123 #[.agg #[], .agg #[.int .i64 2, .int .i64 2]] w fun e w' => e = .returned (.string ⟨[105].toArray⟩) ∧ Below w.heap.size w w' := by
  go_enter Try.func123, Try.ntmps123
  go_wp2_with (go_at_call 48; refine (atN_any [97, 98, 99, 100, 101, 102, 103, 104, 105, 107, 108, 109, 110, 111, 112, 113, 114, 115, 116, 118, 120, 121, 122, 38, 57] 8 _ (by decide)).mono ?_; rintro e w1 ⟨rfl, rfl⟩)
  go_ret
  exact ⟨rfl, nBt (nBa _ _) (nBa _ _)⟩
set_option maxHeartbeats 800000 in
theorem gsym_2_3 (w : World) : Calls Try.prog 123 #[.agg #[], .agg #[.int .i64 2, .int .i64 3]] w fun e w' => e = .returned (.string ⟨[111].toArray⟩) ∧ Below w.heap.size w w' := by
  go_enter Try.func123, Try.ntmps123
  go_wp2_with (go_at_call 48; refine (atN_any [97, 98, 99, 100, 101, 102, 103, 104, 105, 107, 108, 109, 110, 111, 112, 113, 114, 115, 116, 118, 120, 121, 122, 38, 57] 13 _ (by decide)).mono ?_; rintro e w1 ⟨rfl, rfl⟩)
  go_ret
  exact ⟨rfl, nBt (nBa _ _) (nBa _ _)⟩
set_option maxHeartbeats 800000 in
theorem gsym_2_4 (w : World) : Calls Try.prog 123 #[.agg #[], .agg #[.int .i64 2, .int .i64 4]] w fun e w' => e = .returned (.string ⟨[116].toArray⟩) ∧ Below w.heap.size w w' := by
  go_enter Try.func123, Try.ntmps123
  go_wp2_with (go_at_call 48; refine (atN_any [97, 98, 99, 100, 101, 102, 103, 104, 105, 107, 108, 109, 110, 111, 112, 113, 114, 115, 116, 118, 120, 121, 122, 38, 57] 18 _ (by decide)).mono ?_; rintro e w1 ⟨rfl, rfl⟩)
  go_ret
  exact ⟨rfl, nBt (nBa _ _) (nBa _ _)⟩
set_option maxHeartbeats 800000 in
theorem gsym_2_5 (w : World) : Calls Try.prog 123 #[.agg #[], .agg #[.int .i64 2, .int .i64 5]] w fun e w' => e = .returned (.string ⟨[38].toArray⟩) ∧ Below w.heap.size w w' := by
  go_enter Try.func123, Try.ntmps123
  go_wp2_with (go_at_call 48; refine (atN_any [97, 98, 99, 100, 101, 102, 103, 104, 105, 107, 108, 109, 110, 111, 112, 113, 114, 115, 116, 118, 120, 121, 122, 38, 57] 23 _ (by decide)).mono ?_; rintro e w1 ⟨rfl, rfl⟩)
  go_ret
  exact ⟨rfl, nBt (nBa _ _) (nBa _ _)⟩
set_option maxHeartbeats 800000 in
theorem gsym_6_4 (w : World) : Calls Try.prog 123 #[.agg #[], .agg #[.int .i64 6, .int .i64 4]] w fun e w' => e = .returned (.string ⟨[68].toArray⟩) ∧ Below w.heap.size w w' := by
  go_enter Try.func123, Try.ntmps123
  go_wp2_with (go_at_call 48; refine (atN_any [43, 65, 66, 67, 68, 69, 70, 71, 72, 73, 75] 4 _ (by decide)).mono ?_; rintro e w1 ⟨rfl, rfl⟩)
  go_ret
  exact ⟨rfl, nBt (nBa _ _) (nBa _ _)⟩

/-- The symbols of the courses 1 and 2. -/
def gsT : Nat → List (List UInt8)
  | 1 => [[53], [101], [107], [112], [118], [57], [101, 101], [107, 107], [112, 112], [118, 118], [57, 57], [], [], [], [], [], [], [], []]
  | 2 => [[52], [100], [105], [111], [116], [38]]
  | _ => []
theorem gsym1 (f : Nat) (h : f < 19) (w : World) : Calls Try.prog 123 #[.agg #[], .agg #[.int .i64 1, .int .i64 f]] w fun e w' => e = .returned (.string ⟨((gsT 1).getD f []).toArray⟩) ∧ Below w.heap.size w w' := by
  have h' : f = 0 ∨ f = 1 ∨ f = 2 ∨ f = 3 ∨ f = 4 ∨ f = 5 ∨ f = 6 ∨ f = 7 ∨ f = 8 ∨ f = 9 ∨ f = 10 ∨ f = 11 ∨ f = 12 ∨ f = 13 ∨ f = 14 ∨ f = 15 ∨ f = 16 ∨ f = 17 ∨ f = 18 := by omega
  rcases h' with rfl | rfl | rfl | rfl | rfl | rfl | rfl | rfl | rfl | rfl | rfl | rfl | rfl | rfl | rfl | rfl | rfl | rfl | rfl
  · exact gsym_1_0 w
  · exact gsym_1_1 w
  · exact gsym_1_2 w
  · exact gsym_1_3 w
  · exact gsym_1_4 w
  · exact gsym_1_5 w
  · exact gsym_1_6 w
  · exact gsym_1_7 w
  · exact gsym_1_8 w
  · exact gsym_1_9 w
  · exact gsym_1_10 w
  · exact gsym_1_11 w
  · exact gsym_1_12 w
  · exact gsym_1_13 w
  · exact gsym_1_14 w
  · exact gsym_1_15 w
  · exact gsym_1_16 w
  · exact gsym_1_17 w
  · exact gsym_1_18 w
theorem gsym2 (f : Nat) (h : f < 6) (w : World) : Calls Try.prog 123 #[.agg #[], .agg #[.int .i64 2, .int .i64 f]] w fun e w' => e = .returned (.string ⟨((gsT 2).getD f []).toArray⟩) ∧ Below w.heap.size w w' := by
  have h' : f = 0 ∨ f = 1 ∨ f = 2 ∨ f = 3 ∨ f = 4 ∨ f = 5 := by omega
  rcases h' with rfl | rfl | rfl | rfl | rfl | rfl
  · exact gsym_2_0 w
  · exact gsym_2_1 w
  · exact gsym_2_2 w
  · exact gsym_2_3 w
  · exact gsym_2_4 w
  · exact gsym_2_5 w

end Go.Proofs.Ytdaeanjjmbibmaa
