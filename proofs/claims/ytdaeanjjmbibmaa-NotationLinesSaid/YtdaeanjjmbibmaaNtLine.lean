/- Notation: staffOf and the line of a course. -/
import Derived.Test.YtdaeanjjmbibmaaNtStaff
import Derived.Test.YtdaeanjjmbibmaaNtNames
import Derived.Test.YtdaeanjjmbibmaaShelf
import Derived.Test.YtdaeanjjmbibmaaRefCheck
import Derived.Test.YtdaeanjjmbibmaaOpenIn
namespace Go.Proofs.Ytdaeanjjmbibmaa
open Go.RowKit Go.Sort

theorem staffP_up {L : List Int} {w w1 : World} {o : Obj} {e : Ending} (h : StaffP L (w.alloc o) e w1) : StaffP L w e w1 := by
  obtain ⟨hb, h⟩ := h
  refine ⟨nBx hb, ?_⟩
  rcases h with h | ⟨g, h1, h2, h3, h4⟩
  · exact .inl h
  · exact .inr ⟨g, h1, h2, by simp at h3; omega, h4⟩
theorem staffP_ret {L : List Int} {w w1 : World} {e : Ending} (h : StaffP L w e w1) : ∃ a n c, e = .returned (.slice a n c) := by
  rcases h.2 with ⟨_, h⟩ | ⟨g, h, _⟩
  · exact ⟨_, _, _, h⟩
  · exact ⟨_, _, _, h⟩
theorem staffP_idx {L : List Int} {w w1 : World} {a : Option Addr} {n c : Nat} (x : Int) (hL : L.length ≤ 6) (h : StaffP L w (.returned (.slice a n c)) w1) :
    Calls Try.prog 25 #[.slice a n c, .int .i64 x] w1 fun e w' => e = .returned (.int .i64 (Lib.idxOf L x)) ∧ w' = w1 := by
  rcases h.2 with ⟨h0, h⟩ | ⟨g, h, _, _, h4⟩
  · simp only [Ending.returned.injEq, Value.slice.injEq] at h
    obtain ⟨rfl, rfl, rfl⟩ := h
    rw [h0]
    exact Try.slices_Index_int_empty none 0 x w1
  · simp only [Ending.returned.injEq, Value.slice.injEq] at h
    obtain ⟨rfl, rfl, rfl⟩ := h
    have := Try.slices_Index_int g 0 L.length L.length L x w1 (Nat.le_refl _) (by omega) (fun j hj => by rw [Nat.zero_add]; exact (h4 j hj).1)
    rw [List.take_length] at this
    exact this
theorem gerStaff (k : Int) (w : World) : Calls Try.prog 122 #[.agg #[], .int .i64 k] w (StaffP [] w) := by
  go_enter Try.func122, Try.ntmps122
  go_wp2_with (fail)
  go_ret
  exact ⟨by first | exact Below.refl _ _ | exact nBa _ _, .inl ⟨rfl, rfl⟩⟩
theorem mStaffGr : ∀ w : World, (method 247 81 (.agg #[]) "theorbo/notation.staff").run Try.prog w = .ok (122, .agg #[]) w := fun _ => by kernel_rfl

set_option maxRecDepth 100000 in
set_option maxHeartbeats 1600000 in
theorem staffOfF (A A' : Option Addr) (n c m c' : Nat) (w : World) (h1 : 1 ≤ n) : Calls Try.prog 26 #[fr, .agg #[.slice A n c, .slice A' m c']] w (StaffP (upL (min n 6)) w) := by
  have hm := mTopStaff
  have HM : Hid (min (n : Int) 6 = ((min n 6 : Nat) : Int)) := by unfold Hid; omega
  have hk1 : 1 ≤ min n 6 := by omega
  have hk6 : min n 6 ≤ 6 := by omega
  generalize min n 6 = k at *
  have HC := Lib.hid (td_any k hk1 hk6)
  clear h1 hk1 hk6
  go_enter Try.func26, Try.ntmps26
  go_wp2_with (go_at_call 66; rw [HM.out]; refine (HC.out _).mono ?_; rintro e w1 hp; obtain ⟨a, x, y, rfl⟩ := staffP_ret hp; have HP := Lib.hid hp; clear hp)
  go_ret
  exact staffP_up HP.out

set_option maxRecDepth 100000 in
set_option maxHeartbeats 1600000 in
theorem staffOfI (A A' : Option Addr) (n c m c' : Nat) (w : World) (h1 : 1 ≤ n) : Calls Try.prog 26 #[ital, .agg #[.slice A n c, .slice A' m c']] w (StaffP ((upL (min n 6)).reverse) w) := by
  have hm := mStaffI
  have HM : Hid (min (n : Int) 6 = ((min n 6 : Nat) : Int)) := by unfold Hid; omega
  have hk1 : 1 ≤ min n 6 := by omega
  have hk6 : min n 6 ≤ 6 := by omega
  generalize min n 6 = k at *
  have HC := Lib.hid (italStaff k hk1 hk6)
  clear h1 hk1 hk6
  go_enter Try.func26, Try.ntmps26
  go_wp2_with (go_at_call 107; rw [HM.out]; refine (HC.out _).mono ?_; rintro e w1 hp; obtain ⟨a, x, y, rfl⟩ := staffP_ret hp; have HP := Lib.hid hp; clear hp)
  go_ret
  exact staffP_up HP.out

set_option maxRecDepth 100000 in
set_option maxHeartbeats 1600000 in
theorem staffOfS (A A' : Option Addr) (n c m c' : Nat) (w : World) (h1 : 1 ≤ n) : Calls Try.prog 26 #[spa, .agg #[.slice A n c, .slice A' m c']] w (StaffP (upL (min n 6)) w) := by
  have hm := mTopStaffS
  have HM : Hid (min (n : Int) 6 = ((min n 6 : Nat) : Int)) := by unfold Hid; omega
  have hk1 : 1 ≤ min n 6 := by omega
  have hk6 : min n 6 ≤ 6 := by omega
  generalize min n 6 = k at *
  have HC := Lib.hid (td_any k hk1 hk6)
  clear h1 hk1 hk6
  go_enter Try.func26, Try.ntmps26
  go_wp2_with (go_at_call 66; rw [HM.out]; refine (HC.out _).mono ?_; rintro e w1 hp; obtain ⟨a, x, y, rfl⟩ := staffP_ret hp; have HP := Lib.hid hp; clear hp)
  go_ret
  exact staffP_up HP.out

set_option maxRecDepth 100000 in
set_option maxHeartbeats 1600000 in
theorem staffOfG (A A' : Option Addr) (n c m c' : Nat) (w : World) (h1 : 1 ≤ n) : Calls Try.prog 26 #[ger, .agg #[.slice A n c, .slice A' m c']] w (StaffP ([]) w) := by
  have hm := mStaffGr
  have HM : Hid (min (n : Int) 6 = ((min n 6 : Nat) : Int)) := by unfold Hid; omega
  have hk1 : 1 ≤ min n 6 := by omega
  have hk6 : min n 6 ≤ 6 := by omega
  generalize min n 6 = k at *
  have HC := Lib.hid (gerStaff k)
  clear h1 hk1 hk6
  go_enter Try.func26, Try.ntmps26
  go_wp2_with (go_at_call 122; rw [HM.out]; refine (HC.out _).mono ?_; rintro e w1 hp; obtain ⟨a, x, y, rfl⟩ := staffP_ret hp; have HP := Lib.hid hp; clear hp)
  go_ret
  exact staffP_up HP.out

/-- The error and the line that the document asks for. -/
def lnE (C : List Cr) (S : List Int) (s : Int) (n : Nat) (c : Int) : Int := if 1 ≤ s ∧ s ≤ 4 then (if chk C S ≠ 0 then chk C S else if c < 1 ∨ n < c then 12 else 0) else 30
def lnV (C : List Cr) (S : List Int) (s : Int) (n : Nat) (c : Int) : Int :=
  if lnE C S s n c ≠ 0 then 0 else if s = 4 ∨ 6 < c then 0 else if s = 2 then ((min n 6 : Nat) : Int) + 1 - c else c

theorem idx_up : ∀ k : Nat, k ≤ 6 → ∀ c : Nat, c ≤ 14 → 1 ≤ c → (k < 6 → c ≤ k) → Lib.idxOf (upL k) c + 1 = (if 6 < c then 0 else c : Nat) ∧ Lib.idxOf (upL k).reverse c + 1 = (if 6 < c then 0 else (k : Int) + 1 - c) := by decide
theorem chk_len {C : List Cr} {S : List Int} (h : chk C S = 0) : C.length ≤ 14 ∧ 1 ≤ C.length := by
  constructor
  · rcases Nat.lt_or_ge 14 C.length with h2 | h2
    · rw [chk_many (.inl h2)] at h
      cases h
    · exact h2
  · rcases Nat.eq_zero_or_pos C.length with h2 | h2
    · by_cases h3 : 14 < C.length ∨ 18 < S.length
      · rw [chk_many h3] at h
        cases h
      · rw [chk_none h3 (.inl h2)] at h
        cases h
    · exact h2
theorem stL_len (s : Int) (k : Nat) (h : k ≤ 6) : (stL s k).length ≤ 6 := by
  unfold stL
  split
  · simp
  · split
    · simp [upL_len]; omega
    · rw [upL_len]; omega
theorem idx_st (s c : Int) (n : Nat) (hn : n ≤ 14) (hc : 1 ≤ c) (hc2 : c ≤ n) : Lib.idxOf (stL s (min n 6)) c + 1 = if s = 4 ∨ 6 < c then 0 else if s = 2 then ((min n 6 : Nat) : Int) + 1 - c else c := by
  obtain ⟨k, rfl⟩ := Int.eq_ofNat_of_zero_le (show 0 ≤ c by omega)
  obtain ⟨hu, hr⟩ := idx_up (min n 6) (by omega) k (by omega) (by omega) (by omega)
  by_cases h4 : s = 4
  · unfold stL
    rw [if_pos h4, if_pos (.inl h4)]
    rfl
  · rw [show stL s (min n 6) = if s = 2 then (upL (min n 6)).reverse else upL (min n 6) from if_neg h4]
    by_cases h6 : (6 : Int) < (k : Int)
    · rw [if_pos (show s = 4 ∨ (6 : Int) < ((k : Nat) : Int) from .inr h6)]
      rw [if_pos (show 6 < k by omega)] at hu hr
      split
      · exact hr
      · exact hu
    · rw [if_neg (show ¬ (s = 4 ∨ (6 : Int) < ((k : Nat) : Int)) by omega)]
      rw [if_neg (show ¬ 6 < k by omega)] at hu hr
      by_cases h2 : s = 2
      · rw [if_pos h2, if_pos h2]
        exact hr
      · rw [if_neg h2, if_neg h2]
        exact hu

/-- A known system's value and its staff. -/
theorem sys_any (s : Int) (h : 1 ≤ s ∧ s ≤ 4) : ∃ T, (∀ w, Calls Try.prog 20 #[.int .u8 s] w fun e w' => e = .returned (.tuple #[.iface T (.agg #[]), .bool true]) ∧ w = w') ∧
    ∀ (A A' : Option Addr) (n c m c' : Nat) (w : World), 1 ≤ n → Calls Try.prog 26 #[.iface T (.agg #[]), .agg #[.slice A n c, .slice A' m c']] w (StaffP (stL s (min n 6)) w) := by
  have : s = 1 ∨ s = 2 ∨ s = 3 ∨ s = 4 := by omega
  rcases this with rfl | rfl | rfl | rfl
  · exact ⟨73, sys1, fun A A' n c m c' w h1 => staffOfF A A' n c m c' w h1⟩
  · exact ⟨77, sys2, fun A A' n c m c' w h1 => staffOfI A A' n c m c' w h1⟩
  · exact ⟨79, sys3, fun A A' n c m c' w h1 => staffOfS A A' n c m c' w h1⟩
  · exact ⟨81, sys4, fun A A' n c m c' w h1 => staffOfG A A' n c m c' w h1⟩

abbrev iO (A : Option Addr) (n c : Nat) (A' : Option Addr) (m c' : Nat) : Obj := .cells #[.slice A n c, .slice A' m c'] 33
theorem ret_iiN {a b x y : Int} (h : a = b) (h2 : x = y) : Ending.returned (.tuple #[.int .i64 a, .int .i64 x]) = .returned (.tuple #[.int .i64 b, .int .i64 y]) := by rw [h, h2]
theorem argsN {w : World} {A : Option Addr} {n c : Nat} {A' : Option Addr} {m c' : Nat} {w' : World} (h : Below (w.alloc (iO A n c A' m c')).heap.size (w.alloc (iO A n c A' m c')) w') :
    w'.cell? ⟨w.heap.size, 0, none⟩ = some (.slice A n c) ∧ w'.cell? ⟨w.heap.size, 1, none⟩ = some (.slice A' m c') := by
  have c0 := (nKeep h 0).1
  have c1 := (nKeep h 1).1
  simp at c0 c1
  exact ⟨c0, c1⟩

end Go.Proofs.Ytdaeanjjmbibmaa
