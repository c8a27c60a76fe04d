/- Notation: the look at the chapter's examples, its first two. -/
import Derived.Test.YtdaeanjjmbibmaaNt1
import Derived.Deep.RegionHeld3
namespace Go.Proofs.Ytdaeanjjmbibmaa
open Go.RowKit

theorem mStaffG : ∀ w : World, (method 247 81 (.agg #[]) "theorbo/notation.staff").run Try.prog w = .ok (122, .agg #[]) w := fun _ => by kernel_rfl
theorem mSymG : ∀ w : World, (method 247 81 (.agg #[]) "theorbo/notation.symbol").run Try.prog w = .ok (123, .agg #[]) w := fun _ => by kernel_rfl
theorem mSymF : ∀ w : World, (method 247 73 (.agg #[]) "theorbo/notation.symbol").run Try.prog w = .ok (72, .agg #[]) w := fun _ => by kernel_rfl
theorem mRightsF : ∀ w : World, (method 247 73 (.agg #[]) "theorbo/notation.rights").run Try.prog w = .ok (71, .agg #[]) w := fun _ => by kernel_rfl
theorem mGracesF : ∀ w : World, (method 247 73 (.agg #[]) "theorbo/notation.graces").run Try.prog w = .ok (67, .agg #[]) w := fun _ => by kernel_rfl
theorem mHoldF : ∀ w : World, (method 247 73 (.agg #[]) "theorbo/notation.hold").run Try.prog w = .ok (68, .agg #[]) w := fun _ => by kernel_rfl

set_option maxRecDepth 100000 in
set_option maxHeartbeats 800000 in
theorem symbol_g64 (w : World) : Calls Try.prog 15 #[.int .u8 4, .agg #[.int .i64 6, .int .i64 4]] w fun e w' => e = .returned (.tuple #[.string ⟨#[68]⟩, .int .i64 0]) ∧ Below w.heap.size w w' := by
  have hm := mSymG
  go_enter Try.func15, Try.ntmps15
  go_wp2_with (first | (go_at_call 20; refine (sys4 _).mono ?_; rintro e w1 ⟨rfl, rfl⟩) | (go_at_call 29; refine (checkPlace_ok 6 4 _ (by decide)).mono ?_; rintro e w2 ⟨rfl, hb2⟩; obtain ⟨p0, _⟩ := nKeep hb2 0; obtain ⟨p1, _⟩ := nKeep hb2 1; have hz2 : w.heap.size < w2.heap.size := (by have := hb2.size; simp at this; omega); simp at p0 p1) | (go_at_call 123; refine (gsym_6_4 _).mono ?_; rintro e w3 ⟨rfl, hb3⟩))
  go_ret2
  exact ⟨rfl, by exact nBt (nBx hb2) hb3⟩

set_option maxRecDepth 100000 in
set_option maxHeartbeats 800000 in
theorem staff_g (n : Int) (w : World) : Calls Try.prog 122 #[.agg #[], .int .i64 n] w fun e w' => e = .returned (.slice none 0 0) ∧ Below w.heap.size w w' := by
  go_enter Try.func122, Try.ntmps122
  go_wp2_with (fail)
  go_ret
  exact ⟨rfl, by first | exact Below.refl _ _ | exact nBa _ _⟩

set_option maxRecDepth 100000 in
set_option maxHeartbeats 800000 in
theorem withLine_g (w : World) : Calls Try.prog 31 #[.int .u8 4, .int .i64 0] w fun e w' => e = .returned (.tuple #[ger, .int .i64 0]) ∧ Below w.heap.size w w' := by
  have hm := mStaffG
  go_enter Try.func31, Try.ntmps31
  go_wp2_with (first | (go_at_call 20; refine (sys4 _).mono ?_; rintro e w1 ⟨rfl, rfl⟩) | (go_at_call 122; refine (staff_g _ _).mono ?_; rintro e w2 ⟨rfl, hb2⟩))
  go_ret2
  exact ⟨rfl, hb2⟩

theorem gs1_no (q : Nat) (h : q < 19) : (((gsT 1).getD q []) == [38]) = false := by
  have : ∀ k : Fin 19, (((gsT 1).getD k.val []) == [38]) = false := by decide
  exact this ⟨q, h⟩
theorem gs2_no (q : Nat) (h : q < 5) : (((gsT 2).getD q []) == [38]) = false := by
  have : ∀ k : Fin 5, (((gsT 2).getD k.val []) == [38]) = false := by decide
  exact this ⟨q, h⟩
abbrev zPl : Obj := .cells #[.int .i64 0, .int .i64 0] 38

set_option maxRecDepth 100000 in
set_option maxHeartbeats 1600000 in
theorem find_g (w : World) : Calls Try.prog 32 #[ger, .int .i64 0, .string ⟨#[38]⟩] w fun e w' => e = .returned (.tuple #[.agg #[.int .i64 2, .int .i64 5], .bool true]) ∧ Below w.heap.size w w' := by
  have hm := mStaffG
  have hm2 := mSymG
  go_enter Try.func32, Try.ntmps32
  go_wp2_with (go_at_call 122; refine (staff_g _ _).mono ?_; rintro e w2 ⟨rfl, hb2⟩)
  go_loopw [10, 30, 11, 12] (fun c _ _ _ wr => ∃ cv : Int, (cv = 1 ∨ cv = 2) ∧ c = .int .i64 cv ∧ Below (w.alloc zPl).heap.size (w.alloc zPl) wr) (fun c _ _ _ _ => 3 - (intOf c).toNat)
  case atStart => exact ⟨1, .inl rfl, rfl, hb2⟩
  case round =>
    obtain ⟨cv, hk, rfl, hbw⟩ := hrel
    rcases hk with rfl | rfl
    · go_wp2_with (fail)
      obtain ⟨wo, rfl⟩ : ∃ wo : World, wo = wr := ⟨_, rfl⟩
      go_loopw [30, 11, 12] (fun f _ _ wr => ∃ q : Nat, q ≤ 19 ∧ f = .int .i64 q ∧ Below (w.alloc zPl).heap.size (w.alloc zPl) wr) (fun f _ _ _ => 19 - (intOf f).toNat)
      case atStart => exact ⟨0, by omega, rfl, hbw⟩
      case round =>
        obtain ⟨q, hq, rfl, hbq⟩ := hrel
        by_cases hlt : q < 19
        · have hqn : (q : Int) < 19 := by omega
          have hne := gs1_no q hlt
          have HS : Hid (∀ w', Calls Try.prog 123 #[.agg #[], .agg #[.int .i64 1, .int .i64 q]] w' fun e w2 => e = .returned (.string ⟨((gsT 1).getD q []).toArray⟩) ∧ Below w'.heap.size w' w2) := fun w' => gsym1 q hlt w'
          generalize (gsT 1).getD q [] = x at *
          go_wp2_with (go_at_call 123; refine (HS.out _).mono ?_; rintro e w3 ⟨rfl, hb3⟩)
          go_roundw
          case rel => exact ⟨q + 1, by omega, by go_num, nBt hbq (nBx hb3)⟩
          case measure => simp [intOf]; omega
        · have hqn : ¬ (q : Int) < 19 := by omega
          go_wp2_with (fail)
          go_roundw
          case rel => exact ⟨2, .inr rfl, by go_num, hbq⟩
          case measure => simp [intOf]
    · go_wp2_with (fail)
      obtain ⟨wo, rfl⟩ : ∃ wo : World, wo = wr := ⟨_, rfl⟩
      go_loopw [30, 11, 12] (fun f _ _ wr => ∃ q : Nat, q ≤ 5 ∧ f = .int .i64 q ∧ Below (w.alloc zPl).heap.size (w.alloc zPl) wr) (fun f _ _ _ => 19 - (intOf f).toNat)
      case atStart => exact ⟨0, by omega, rfl, hbw⟩
      case round =>
        obtain ⟨q, hq, rfl, hbq⟩ := hrel
        have hqn : (q : Int) < 19 := by omega
        by_cases hlt : q < 5
        · have hne := gs2_no q hlt
          have HS : Hid (∀ w', Calls Try.prog 123 #[.agg #[], .agg #[.int .i64 2, .int .i64 q]] w' fun e w2 => e = .returned (.string ⟨((gsT 2).getD q []).toArray⟩) ∧ Below w'.heap.size w' w2) := fun w' => gsym2 q (by omega) w'
          generalize (gsT 2).getD q [] = x at *
          go_wp2_with (go_at_call 123; refine (HS.out _).mono ?_; rintro e w3 ⟨rfl, hb3⟩)
          go_roundw
          case rel => exact ⟨q + 1, by omega, by go_num, nBt hbq (nBx hb3)⟩
          case measure => simp [intOf]; omega
        · obtain rfl : q = 5 := by omega
          go_wp2_with (go_at_call 123; refine (gsym_2_5 _).mono ?_; rintro e w3 ⟨rfl, hb3⟩; obtain ⟨c0, _⟩ := nKeep hb3 0; obtain ⟨c1, _⟩ := nKeep hb3 1; obtain ⟨d0, e0⟩ := nKeep (nBt hbq (nBx hb3)) 0; obtain ⟨d1, e1⟩ := nKeep (nBt hbq (nBx hb3)) 1; have hz3 := hb3.size; have hz4 : w.heap.size < w3.heap.size := (by have := (nBt hbq (nBx hb3)).size; simp at this; omega); simp at c0 c1 d0 d1 hz3)
          refine bodyPost_ret (v := .tuple #[.agg #[.int .i64 2, .int .i64 5], .bool true]) ?_ rfl ?_
          · simp [results, Try.results32, go_sem, d0, d1]
            done
          · exact ⟨rfl, ((nBx (nBt hbq (nBx hb3))).setCell (Nat.le_refl _) _).setCell (Nat.le_refl _) _⟩

set_option maxRecDepth 100000 in
set_option maxHeartbeats 800000 in
theorem place_g (w : World) : Calls Try.prog 17 #[.int .u8 4, .int .i64 0, .string ⟨#[38]⟩] w fun e w' => e = .returned (.tuple #[.agg #[.int .i64 2, .int .i64 5], .int .i64 0]) ∧ Below w.heap.size w w' := by
  go_enter Try.func17, Try.ntmps17
  go_wp2_with (first | (go_at_call 31; refine (withLine_g _).mono ?_; rintro e w1 ⟨rfl, hb1⟩) | (go_at_call 32; refine (find_g _).mono ?_; rintro e w3 ⟨rfl, hb3⟩; have HB := nBt hb1 hb3; obtain ⟨d0, e0⟩ := nKeep HB 0; obtain ⟨d1, e1⟩ := nKeep HB 1; have hz4 : w.heap.size < w3.heap.size := (by have := (nBt hb1 hb3).size; simp at this; omega); simp at d0 d1))
  refine bodyPost_ret (v := .tuple #[.agg #[.int .i64 2, .int .i64 5], .int .i64 0]) ?_ rfl ?_
  · simp [results, Try.results17, go_sem, d0, d1, hz4]
    done
  · exact ⟨rfl, nBt (((nBx HB).setCell (Nat.le_refl _) _).setCell (Nat.le_refl _) _) (nBa _ _)⟩

/-- The stop of the example. -/
abbrev oSt : Obj := .cells #[.int .i64 1, .int .i64 2, .int .i64 1, .int .i64 0, .int .i64 3] 56
abbrev aSt : Value := .agg #[.int .i64 1, .int .i64 2, .int .i64 1, .int .i64 0, .int .i64 3]
theorem keepSt {w w' : World} (h : Below (w.alloc oSt).heap.size (w.alloc oSt) w') :
    w'.cell? ⟨w.heap.size, 0, none⟩ = some (.int .i64 1) ∧ w'.cell? ⟨w.heap.size, 1, none⟩ = some (.int .i64 2) ∧ w'.cell? ⟨w.heap.size, 2, none⟩ = some (.int .i64 1) ∧ w'.cell? ⟨w.heap.size, 3, none⟩ = some (.int .i64 0) ∧ w'.cell? ⟨w.heap.size, 4, none⟩ = some (.int .i64 3) ∧ w.heap.size < w'.heap.size ∧
      Below (w.alloc oSt).heap.size (w.alloc oSt) w' := by
  obtain ⟨c0, _⟩ := nKeep h 0
  obtain ⟨c1, _⟩ := nKeep h 1
  obtain ⟨c2, _⟩ := nKeep h 2
  obtain ⟨c3, _⟩ := nKeep h 3
  obtain ⟨c4, _⟩ := nKeep h 4
  have hz := h.size
  simp at c0 c1 c2 c3 c4 hz
  exact ⟨c0, c1, c2, c3, c4, by omega, h⟩

set_option maxRecDepth 100000 in
set_option maxHeartbeats 800000 in
theorem placeOf_f (w : World) : Calls Try.prog 35 #[aSt] w fun e w' => e = .returned (.agg #[.int .i64 1, .int .i64 2]) ∧ Below w.heap.size w w' := by
  go_enter Try.func35, Try.ntmps35
  go_wp2_with (fail)
  refine bodyPost_ret (v := .agg #[.int .i64 1, .int .i64 2]) ?_ rfl ?_
  · simp [results, Try.results35, go_sem]
    done
  · exact ⟨rfl, nBt (nBa _ _) (nBa _ _)⟩
set_option maxRecDepth 100000 in
set_option maxHeartbeats 800000 in
theorem isHold_4 (w : World) : Calls Try.prog 36 #[.int .i64 4] w fun e w' => e = .returned (.bool true) ∧ w = w' := by
  go_enter Try.func36, Try.ntmps36
  go_wp2_with (fail)
  go_ret
  exact ⟨rfl, rfl⟩
set_option maxRecDepth 100000 in
set_option maxHeartbeats 800000 in
theorem symF (w : World) : Calls Try.prog 72 #[.agg #[], .agg #[.int .i64 1, .int .i64 2]] w fun e w' => e = .returned (.string ⟨#[99]⟩) ∧ Below w.heap.size w w' := by
  go_enter Try.func72, Try.ntmps72
  go_wp2_with (go_at_call 48; refine (atN_any [97, 98, 99, 100, 101, 102, 103, 104, 105, 107, 108, 109, 110, 111, 112, 113, 114, 115, 116] 2 _ (by decide)).mono ?_; rintro e w1 ⟨rfl, rfl⟩)
  go_ret
  exact ⟨rfl, nBt (nBa _ _) (nBa _ _)⟩
set_option maxRecDepth 100000 in
set_option maxHeartbeats 800000 in
theorem rightsF (w : World) : Calls Try.prog 71 #[.agg #[]] w fun e w' => e = .returned (.string ⟨#[45, 46, 58, 39]⟩) ∧ Below w.heap.size w w' := by
  go_enter Try.func71, Try.ntmps71
  go_wp2_with (fail)
  go_ret
  exact ⟨rfl, by first | exact Below.refl _ _ | exact nBa _ _⟩
set_option maxRecDepth 100000 in
set_option maxHeartbeats 800000 in
theorem gracesF (w : World) : Calls Try.prog 67 #[.agg #[]] w fun e w' => e = .returned (.string ⟨#[45, 44, 94, 35, 40]⟩) ∧ Below w.heap.size w w' := by
  go_enter Try.func67, Try.ntmps67
  go_wp2_with (fail)
  go_ret
  exact ⟨rfl, by first | exact Below.refl _ _ | exact nBa _ _⟩
set_option maxRecDepth 100000 in
set_option maxHeartbeats 800000 in
theorem mark1 (w : World) : Calls Try.prog 44 #[.string ⟨#[45, 46, 58, 39]⟩, .int .i64 1] w fun e w' => e = .returned (.string ⟨#[46]⟩) ∧ w = w' := by
  go_enter Try.func44, Try.ntmps44
  go_wp2_with (go_at_call 48; refine (atN_any [45, 46, 58, 39] 1 _ (by decide)).mono ?_; rintro e w1 ⟨rfl, rfl⟩)
  go_ret
  exact ⟨rfl, rfl⟩
set_option maxRecDepth 100000 in
set_option maxHeartbeats 800000 in
theorem mark0 (w : World) : Calls Try.prog 44 #[.string ⟨#[45, 44, 94, 35, 40]⟩, .int .i64 0] w fun e w' => e = .returned (.string ⟨#[]⟩) ∧ w = w' := by
  go_enter Try.func44, Try.ntmps44
  go_wp2_with (fail)
  go_ret
  exact ⟨rfl, rfl⟩

end Go.Proofs.Ytdaeanjjmbibmaa
