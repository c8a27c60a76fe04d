/- Notation: the look at the chapter's examples, its third: the cell; and the whole. -/
import Derived.Test.YtdaeanjjmbibmaaNt2
import Derived.Test.YtdaeanjjmbibmaaShelf
namespace Go.Proofs.Ytdaeanjjmbibmaa
open Go.RowKit

theorem nSymF : ∀ w : World, (nilAhead 247 73 (.agg #[]) "theorbo/notation.symbol").run Try.prog w = .ok (some false) w := fun _ => by kernel_rfl

set_option maxRecDepth 100000 in
set_option maxHeartbeats 800000 in
theorem holdF (w : World) : Calls Try.prog 68 #[.agg #[], .int .i64 3, .int .i64 4] w fun e w' => e = .returned (.string ⟨#[95, 51]⟩) ∧ Below w.heap.size w w' := by
  have hd : Hid (Lib.decDigits 3 = [51]) := by unfold Hid; rw [Lib.decDigits, dif_pos (by decide)]; rfl
  go_enter Try.func68, Try.ntmps68
  go_wp2_with (go_at_call 73; refine (Try.strconv_Itoa_small 3 (by decide) _).mono ?_; rintro e w1 ⟨rfl, rfl⟩; rw [hd.out])
  go_ret
  exact ⟨rfl, by first | exact Below.refl _ _ | exact nBa _ _⟩
set_option maxRecDepth 100000 in
set_option maxHeartbeats 800000 in
theorem holdMark_f (w : World) : Calls Try.prog 45 #[fr, .int .i64 3, .int .i64 4] w fun e w' => e = .returned (.string ⟨#[95, 51]⟩) ∧ Below w.heap.size w w' := by
  have hm := mHoldF
  go_enter Try.func45, Try.ntmps45
  go_wp2_with (go_at_call 68; refine (holdF _).mono ?_; rintro e w1 ⟨rfl, hb1⟩)
  go_ret
  exact ⟨rfl, hb1⟩

set_option maxRecDepth 100000 in
set_option maxHeartbeats 3200000 in
theorem lacks_f (w : World) : Calls Try.prog 37 #[fr, aSt, .int .i64 4] w fun e w' => e = .returned (.slice none 0 0) ∧ Below w.heap.size w w' := by
  have hm := mSymF
  have hn := nSymF
  have hm2 := mRightsF
  have hm3 := mGracesF
  have hR : Below (w.alloc oSt).heap.size (w.alloc oSt) (w.alloc oSt).drew := (Below.refl _ _).drew
  go_enter Try.func37, Try.ntmps37
  go_wp2_with (fail)
  go_region_held3 (fun w' => w'.cell? ⟨w.heap.size, 0, none⟩ = some (.int .i64 1) ∧ w'.cell? ⟨w.heap.size, 1, none⟩ = some (.int .i64 2) ∧ w'.cell? ⟨w.heap.size, 2, none⟩ = some (.int .i64 1) ∧ w'.cell? ⟨w.heap.size, 3, none⟩ = some (.int .i64 0) ∧ w'.cell? ⟨w.heap.size, 4, none⟩ = some (.int .i64 3) ∧ w.heap.size < w'.heap.size ∧ Below (w.alloc oSt).heap.size (w.alloc oSt) w')
    (first | exact keepSt hR | exact keepSt (nBt hR hb3) | exact keepSt (nBt (nBt hR hb3) hb4))
    (first | (go_at_call 35; refine (placeOf_f _).mono ?_; rintro e w3 ⟨rfl, hb3⟩) | (go_at_call 72; refine (symF _).mono ?_; rintro e w4 ⟨rfl, hb4⟩))
  all_goals
    have T4 : Below (w.alloc oSt).heap.size (w.alloc oSt) w4 := by first | exact nBt (nBt hR hb3) hb4 | exact nBt (nBt hR hb4) hb3
    have R4 := T4.drew
    clear hb3 hb4
    obtain ⟨c0, c1, c2, c3, c4, cz, _⟩ := keepSt T4
    go_wp2_with (fail)
    go_region_held3 (fun w' => w'.cell? ⟨w.heap.size, 0, none⟩ = some (.int .i64 1) ∧ w'.cell? ⟨w.heap.size, 1, none⟩ = some (.int .i64 2) ∧ w'.cell? ⟨w.heap.size, 2, none⟩ = some (.int .i64 1) ∧ w'.cell? ⟨w.heap.size, 3, none⟩ = some (.int .i64 0) ∧ w'.cell? ⟨w.heap.size, 4, none⟩ = some (.int .i64 3) ∧ w.heap.size < w'.heap.size ∧ Below (w.alloc oSt).heap.size (w.alloc oSt) w')
      (first | exact keepSt R4 | exact keepSt (nBt R4 hb5))
      (first | (go_at_call 71; refine (rightsF _).mono ?_; rintro e w5 ⟨rfl, hb5⟩) | (go_at_call 44; refine (mark1 _).mono ?_; rintro e w6 ⟨rfl, rfl⟩))
    all_goals
      have T5 := nBt R4 hb5
      obtain ⟨d0, d1, d2, d3, d4, dz, _⟩ := keepSt T5
      go_wp2_with (fail)
      go_quiet (fail)
      have T6 := below_drewN T5 nq
      generalize w5.drewN nq = w6 at *
      clear d0 d1 d2 d3 d4 dz
      obtain ⟨d0, d1, d2, d3, d4, dz, _⟩ := keepSt T6
      go_wp2_with (go_at_call 45; refine (holdMark_f _).mono ?_; rintro e w7 ⟨rfl, hb7⟩)
      go_ret
      exact ⟨rfl, nBx (nBt T6 hb7)⟩

def markV (i : Int) : ByteArray := if i = 1 then ⟨#[46]⟩ else ⟨#[]⟩
theorem markV1 : markV 1 = ⟨#[46]⟩ := rfl
theorem markV0 : markV 0 = ⟨#[]⟩ := rfl
theorem mark01 (s : ByteArray) (i : Int) (w : World) (h : (s = ⟨#[45, 46, 58, 39]⟩ ∧ i = 1) ∨ (s = ⟨#[45, 44, 94, 35, 40]⟩ ∧ i = 0)) : Calls Try.prog 44 #[.string s, .int .i64 i] w fun e w' => e = .returned (.string (markV i)) ∧ w = w' := by
  rcases h with ⟨rfl, rfl⟩ | ⟨rfl, rfl⟩
  · exact mark1 w
  · exact mark0 w

set_option maxRecDepth 100000 in
set_option maxHeartbeats 6400000 in
theorem cell_f (w : World) : Calls Try.prog 38 #[fr, aSt, .int .i64 4] w fun e w' => e = .returned (.string ⟨#[99, 46, 95, 51]⟩) ∧ Below w.heap.size w w' := by
  have hm := mSymF
  have hn := nSymF
  have hm2 := mRightsF
  have hm3 := mGracesF
  have hR : Below (w.alloc oSt).heap.size (w.alloc oSt) (w.alloc oSt).drew := (Below.refl _ _).drew
  go_enter Try.func38, Try.ntmps38
  go_wp2_with (fail)
  go_region_held3 (fun w' => w'.cell? ⟨w.heap.size, 0, none⟩ = some (.int .i64 1) ∧ w'.cell? ⟨w.heap.size, 1, none⟩ = some (.int .i64 2) ∧ w'.cell? ⟨w.heap.size, 2, none⟩ = some (.int .i64 1) ∧ w'.cell? ⟨w.heap.size, 3, none⟩ = some (.int .i64 0) ∧ w'.cell? ⟨w.heap.size, 4, none⟩ = some (.int .i64 3) ∧ w.heap.size < w'.heap.size ∧ Below (w.alloc oSt).heap.size (w.alloc oSt) w')
    (first | exact keepSt hR | exact keepSt (nBt hR hb3) | exact keepSt (nBt (nBt hR hb3) hb4) | exact keepSt (nBt (nBt (nBt hR hb3) hb4) hb5) | exact keepSt (nBt (nBt (nBt (nBt hR hb3) hb4) hb5) hb7) | exact keepSt (nBt (nBt (nBt (nBt (nBt hR hb3) hb4) hb5) hb7) hb9))
    (first | (go_at_call 35; refine (placeOf_f _).mono ?_; rintro e w3 ⟨rfl, hb3⟩) | (go_at_call 72; refine (symF _).mono ?_; rintro e w4 ⟨rfl, hb4⟩) | (go_at_call 71; refine (rightsF _).mono ?_; rintro e w5 ⟨rfl, hb5⟩) | (go_at_call 44; refine (mark01 _ _ _ (by first | exact .inl ⟨rfl, rfl⟩ | exact .inr ⟨rfl, rfl⟩)).mono ?_; rintro e w6 ⟨rfl, rfl⟩; first | rw [markV1] | rw [markV0]) | (go_at_call 67; refine (gracesF _).mono ?_; rintro e w7 ⟨rfl, hb7⟩) | (go_at_call 45; refine (holdMark_f _).mono ?_; rintro e w9 ⟨rfl, hb9⟩))
  all_goals
    go_wp2_with (fail)
    go_ret
    exact ⟨nRet (by rfl), nBx (nBt (nBt (nBt (nBt (nBt hR hb3) hb4) hb5) hb7) hb9)⟩

set_option maxRecDepth 100000 in
set_option maxHeartbeats 3200000 in
theorem theCell_f (w : World) : Calls Try.prog 23 #[.int .u8 1, aSt, .int .i64 4] w fun e w' => e = .returned (.tuple #[.string ⟨#[99, 46, 95, 51]⟩, .int .i64 0]) ∧ Below w.heap.size w w' := by
  go_enter Try.func23, Try.ntmps23
  go_wp2_with (first | (go_at_call 20; refine (sys1 _).mono ?_; rintro e w1 ⟨rfl, rfl⟩) | (go_at_call 35; refine (placeOf_f _).mono ?_; rintro e w2 ⟨rfl, hb2⟩) | (go_at_call 29; refine (checkPlace_ok 1 2 _ (by decide)).mono ?_; rintro e w3 ⟨rfl, hb3⟩; have T3 := nBt hb2 hb3; obtain ⟨c0, c1, c2, c3, c4, cz, _⟩ := keepSt T3) | (go_at_call 36; refine (isHold_4 _).mono ?_; rintro e w4 ⟨rfl, rfl⟩) | (go_at_call 37; refine (lacks_f _).mono ?_; rintro e w5 ⟨rfl, hb5⟩; have T5 := nBt T3 hb5; obtain ⟨d0, d1, d2, d3, d4, dz, _⟩ := keepSt T5) | (go_at_call 38; refine (cell_f _).mono ?_; rintro e w6 ⟨rfl, hb6⟩))
  go_ret2
  exact ⟨rfl, nBx (nBt T5 hb6)⟩

set_option maxRecDepth 100000 in
set_option maxHeartbeats 3200000 in
theorem works3 (w : World) : Calls Try.prog 12 #[] w fun e w' => e = .returned (.bool true) ∧ Below w.heap.size w w' := by
  go_enter Try.func12, Try.ntmps12
  go_wp2_with (first | (go_at_call 15; refine (symbol_g64 _).mono ?_; rintro e w1 ⟨rfl, hb1⟩) | (go_at_call 17; refine (place_g _).mono ?_; rintro e w2 ⟨rfl, hb2⟩) | (go_at_call 23; refine (theCell_f _).mono ?_; rintro e w3 ⟨rfl, hb3⟩; obtain ⟨c0, _⟩ := nKeep hb3 0; obtain ⟨c1, _⟩ := nKeep hb3 1; have hz3 : w2.heap.size < w3.heap.size := (by have := hb3.size; simp at this; omega); simp at c0 c1))
  go_ret
  exact ⟨rfl, nBt hb1 (nBt hb2 (nBx hb3))⟩

end Go.Proofs.Ytdaeanjjmbibmaa
