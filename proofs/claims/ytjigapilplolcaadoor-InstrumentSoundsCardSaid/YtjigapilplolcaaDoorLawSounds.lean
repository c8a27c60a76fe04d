/- The law InstrumentSounds returns true for every note, in every world that holds the program's tables. -/
import Derived.Test.YtjigapilplolcaaDoorWorks
import Derived.Test.YtjigapilplolcaaDoorName1
namespace Go.Proofs.YtjigapilplolcaaDoor
open Go.RowKit

set_option maxHeartbeats 1600000 in
theorem law_sounds (l a o : Int) (w : World) (E : Env w) (T : Tab w) :
    Calls Tryd.prog 3 #[.agg #[.int .i64 l, .int .i64 a, .int .i64 o]] w fun e w' => e = .returned (.bool true) ∧ Below w.heap.size w w' := by
  have E1 := E.alloc (.cells #[.int .i64 l, .int .i64 a, .int .i64 o] 23)
  have T1 := T.below (ba w (.cells #[.int .i64 l, .int .i64 a, .int .i64 o] 23))
  go_enter Tryd.func3, Tryd.ntmps3
  go_wp2_with (fail)
  refine (sounding_any _ _ _ _ E1).mono ?_
  rintro e w1 ⟨rfl, hb1⟩
  have hT1 := bt (Below.refl _ _) hb1
  obtain ⟨c0, _⟩ := keepc hT1 0
  obtain ⟨c1, _⟩ := keepc hT1 1
  obtain ⟨c2, _⟩ := keepc hT1 2
  simp at c0 c1 c2
  go_wp2_with (fail)
  refine (own_any _ _ _ _).mono ?_
  rintro e w2 ⟨rfl, hb2⟩
  have hT2 := bt hT1 hb2
  obtain ⟨c0, _⟩ := keepc hT2 0
  obtain ⟨c1, _⟩ := keepc hT2 1
  obtain ⟨c2, _⟩ := keepc hT2 2
  simp at c0 c1 c2
  go_wp2_with (fail)
  refine (rsounding_any _ _ _ _).mono ?_
  rintro e w3 ⟨rfl, hb3⟩
  have hT3 := bt hT2 hb3
  obtain ⟨c0, _⟩ := keepc hT3 0
  obtain ⟨c1, _⟩ := keepc hT3 1
  obtain ⟨c2, _⟩ := keepc hT3 2
  simp at c0 c1 c2
  go_wp2_with (fail)
  refine (name_any _ _ _ _ (E1.below hT3) (T1.below hT3)).mono ?_
  rintro e w4 ⟨rfl, hb4⟩
  have hT4 := bt hT3 hb4
  obtain ⟨c0, _⟩ := keepc hT4 0
  obtain ⟨c1, _⟩ := keepc hT4 1
  obtain ⟨c2, _⟩ := keepc hT4 2
  simp at c0 c1 c2
  go_wp2_with (fail)
  refine (own_any _ _ _ _).mono ?_
  rintro e w5 ⟨rfl, hb5⟩
  have hT5 := bt hT4 hb5
  obtain ⟨c0, _⟩ := keepc hT5 0
  obtain ⟨c1, _⟩ := keepc hT5 1
  obtain ⟨c2, _⟩ := keepc hT5 2
  simp at c0 c1 c2
  go_wp2_with (fail)
  refine (rname_any _ _ _ _).mono ?_
  rintro e w6 ⟨rfl, hb6⟩
  have hT6 := bt hT5 hb6
  obtain ⟨c0, _⟩ := keepc hT6 0
  obtain ⟨c1, _⟩ := keepc hT6 1
  obtain ⟨c2, _⟩ := keepc hT6 2
  simp at c0 c1 c2
  go_wp2_with (go_at_call 20; refine (works_any _ (E1.below hT6)).mono ?_; rintro e w7 ⟨rfl, hb7⟩)
  go_ret
  exact ⟨rfl, bx (bt hT6 hb7)⟩

end Go.Proofs.YtjigapilplolcaaDoor
