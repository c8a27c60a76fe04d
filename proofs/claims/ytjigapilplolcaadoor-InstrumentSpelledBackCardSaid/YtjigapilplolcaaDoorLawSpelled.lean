/- The law InstrumentSpelledBack returns true for every pitch and key, in every world that holds the program's tables. -/
import Derived.Test.YtjigapilplolcaaDoorWorks
import Derived.Test.YtjigapilplolcaaDoorName1
import Derived.Test.YtjigapilplolcaaDoorSpelled
namespace Go.Proofs.YtjigapilplolcaaDoor
open Go.RowKit

set_option maxHeartbeats 16000000 in
theorem law_spelledback_ok (p key l : Int) (w : World) (E : Env w) (T : Tab w) (hS : spL p key = l ∧ spE p key = 0) (a o : Int) (hA : spAl p key = a) (hO : spOc p key = o) :
    Calls Tryd.prog 6 #[.int .i64 p, .int .i64 key] w fun e w' => e = .returned (.bool true) ∧ Below w.heap.size w w' := by
  have HS := Lib.hid hS
  have HA := Lib.hid (And.intro hA hO)
  have HG := Lib.hid (sp_ok hS.2)
  obtain ⟨hr, hp, k1, k2⟩ := sp_ok hS.2
  rw [hS.1, hA, hO] at hr hp
  rw [hS.1, hA] at k1 k2
  have HP := Lib.hid hp
  have HSN : Hid (sndP l a o = p ∧ sndE l a o = 0) := by unfold Hid sndP sndE; simp [hr, hp]
  obtain ⟨⟨l0, l6⟩, ⟨a0, a1⟩, _, _⟩ := rngB_iff.1 (rgt_rng hr).1
  have hn : ((l.toNat : Nat) : Int) = l := by omega
  have hnb := nm_back (n := l.toNat) (by rw [hn]; exact hr)
  rw [hn] at hnb
  have HNB := Lib.hid hnb
  clear hS hA hO hp hr hn hnb
  go_enter Tryd.func6, Tryd.ntmps6
  go_wp2_with (fail)
  refine (spell_any _ _ _ E).mono ?_
  rintro e w1 ⟨rfl, hb1⟩
  rw [HS.out.1, HA.out.1, HA.out.2, HS.out.2]
  have E1 := (E.below hb1).alloc (.cells #[.int .i64 l, .int .i64 a, .int .i64 o] 23)
  have T1 := (T.below hb1).below (ba w1 (.cells #[.int .i64 l, .int .i64 a, .int .i64 o] 23))
  go_wp2_with (fail)
  refine (sounding_any _ _ _ _ E1).mono ?_
  rintro e w2 ⟨rfl, hb2⟩
  rw [HSN.out.1, HSN.out.2]
  have hT2 := bt (Below.refl _ _) hb2
  obtain ⟨c0, _⟩ := keepc hT2 0
  obtain ⟨c1, _⟩ := keepc hT2 1
  obtain ⟨c2, _⟩ := keepc hT2 2
  simp at c0 c1 c2
  go_wp2_with (fail)
  refine (name_any _ _ _ _ (E1.below hT2) (T1.below hT2)).mono ?_
  rintro e w3 ⟨rfl, hb3⟩
  rw [HSN.out.2]
  have hT3 := bt hT2 hb3
  obtain ⟨c0, _⟩ := keepc hT3 0
  obtain ⟨c1, _⟩ := keepc hT3 1
  obtain ⟨c2, _⟩ := keepc hT3 2
  simp at c0 c1 c2
  go_wp2_with (fail)
  refine (parseName_any _ _ (E1.below hT3)).mono ?_
  rintro e w4 ⟨rfl, hb4⟩
  rw [HNB.out.1, HNB.out.2.1, HNB.out.2.2.1, HNB.out.2.2.2]
  have hT4 := bal (bt hT3 hb4) (.cells #[.int .i64 l, .int .i64 a, .int .i64 o] 23)
  obtain ⟨c0, _⟩ := keepc hT4 0
  obtain ⟨c1, _⟩ := keepc hT4 1
  obtain ⟨c2, _⟩ := keepc hT4 2
  simp at c0 c1 c2
  go_wp2_with (fail)
  have hT5 := bal hT4 (.cells #[.int .i64 0, .int .i64 2, .int .i64 4, .int .i64 (-1), .int .i64 1, .int .i64 3, .int .i64 5] 3)
  obtain ⟨d0, _⟩ := keepc hT5 0
  obtain ⟨d1, _⟩ := keepc hT5 1
  obtain ⟨d2, _⟩ := keepc hT5 2
  simp at d0 d1 d2
  have hcases : l = 0 ∨ l = 1 ∨ l = 2 ∨ l = 3 ∨ l = 4 ∨ l = 5 ∨ l = 6 := by omega
  rcases hcases with rfl | rfl | rfl | rfl | rfl | rfl | rfl
  all_goals
    simp [fif] at k1 k2
    go_region_with (fail)
    all_goals
      go_wp2_with (go_at_call 20; refine (works_any _ (E1.below hT5.drew)).mono ?_; rintro e w7 ⟨rfl, hb7⟩)
      go_ret
      exact ⟨rfl, bt hb1 (bx (bt hT5.drew hb7))⟩

theorem law_spelledback_err (p key : Int) (w : World) (E : Env w) (hS : ¬ spE p key = 0) :
    Calls Tryd.prog 6 #[.int .i64 p, .int .i64 key] w fun e w' => e = .returned (.bool true) ∧ Below w.heap.size w w' := by
  have hc : p < 0 ∨ (¬ p < 0 ∧ 127 < p) ∨ (¬ p < 0 ∧ ¬ 127 < p ∧ key < -4) ∨ (¬ p < 0 ∧ ¬ 127 < p ∧ ¬ key < -4 ∧ 4 < key) ∨ (p = 0 ∧ key = 4) := by
    have := sp_err hS
    omega
  rcases hc with h | ⟨h1, h⟩ | ⟨h1, h2, h⟩ | ⟨h1, h2, h3, h⟩ | ⟨rfl, rfl⟩
  all_goals
    go_enter Tryd.func6, Tryd.ntmps6
    go_wp2_with (first | (go_at_call 21; refine (spell_any _ _ _ E).mono ?_; rintro e w1 ⟨rfl, hb1⟩) | (go_at_call 20; refine (works_any _ ((E.below hb1).alloc _)).mono ?_; rintro e w7 ⟨rfl, hb7⟩))
    go_ret
    exact ⟨rfl, bt hb1 (bx hb7)⟩

theorem law_spelledback (p key : Int) (w : World) (E : Env w) (T : Tab w) :
    Calls Tryd.prog 6 #[.int .i64 p, .int .i64 key] w fun e w' => e = .returned (.bool true) ∧ Below w.heap.size w w' := by
  by_cases h : spE p key = 0
  · exact law_spelledback_ok p key _ w E T ⟨rfl, h⟩ _ _ rfl rfl
  · exact law_spelledback_err p key w E h

end Go.Proofs.YtjigapilplolcaaDoor
