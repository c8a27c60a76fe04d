/- The law SoundConcords returns true for every list of numbers. -/
import Derived.Test.YtcebpgcmmdfccaaWorks5
import Derived.Test.YtcebpgcmmdfccaaConcW
import Derived.Test.YtcebpgcmmdfccaaPcCopy
namespace Go.Proofs.Ytcebpgcmmdfccaa
open Go Go.RowKit

set_option maxRecDepth 100000 in
set_option maxHeartbeats 4000000 in
theorem law_concords (A : Option Addr) (n c : Nat) (L : List Int) (w : World) (hA : Sl w w.heap.size 1 A n c (intC L)) (hn : n = L.length) :
    Calls Try.prog 9 #[.slice A n c] w fun e w' => e = .returned (.bool true) ∧ Below w.heap.size w w' := by
  have HA : Hid (∀ w', Below w.heap.size w w' → Sl w' w'.heap.size 1 A n c (intC L)) := fun w' hb => hA.below hb
  have HN := Lib.hid hn
  have HEQ := Lib.hid (conc_eq L)
  obtain ⟨i0, ii1, ii2, ii3, ii4⟩ := info_parts Try.info3'
  clear hA hn
  by_cases h2 : 200 < n
  · go_enter Try.func9, Try.ntmps9
    go_wp2_with (go_at_call 16; refine (works5 _).mono ?_; rintro e w1 ⟨rfl, hb1⟩)
    go_ret
    exact ⟨rfl, hb1⟩
  · have h3 : ¬ ((200 : Int) < (n : Int)) := by omega
    cases hp : rconB L with
    | true =>
      have HP := Lib.hid hp
      clear hp
      go_enter Try.func9, Try.ntmps9
      go_wp2_with (first
        | (at_builtin; go_loud (refine wpList_append_fresh _ rfl _ _ 23 rfl 3 i0 _ 1 8 Try.underlying23 ii1 ii2 ii3 ii4 rfl (by decide) _ rfl A n c (intC L) rfl (HA.out _ (ba w _)) (by unfold maxLen; omega) (by omega) ?_); intro A5 c5 w5 hown5 hb5; have HO5 := Lib.hid hown5; have HB5 : Hid (Below w.heap.size w w5) := bx hb5; clear hown5 hb5)
        | (go_at_call 39; refine (concordant_any A5 n c5 L _ HO5.out.sl HN.out (by omega)).mono ?_; rintro e w6 ⟨rfl, hb6⟩; rw [HEQ.out, HP.out])
        | (go_at_call 40; refine (rconcordant_any A n c L _ (HA.out _ (bt HB5.out hb6)) HN.out (by omega)).mono ?_; rintro e w7 ⟨rfl, hb7⟩; rw [HP.out])
        | (go_at_call 16; refine (works5 _).mono ?_; rintro e w8 ⟨rfl, hb8⟩))
      go_ret
      exact ⟨rfl, bt HB5.out (bt hb6 (bt hb7 hb8))⟩
    | false =>
      have HP := Lib.hid hp
      clear hp
      go_enter Try.func9, Try.ntmps9
      go_wp2_with (first
        | (at_builtin; refine wpList_append_fresh _ rfl _ _ 23 rfl 3 i0 _ 1 8 Try.underlying23 ii1 ii2 ii3 ii4 rfl (by decide) _ rfl A n c (intC L) rfl (HA.out _ (ba w _)) (by unfold maxLen; omega) (by omega) ?_; intro A5 c5 w5 hown5 hb5; have HO5 := Lib.hid hown5; have HB5 : Hid (Below w.heap.size w w5) := bx hb5; clear hown5 hb5)
        | (go_at_call 39; refine (concordant_any A5 n c5 L _ HO5.out.sl HN.out (by omega)).mono ?_; rintro e w6 ⟨rfl, hb6⟩; rw [HEQ.out, HP.out])
        | (go_at_call 40; refine (rconcordant_any A n c L _ (HA.out _ (bt HB5.out hb6)) HN.out (by omega)).mono ?_; rintro e w7 ⟨rfl, hb7⟩; rw [HP.out])
        | (go_at_call 16; refine (works5 _).mono ?_; rintro e w8 ⟨rfl, hb8⟩))
      go_ret
      exact ⟨rfl, bt HB5.out (bt hb6 (bt hb7 hb8))⟩

end Go.Proofs.Ytcebpgcmmdfccaa
