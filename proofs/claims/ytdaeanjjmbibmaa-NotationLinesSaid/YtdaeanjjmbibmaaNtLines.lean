/- The law NotationLines returns true for every system, instrument and course. -/
import Derived.Test.YtdaeanjjmbibmaaNtLineP
import Derived.Test.YtdaeanjjmbibmaaNtLineR
namespace Go.Proofs.Ytdaeanjjmbibmaa
open Go.RowKit Go.Sort

set_option maxRecDepth 100000 in
set_option maxHeartbeats 3200000 in
theorem law_notlines (s : Int) (A A' : Option Addr) (n c m c' : Nat) (C : List Cr) (S : List Int) (co : Int) (w : World) (hC : Sl w w.heap.size 3 A n c (crC C)) (hS : Sl w w.heap.size 1 A' m c' (intC S)) (hn : n = C.length) (hm : m = S.length) :
    Calls Try.prog 4 #[.int .u8 s, .agg #[.slice A n c, .slice A' m c'], .int .i64 co] w fun e w' => e = .returned (.bool true) ∧ Below w.heap.size w w' := by
  have HC : Hid (∀ w', Below (w.alloc (iO A n c A' m c')).heap.size (w.alloc (iO A n c A' m c')) w' → Sl w' w'.heap.size 3 A n c (crC C)) := fun w' h => (hC.below (nBa w _)).below h
  have HS : Hid (∀ w', Below (w.alloc (iO A n c A' m c')).heap.size (w.alloc (iO A n c A' m c')) w' → Sl w' w'.heap.size 1 A' m c' (intC S)) := fun w' h => (hS.below (nBa w _)).below h
  have HN := Lib.hid hn
  have HM := Lib.hid hm
  clear hC hS hn hm
  by_cases hbig : 64 < n ∨ 64 < m
  · by_cases g1 : (64 : Int) < n
    · clear hbig
      go_enter Try.func4, Try.ntmps4
      go_wp2_with (go_at_call 12; refine (works3 _).mono ?_; rintro e w5 ⟨rfl, hb5⟩)
      go_ret
      exact ⟨rfl, nBx hb5⟩
    · have g2 : (64 : Int) < m := by omega
      clear hbig
      go_enter Try.func4, Try.ntmps4
      go_wp2_with (go_at_call 12; refine (works3 _).mono ?_; rintro e w5 ⟨rfl, hb5⟩)
      go_ret
      exact ⟨rfl, nBx hb5⟩
  · have g1 : ¬ (64 : Int) < n := by omega
    have g2 : ¬ (64 : Int) < m := by omega
    have b3 : n ≤ 9223372036854775807 := by omega
    have b4 : m ≤ 9223372036854775807 := by omega
    have HP : Hid (∀ w', Sl w' w'.heap.size 3 A n c (crC C) → Sl w' w'.heap.size 1 A' m c' (intC S) → _) := fun w' h1 h2 => line_any s A A' n c m c' C S co w' h1 h2 HN.out HM.out b3 b4
    have HR : Hid (∀ w', Sl w' w'.heap.size 3 A n c (crC C) → Sl w' w'.heap.size 1 A' m c' (intC S) → _) := fun w' h1 h2 => rline_any s A A' n c m c' C S co w' h1 h2 HN.out HM.out b3 b4
    generalize lnV C S s n co = V at *
    generalize lnE C S s n co = E at *
    clear hbig
    go_enter Try.func4, Try.ntmps4
    go_wp2_with (first
      | (go_at_call 13; refine (HP.out _ (HC.out _ (Below.refl _ _)) (HS.out _ (Below.refl _ _))).mono ?_; rintro e w1 ⟨rfl, hb1⟩; obtain ⟨q0, q1⟩ := argsN hb1)
      | (go_at_call 14; refine (HR.out _ (HC.out _ hb1) (HS.out _ hb1)).mono ?_; rintro e w2 ⟨rfl, hb2⟩)
      | (go_at_call 12; refine (works3 _).mono ?_; rintro e w5 ⟨rfl, hb5⟩))
    go_ret
    exact ⟨rfl, nBx (nBt hb1 (nBt hb2 hb5))⟩

end Go.Proofs.Ytdaeanjjmbibmaa
