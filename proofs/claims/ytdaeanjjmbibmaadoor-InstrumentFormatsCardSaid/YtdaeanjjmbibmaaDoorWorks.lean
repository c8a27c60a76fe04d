/- The look at the chapter's examples: it returns true in every world that holds the program's tables. -/
import Derived.Test.YtdaeanjjmbibmaaDoorStandard
import Derived.Test.YtdaeanjjmbibmaaDoorAt
import Derived.Test.YtdaeanjjmbibmaaDoorSpell
namespace Go.Proofs.YtdaeanjjmbibmaaDoor
open Go.RowKit

theorem lute_E : stdE [108, 117, 116, 101, 54] = 0 := by kernel_rfl
theorem lute_C : (stdC' [108, 117, 116, 101, 54]).length = 6 := by kernel_rfl
theorem lute_atP : atP (stdC' [108, 117, 116, 101, 54]) (stdS [108, 117, 116, 101, 54]) 1 2 = 69 := by kernel_rfl
theorem lute_atE : atE (stdC' [108, 117, 116, 101, 54]) (stdS [108, 117, 116, 101, 54]) 1 2 = 0 := by kernel_rfl
theorem lute_S : (stdS [108, 117, 116, 101, 54]).length = 8 := by kernel_rfl
theorem sp61 : spL 61 0 = 0 ∧ spAl 61 0 = 1 ∧ spOc 61 0 = 4 ∧ spE 61 0 = 0 := ⟨by kernel_rfl, by kernel_rfl, by kernel_rfl, by kernel_rfl⟩

set_option maxHeartbeats 1600000 in
theorem works_any (w : World) (E : Env w) :
    Calls Tryd.prog 11 #[] w fun e w' => e = .returned (.bool true) ∧ Below w.heap.size w w' := by
  have HST := Lib.hid (standard_any [108, 117, 116, 101, 54] w E)
  have HE := Lib.hid lute_E
  go_enter Tryd.func11, Tryd.ntmps11
  go_wp2_with (first | (go_at_call 22; refine HST.out.mono ?_; rintro e w2 ⟨A, n, c, A', m, c', rfl, hn, hm, h1, h2, f1, f2, hb⟩; rw [HE.out]; obtain rfl : n = 6 := hn.trans lute_C; obtain rfl : m = 8 := hm.trans lute_S; clear hn hm f1 f2; have E2 := E.below hb; have HAT := Lib.hid (at_any A A' 6 c 8 c' _ _ 1 2 _ (h1.below (ba w2 (.cells #[.slice A 6 c, .slice A' 8 c'] 25))) (h2.below (ba w2 (.cells #[.slice A 6 c, .slice A' 8 c'] 25))) lute_C.symm lute_S.symm (by decide) (by decide)); clear h1 h2) | (go_at_call 43; refine HAT.out.mono ?_; rintro e w3 ⟨rfl, hb3⟩; rw [lute_atP, lute_atE]) | (go_at_call 44; refine (spell_any 61 0 _ ((E2.alloc _).below hb3)).mono ?_; rintro e w4 ⟨rfl, hb4⟩; rw [sp61.1, sp61.2.1, sp61.2.2.1, sp61.2.2.2]))
  go_ret
  exact ⟨rfl, bal (bt hb (bt (bx hb3) hb4)) _⟩

end Go.Proofs.YtdaeanjjmbibmaaDoor
