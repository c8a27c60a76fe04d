/- What the reference's ParseName returns, for every text. -/
import Derived.Test.YtdaeanjjmbibmaaDoorRefS
import Derived.Test.YtdaeanjjmbibmaaDoorRefF
import Derived.Test.YtdaeanjjmbibmaaDoorRefO
import Derived.Test.YtdaeanjjmbibmaaDoorRefMiss
namespace Go.Proofs.YtdaeanjjmbibmaaDoor
open Go.RowKit

theorem rparse_any (l : List UInt8) (w : World) (hs : l.length < 4294967200) :
    Calls Tryd.prog 98 #[.string ⟨l.toArray⟩] w fun e w' => e = .returned (.tuple #[.agg #[.int .i64 (nmL l), .int .i64 (nmA l), .int .i64 (nmO l)], .int .i64 (nmE l)]) ∧ Below w.heap.size w w' := by
  match l, hs with
  | [], _ => exact rparse_short _ w (by simp)
  | [c], _ => exact rparse_short _ w (by simp)
  | c :: d :: r, hs =>
    have hs' : r.length < 4294967200 := by simp at hs; omega
    cases h : ltrOf c with
    | none => exact rparse_miss _ c d r w rfl h hs'
    | some n =>
      have hn : n < 7 := by
        rcases ltrOf_cases c with e | ⟨_, e⟩ | ⟨_, e⟩ | ⟨_, e⟩ | ⟨_, e⟩ | ⟨_, e⟩ | ⟨_, e⟩ | ⟨_, e⟩ <;> rw [h] at e <;> cases e <;> omega
      by_cases d1 : d = 35
      · exact rparse_S _ c d r n w rfl hn h hs' d1
      · by_cases d2 : d = 98
        · exact rparse_F _ c d r n w rfl hn h hs' d2
        · exact rparse_O _ c d r n w rfl hn h hs' d1 d2

end Go.Proofs.YtdaeanjjmbibmaaDoor
