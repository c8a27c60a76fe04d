/- What the row's condition on the library's table of powers gives the walks. -/
import Derived.Test.YtdaeanjjmbibmaaDoorEnv0
import Derived.Test.YtdaeanjjmbibmaaDoorName1
import Derived.Lib.LaidU8
namespace Go.Proofs.YtdaeanjjmbibmaaDoor
open Go.ChangeShapes Go.WideShapes Go.ChangeAt Go.RowKit Go.Deep

theorem tab_of {w : World} {laid : List (String × DataW Unit)} (h : laidMet Tryd.prog laid w) (h1 : ("internal/strconv.uint64pow10", Rows.laid_internal_strconv_uint64pow10) ∈ laid) : Tab w := by
  obtain ⟨g, t, cs, fuel, p, hg, ht, hv, hd⟩ := Lib.laidMet.reads h h1
  obtain rfl := Option.some.inj ((show Tryd.prog.globalNamed "internal/strconv.uint64pow10" = some 3 by kernel_rfl).symm.trans hg)
  obtain rfl := Option.some.inj ((show (Tryd.prog.globals[3]?).map (·.type) = some 182 by kernel_rfl).symm.trans ht)
  have e0 : (Rows.laid_internal_strconv_uint64pow10 : DataW Unit) = Lib.tabData .u64 Lib.pow10Tab := by kernel_rfl
  rw [e0] at hd
  have e1 := Lib.cells_of_tab (n := 20) Tryd.underlying182 Tryd.underlying166 (by kernel_rfl) (by kernel_rfl) hd
  intro w' hb
  have hT : Lib.TabIs Tryd.prog w "internal/strconv.uint64pow10" .u64 Lib.pow10Tab := by
    unfold Lib.TabIs
    rw [hv, ← e1]
  obtain ⟨t, fr, hh⟩ := row_of_var hg hv
  have hlt : 3 < w.heap.size := by
    rcases Nat.lt_or_ge 3 w.heap.size with hlt | hge
    · exact hlt
    · rw [Array.getElem?_eq_none hge] at hh; cases hh
  exact var?_below hb hg hlt hT

end Go.Proofs.YtdaeanjjmbibmaaDoor
