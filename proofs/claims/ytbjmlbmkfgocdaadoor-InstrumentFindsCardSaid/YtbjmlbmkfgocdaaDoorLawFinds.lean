/- The law InstrumentFinds returns true for every instrument and place, in every world that holds the program's tables. -/
import Derived.Test.YtbjmlbmkfgocdaaDoorLawChecks
import Derived.Test.YtbjmlbmkfgocdaaDoorSamePl
import Derived.Test.YtbjmlbmkfgocdaaDoorPure10
import Derived.Test.YtbjmlbmkfgocdaaDoorFinds1
import Derived.Test.YtbjmlbmkfgocdaaDoorFinds2
import Derived.Test.YtbjmlbmkfgocdaaDoorFinds3
import Derived.Test.YtbjmlbmkfgocdaaDoorFinds4
import Derived.Test.YtbjmlbmkfgocdaaDoorFinds5
import Derived.Test.YtbjmlbmkfgocdaaDoorFinds6
namespace Go.Proofs.YtbjmlbmkfgocdaaDoor
open Go.RowKit

theorem law_finds (A A' : Option Addr) (n c m c' : Nat) (C : List Cr) (S : List Int) (pc pf : Int) (w : World) (E : Env w) (hC : Sl w w.heap.size 3 A n c (crC C)) (hS : Sl w w.heap.size 1 A' m c' (intC S)) (hn : n = C.length) (hm : m = S.length) :
    Calls Tryd.prog 6 #[.agg #[.slice A n c, .slice A' m c'], .agg #[.int .i64 pc, .int .i64 pf]] w fun e w' => e = .returned (.bool true) ∧ Below w.heap.size w w' := by
  cases hb : bigB n m with
  | true => exact law_finds_big A A' n c m c' pc pf w E hb
  | false =>
    by_cases he : atE C S pc pf = 0
    · exact law_finds_yes A A' n c m c' C S pc pf w E hC hS hn hm hb he
    · by_cases h1 : chk C S = 0
      · by_cases h2 : pc < 1
        · exact law_finds_c2 A A' n c m c' C S pc pf w E hC hS hn hm hb _ _ ⟨rfl, rfl⟩ he h1 (by simpa using h2)
        · by_cases h3 : (n : Int) < pc
          · exact law_finds_c3 A A' n c m c' C S pc pf w E hC hS hn hm hb _ _ ⟨rfl, rfl⟩ he h1 (by simpa using h2) (by simpa using h3)
          · by_cases h4 : pf < 0
            · exact law_finds_c4 A A' n c m c' C S pc pf w E hC hS hn hm hb _ _ ⟨rfl, rfl⟩ he h1 (by simpa using h2) (by simpa using h3) (by simpa using h4)
            · obtain ⟨p, rfl⟩ : ∃ p : Nat, pc = (p : Int) + 1 := ⟨(pc - 1).toNat, by omega⟩
              refine law_finds_c5 A A' n c m c' C S p pf w E hC hS hn hm hb _ _ ⟨rfl, rfl⟩ he h1 (by omega) h4 ?_
              by_cases g : (C.getD p z0).f < pf
              · exact g
              · have hh : hasB C.length ((p : Int) + 1) = true := by simp [hasB]; omega
                have e1 : ((p : Int) + 1 - 1).toNat = p := by omega
                exact absurd (at_ok (pf := pf) h1 hh (by rw [e1]; omega)).1 he
      · exact law_finds_c1 A A' n c m c' C S pc pf w E hC hS hn hm hb _ _ ⟨rfl, rfl⟩ he _ rfl (by simpa using h1)

end Go.Proofs.YtbjmlbmkfgocdaaDoor
