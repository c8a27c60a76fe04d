/- The law InstrumentParses returns true for every text, in every world that holds the program's tables. -/
import Derived.Test.YtdaeanjjmbibmaaDoorWorks
import Derived.Test.YtdaeanjjmbibmaaDoorSameM
import Derived.Test.YtdaeanjjmbibmaaDoorRefParse
namespace Go.Proofs.YtdaeanjjmbibmaaDoor
open Go.RowKit

/-- The cells of an instrument's block, in whatever world lies above it. -/
theorem keepI {w2 w3 : World} {A : Option Addr} {n c : Nat} {A' : Option Addr} {m c' : Nat} (h : Below (w2.alloc (iObj A n c A' m c')).heap.size (w2.alloc (iObj A n c A' m c')) w3) :
    w3.cell? ⟨w2.heap.size, 0, none⟩ = some (.slice A n c) ∧ w3.cell? ⟨w2.heap.size, 1, none⟩ = some (.slice A' m c') ∧ w2.heap.size < w3.heap.size := by
  obtain ⟨c0, _⟩ := keepb h 0
  obtain ⟨c1, _⟩ := keepb h 1
  have hz := h.size
  simp at c0 c1 hz
  exact ⟨c0, c1, by omega⟩
theorem prs_len (l : List UInt8) (h : l.length ≤ 4096) : (prsC l).length ≤ 65536 ∧ (prsS l).length ≤ 65536 := by
  have hw := wrd_len l
  have hp := preOf_le (wrd l)
  constructor
  · unfold prsC
    split
    · rw [rawC, List.length_map, preW, List.length_take]; omega
    · simp
  · unfold prsS
    split
    · rw [rawS, List.length_map, postW, List.length_drop]; omega
    · simp

set_option maxRecDepth 100000 in
set_option maxHeartbeats 16000000 in
theorem law_parses (l : List UInt8) (w : World) (E : Env w) :
    Calls Tryd.prog 6 #[.string ⟨l.toArray⟩] w fun e w' => e = .returned (.bool true) ∧ Below w.heap.size w w' := by
  by_cases h : 4096 < (l.length : Int)
  · go_enter Tryd.func6, Tryd.ntmps6
    go_wp2_with (go_at_call 11; refine (works_any _ E).mono ?_; rintro e w7 ⟨rfl, hb7⟩)
    go_ret
    exact ⟨rfl, hb7⟩
  · have hs : l.length ≤ 4096 := by omega
    have HLL := Lib.hid (prs_len l hs)
    have HE : Hid (∀ w', Below w.heap.size w w' → Env w') := fun w' h => E.below h
    have HP1 := Lib.hid (parse_any l w E (by omega))
    have HP2 : Hid (∀ w', Calls Tryd.prog 28 #[.string ⟨l.toArray⟩] w' (ParsePost l w')) := fun w' => rparse_text l w' hs
    unfold ParsePost at HP1 HP2
    have HSR := Lib.hid (sameB_refl (prsC l) (prsS l))
    clear hs E
    generalize prsC l = D at *
    generalize prsS l = U at *
    generalize prsE l = e1 at *
    go_enter Tryd.func6, Tryd.ntmps6
    go_wp2_with (fail)
    refine HP1.out.mono ?_
    rintro e w2 ⟨B1, n1, d1, B2, m1, d2, rfl, hn1, hm1, s1, s2, _, _, hb2⟩
    have HS1 := Lib.hid (And.intro hn1 (And.intro hm1 (And.intro s1 s2)))
    clear s1 s2 hn1 hm1
    go_wp2_with (fail)
    refine (HP2.out _).mono ?_
    rintro e w3 ⟨B3, n3, d3, B4, m3, d4, rfl, hn3, hm3, s1, s2, _, _, hb3⟩
    have HS3 := Lib.hid (And.intro hn3 (And.intro hm3 (And.intro s1 s2)))
    have T3 := bt hb2 (bx hb3)
    obtain ⟨a0, a1, az⟩ := keepI hb3
    clear s1 s2 hn3 hm3
    go_wp2_with (fail)
    have y1 := bt (bx hb3) (ba w3 (.cells #[.slice B3 n3 d3, .slice B4 m3 d4] 25))
    have y3 := ba w3 (.cells #[.slice B3 n3 d3, .slice B4 m3 d4] 25)
    refine (rsame_any _ _ _ _ _ _ _ _ _ _ _ _ D U D U _ (HS1.out.2.2.1.below y1) (HS1.out.2.2.2.below y1) (HS3.out.2.2.1.below y3) (HS3.out.2.2.2.below y3) HS1.out.1 HS1.out.2.1 HS3.out.1 HS3.out.2.1 (by rw [HS1.out.1]; exact HLL.out.1) (by rw [HS1.out.2.1]; exact HLL.out.2) (by rw [HS3.out.1]; exact HLL.out.1) (by rw [HS3.out.2.1]; exact HLL.out.2)).mono ?_
    rintro e w6 ⟨rfl, hb6⟩
    rw [HSR.out]
    have T6 := bt T3 (bx hb6)
    go_wp2_with (go_at_call 11; refine (works_any _ (HE.out _ T6)).mono ?_; rintro e w9 ⟨rfl, hb9⟩)
    go_ret
    exact ⟨rfl, bt T6 hb9⟩

end Go.Proofs.YtdaeanjjmbibmaaDoor
