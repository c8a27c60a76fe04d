/- The law InstrumentPlaces returns true for every instrument and pitch, in every world that holds the program's tables. -/
import Derived.Test.YtbjmlbmkfgocdaaDoorWorks
import Derived.Test.YtbjmlbmkfgocdaaDoorSamePl
namespace Go.Proofs.YtbjmlbmkfgocdaaDoor
open Go.RowKit

set_option maxRecDepth 100000 in
set_option maxHeartbeats 16000000 in
theorem law_places (A A' : Option Addr) (n c m c' : Nat) (C : List Cr) (S : List Int) (p : Int) (w : World) (E : Env w) (hC : Sl w w.heap.size 3 A n c (crC C)) (hS : Sl w w.heap.size 1 A' m c' (intC S)) (hn : n = C.length) (hm : m = S.length) :
    Calls Tryd.prog 5 #[.agg #[.slice A n c, .slice A' m c'], .int .i64 p] w fun e w' => e = .returned (.bool true) ∧ Below w.heap.size w w' := by
  have HE : Hid (∀ w', Below (w.alloc (iObj A n c A' m c')).heap.size (w.alloc (iObj A n c A' m c')) w' → Env w' ∧ Sl w' w'.heap.size 3 A n c (crC C) ∧ Sl w' w'.heap.size 1 A' m c' (intC S) ∧ Below w.heap.size w w') :=
    fun w' h => ⟨(E.alloc _).below h, (hC.below (ba _ _)).below h, (hS.below (ba _ _)).below h, bx h⟩
  have HN := Lib.hid hn
  have HM := Lib.hid hm
  clear hC hS hn hm E
  cases hbg : bigB n m with
  | true =>
    have HB := Lib.hid hbg
    clear hbg
    go_enter Tryd.func5, Tryd.ntmps5
    go_wp2_with (first | (go_at_call 19; refine (big_any _ _ _ _ _ _ _).mono ?_; rintro e w1 ⟨rfl, hb1⟩; rw [HB.out]) | (go_at_call 18; refine (works_any _ (HE.out _ hb1).1).mono ?_; rintro e w2 ⟨rfl, hb2⟩))
    go_ret
    exact ⟨rfl, bt (HE.out _ hb1).2.2.2 hb2⟩
  | false =>
    have HB := Lib.hid hbg
    have hnm : n ≤ 64 ∧ m ≤ 64 := by simp [bigB] at hbg; omega
    obtain ⟨l1, l2⟩ := hnm
    have b1 : n ≤ 65536 := by omega
    have b2 : m ≤ 65536 := by omega
    have b3 : n ≤ 9223372036854775807 := by omega
    have b4 : m ≤ 9223372036854775807 := by omega
    have HL : Hid ((plL C S p).length ≤ 9223372036854775807) := plL_len C S p
    obtain ⟨er, her⟩ : ∃ er, plE C S p = er := ⟨_, rfl⟩
    have HER := Lib.hid her
    clear hbg l1 l2 her
    go_enter Tryd.func5, Tryd.ntmps5
    go_wp2_with (first
      | (go_at_call 19; refine (big_any _ _ _ _ _ _ _).mono ?_; rintro e w1 ⟨rfl, hb1⟩; rw [HB.out]; obtain ⟨c0, c1, hz1, _⟩ := args1 hb1))
    refine (rcopy_any A A' n c m c' C S _ (HE.out _ hb1).2.1 (HE.out _ hb1).2.2.1 b1 b2).mono ?_
    rintro e w3 ⟨A1, d1, A2, d2, rfl, o1, o2, hb3⟩
    go_wp2_with (fail)
    refine (places_any _ _ _ _ _ _ C S p _ o1.sl o2.sl HN.out HM.out b3 b4).mono ?_
    rintro e w4 ⟨A3, n3, d3, rfl, hn3, s3, hb4⟩
    rw [HER.out]
    have hT4 := bt hb1 (bt hb3 hb4)
    obtain ⟨e0, e1, hz4, _⟩ := args1 hT4
    have HS3 := Lib.hid s3
    have HN3 := Lib.hid hn3
    clear s3 hn3
    go_wp2_with (fail)
    refine (rplaces_any _ _ _ _ _ _ C S p _ (HE.out _ hT4).2.1 (HE.out _ hT4).2.2.1 HN.out HM.out b3 b4).mono ?_
    rintro e w5 ⟨A4, n4, d4, rfl, hn4, s4, hb5⟩
    rw [HER.out]
    obtain rfl : n4 = n3 := hn4.trans HN3.out.symm
    have HS4 := Lib.hid s4
    clear s4 hn4
    go_wp2_with (fail)
    refine (samePlaces_eq _ _ _ _ _ _ _ (HS3.out.below hb5) HS4.out HN3.out (by have := HL.out; have := HN3.out; omega)).mono ?_
    rintro e w6 ⟨rfl, hb6⟩
    go_wp2_with (go_at_call 18; refine (works_any _ (HE.out _ (bt hT4 (bt hb5 hb6))).1).mono ?_; rintro e w7 ⟨rfl, hb7⟩)
    go_ret
    exact ⟨rfl, (HE.out _ (bt hT4 (bt hb5 (bt hb6 hb7)))).2.2.2⟩

end Go.Proofs.YtbjmlbmkfgocdaaDoor
