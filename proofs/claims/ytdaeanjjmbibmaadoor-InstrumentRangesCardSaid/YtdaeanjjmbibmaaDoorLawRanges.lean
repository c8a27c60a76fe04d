/- The law InstrumentRanges returns true for every instrument, in every world that holds the program's tables. -/
import Derived.Test.YtdaeanjjmbibmaaDoorWorks
import Derived.Test.YtdaeanjjmbibmaaDoorRefCompass
import Derived.Test.YtdaeanjjmbibmaaDoorSameInts
import Derived.Test.YtdaeanjjmbibmaaDoorRankM
import Derived.Test.YtdaeanjjmbibmaaDoorReent
namespace Go.Proofs.YtdaeanjjmbibmaaDoor
open Go.RowKit

theorem sameInts_two (A B : Option Addr) (n n2 c d : Nat) (L : List Int) (w : World) (hA : Sl w w.heap.size 1 A n c (intC L)) (hB : Sl w w.heap.size 1 B n2 d (intC L)) (hn : n = L.length) (hn2 : n2 = L.length) (hb : L.length ≤ 9223372036854775807) :
    Calls Tryd.prog 17 #[.slice A n c, .slice B n2 d] w fun e w' => e = .returned (.bool true) ∧ Below w.heap.size w w' := by
  subst hn hn2
  exact sameInts_eq A B L.length c d L w hA hB rfl hb
theorem chk_pos {C : List Cr} {S : List Int} (h : chk C S = 0) : 0 < C.length := by
  rcases Nat.eq_zero_or_pos C.length with h0 | h0
  · have := chk_none (C := C) (S := S) (by have := chk_ok h; omega) (.inl h0); omega
  · exact h0
theorem rkA_len (C : List Cr) (S : List Int) : (rkA C S).length ≤ 9223372036854775807 := by
  unfold rkA
  split
  · rename_i h
    haveI : Inhabited (Fin C.length) := ⟨⟨0, chk_pos h⟩⟩
    have h2 : (rkL C).length = C.length := rank_len fun k hk => ⟨(chk_course h k hk).1, (chk_course h k hk).2.1⟩
    have := (chk_ok h).1
    omega
  · simp
theorem reL_len : ∀ (D : List Cr) (b : Int) (i : Nat), (reL b i D).length ≤ D.length
  | [], _, _ => by simp [reL]
  | x :: r, b, i => by
    have := reL_len r x.p (i + 1)
    unfold reL
    split <;> simp <;> omega
theorem reS_len (C : List Cr) (S : List Int) : (reS C S).length ≤ 9223372036854775807 := by
  unfold reS
  split
  · rename_i h
    have h2 : (reA C).length ≤ C.length := by
      cases C with
      | nil => simp [reA]
      | cons x r => have := reL_len r x.p 1; simp [reA]; omega
    have := (chk_ok h).1
    omega
  · simp

set_option maxRecDepth 100000 in
set_option maxHeartbeats 16000000 in
theorem law_ranges (A A' : Option Addr) (n c m c' : Nat) (C : List Cr) (S : List Int) (w : World) (E : Env w) (hC : Sl w w.heap.size 3 A n c (crC C)) (hS : Sl w w.heap.size 1 A' m c' (intC S)) (hn : n = C.length) (hm : m = S.length) :
    Calls Tryd.prog 3 #[.agg #[.slice A n c, .slice A' m c']] w fun e w' => e = .returned (.bool true) ∧ Below w.heap.size w w' := by
  have HE : Hid (∀ w', Below (w.alloc (iObj A n c A' m c')).heap.size (w.alloc (iObj A n c A' m c')) w' → Env w' ∧ Sl w' w'.heap.size 3 A n c (crC C) ∧ Sl w' w'.heap.size 1 A' m c' (intC S) ∧ Below w.heap.size w w') :=
    fun w' h => ⟨(E.alloc _).below h, (hC.below (ba _ _)).below h, (hS.below (ba _ _)).below h, bx h⟩
  have HN := Lib.hid hn
  have HM := Lib.hid hm
  clear hC hS hn hm E
  cases hbg : bigB n m with
  | true =>
    have HB := Lib.hid hbg
    clear hbg
    go_enter Tryd.func3, Tryd.ntmps3
    go_wp2_with (first | (go_at_call 10; refine (big_any _ _ _ _ _ _ _).mono ?_; rintro e w1 ⟨rfl, hb1⟩; rw [HB.out]) | (go_at_call 11; refine (works_any _ (HE.out _ hb1).1).mono ?_; rintro e w2 ⟨rfl, hb2⟩))
    go_ret
    exact ⟨rfl, bt (HE.out _ hb1).2.2.2 hb2⟩
  | false =>
    have HB := Lib.hid hbg
    have hnm : n ≤ 64 ∧ m ≤ 64 := by simp [bigB] at hbg; omega
    obtain ⟨l1, l2⟩ := hnm
    have b1 : n ≤ 65536 := by omega
    have b2 : m ≤ 65536 := by omega
    have b3 : n ≤ 9223372036854775807 := by omega
    have b4 : m ≤ 9223372036854775807 := by omega
    have HL := Lib.hid (And.intro (rkA_len C S) (reS_len C S))
    have HCO : Hid (∀ (A1 A2 : Option Addr) (c1 c2 : Nat) (w' : World), Sl w' w'.heap.size 3 A1 n c1 (crC C) → Sl w' w'.heap.size 1 A2 m c2 (intC S) →
        Calls Tryd.prog 12 #[.agg #[.slice A1 n c1, .slice A2 m c2]] w' (fun e w2 => e = .returned (.tuple #[.int .i64 (coLo C S), .int .i64 (coHi C S), .int .i64 (chk C S)]) ∧ Below w'.heap.size w' w2) ∧
        Calls Tryd.prog 14 #[.agg #[.slice A1 n c1, .slice A2 m c2]] w' (fun e w2 => e = .returned (.tuple #[.int .i64 (coLo C S), .int .i64 (coHi C S), .int .i64 (chk C S)]) ∧ Below w'.heap.size w' w2)) :=
      fun A1 A2 c1 c2 w' h1 h2 => ⟨compass_any _ _ _ _ _ _ C S w' h1 h2 HN.out HM.out b3 b4, rcompass_any _ _ _ _ _ _ C S w' h1 h2 HN.out HM.out b3 b4⟩
    have HRK : Hid (∀ (A1 A2 : Option Addr) (c1 c2 : Nat) (w' : World), Sl w' w'.heap.size 3 A1 n c1 (crC C) → Sl w' w'.heap.size 1 A2 m c2 (intC S) →
        Calls Tryd.prog 15 #[.agg #[.slice A1 n c1, .slice A2 m c2]] w' (NumPost (rkA C S) (chk C S) w') ∧
        Calls Tryd.prog 16 #[.agg #[.slice A1 n c1, .slice A2 m c2]] w' (NumPost (rkA C S) (chk C S) w') ∧
        Calls Tryd.prog 18 #[.agg #[.slice A1 n c1, .slice A2 m c2]] w' (NumPost (reS C S) (chk C S) w') ∧
        Calls Tryd.prog 19 #[.agg #[.slice A1 n c1, .slice A2 m c2]] w' (NumPost (reS C S) (chk C S) w')) :=
      fun A1 A2 c1 c2 w' h1 h2 => ⟨rank_any _ _ _ _ _ _ C S w' h1 h2 HN.out HM.out b3 b4, rrank_any _ _ _ _ _ _ C S w' h1 h2 HN.out HM.out b3 b4, reent_any _ _ _ _ _ _ C S w' h1 h2 HN.out HM.out b3 b4, rreent_any _ _ _ _ _ _ C S w' h1 h2 HN.out HM.out b3 b4⟩
    clear hbg l1 l2 b3 b4
    generalize coLo C S = lo at *
    generalize coHi C S = hi at *
    generalize rkA C S = L1 at *
    generalize reS C S = L2 at *
    generalize chk C S = er at *
    go_enter Tryd.func3, Tryd.ntmps3
    go_wp2_with (fail)
    refine (big_any _ _ _ _ _ _ _).mono ?_
    rintro e v1 ⟨rfl, hv1⟩
    rw [HB.out]
    obtain ⟨q0, q1, hz, _⟩ := args1 hv1
    go_wp2_with (fail)
    refine (rcopy_any A A' n c m c' C S _ (HE.out _ hv1).2.1 (HE.out _ hv1).2.2.1 b1 b2).mono ?_
    rintro e w1 ⟨G1, g1, G2, g2, rfl, o1, o2, hb1⟩
    have HO1 := Lib.hid (And.intro o1.sl o2.sl)
    have T1 := bt hv1 hb1
    clear o1 o2 q0 q1 hz
    go_wp2_with (fail)
    refine (HCO.out _ _ _ _ _ HO1.out.1 HO1.out.2).1.mono ?_
    rintro e w2 ⟨rfl, hb2⟩
    have T2 := bt T1 hb2
    obtain ⟨q0, q1, hz, _⟩ := args1 T2
    clear HO1 hv1 hb1 T1 hb2
    go_wp2_with (fail)
    refine (HCO.out _ _ _ _ _ (HE.out _ T2).2.1 (HE.out _ T2).2.2.1).2.mono ?_
    rintro e w3 ⟨rfl, hb3⟩
    have T3 := bt T2 hb3
    clear q0 q1 hz T2 hb3
    obtain ⟨q0, q1, hz, _⟩ := args1 T3
    go_wp2_with (fail)
    refine (rcopy_any A A' n c m c' C S _ (HE.out _ T3).2.1 (HE.out _ T3).2.2.1 b1 b2).mono ?_
    rintro e w4 ⟨G3, g3, G4, g4, rfl, o1, o2, hb4⟩
    have HO1 := Lib.hid (And.intro o1.sl o2.sl)
    have T4 := bt T3 hb4
    clear o1 o2 q0 q1 hz T3 hb4
    go_wp2_with (fail)
    refine (HRK.out _ _ _ _ _ HO1.out.1 HO1.out.2).1.mono ?_
    rintro e w5 ⟨R1, r1, k1, rfl, hr1, s1, hb5⟩
    have HS1 := Lib.hid (And.intro hr1 s1)
    have T5 := bt T4 hb5
    obtain ⟨q0, q1, hz, _⟩ := args1 T5
    clear HO1 hr1 s1 T4 hb5
    go_wp2_with (fail)
    refine (HRK.out _ _ _ _ _ (HE.out _ T5).2.1 (HE.out _ T5).2.2.1).2.1.mono ?_
    rintro e w6 ⟨R2, r2, k2, rfl, hr2, s2, hb6⟩
    have HS2 := Lib.hid (And.intro hr2 s2)
    have T6 := bt T5 hb6
    have HB6 := Lib.hid hb6
    clear hr2 s2 q0 q1 hz T5 hb6
    go_wp2_with (fail)
    refine (sameInts_two _ _ _ _ _ _ L1 _ (HS1.out.2.below HB6.out) HS2.out.2 HS1.out.1 HS2.out.1 HL.out.1).mono ?_
    rintro e w7 ⟨rfl, hb7⟩
    have T7 := bt T6 hb7
    obtain ⟨q0, q1, hz, _⟩ := args1 T7
    clear HS1 HS2 HB6 T6 hb7
    go_wp2_with (fail)
    refine (rcopy_any A A' n c m c' C S _ (HE.out _ T7).2.1 (HE.out _ T7).2.2.1 b1 b2).mono ?_
    rintro e w8 ⟨G5, g5, G6, g6, rfl, o1, o2, hb8⟩
    have HO1 := Lib.hid (And.intro o1.sl o2.sl)
    have T8 := bt T7 hb8
    clear o1 o2 q0 q1 hz T7 hb8
    go_wp2_with (fail)
    refine (HRK.out _ _ _ _ _ HO1.out.1 HO1.out.2).2.2.1.mono ?_
    rintro e w9 ⟨R3, r3, k3, rfl, hr1, s1, hb9⟩
    have HS1 := Lib.hid (And.intro hr1 s1)
    have T9 := bt T8 hb9
    obtain ⟨q0, q1, hz, _⟩ := args1 T9
    clear HO1 hr1 s1 T8 hb9
    go_wp2_with (fail)
    refine (HRK.out _ _ _ _ _ (HE.out _ T9).2.1 (HE.out _ T9).2.2.1).2.2.2.mono ?_
    rintro e w10 ⟨R4, r4, k4, rfl, hr2, s2, hb10⟩
    have HS2 := Lib.hid (And.intro hr2 s2)
    have T10 := bt T9 hb10
    have HB10 := Lib.hid hb10
    clear hr2 s2 q0 q1 hz T9 hb10
    go_wp2_with (fail)
    refine (sameInts_two _ _ _ _ _ _ L2 _ (HS1.out.2.below HB10.out) HS2.out.2 HS1.out.1 HS2.out.1 HL.out.2).mono ?_
    rintro e w11 ⟨rfl, hb11⟩
    have T11 := bt T10 hb11
    go_wp2_with (go_at_call 11; refine (works_any _ (HE.out _ T11).1).mono ?_; rintro e w12 ⟨rfl, hb12⟩)
    go_ret
    exact ⟨rfl, (HE.out _ (bt T11 hb12)).2.2.2⟩

end Go.Proofs.YtdaeanjjmbibmaaDoor
