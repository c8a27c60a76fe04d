/- The law InstrumentFormats returns true for every instrument, in every world that holds the program's tables. -/
import Derived.Test.YtdaeanjjmbibmaaDoorWorks
import Derived.Test.YtdaeanjjmbibmaaDoorSameM
import Derived.Test.YtdaeanjjmbibmaaDoorFormat
import Derived.Test.YtdaeanjjmbibmaaDoorRFormat
namespace Go.Proofs.YtdaeanjjmbibmaaDoor
open Go.RowKit

/-- The cells of an instrument's block, in whatever world lies above it. -/
theorem keepJ {w2 w3 : World} {A : Option Addr} {n c : Nat} {A' : Option Addr} {m c' : Nat} (h : Below (w2.alloc (iObj A n c A' m c')).heap.size (w2.alloc (iObj A n c A' m c')) w3) :
    w3.cell? ⟨w2.heap.size, 0, none⟩ = some (.slice A n c) ∧ w3.cell? ⟨w2.heap.size, 1, none⟩ = some (.slice A' m c') ∧ w2.heap.size < w3.heap.size := by
  obtain ⟨c0, _⟩ := keepb h 0
  obtain ⟨c1, _⟩ := keepb h 1
  have hz := h.size
  simp at c0 c1 hz
  exact ⟨c0, c1, by omega⟩

set_option maxRecDepth 100000 in
set_option maxHeartbeats 16000000 in
theorem law_formats (A A' : Option Addr) (n c m c' : Nat) (C : List Cr) (S : List Int) (w : World) (E : Env w) (T : Tab w) (hC : Sl w w.heap.size 3 A n c (crC C)) (hS : Sl w w.heap.size 1 A' m c' (intC S)) (hn : n = C.length) (hm : m = S.length) :
    Calls Tryd.prog 5 #[.agg #[.slice A n c, .slice A' m c']] w fun e w' => e = .returned (.bool true) ∧ Below w.heap.size w w' := by
  have HE : Hid (∀ w', Below (w.alloc (iObj A n c A' m c')).heap.size (w.alloc (iObj A n c A' m c')) w' → Env w' ∧ Sl w' w'.heap.size 3 A n c (crC C) ∧ Sl w' w'.heap.size 1 A' m c' (intC S) ∧ Below w.heap.size w w' ∧ Tab w') :=
    fun w' h => ⟨(E.alloc _).below h, (hC.below (ba _ _)).below h, (hS.below (ba _ _)).below h, bx h, T.below (bx h)⟩
  have HN := Lib.hid hn
  have HM := Lib.hid hm
  clear hC hS hn hm E T
  cases hbg : bigB n m with
  | true =>
    have HB := Lib.hid hbg
    clear hbg
    go_enter Tryd.func5, Tryd.ntmps5
    go_wp2_with (first | (go_at_call 10; refine (big_any _ _ _ _ _ _ _).mono ?_; rintro e w1 ⟨rfl, hb1⟩; rw [HB.out]) | (go_at_call 11; refine (works_any _ (HE.out _ hb1).1).mono ?_; rintro e w2 ⟨rfl, hb2⟩))
    go_ret
    exact ⟨rfl, bt (HE.out _ hb1).2.2.2.1 hb2⟩
  | false =>
    have HB := Lib.hid hbg
    have hnm : n ≤ 64 ∧ m ≤ 64 := by simp [bigB] at hbg; omega
    obtain ⟨l1, l2⟩ := hnm
    have b1 : n ≤ 65536 := by omega
    have b2 : m ≤ 65536 := by omega
    have HCO : Hid (∀ (A1 A2 : Option Addr) (c1 c2 : Nat) (w' : World), Env w' → Tab w' → Sl w' w'.heap.size 3 A1 n c1 (crC C) → Sl w' w'.heap.size 1 A2 m c2 (intC S) →
        Calls Tryd.prog 25 #[.agg #[.slice A1 n c1, .slice A2 m c2]] w' (fun e w2 => e = .returned (.tuple #[.string ⟨(fmA C S).toArray⟩, .int .i64 (chk C S)]) ∧ Below w'.heap.size w' w2)) :=
      fun A1 A2 c1 c2 w' e t h1 h2 => format_any _ _ _ _ _ _ C S w' e t h1 h2 HN.out HM.out (by omega) (by omega)
    have HRF : Hid (∀ (A1 A2 : Option Addr) (c1 c2 : Nat) (w' : World), Sl w' w'.heap.size 3 A1 n c1 (crC C) → Sl w' w'.heap.size 1 A2 m c2 (intC S) →
        Calls Tryd.prog 26 #[.agg #[.slice A1 n c1, .slice A2 m c2]] w' (fun e w2 => e = .returned (.tuple #[.string ⟨(fmA C S).toArray⟩, .int .i64 (chk C S)]) ∧ Below w'.heap.size w' w2)) :=
      fun A1 A2 c1 c2 w' h1 h2 => rformat_any _ _ _ _ _ _ C S w' h1 h2 HN.out HM.out (by omega) (by omega)
    have HPA : Hid (chk C S = 0 → ∀ w', Env w' → Calls Tryd.prog 27 #[.string ⟨(fmA C S).toArray⟩] w' (InPost C S 0 w')) := by
      intro h w' e
      have h1 := fm_reads (in_ok h) h
      have h2 := (fmT_len (in_ok h)).1
      have hf : fmA C S = fmT C S := if_pos h
      rw [hf]
      have := parse_any (fmT C S) w' e (by omega)
      unfold ParsePost at this
      rw [h1.1, h1.2.1, h1.2.2] at this
      exact this
    have HSR := Lib.hid (sameB_refl C S)
    clear hbg l1 l2
    generalize fmA C S = txt at *
    by_cases hk : chk C S = 0
    · rw [hk] at HCO HRF
      have HP2 := Lib.hid (HPA.out hk)
      clear hk HPA
      go_enter Tryd.func5, Tryd.ntmps5
      go_wp2_with (fail)
      refine (big_any _ _ _ _ _ _ _).mono ?_
      rintro e v1 ⟨rfl, hv1⟩
      rw [HB.out]
      obtain ⟨q0, q1, hz, _⟩ := args1 hv1
      go_wp2_with (fail)
      refine (rcopy_any A A' n c m c' C S _ (HE.out _ hv1).2.1 (HE.out _ hv1).2.2.1 b1 b2).mono ?_
      rintro e w1 ⟨G1, g1, G2, g2, rfl, o1, o2, hb1⟩
      have HO1 := Lib.hid (And.intro o1.sl o2.sl)
      have T1 := bt hv1 hb1
      clear o1 o2 q0 q1 hz hv1 hb1
      go_wp2_with (fail)
      refine (HCO.out _ _ _ _ _ (HE.out _ T1).1 (HE.out _ T1).2.2.2.2 HO1.out.1 HO1.out.2).mono ?_
      rintro e w2 ⟨rfl, hb2⟩
      have T2 := bt T1 hb2
      obtain ⟨q0, q1, hz, _⟩ := args1 T2
      clear HO1 T1 hb2
      go_wp2_with (fail)
      refine (HRF.out _ _ _ _ _ (HE.out _ T2).2.1 (HE.out _ T2).2.2.1).mono ?_
      rintro e w3 ⟨rfl, hb3⟩
      have T3 := bt T2 hb3
      clear q0 q1 hz T2 hb3
      go_wp2_with (fail)
      refine (HP2.out _ (HE.out _ T3).1).mono ?_
      rintro e w4 ⟨B1, n1, d1, B2, m1, d2, rfl, hn1, hm1, s1, s2, _, _, hb4⟩
      have HS1 := Lib.hid (And.intro hn1 (And.intro hm1 (And.intro s1 s2)))
      have T4 := bt T3 (bt hb4 (ba w4 (iObj B1 n1 d1 B2 m1 d2)))
      clear s1 s2 hn1 hm1 T3 hb4
      obtain ⟨q0, q1, hz, _⟩ := args1 T4
      go_wp2_with (fail)
      refine (rsame_any _ _ _ _ _ _ _ _ _ _ _ _ C S C S _ (HS1.out.2.2.1.below (ba _ _)) (HS1.out.2.2.2.below (ba _ _)) (HE.out _ T4).2.1 (HE.out _ T4).2.2.1 HS1.out.1 HS1.out.2.1 HN.out HM.out (by rw [HS1.out.1, ← HN.out]; exact b1) (by rw [HS1.out.2.1, ← HM.out]; exact b2) b1 b2).mono ?_
      rintro e w6 ⟨rfl, hb6⟩
      rw [HSR.out]
      have T6 := bt T4 hb6
      go_wp2_with (go_at_call 11; refine (works_any _ (HE.out _ T6).1).mono ?_; rintro e w9 ⟨rfl, hb9⟩)
      go_ret
      exact ⟨rfl, (HE.out _ (bt T6 hb9)).2.2.2.1⟩
    · clear HPA
      obtain ⟨cv, hcv⟩ : ∃ cv, chk C S = cv := ⟨_, rfl⟩
      rw [hcv] at hk HCO HRF
      have hcb : (cv == 0) = false := by simpa using hk
      clear hcv hk
      go_enter Tryd.func5, Tryd.ntmps5
      go_wp2_with (fail)
      refine (big_any _ _ _ _ _ _ _).mono ?_
      rintro e v1 ⟨rfl, hv1⟩
      rw [HB.out]
      obtain ⟨q0, q1, hz, _⟩ := args1 hv1
      go_wp2_with (fail)
      refine (rcopy_any A A' n c m c' C S _ (HE.out _ hv1).2.1 (HE.out _ hv1).2.2.1 b1 b2).mono ?_
      rintro e w1 ⟨G1, g1, G2, g2, rfl, o1, o2, hb1⟩
      have HO1 := Lib.hid (And.intro o1.sl o2.sl)
      have T1 := bt hv1 hb1
      clear o1 o2 q0 q1 hz hv1 hb1
      go_wp2_with (fail)
      refine (HCO.out _ _ _ _ _ (HE.out _ T1).1 (HE.out _ T1).2.2.2.2 HO1.out.1 HO1.out.2).mono ?_
      rintro e w2 ⟨rfl, hb2⟩
      have T2 := bt T1 hb2
      obtain ⟨q0, q1, hz, _⟩ := args1 T2
      clear HO1 T1 hb2
      go_wp2_with (fail)
      refine (HRF.out _ _ _ _ _ (HE.out _ T2).2.1 (HE.out _ T2).2.2.1).mono ?_
      rintro e w3 ⟨rfl, hb3⟩
      have T3 := bt T2 hb3
      clear q0 q1 hz T2 hb3
      go_wp2_with (go_at_call 11; refine (works_any _ (HE.out _ T3).1).mono ?_; rintro e w9 ⟨rfl, hb9⟩)
      go_ret
      exact ⟨rfl, (HE.out _ (bt T3 hb9)).2.2.2.1⟩

end Go.Proofs.YtdaeanjjmbibmaaDoor
