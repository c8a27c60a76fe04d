/- The law InstrumentChecks returns true for every instrument and place, in every world that holds the program's tables. -/
import Derived.Test.YtbjmlbmkfgocdaaDoorWorks
import Derived.Test.YtbjmlbmkfgocdaaDoorCopy
namespace Go.Proofs.YtbjmlbmkfgocdaaDoor
open Go.RowKit

abbrev pObj (pc pf : Int) : Obj := .cells #[.int .i64 pc, .int .i64 pf] 38
/-- The argument's block and the block behind it, in whatever world lies above them. -/
theorem args2 {w : World} {A : Option Addr} {n c : Nat} {A' : Option Addr} {m c' : Nat} {u0 u1 : Value} {t : TypeId} {w' : World} (h : Below ((w.alloc (iObj A n c A' m c')).alloc (.cells #[u0, u1] t)).heap.size ((w.alloc (iObj A n c A' m c')).alloc (.cells #[u0, u1] t)) w') :
    w'.cell? ⟨w.heap.size, 0, none⟩ = some (.slice A n c) ∧ w'.cell? ⟨w.heap.size, 1, none⟩ = some (.slice A' m c') ∧ w'.cell? ⟨w.heap.size + 1, 0, none⟩ = some u0 ∧ w'.cell? ⟨w.heap.size + 1, 1, none⟩ = some u1 ∧
      w.heap.size + 1 < w'.heap.size ∧ Below ((w.alloc (iObj A n c A' m c')).alloc (.cells #[u0, u1] t)).heap.size ((w.alloc (iObj A n c A' m c')).alloc (.cells #[u0, u1] t)) w' := by
  obtain ⟨c0, _⟩ := keepb (bt (ba _ _) h) 0
  obtain ⟨c1, _⟩ := keepb (bt (ba _ _) h) 1
  obtain ⟨d0, _⟩ := keepb h 0
  obtain ⟨d1, _⟩ := keepb h 1
  have hz := h.size
  simp at c0 c1 d0 d1 hz
  exact ⟨c0, c1, d0, d1, by omega, h⟩

set_option maxRecDepth 100000 in
set_option maxHeartbeats 16000000 in
theorem law_checks (A A' : Option Addr) (n c m c' : Nat) (C : List Cr) (S : List Int) (pc pf : Int) (w : World) (E : Env w) (hC : Sl w w.heap.size 3 A n c (crC C)) (hS : Sl w w.heap.size 1 A' m c' (intC S)) (hn : n = C.length) (hm : m = S.length) :
    Calls Tryd.prog 4 #[.agg #[.slice A n c, .slice A' m c'], .agg #[.int .i64 pc, .int .i64 pf]] w fun e w' => e = .returned (.bool true) ∧ Below w.heap.size w w' := by
  have HE : Hid (∀ w', Below ((w.alloc (iObj A n c A' m c')).alloc (pObj pc pf)).heap.size ((w.alloc (iObj A n c A' m c')).alloc (pObj pc pf)) w' → Env w' ∧ Sl w' w'.heap.size 3 A n c (crC C) ∧ Sl w' w'.heap.size 1 A' m c' (intC S) ∧ Below w.heap.size w w') :=
    fun w' h => ⟨((E.alloc _).alloc _).below h, ((hC.below (ba _ _)).below (ba _ _)).below h, ((hS.below (ba _ _)).below (ba _ _)).below h, bx (bt (ba _ _) h)⟩
  have HN := Lib.hid hn
  have HM := Lib.hid hm
  clear hC hS hn hm E
  cases hbg : bigB n m with
  | true =>
    have HB := Lib.hid hbg
    clear hbg
    go_enter Tryd.func4, Tryd.ntmps4
    go_wp2_with (first | (go_at_call 19; refine (big_any _ _ _ _ _ _ _).mono ?_; rintro e w1 ⟨rfl, hb1⟩; rw [HB.out]) | (go_at_call 18; refine (works_any _ (HE.out _ hb1).1).mono ?_; rintro e w2 ⟨rfl, hb2⟩))
    go_ret
    exact ⟨rfl, bt (HE.out _ hb1).2.2.2 hb2⟩
  | false =>
    have HB := Lib.hid hbg
    have hnm : n ≤ 64 ∧ m ≤ 64 := by simp [bigB] at hbg; omega
    obtain ⟨l1, l2⟩ := hnm
    have b1 : n ≤ 65536 := by omega
    have b2 : m ≤ 65536 := by omega
    have b3 : n ≤ 9223372036854775807 := by omega
    have b4 : m ≤ 9223372036854775807 := by omega
    clear hbg l1 l2
    go_enter Tryd.func4, Tryd.ntmps4
    go_wp2_with (go_at_call 19; refine (big_any _ _ _ _ _ _ _).mono ?_; rintro e w1 ⟨rfl, hb1⟩; rw [HB.out])
    go_region_held3 (fun w' => w'.cell? ⟨w.heap.size, 0, none⟩ = some (.slice A n c) ∧ w'.cell? ⟨w.heap.size, 1, none⟩ = some (.slice A' m c') ∧ w'.cell? ⟨w.heap.size + 1, 0, none⟩ = some (.int .i64 pc) ∧ w'.cell? ⟨w.heap.size + 1, 1, none⟩ = some (.int .i64 pf) ∧ w.heap.size + 1 < w'.heap.size ∧ Below ((w.alloc (iObj A n c A' m c')).alloc (pObj pc pf)).heap.size ((w.alloc (iObj A n c A' m c')).alloc (pObj pc pf)) w')
      (first | exact args2 (bt (bt hb1.drew hb3) hb4) | exact args2 (bt hb1.drew hb3) | exact args2 hb1.drew)
      (first
        | (go_at_call 21; refine (rcopy_any A A' n c m c' C S _ (HE.out _ hb1.drew).2.1 (HE.out _ hb1.drew).2.2.1 b1 b2).mono ?_; rintro e w3 ⟨A1, c1, A2, c2, rfl, o1, o2, hb3⟩)
        | (go_at_call 20; refine (at_any _ _ _ _ _ _ C S pc pf _ o1.sl o2.sl HN.out HM.out b3 b4).mono ?_; rintro e w4 ⟨rfl, hb4⟩))
    have hT4 := bt (bt hb1.drew hb3) hb4
    obtain ⟨q0, q1, d0, d1, hz4, _⟩ := args2 hT4
    go_wp2_with (go_at_call 22; refine (rat_any _ _ _ _ _ _ C S pc pf _ (HE.out _ hT4).2.1 (HE.out _ hT4).2.2.1 HN.out HM.out b3 b4).mono ?_; rintro e w5 ⟨rfl, hb5⟩)
    have hT5 := bt hT4 hb5
    obtain ⟨k0, k1, k2, k3, hz5, _⟩ := args2 hT5
    clear q0 q1 d0 d1 hz4
    go_region_held3 (fun w' => w'.cell? ⟨w.heap.size, 0, none⟩ = some (.slice A n c) ∧ w'.cell? ⟨w.heap.size, 1, none⟩ = some (.slice A' m c') ∧ w'.cell? ⟨w.heap.size + 1, 0, none⟩ = some (.int .i64 pc) ∧ w'.cell? ⟨w.heap.size + 1, 1, none⟩ = some (.int .i64 pf) ∧ w.heap.size + 1 < w'.heap.size ∧ Below ((w.alloc (iObj A n c A' m c')).alloc (pObj pc pf)).heap.size ((w.alloc (iObj A n c A' m c')).alloc (pObj pc pf)) w')
      (first | exact args2 hT5.drew | exact args2 (bt hT5.drew hb6) | exact args2 (bt hT5.drew (bt hb6 hb7)) | exact args2 (bt hT5.drew (bt hb6 (bt hb7 hb8))) | exact args2 (bt hT5.drew (bt hb6 (bt hb7 (bt hb8 hb9)))))
      (first
        | (go_at_call 21; refine (rcopy_any A A' n c m c' C S _ (HE.out _ hT5.drew).2.1 (HE.out _ hT5.drew).2.2.1 b1 b2).mono ?_; rintro e w6 ⟨A3, c3, A4, c4, rfl, o3, o4, hb6⟩)
        | (go_at_call 23; refine (check_any _ _ _ _ _ _ C S _ o3.sl o4.sl HN.out HM.out b3 b4).mono ?_; rintro e w7 ⟨rfl, hb7⟩)
        | (go_at_call 24; refine (rcheck_any _ _ _ _ _ _ C S _ (HE.out _ (bt hT5.drew (bt hb6 hb7))).2.1 (HE.out _ (bt hT5.drew (bt hb6 hb7))).2.2.1 HN.out HM.out b3 b4).mono ?_; rintro e w8 ⟨rfl, hb8⟩)
        | (go_at_call 18; refine (works_any _ (HE.out _ (bt hT5.drew (bt hb6 (bt hb7 hb8)))).1).mono ?_; rintro e w9 ⟨rfl, hb9⟩))

    go_wp2_with (fail)
    go_ret
    exact ⟨rfl, (HE.out _ (bt hT5.drew (bt hb6 (bt hb7 (bt hb8 hb9))))).2.2.2⟩

end Go.Proofs.YtbjmlbmkfgocdaaDoor
