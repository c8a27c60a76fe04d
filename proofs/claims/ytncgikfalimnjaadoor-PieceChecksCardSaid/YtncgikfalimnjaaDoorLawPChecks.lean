/- The law PieceChecks returns true for every piece, event and course. -/
import Derived.Test.YtncgikfalimnjaaDoorWorks2
import Derived.Test.YtncgikfalimnjaaDoorPcCk
import Derived.Test.YtncgikfalimnjaaDoorPcCkR
import Derived.Test.YtncgikfalimnjaaDoorPcBig
import Derived.Test.YtncgikfalimnjaaDoorPcCopy
namespace Go.Proofs.YtncgikfalimnjaaDoor
open Go Go.RowKit

/-- The argument's block, in whatever world lies above it. -/
theorem argsP {w : World} {A : Option Addr} {n c : Nat} {A' : Option Addr} {m c' : Nat} {A2 : Option Addr} {q cq : Nat} {w' : World} (h : Below (w.alloc (pcO A n c A' m c' A2 q cq)).heap.size (w.alloc (pcO A n c A' m c' A2 q cq)) w') :
    w'.cell? ⟨w.heap.size, 0, none⟩ = some (.slice A n c) ∧ w'.cell? ⟨w.heap.size, 1, none⟩ = some (.slice A' m c') ∧ w'.cell? ⟨w.heap.size, 2, none⟩ = some (.slice A2 q cq) ∧ w.heap.size < w'.heap.size ∧ Below (w.alloc (pcO A n c A' m c' A2 q cq)).heap.size (w.alloc (pcO A n c A' m c' A2 q cq)) w' := by
  obtain ⟨c0, c1, c2⟩ := cell3 h
  have hz := h.size
  simp at hz
  exact ⟨c0, c1, c2, by omega, h⟩

set_option maxRecDepth 100000 in
set_option maxHeartbeats 16000000 in
theorem law_pchecks (A : Option Addr) (n c : Nat) (A' : Option Addr) (m c' : Nat) (A2 : Option Addr) (q cq : Nat) (C : List Cr) (S : List Int) (P : List EvP) (ev co : Int) (w : World) (hT : SgT w) (hP : PcIn w A n c A' m c' A2 q cq C S P) :
    Calls Tryd.prog 4 #[pcV A n c A' m c' A2 q cq, .int .i64 ev, .int .i64 co] w fun e w' => e = .returned (.bool true) ∧ Below w.heap.size w w' := by
  have HE : Hid (∀ w', Below (w.alloc (pcO A n c A' m c' A2 q cq)).heap.size (w.alloc (pcO A n c A' m c' A2 q cq)) w' → SgT w' ∧ PcIn w' A n c A' m c' A2 q cq C S P) :=
    fun w' h => ⟨(hT.below (ba _ _)).below h, (hP.below (ba _ _)).below h⟩
  have hql := hP.es.hq
  have HI := Lib.hid (HE.out _ (Below.refl _ _)).2
  clear hT hP
  cases hbg : pbigB n m P with
  | true =>
    have HB := Lib.hid hbg
    clear hbg hql
    go_enter Tryd.func4, Tryd.ntmps4
    go_wp2_with (first | (go_at_call 19; refine (pbig_any A n c A' m c' A2 q cq P _ HI.out.es).mono ?_; rintro e w1 ⟨rfl, hb1⟩; rw [HB.out]) | (go_at_call 16; refine (works2 _ (HE.out _ hb1).1).mono ?_; rintro e w2 ⟨rfl, hb2⟩))
    go_ret
    exact ⟨rfl, bx (bt hb1 hb2)⟩
  | false =>
    have HB := Lib.hid hbg
    obtain ⟨l1, l2, l3, l4⟩ := pbigB_no hbg
    have b1 : n ≤ 65536 := by omega
    have b2 : m ≤ 65536 := by omega
    have b3 : q ≤ 65536 := by omega
    have HST : Hid (∀ y ∈ P, y.L.length ≤ 65536) := fun y hy => Nat.le_trans (l4 y hy) (by omega)
    have HSU : Hid (∀ y ∈ P, y.L.length ≤ 1000000) := fun y hy => Nat.le_trans (l4 y hy) (by omega)
    have d1 : n ≤ 1000000 := by omega
    have d2 : m ≤ 1000000 := by omega
    have d3 : q ≤ 1000000 := by omega
    clear hbg hql l1 l2 l3 l4
    go_enter Tryd.func4, Tryd.ntmps4
    go_wp2_with (go_at_call 19; refine (pbig_any A n c A' m c' A2 q cq P _ HI.out.es).mono ?_; rintro e w1 ⟨rfl, hb1⟩; rw [HB.out])
    have T := hb1.drew
    go_region_held3 (fun w' => w'.cell? ⟨w.heap.size, 0, none⟩ = some (.slice A n c) ∧ w'.cell? ⟨w.heap.size, 1, none⟩ = some (.slice A' m c') ∧ w'.cell? ⟨w.heap.size, 2, none⟩ = some (.slice A2 q cq) ∧ w.heap.size < w'.heap.size ∧ Below (w.alloc (pcO A n c A' m c' A2 q cq)).heap.size (w.alloc (pcO A n c A' m c' A2 q cq)) w')
      (exact argsP T)
      (first
        | (go_at_call 21; refine (pcopy_any A n c A' m c' A2 q cq C S P _ (HE.out _ T).2 b1 b2 b3 HST.out).mono ?_; rintro e wc ⟨B, d, B', d', B2, d2', rfl, hPc, hbc⟩; replace T := bt T hbc)
        | (go_at_call 20; refine (pcheck_any _ _ _ _ _ _ _ _ _ C S P _ hPc d1 d2 d3 HSU.out).mono ?_; rintro e wk ⟨rfl, hbk⟩; replace T := bt T hbk)
        | (go_at_call 22; refine (rpcheck_any _ _ _ _ _ _ _ _ _ C S P _ (HE.out _ T).2 d1 d2 d3 HSU.out).mono ?_; rintro e wr ⟨rfl, hbr⟩; replace T := bt T hbr)
        | (go_at_call 23; refine (longest_any _ _ _ _ _ _ _ _ _ P ev co _ hPc.es d3 HSU.out).mono ?_; rintro e wl ⟨rfl, hbl⟩; replace T := bt T hbl)
        | (go_at_call 24; refine (rLongest_any _ _ _ _ _ _ _ _ _ P ev co _ (HE.out _ T).2.es d3 HSU.out).mono ?_; rintro e wm ⟨rfl, hbm⟩; replace T := bt T hbm)
        | (go_at_call 16; refine (works2 _ (HE.out _ T).1).mono ?_; rintro e wz ⟨rfl, hbz⟩; replace T := bt T hbz))
    go_wp2_with (fail)
    go_ret
    exact ⟨rfl, bx T⟩

end Go.Proofs.YtncgikfalimnjaaDoor
