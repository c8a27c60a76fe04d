/- Pieces, the reference: SameEvent, SamePlaces, Same, for any two. -/
import Derived.Test.YtdhjigaocamglaaDoorQcRr4
import Derived.Deep.RegionHeld3
import Derived.Deep.RegionHeldLaw
import Derived.Test.YtdhjigaocamglaaDoorQcRw8
import Derived.Test.YtdhjigaocamglaaDoorQcPcMeas2
namespace Go.Proofs.YtdhjigaocamglaaDoor
open Go Go.RowKit

theorem eqL_step' {α : Type} (f : α → α → Bool) (z : α) {X : Bool} {C D : List α} {k : Nat} (h : X = eqL f (C.drop k) (D.drop k)) (h1 : k < C.length) (h2 : k < D.length) : X = (f (C.getD k z) (D.getD k z) && eqL f (C.drop (k + 1)) (D.drop (k + 1))) := by
  rw [h, drop_consL z C k h1, drop_consL z D k h2]; rfl
set_option maxRecDepth 100000 in
set_option maxHeartbeats 8000000 in
theorem rSameEvent_any (bar : Bool) (v : Int) (d t tie : Bool) (sa : Option Addr) (n sc : Nat) (bar2 : Bool) (v2 : Int) (d2 t2 tie2 : Bool) (sb : Option Addr) (m sd : Nat) (L M : List St) (w : World) (hA : Sl w w.heap.size 5 sa n sc (stC L)) (hB : Sl w w.heap.size 5 sb m sd (stC M)) (hn : n = L.length) (hm : m = M.length) (hb : n ≤ 1000000) (hb2 : m ≤ 1000000) :
    Calls Tryd.prog 39 #[evV bar v d t tie sa n sc, evV bar2 v2 d2 t2 tie2 sb m sd] w fun e w' => e = .returned (.bool (evEqB ⟨bar, v, d, t, tie, L⟩ ⟨bar2, v2, d2, t2, tie2, M⟩)) ∧ Below w.heap.size w w' := by
  have HA : Hid (∀ w', Below ((w.alloc (evO bar v d t tie sa n sc)).alloc (evO bar2 v2 d2 t2 tie2 sb m sd)).heap.size ((w.alloc (evO bar v d t tie sa n sc)).alloc (evO bar2 v2 d2 t2 tie2 sb m sd)) w' → Sl w' w'.heap.size 5 sa n sc (stC L) ∧ Sl w' w'.heap.size 5 sb m sd (stC M)) :=
    fun w' h => ⟨(hA.below (bt (ba _ _) (ba _ _))).below h, (hB.below (bt (ba _ _) (ba _ _))).below h⟩
  have HN := Lib.hid hn
  have HM := Lib.hid hm
  obtain ⟨X, hX⟩ : ∃ X, evEqB ⟨bar, v, d, t, tie, L⟩ ⟨bar2, v2, d2, t2, tie2, M⟩ = X := ⟨_, rfl⟩
  rw [hX]
  have HX := Lib.hid hX
  clear hA hB hn hm hX
  obtain ⟨p0, p1, p2, p3, p4, p5⟩ := cell6 (ba (w.alloc (evO bar v d t tie sa n sc)) (evO bar2 v2 d2 t2 tie2 sb m sd))
  obtain ⟨r0, r1, r2, r3, r4, r5⟩ := cell6 (Below.refl _ ((w.alloc (evO bar v d t tie sa n sc)).alloc (evO bar2 v2 d2 t2 tie2 sb m sd)))
  simp only [World.size_alloc] at r0 r1 r2 r3 r4 r5
  by_cases g0 : bar = bar2
  rotate_left
  · have hxb : (bar == bar2) = false := beq_eq_false_iff_ne.2 g0
    have HR : Hid (X = false) := by unfold Hid; rw [← HX.out]; simp [evEqB, g0]
    clear g0
    go_enter Tryd.func39, Tryd.ntmps39
    go_wp2_with (fail)
    go_ret
    exact ⟨ret_bool HR.out.symm, bx (ba _ _)⟩
  subst g0
  by_cases g1 : v = v2
  rotate_left
  · have hxb : (v == v2) = false := beq_eq_false_iff_ne.2 g1
    have HR : Hid (X = false) := by unfold Hid; rw [← HX.out]; simp [evEqB, g1]
    clear g1
    go_enter Tryd.func39, Tryd.ntmps39
    go_wp2_with (fail)
    go_ret
    exact ⟨ret_bool HR.out.symm, bx (ba _ _)⟩
  subst g1
  by_cases g2 : d = d2
  rotate_left
  · have hxb : (d == d2) = false := beq_eq_false_iff_ne.2 g2
    have HR : Hid (X = false) := by unfold Hid; rw [← HX.out]; simp [evEqB, g2]
    clear g2
    go_enter Tryd.func39, Tryd.ntmps39
    go_wp2_with (fail)
    go_ret
    exact ⟨ret_bool HR.out.symm, bx (ba _ _)⟩
  subst g2
  by_cases g3 : t = t2
  rotate_left
  · have hxb : (t == t2) = false := beq_eq_false_iff_ne.2 g3
    have HR : Hid (X = false) := by unfold Hid; rw [← HX.out]; simp [evEqB, g3]
    clear g3
    go_enter Tryd.func39, Tryd.ntmps39
    go_wp2_with (fail)
    go_ret
    exact ⟨ret_bool HR.out.symm, bx (ba _ _)⟩
  subst g3
  by_cases g4 : tie = tie2
  rotate_left
  · have hxb : (tie == tie2) = false := beq_eq_false_iff_ne.2 g4
    have HR : Hid (X = false) := by unfold Hid; rw [← HX.out]; simp [evEqB, g4]
    clear g4
    go_enter Tryd.func39, Tryd.ntmps39
    go_wp2_with (fail)
    go_ret
    exact ⟨ret_bool HR.out.symm, bx (ba _ _)⟩
  subst g4
  have HXE : Hid (X = eqL stEqB L M) := by unfold Hid; rw [← HX.out]; simp [evEqB]
  clear HX
  by_cases hnm : n = m
  rotate_left
  · have hxb : ((n : Int) == (m : Int)) = false := by simp; omega
    have HR : Hid (X = false) := by unfold Hid; rw [HXE.out]; exact eqL_len _ _ _ (by have := HN.out; have := HM.out; omega)
    go_enter Tryd.func39, Tryd.ntmps39
    go_wp2_with (fail)
    go_ret
    exact ⟨ret_bool HR.out.symm, bx (ba _ _)⟩
  subst hnm
  obtain ⟨W2, hW2⟩ : ∃ W2, W2 = ((w.alloc (evO bar v d t tie sa n sc)).alloc (evO bar v d t tie sb n sd)) := ⟨_, rfl⟩
  go_enter Tryd.func39, Tryd.ntmps39
  go_wp2_with (fail)
  rw [← hW2] at HA ⊢
  have HBB : Hid (Below w.heap.size w W2) := by unfold Hid; rw [hW2]; exact bt (ba _ _) (ba _ _)
  have HC6 : Hid (∀ w', Below W2.heap.size W2 w' → w'.cell? ⟨w.heap.size, 5, none⟩ = some (.slice sa n sc) ∧ w'.cell? ⟨w.heap.size + 1, 5, none⟩ = some (.slice sb n sd) ∧ w.heap.size + 1 < w'.heap.size) := fun w' hb => by
    rw [hW2] at hb
    obtain ⟨_, _, _, _, _, p5⟩ := cell6 (bt (ba _ _) hb)
    obtain ⟨_, _, _, _, _, r5⟩ := cell6 hb
    simp only [World.size_alloc] at r5
    exact ⟨p5, r5, by have := hb.size; simp at this; omega⟩
  clear hW2 p0 p1 p2 p3 p4 p5 r0 r1 r2 r3 r4 r5
  go_loopw [5] (fun i wr => ∃ k : Nat, k ≤ n ∧ i = .int .i64 k ∧ Hid (X = eqL stEqB (L.drop k) (M.drop k)) ∧ Below W2.heap.size W2 wr) (fun i _ => n - (intOf i).toNat)
  case atStart => exact ⟨0, by omega, rfl, HXE.out, Below.refl _ _⟩
  case round =>
    obtain ⟨k, hk, rfl, HR, hbw⟩ := hrel
    have HB := Lib.hid hbw
    obtain ⟨p5, r5, hz⟩ := HC6.out _ hbw
    clear hbw
    by_cases hlt : k < n
    · have hkn : (k : Int) < (n : Int) := by omega
      obtain ⟨b1, o1, rfl, hB1, _, _, c0, c1, c2, c3, c4⟩ := st_at (HA.out _ HB.out).1 HN.out hlt
      obtain ⟨b2, o2, rfl, hB2, _, _, d0, d1, d2, d3, d4⟩ := st_at (HA.out _ HB.out).2 HM.out hlt
      have HST := Lib.hid (eqL_step' stEqB z5 HR.out (by have := HN.out; omega) (by have := HM.out; omega))
      generalize L.getD k z5 = x at *
      generalize M.getD k z5 = y at *
      obtain ⟨cx, fx, rx, gx, hx⟩ := x
      obtain ⟨cy, fy, ry, gy, hy⟩ := y
      dsimp only at c0 c1 c2 c3 c4 d0 d1 d2 d3 d4
      by_cases g0 : cx = cy
      rotate_left
      · have hxb : (cx == cy) = false := beq_eq_false_iff_ne.2 g0
        have hxc : (cx != cy) = true := bne_iff_ne.2 g0
        have hxd : decide (cx = cy) = false := decide_eq_false g0
        have HF : Hid (X = false) := by unfold Hid; rw [HST.out]; simp [stEqB, g0]
        clear g0
        go_wp2_with (fail)
        go_quiet (fail)
        go_wp2_with (fail)
        go_ret
        exact ⟨ret_bool HF.out.symm, bt HBB.out (bd HB.out _)⟩
      subst g0
      by_cases g1 : fx = fy
      rotate_left
      · have hxb : (fx == fy) = false := beq_eq_false_iff_ne.2 g1
        have hxc : (fx != fy) = true := bne_iff_ne.2 g1
        have hxd : decide (fx = fy) = false := decide_eq_false g1
        have HF : Hid (X = false) := by unfold Hid; rw [HST.out]; simp [stEqB, g1]
        clear g1
        go_wp2_with (fail)
        go_quiet (fail)
        go_wp2_with (fail)
        go_ret
        exact ⟨ret_bool HF.out.symm, bt HBB.out (bd HB.out _)⟩
      subst g1
      by_cases g2 : rx = ry
      rotate_left
      · have hxb : (rx == ry) = false := beq_eq_false_iff_ne.2 g2
        have hxc : (rx != ry) = true := bne_iff_ne.2 g2
        have hxd : decide (rx = ry) = false := decide_eq_false g2
        have HF : Hid (X = false) := by unfold Hid; rw [HST.out]; simp [stEqB, g2]
        clear g2
        go_wp2_with (fail)
        go_quiet (fail)
        go_wp2_with (fail)
        go_ret
        exact ⟨ret_bool HF.out.symm, bt HBB.out (bd HB.out _)⟩
      subst g2
      by_cases g3 : gx = gy
      rotate_left
      · have hxb : (gx == gy) = false := beq_eq_false_iff_ne.2 g3
        have hxc : (gx != gy) = true := bne_iff_ne.2 g3
        have hxd : decide (gx = gy) = false := decide_eq_false g3
        have HF : Hid (X = false) := by unfold Hid; rw [HST.out]; simp [stEqB, g3]
        clear g3
        go_wp2_with (fail)
        go_quiet (fail)
        go_wp2_with (fail)
        go_ret
        exact ⟨ret_bool HF.out.symm, bt HBB.out (bd HB.out _)⟩
      subst g3
      by_cases g4 : hx = hy
      rotate_left
      · have hxb : (hx == hy) = false := beq_eq_false_iff_ne.2 g4
        have hxc : (hx != hy) = true := bne_iff_ne.2 g4
        have hxd : decide (hx = hy) = false := decide_eq_false g4
        have HF : Hid (X = false) := by unfold Hid; rw [HST.out]; simp [stEqB, g4]
        clear g4
        go_wp2_with (fail)
        go_quiet (fail)
        go_wp2_with (fail)
        go_ret
        exact ⟨ret_bool HF.out.symm, bt HBB.out (bd HB.out _)⟩
      subst g4
      have HF : Hid (X = eqL stEqB (L.drop (k + 1)) (M.drop (k + 1))) := by unfold Hid; rw [HST.out]; simp [stEqB]
      go_wp2_with (fail)
      go_quiet (fail)
      go_wp2_with (fail)
      go_roundw
      case rel => exact ⟨k + 1, by omega, by first | rfl | go_num, HF.out, bd HB.out _⟩
      case measure => simp [intOf]; omega
    · have HT : Hid (X = true) := by
        unfold Hid
        rw [HR.out, List.drop_of_length_le (by have := HN.out; omega), List.drop_of_length_le (by have := HM.out; omega)]
        rfl
      go_wp2_with (fail)
      go_ret
      exact ⟨ret_bool HT.out.symm, bt HBB.out HB.out⟩

end Go.Proofs.YtdhjigaocamglaaDoor

/- Pieces, the reference: Same, for any two pieces. -/
namespace Go.Proofs.YtdhjigaocamglaaDoor
open Go Go.RowKit

set_option maxRecDepth 100000 in
set_option maxHeartbeats 8000000 in
theorem rSamePc_any (A : Option Addr) (n c : Nat) (A' : Option Addr) (m c' : Nat) (A2 : Option Addr) (q cq : Nat) (B : Option Addr) (n2 d : Nat) (B' : Option Addr) (m2 d' : Nat) (B2 : Option Addr) (q2 dq : Nat) (C : List Cr) (S : List Int) (P : List EvP) (D : List Cr) (U : List Int) (Q : List EvP) (w : World)
    (hP : PcIn w A n c A' m c' A2 q cq C S P) (hQ : PcIn w B n2 d B' m2 d' B2 q2 dq D U Q) (b1 : n ≤ 65536) (b2 : m ≤ 65536) (b3 : q ≤ 65536) (b4 : n2 ≤ 65536) (b5 : m2 ≤ 65536) (b6 : q2 ≤ 65536) (hsp : ∀ y ∈ P, y.L.length ≤ 1000000) (hsq : ∀ y ∈ Q, y.L.length ≤ 1000000) :
    Calls Tryd.prog 13 #[pcV A n c A' m c' A2 q cq, pcV B n2 d B' m2 d' B2 q2 dq] w fun e w' => e = .returned (.bool (pcEqB C S P D U Q)) ∧ Below w.heap.size w w' := by
  have HE : Hid (∀ w', Below ((w.alloc (pcO A n c A' m c' A2 q cq)).alloc (pcO B n2 d B' m2 d' B2 q2 dq)).heap.size ((w.alloc (pcO A n c A' m c' A2 q cq)).alloc (pcO B n2 d B' m2 d' B2 q2 dq)) w' → PcIn w' A n c A' m c' A2 q cq C S P ∧ PcIn w' B n2 d B' m2 d' B2 q2 dq D U Q) :=
    fun w' h => ⟨(hP.below (bt (ba _ _) (ba _ _))).below h, (hQ.below (bt (ba _ _) (ba _ _))).below h⟩
  have CI := Lib.hid (fun w' (h : PcIn w' A n c A' m c' A2 q cq C S P ∧ PcIn w' B n2 d B' m2 d' B2 q2 dq D U Q) => rsame_any A n c A' m c' B n2 d B' m2 d' C S D U w' h.1.crs h.1.stp h.2.crs h.2.stp h.1.hn h.1.hm h.2.hn h.2.hm b1 b2 b4 b5)
  have HSP := Lib.hid hsp
  have HSQ := Lib.hid hsq
  have HQP := Lib.hid hP.es.hq
  have HQQ := Lib.hid hQ.es.hq
  obtain ⟨p0, p1, p2⟩ := cell3 (ba (w.alloc (pcO A n c A' m c' A2 q cq)) (pcO B n2 d B' m2 d' B2 q2 dq))
  obtain ⟨r0, r1, r2⟩ := cell3 (Below.refl _ ((w.alloc (pcO A n c A' m c' A2 q cq)).alloc (pcO B n2 d B' m2 d' B2 q2 dq)))
  simp only [World.size_alloc] at r0 r1 r2
  obtain ⟨X, hX⟩ : ∃ X, pcEqB C S P D U Q = X := ⟨_, rfl⟩
  rw [hX]
  unfold pcEqB at hX
  have HX := Lib.hid hX
  clear hP hQ hsp hsq hX
  cases h1 : sameB C S D U with
  | false =>
    have HXF : Hid (X = false) := by unfold Hid; rw [← HX.out, h1]; rfl
    rw [h1] at CI
    clear h1 HX
    go_enter Tryd.func13, Tryd.ntmps13
    go_wp2_with (go_at_call 28; refine (CI.out _ (HE.out _ (Below.refl _ _))).mono ?_; rintro e w1 ⟨rfl, hb1⟩)
    go_ret
    exact ⟨ret_bool HXF.out.symm, bx (bx hb1)⟩
  | true =>
    have HXE : Hid (X = eqL evEqB P Q) := by unfold Hid; rw [← HX.out, h1]; rfl
    rw [h1] at CI
    clear h1 HX
    by_cases hqq : q = q2
    rotate_left
    · have hxb : ((q : Int) == (q2 : Int)) = false := by simp; omega
      have HXF : Hid (X = false) := by unfold Hid; rw [HXE.out]; exact eqL_len _ _ _ (by have := HQP.out; have := HQQ.out; omega)
      go_enter Tryd.func13, Tryd.ntmps13
      go_wp2_with (go_at_call 28; refine (CI.out _ (HE.out _ (Below.refl _ _))).mono ?_; rintro e w1 ⟨rfl, hb1⟩; obtain ⟨x0, x1, x2⟩ := cell3 (bt (ba _ _) hb1); obtain ⟨y0, y1, y2⟩ := cell3 hb1; simp only [World.size_alloc] at y0 y1 y2; have hz : w.heap.size + 1 < w1.heap.size := (by have := hb1.size; simp at this; omega))
      go_ret
      exact ⟨ret_bool HXF.out.symm, bx (bx hb1)⟩
    subst hqq
    obtain ⟨W2, hW2⟩ : ∃ W2, W2 = ((w.alloc (pcO A n c A' m c' A2 q cq)).alloc (pcO B n2 d B' m2 d' B2 q dq)) := ⟨_, rfl⟩
    have HC3 : Hid (∀ w', Below W2.heap.size W2 w' → w'.cell? ⟨w.heap.size, 2, none⟩ = some (.slice A2 q cq) ∧ w'.cell? ⟨w.heap.size + 1, 2, none⟩ = some (.slice B2 q dq) ∧ w.heap.size + 1 < w'.heap.size) := fun w' hb => by
      rw [hW2] at hb
      obtain ⟨_, _, p5⟩ := cell3 (bt (ba _ _) hb)
      obtain ⟨_, _, r5⟩ := cell3 hb
      simp only [World.size_alloc] at r5
      exact ⟨p5, r5, by have := hb.size; simp at this; omega⟩
    have HBB : Hid (Below w.heap.size w W2) := by unfold Hid; rw [hW2]; exact bt (ba _ _) (ba _ _)
    rw [← hW2] at HE
    have HWW := Lib.hid hW2
    go_enter Tryd.func13, Tryd.ntmps13
    go_wp2_with (go_at_call 28; rw [← HWW.out]; refine (CI.out _ (HE.out _ (Below.refl _ _))).mono ?_; rintro e w1 ⟨rfl, hb1⟩; obtain ⟨x2, y2, hz⟩ := HC3.out _ hb1)
    have HW2 := Lib.hid hb1
    clear hW2 HWW hb1 x2 y2 p0 p1 p2 r0 r1 r2 hz
    go_loopw [5] (fun i wr => ∃ k : Nat, k ≤ q ∧ i = .int .i64 k ∧ Hid (X = eqL evEqB (P.drop k) (Q.drop k)) ∧ Below w1.heap.size w1 wr) (fun i _ => q - (intOf i).toNat)
    case atStart => exact ⟨0, by omega, rfl, HXE.out, Below.refl _ _⟩
    case round =>
    obtain ⟨k, hk, rfl, HR, hbw⟩ := hrel
    have HB := Lib.hid hbw
    obtain ⟨p2, r2, hz⟩ := HC3.out _ (bt HW2.out hbw)
    clear hbw
    by_cases hlt : k < q
    · have hkn : (k : Int) < (q : Int) := by omega
      obtain ⟨b1, o1, sa, sc, rfl, hB1, hPk, _, ⟨c0, c1, c2, c3, c4, c5⟩, hS1⟩ := (HE.out _ (bt HW2.out HB.out)).1.es.at hlt
      obtain ⟨b2, o2, sb, sd, rfl, hB2, hQk, _, ⟨e0, e1, e2, e3, e4, e5⟩, hS2⟩ := (HE.out _ (bt HW2.out HB.out)).2.es.at hlt
      have HL := Lib.hid (HSP.out _ (List.mem_of_getElem? hPk))
      have HL2 := Lib.hid (HSQ.out _ (List.mem_of_getElem? hQk))
      have HS1 := Lib.hid hS1
      have HS2 := Lib.hid hS2
      have HST := Lib.hid (eqL_step' evEqB z6 HR.out (by have := HQP.out; omega) (by have := HQQ.out; omega))
      clear hS1 hS2 hPk hQk
      generalize P.getD k z6 = x at *
      generalize Q.getD k z6 = y at *
      obtain ⟨bar, v, d1, t, tie, L⟩ := x
      obtain ⟨bar2, v2, d2, t2, tie2, L2⟩ := y
      dsimp only at c0 c1 c2 c3 c4 c5 e0 e1 e2 e3 e4 e5 HL HL2 HS1 HS2
      obtain ⟨N, hN⟩ : ∃ N, L.length = N := ⟨_, rfl⟩
      rw [hN] at c5 HL HS1
      have HN := Lib.hid hN
      obtain ⟨M, hM⟩ : ∃ M, L2.length = M := ⟨_, rfl⟩
      rw [hM] at e5 HL2 HS2
      have HM := Lib.hid hM
      clear hN hM
      have HC : Hid (∀ w', Below wr.heap.size wr w' → (w'.cell? ⟨w.heap.size, 2, none⟩ = some (.slice (some ⟨b1, o1, none⟩) q cq) ∧ w'.cell? ⟨w.heap.size + 1, 2, none⟩ = some (.slice (some ⟨b2, o2, none⟩) q dq)) ∧ (w'.cell? ⟨b1, o1 + k * 6, none⟩ = some (.bool bar) ∧ w'.cell? ⟨b1, o1 + k * 6 + 1, none⟩ = some (.int .i64 v) ∧ w'.cell? ⟨b1, o1 + k * 6 + 2, none⟩ = some (.bool d1) ∧ w'.cell? ⟨b1, o1 + k * 6 + 3, none⟩ = some (.bool t) ∧ w'.cell? ⟨b1, o1 + k * 6 + 4, none⟩ = some (.bool tie) ∧ w'.cell? ⟨b1, o1 + k * 6 + 5, none⟩ = some (.slice sa N sc)) ∧ (w'.cell? ⟨b2, o2 + k * 6, none⟩ = some (.bool bar2) ∧ w'.cell? ⟨b2, o2 + k * 6 + 1, none⟩ = some (.int .i64 v2) ∧ w'.cell? ⟨b2, o2 + k * 6 + 2, none⟩ = some (.bool d2) ∧ w'.cell? ⟨b2, o2 + k * 6 + 3, none⟩ = some (.bool t2) ∧ w'.cell? ⟨b2, o2 + k * 6 + 4, none⟩ = some (.bool tie2) ∧ w'.cell? ⟨b2, o2 + k * 6 + 5, none⟩ = some (.slice sb M sd))) := fun w' h =>
        have hw0 := h.block w.heap.size (by omega)
        have hw1 := h.block (w.heap.size + 1) (by omega)
        have h1 := h.block b1 hB1
        have h2 := h.block b2 hB2
        ⟨⟨cell_same hw0 p2, cell_same hw1 r2⟩, ⟨cell_same h1 c0, cell_same h1 c1, cell_same h1 c2, cell_same h1 c3, cell_same h1 c4, cell_same h1 c5⟩, ⟨cell_same h2 e0, cell_same h2 e1, cell_same h2 e2, cell_same h2 e3, cell_same h2 e4, cell_same h2 e5⟩⟩
      obtain ⟨bb, hbb⟩ : ∃ bb, evEqB ⟨bar, v, d1, t, tie, L⟩ ⟨bar2, v2, d2, t2, tie2, L2⟩ = bb := ⟨_, rfl⟩
      have HBV := Lib.hid hbb
      rw [hbb] at HST
      clear hbb
      go_wp2_with (fail)
      have T := (Below.refl wr.heap.size wr).drew
      go_region_held3 (fun w' => (w'.cell? ⟨w.heap.size, 2, none⟩ = some (.slice (some ⟨b1, o1, none⟩) q cq) ∧ w'.cell? ⟨w.heap.size + 1, 2, none⟩ = some (.slice (some ⟨b2, o2, none⟩) q dq)) ∧ (w'.cell? ⟨b1, o1 + k * 6, none⟩ = some (.bool bar) ∧ w'.cell? ⟨b1, o1 + k * 6 + 1, none⟩ = some (.int .i64 v) ∧ w'.cell? ⟨b1, o1 + k * 6 + 2, none⟩ = some (.bool d1) ∧ w'.cell? ⟨b1, o1 + k * 6 + 3, none⟩ = some (.bool t) ∧ w'.cell? ⟨b1, o1 + k * 6 + 4, none⟩ = some (.bool tie) ∧ w'.cell? ⟨b1, o1 + k * 6 + 5, none⟩ = some (.slice sa N sc)) ∧ (w'.cell? ⟨b2, o2 + k * 6, none⟩ = some (.bool bar2) ∧ w'.cell? ⟨b2, o2 + k * 6 + 1, none⟩ = some (.int .i64 v2) ∧ w'.cell? ⟨b2, o2 + k * 6 + 2, none⟩ = some (.bool d2) ∧ w'.cell? ⟨b2, o2 + k * 6 + 3, none⟩ = some (.bool t2) ∧ w'.cell? ⟨b2, o2 + k * 6 + 4, none⟩ = some (.bool tie2) ∧ w'.cell? ⟨b2, o2 + k * 6 + 5, none⟩ = some (.slice sb M sd)))
        (exact HC.out _ T)
        (first | (go_at_call 39; refine (rSameEvent_any bar v d1 t tie sa N sc bar2 v2 d2 t2 tie2 sb M sd L L2 _ (HS1.out.below T) (HS2.out.below T) HN.out.symm HM.out.symm HL.out HL2.out).mono ?_; rintro e wz ⟨rfl, hbz⟩; rw [HBV.out]; replace T := bt T hbz))
      have HT2 := Lib.hid T
      clear T hbz
      cases bb with
      | true =>
        have HF : Hid (X = eqL evEqB (P.drop (k + 1)) (Q.drop (k + 1))) := by unfold Hid; rw [HST.out]; rfl
        go_wp2_with (fail)
        go_roundw
        case rel => exact ⟨k + 1, by omega, by first | rfl | go_num, HF.out, bt HB.out HT2.out⟩
        case measure => simp [intOf]; omega
      | false =>
        have HF : Hid (X = false) := by unfold Hid; rw [HST.out]; rfl
        go_wp2_with (fail)
        go_ret
        exact ⟨ret_bool HF.out.symm, bt HBB.out (bt HW2.out (bt HB.out HT2.out))⟩
    · have HT : Hid (X = true) := by
        unfold Hid
        rw [HR.out, List.drop_of_length_le (by have := HQP.out; omega), List.drop_of_length_le (by have := HQQ.out; omega)]
        rfl
      go_wp2_with (fail)
      go_ret
      exact ⟨ret_bool HT.out.symm, bt HBB.out (bt HW2.out HB.out)⟩

end Go.Proofs.YtdhjigaocamglaaDoor

/- Pieces: what the laws share: a call that hands back a piece; the reference's Same at equal pieces. -/
namespace Go.Proofs.YtdhjigaocamglaaDoor
open Go Go.RowKit

theorem pcEqB_refl (C : List Cr) (S : List Int) (P : List EvP) : pcEqB C S P C S P = true := by
  unfold pcEqB
  rw [sameB_refl, eqL_refl evEqB_refl]; rfl
theorem oC_len {α : Type} (er : Int) (L : List α) : (oC er L).length ≤ L.length := by
  unfold oC
  split <;> simp
theorem same_true {A : Option Addr} {n c : Nat} {A' : Option Addr} {m c' : Nat} {A2 : Option Addr} {q cq : Nat} {B : Option Addr} {n2 d : Nat} {B' : Option Addr} {m2 d' : Nat} {B2 : Option Addr} {q2 dq : Nat} {C : List Cr} {S : List Int} {P : List EvP} {w : World}
    (hP : PcIn w A n c A' m c' A2 q cq C S P) (hQ : PcIn w B n2 d B' m2 d' B2 q2 dq C S P) (hb : n ≤ 65536 ∧ m ≤ 65536 ∧ q ≤ 65536) (hb2 : n2 ≤ 65536 ∧ m2 ≤ 65536 ∧ q2 ≤ 65536) (hsp : ∀ y ∈ P, y.L.length ≤ 1000000) :
    Calls Tryd.prog 13 #[pcV A n c A' m c' A2 q cq, pcV B n2 d B' m2 d' B2 q2 dq] w fun e w' => e = .returned (.bool true) ∧ Below w.heap.size w w' := by
  refine (rSamePc_any A n c A' m c' A2 q cq B n2 d B' m2 d' B2 q2 dq C S P C S P w hP hQ hb.1 hb.2.1 hb.2.2 hb2.1 hb2.2.1 hb2.2.2 hsp hsp).mono ?_
  rintro e w' ⟨rfl, hb⟩
  rw [pcEqB_refl]
  exact ⟨rfl, hb⟩


end Go.Proofs.YtdhjigaocamglaaDoor

/- Pieces, plain: what stays valid when signs alone are changed; times twice as long. -/
namespace Go.Proofs.YtdhjigaocamglaaDoor
open Go Go.RowKit

/-! ### Augment by one -/
end Go.Proofs.YtdhjigaocamglaaDoor

/- Pieces: the places of an event's stops (place, changed), for any stops. -/
namespace Go.Proofs.YtdhjigaocamglaaDoor
open Go Go.RowKit

theorem set2 (pre post : List Value) (a b c d : Value) (l : Nat) (hl : pre.length = l) : ((pre ++ a :: b :: post).set l c).set (l + 1) d = pre ++ c :: d :: post := by
  subst hl
  have e0 : ∀ (q : List Value) (j : Nat) (v : Value), (pre ++ q).set (pre.length + j) v = pre ++ q.set j v := fun q j v => by
    rw [List.set_append_right _ _ (by omega), Nat.add_sub_cancel_left]
  have e1 : ∀ (q : List Value) (v : Value), (pre ++ q).set pre.length v = pre ++ q.set 0 v := fun q v => e0 q 0 v
  rw [e1, e0]
  rfl
end Go.Proofs.YtdhjigaocamglaaDoor

/- Pieces: piece.Alike, for any two pieces. -/
namespace Go.Proofs.YtdhjigaocamglaaDoor
open Go Go.RowKit

end Go.Proofs.YtdhjigaocamglaaDoor

/- Pieces: piece.Alike, for any two pieces. -/
namespace Go.Proofs.YtdhjigaocamglaaDoor
open Go Go.RowKit

end Go.Proofs.YtdhjigaocamglaaDoor

/- Pieces, the reference: Alike, for any two pieces. -/
namespace Go.Proofs.YtdhjigaocamglaaDoor
open Go Go.RowKit

end Go.Proofs.YtdhjigaocamglaaDoor

/- Pieces: a piece is the same as itself, and alike if it is valid. -/
namespace Go.Proofs.YtdhjigaocamglaaDoor
open Go Go.RowKit

end Go.Proofs.YtdhjigaocamglaaDoor
