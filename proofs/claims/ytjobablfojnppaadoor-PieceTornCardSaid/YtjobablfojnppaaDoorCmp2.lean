/- Pieces: when two are the same (piece.Same): stops, events, pieces compared, for any two. -/
import Derived.Test.YtjobablfojnppaaDoorPcLeaf
import Derived.Test.YtjobablfojnppaaDoorSameM
import Derived.Test.YtjobablfojnppaaDoorOnsets
import Derived.BigQuiet
import Derived.Test.YtjobablfojnppaaDoorPcMeas2
namespace Go.Proofs.YtjobablfojnppaaDoor
open Go Go.RowKit

def eqL {α : Type} (f : α → α → Bool) : List α → List α → Bool
  | [], [] => true
  | x :: r, y :: s => f x y && eqL f r s
  | _, _ => false
theorem eqL_len {α : Type} (f : α → α → Bool) : ∀ (C D : List α), C.length ≠ D.length → eqL f C D = false
  | [], [], h => absurd rfl h
  | [], _ :: _, _ => rfl
  | _ :: _, [], _ => rfl
  | x :: r, y :: s, h => by
    unfold eqL
    rw [eqL_len f r s (by simpa using h)]
    simp
theorem eqL_refl {α : Type} {f : α → α → Bool} (h : ∀ x, f x x = true) : ∀ C : List α, eqL f C C = true
  | [] => rfl
  | x :: r => by unfold eqL; rw [h, eqL_refl h r]; rfl
theorem drop_consL {α : Type} (z : α) (L : List α) (k : Nat) (h : k < L.length) : L.drop k = L.getD k z :: L.drop (k + 1) := by
  rw [List.drop_eq_getElem_cons h]; simp [List.getElem?_eq_getElem h]
theorem eqL_step {α : Type} (f : α → α → Bool) (z : α) {C D : List α} {k : Nat} (h : eqL f C D = eqL f (C.drop k) (D.drop k)) (h1 : k < C.length) (h2 : k < D.length) : eqL f C D = (f (C.getD k z) (D.getD k z) && eqL f (C.drop (k + 1)) (D.drop (k + 1))) := by
  rw [h, drop_consL z C k h1, drop_consL z D k h2]; rfl
def stEqB (a b : St) : Bool := decide (a.c = b.c) && (decide (a.f = b.f) && (decide (a.r = b.r) && (decide (a.g = b.g) && decide (a.h = b.h))))
def plEqB (a b : Int × Int) : Bool := decide (a.1 = b.1) && decide (a.2 = b.2)
def evEqB (x y : EvP) : Bool := (x.bar == y.bar) && (decide (x.v = y.v) && ((x.d == y.d) && ((x.t == y.t) && ((x.tie == y.tie) && eqL stEqB x.L y.L))))
theorem stEqB_refl (x : St) : stEqB x x = true := by simp [stEqB]
theorem evEqB_refl (x : EvP) : evEqB x x = true := by simp [evEqB, eqL_refl stEqB_refl]
theorem plD_at : ∀ (M : List (Int × Int)) (k : Nat), k < M.length → (plC M)[k * 2]? = some (.int .i64 (M.getD k (0, 0)).1) ∧ (plC M)[k * 2 + 1]? = some (.int .i64 (M.getD k (0, 0)).2)
  | c :: r, 0, _ => ⟨rfl, rfl⟩
  | c :: r, k + 1, h => by
    have := plD_at r k (by simpa using h)
    have e : plC (c :: r) = .int .i64 c.1 :: .int .i64 c.2 :: plC r := rfl
    rw [e, show (k + 1) * 2 = k * 2 + 2 from by omega]
    exact this

set_option maxHeartbeats 6400000 in
theorem equalS_any (A B : Option Addr) (n c m d : Nat) (C D : List St) (w : World) (hA : Sl w w.heap.size 5 A n c (stC C)) (hB : Sl w w.heap.size 5 B m d (stC D)) (hn : n = C.length) (hm : m = D.length) (hb : n ≤ 1000000) (hb2 : m ≤ 1000000) :
    Calls Tryd.prog 101 #[.slice A n c, .slice B m d] w fun e w' => e = .returned (.bool (eqL stEqB C D)) ∧ Below w.heap.size w w' := by
  by_cases hnm : n = m
  · subst hnm
    have HN := Lib.hid hn
    have HM := Lib.hid hm
    have HAB : Hid (∀ w', Below w.heap.size w w' → Sl w' w'.heap.size 5 A n c (stC C) ∧ Sl w' w'.heap.size 5 B n d (stC D)) := fun w' h => ⟨hA.below h, hB.below h⟩
    clear hn hm hA hB
    go_enter Tryd.func101, Tryd.ntmps101
    go_wp2_with (fail)
    go_loopw [13, 5] (fun i _ wr => ∃ k : Nat, k ≤ n ∧ i = .int .i64 k ∧ Hid (eqL stEqB C D = eqL stEqB (C.drop k) (D.drop k)) ∧ Below w.heap.size w wr) (fun i _ _ => n - (intOf i).toNat)
    case atStart => exact ⟨0, by omega, rfl, rfl, Below.refl _ _⟩
    case round =>
      obtain ⟨k, hk, rfl, HR, hbw⟩ := hrel
      have HBW := Lib.hid hbw
      clear hbw
      by_cases hlt : k < n
      · have hkn : (k : Int) < (n : Int) := by omega
        obtain ⟨b1, o1, hA1, hB1, hc1⟩ := (HAB.out _ HBW.out).1.2.2 (by omega)
        obtain ⟨b2, o2, hA2, hB2, hc2⟩ := (HAB.out _ HBW.out).2.2.2 (by omega)
        subst hA1 hA2
        obtain ⟨i0, i1, i2, i3, i4⟩ := stC_at C k (by have := HN.out; omega)
        obtain ⟨j0, j1, j2, j3, j4⟩ := stC_at D k (by have := HM.out; omega)
        have a0 := hc1 _ _ i0
        have b0' := hc2 _ _ j0
        have a1 := hc1 _ _ i1
        have b1' := hc2 _ _ j1
        have a2 := hc1 _ _ i2
        have b2' := hc2 _ _ j2
        have a3 := hc1 _ _ i3
        have b3' := hc2 _ _ j3
        have a4 := hc1 _ _ i4
        have b4' := hc2 _ _ j4
        rw [← Nat.add_assoc] at a1 b1' a2 b2' a3 b3' a4 b4'
        have HS := Lib.hid (eqL_step stEqB z5 HR.out (by have := HN.out; omega) (by have := HM.out; omega))
        clear hc1 hc2 hB1 hB2 i0 j0 i1 j1 i2 j2 i3 j3 i4 j4
        generalize C.getD k z5 = x at *
        generalize D.getD k z5 = y at *
        obtain ⟨c1, f1, r1, g1, h1⟩ := x
        obtain ⟨c2, f2, r2, g2, h2⟩ := y
        dsimp only at a0 b0' a1 b1' a2 b2' a3 b3' a4 b4'
        by_cases g0 : c1 = c2
        rotate_left
        · have HS2 : Hid (eqL stEqB C D = false) := by unfold Hid; rw [HS.out]; simp [stEqB, g0]
          have hxb : (c1 == c2) = false := beq_eq_false_iff_ne.2 g0
          clear g0
          go_wp2_with (fail)
          go_quiet (fail)
          go_wp2_with (fail)
          go_ret
          exact ⟨ret_bool HS2.out.symm, bd HBW.out _⟩
        subst g0
        by_cases g1 : f1 = f2
        rotate_left
        · have HS2 : Hid (eqL stEqB C D = false) := by unfold Hid; rw [HS.out]; simp [stEqB, g1]
          have hxb : (f1 == f2) = false := beq_eq_false_iff_ne.2 g1
          clear g1
          go_wp2_with (fail)
          go_quiet (fail)
          go_wp2_with (fail)
          go_ret
          exact ⟨ret_bool HS2.out.symm, bd HBW.out _⟩
        subst g1
        by_cases g2 : r1 = r2
        rotate_left
        · have HS2 : Hid (eqL stEqB C D = false) := by unfold Hid; rw [HS.out]; simp [stEqB, g2]
          have hxb : (r1 == r2) = false := beq_eq_false_iff_ne.2 g2
          clear g2
          go_wp2_with (fail)
          go_quiet (fail)
          go_wp2_with (fail)
          go_ret
          exact ⟨ret_bool HS2.out.symm, bd HBW.out _⟩
        subst g2
        by_cases g3 : g1 = g2
        rotate_left
        · have HS2 : Hid (eqL stEqB C D = false) := by unfold Hid; rw [HS.out]; simp [stEqB, g3]
          have hxb : (g1 == g2) = false := beq_eq_false_iff_ne.2 g3
          clear g3
          go_wp2_with (fail)
          go_quiet (fail)
          go_wp2_with (fail)
          go_ret
          exact ⟨ret_bool HS2.out.symm, bd HBW.out _⟩
        subst g3
        by_cases g4 : h1 = h2
        rotate_left
        · have HS2 : Hid (eqL stEqB C D = false) := by unfold Hid; rw [HS.out]; simp [stEqB, g4]
          have hxb : (h1 == h2) = false := beq_eq_false_iff_ne.2 g4
          clear g4
          go_wp2_with (fail)
          go_quiet (fail)
          go_wp2_with (fail)
          go_ret
          exact ⟨ret_bool HS2.out.symm, bd HBW.out _⟩
        subst g4
        have HS2 : Hid (eqL stEqB C D = eqL stEqB (C.drop (k + 1)) (D.drop (k + 1))) := by unfold Hid; rw [HS.out]; simp [stEqB]
        go_wp2_with (fail)
        go_quiet (fail)
        go_wp2_with (fail)
        go_roundw
        case rel => exact ⟨k + 1, by omega, by go_num, HS2.out, bd HBW.out _⟩
        case measure => simp [intOf]; omega
      · have hkn : ¬ ((k : Int) < (n : Int)) := by omega
        have HT : Hid (eqL stEqB C D = true) := by
          unfold Hid
          rw [HR.out, List.drop_of_length_le (by have := HN.out; omega), List.drop_of_length_le (by have := HM.out; omega)]
          rfl
        go_wp2_with (fail)
        go_ret
        exact ⟨ret_bool HT.out.symm, HBW.out⟩
  · have HF := Lib.hid (eqL_len stEqB C D (by omega))
    have hnb : ((n : Int) == (m : Int)) = false := by simp; omega
    clear hA hB hn hm
    go_enter Tryd.func101, Tryd.ntmps101
    go_wp2_with (fail)
    go_ret
    exact ⟨ret_bool HF.out.symm, Below.refl _ _⟩

set_option maxHeartbeats 6400000 in
theorem equalP_any (A B : Option Addr) (n c m d : Nat) (C D : List (Int × Int)) (w : World) (hA : Sl w w.heap.size 2 A n c (plC C)) (hB : Sl w w.heap.size 2 B m d (plC D)) (hn : n = C.length) (hm : m = D.length) (hb : n ≤ 1000000) (hb2 : m ≤ 1000000) :
    Calls Tryd.prog 98 #[.slice A n c, .slice B m d] w fun e w' => e = .returned (.bool (eqL plEqB C D)) ∧ Below w.heap.size w w' := by
  by_cases hnm : n = m
  · subst hnm
    have HN := Lib.hid hn
    have HM := Lib.hid hm
    have HAB : Hid (∀ w', Below w.heap.size w w' → Sl w' w'.heap.size 2 A n c (plC C) ∧ Sl w' w'.heap.size 2 B n d (plC D)) := fun w' h => ⟨hA.below h, hB.below h⟩
    clear hn hm hA hB
    go_enter Tryd.func98, Tryd.ntmps98
    go_wp2_with (fail)
    go_loopw [13, 5] (fun i _ wr => ∃ k : Nat, k ≤ n ∧ i = .int .i64 k ∧ Hid (eqL plEqB C D = eqL plEqB (C.drop k) (D.drop k)) ∧ Below w.heap.size w wr) (fun i _ _ => n - (intOf i).toNat)
    case atStart => exact ⟨0, by omega, rfl, rfl, Below.refl _ _⟩
    case round =>
      obtain ⟨k, hk, rfl, HR, hbw⟩ := hrel
      have HBW := Lib.hid hbw
      clear hbw
      by_cases hlt : k < n
      · have hkn : (k : Int) < (n : Int) := by omega
        obtain ⟨b1, o1, hA1, hB1, hc1⟩ := (HAB.out _ HBW.out).1.2.2 (by omega)
        obtain ⟨b2, o2, hA2, hB2, hc2⟩ := (HAB.out _ HBW.out).2.2.2 (by omega)
        subst hA1 hA2
        obtain ⟨i0, i1⟩ := plD_at C k (by have := HN.out; omega)
        obtain ⟨j0, j1⟩ := plD_at D k (by have := HM.out; omega)
        have a0 := hc1 _ _ i0
        have b0' := hc2 _ _ j0
        have a1 := hc1 _ _ i1
        have b1' := hc2 _ _ j1
        rw [← Nat.add_assoc] at a1 b1'
        have HS := Lib.hid (eqL_step plEqB (0, 0) HR.out (by have := HN.out; omega) (by have := HM.out; omega))
        clear hc1 hc2 hB1 hB2 i0 j0 i1 j1
        generalize C.getD k (0, 0) = x at *
        generalize D.getD k (0, 0) = y at *
        obtain ⟨p1, f1⟩ := x
        obtain ⟨p2, f2⟩ := y
        dsimp only at a0 b0' a1 b1'
        by_cases g0 : p1 = p2
        rotate_left
        · have HS2 : Hid (eqL plEqB C D = false) := by unfold Hid; rw [HS.out]; simp [plEqB, g0]
          have hxb : (p1 == p2) = false := beq_eq_false_iff_ne.2 g0
          clear g0
          go_wp2_with (fail)
          go_quiet (fail)
          go_wp2_with (fail)
          go_ret
          exact ⟨ret_bool HS2.out.symm, bd HBW.out _⟩
        subst g0
        by_cases g1 : f1 = f2
        rotate_left
        · have HS2 : Hid (eqL plEqB C D = false) := by unfold Hid; rw [HS.out]; simp [plEqB, g1]
          have hxb : (f1 == f2) = false := beq_eq_false_iff_ne.2 g1
          clear g1
          go_wp2_with (fail)
          go_quiet (fail)
          go_wp2_with (fail)
          go_ret
          exact ⟨ret_bool HS2.out.symm, bd HBW.out _⟩
        subst g1
        have HS2 : Hid (eqL plEqB C D = eqL plEqB (C.drop (k + 1)) (D.drop (k + 1))) := by unfold Hid; rw [HS.out]; simp [plEqB]
        go_wp2_with (fail)
        go_quiet (fail)
        go_wp2_with (fail)
        go_roundw
        case rel => exact ⟨k + 1, by omega, by go_num, HS2.out, bd HBW.out _⟩
        case measure => simp [intOf]; omega
      · have hkn : ¬ ((k : Int) < (n : Int)) := by omega
        have HT : Hid (eqL plEqB C D = true) := by
          unfold Hid
          rw [HR.out, List.drop_of_length_le (by have := HN.out; omega), List.drop_of_length_le (by have := HM.out; omega)]
          rfl
        go_wp2_with (fail)
        go_ret
        exact ⟨ret_bool HT.out.symm, HBW.out⟩
  · have HF := Lib.hid (eqL_len plEqB C D (by omega))
    have hnb : ((n : Int) == (m : Int)) = false := by simp; omega
    clear hA hB hn hm
    go_enter Tryd.func98, Tryd.ntmps98
    go_wp2_with (fail)
    go_ret
    exact ⟨ret_bool HF.out.symm, Below.refl _ _⟩

end Go.Proofs.YtjobablfojnppaaDoor

/- Pieces: piece.Same, for any two pieces. -/
namespace Go.Proofs.YtjobablfojnppaaDoor
open Go Go.RowKit

set_option maxRecDepth 100000 in
set_option maxHeartbeats 6400000 in
theorem sameEvent_any (bar : Bool) (v : Int) (d t tie : Bool) (sa : Option Addr) (n sc : Nat) (bar2 : Bool) (v2 : Int) (d2 t2 tie2 : Bool) (sb : Option Addr) (m sd : Nat) (L M : List St) (w : World) (hA : Sl w w.heap.size 5 sa n sc (stC L)) (hB : Sl w w.heap.size 5 sb m sd (stC M)) (hn : n = L.length) (hm : m = M.length) (hb : n ≤ 1000000) (hb2 : m ≤ 1000000) :
    Calls Tryd.prog 72 #[evV bar v d t tie sa n sc, evV bar2 v2 d2 t2 tie2 sb m sd] w fun e w' => e = .returned (.bool (evEqB ⟨bar, v, d, t, tie, L⟩ ⟨bar2, v2, d2, t2, tie2, M⟩)) ∧ Below w.heap.size w w' := by
  have HEQ := Lib.hid (equalS_any sa sb n sc m sd L M _ (hA.below (bt (ba w (evO bar v d t tie sa n sc)) (ba _ (evO bar2 v2 d2 t2 tie2 sb m sd)))) (hB.below (bt (ba w (evO bar v d t tie sa n sc)) (ba _ (evO bar2 v2 d2 t2 tie2 sb m sd)))) hn hm hb hb2)
  obtain ⟨p0, p1, p2, p3, p4, p5⟩ := cell6 (ba (w.alloc (evO bar v d t tie sa n sc)) (evO bar2 v2 d2 t2 tie2 sb m sd))
  obtain ⟨r0, r1, r2, r3, r4, r5⟩ := cell6 (Below.refl _ ((w.alloc (evO bar v d t tie sa n sc)).alloc (evO bar2 v2 d2 t2 tie2 sb m sd)))
  simp only [World.size_alloc] at r0 r1 r2 r3 r4 r5
  obtain ⟨X, hX⟩ : ∃ X, evEqB ⟨bar, v, d, t, tie, L⟩ ⟨bar2, v2, d2, t2, tie2, M⟩ = X := ⟨_, rfl⟩
  rw [hX]
  have HX := Lib.hid hX
  clear hA hB hn hm hX
  by_cases g0 : bar = bar2
  rotate_left
  · have hxb : (bar == bar2) = false := beq_eq_false_iff_ne.2 g0
    have HR : Hid (X = false) := by unfold Hid; rw [← HX.out]; simp [evEqB, g0]
    clear g0
    go_enter Tryd.func72, Tryd.ntmps72
    go_wp2_with (fail)
    go_ret
    exact ⟨ret_bool HR.out.symm, bx (ba _ _)⟩
  subst g0
  by_cases g1 : v = v2
  rotate_left
  · have hxb : (v == v2) = false := beq_eq_false_iff_ne.2 g1
    have HR : Hid (X = false) := by unfold Hid; rw [← HX.out]; simp [evEqB, g1]
    clear g1
    go_enter Tryd.func72, Tryd.ntmps72
    go_wp2_with (fail)
    go_ret
    exact ⟨ret_bool HR.out.symm, bx (ba _ _)⟩
  subst g1
  by_cases g2 : d = d2
  rotate_left
  · have hxb : (d == d2) = false := beq_eq_false_iff_ne.2 g2
    have HR : Hid (X = false) := by unfold Hid; rw [← HX.out]; simp [evEqB, g2]
    clear g2
    go_enter Tryd.func72, Tryd.ntmps72
    go_wp2_with (fail)
    go_ret
    exact ⟨ret_bool HR.out.symm, bx (ba _ _)⟩
  subst g2
  by_cases g3 : t = t2
  rotate_left
  · have hxb : (t == t2) = false := beq_eq_false_iff_ne.2 g3
    have HR : Hid (X = false) := by unfold Hid; rw [← HX.out]; simp [evEqB, g3]
    clear g3
    go_enter Tryd.func72, Tryd.ntmps72
    go_wp2_with (fail)
    go_ret
    exact ⟨ret_bool HR.out.symm, bx (ba _ _)⟩
  subst g3
  by_cases g4 : tie = tie2
  rotate_left
  · have hxb : (tie == tie2) = false := beq_eq_false_iff_ne.2 g4
    have HR : Hid (X = false) := by unfold Hid; rw [← HX.out]; simp [evEqB, g4]
    clear g4
    go_enter Tryd.func72, Tryd.ntmps72
    go_wp2_with (fail)
    go_ret
    exact ⟨ret_bool HR.out.symm, bx (ba _ _)⟩
  subst g4
  have HR : Hid (X = eqL stEqB L M) := by unfold Hid; rw [← HX.out]; simp [evEqB]
  clear HX
  generalize eqL stEqB L M = Y at *
  go_enter Tryd.func72, Tryd.ntmps72
  go_wp2_with (go_at_call 101; refine HEQ.out.mono ?_; rintro e w1 ⟨rfl, hb1⟩)
  go_ret
  exact ⟨ret_bool HR.out.symm, bx (bx hb1)⟩

set_option maxRecDepth 100000 in
set_option maxHeartbeats 6400000 in
theorem equalFuncS_any (A : Option Addr) (q cq : Nat) (B : Option Addr) (r cr : Nat) (P Q : List EvP) (w : World) (hP : EsIn w A q cq P) (hQ : EsIn w B r cr Q) (hq : q ≤ 65536) (hr : r ≤ 65536) (hsp : ∀ y ∈ P, y.L.length ≤ 1000000) (hsq : ∀ y ∈ Q, y.L.length ≤ 1000000) :
    Calls Tryd.prog 70 #[.slice A q cq, .slice B r cr, .func (.func 72) #[] #[]] w fun e w' => e = .returned (.bool (eqL evEqB P Q)) ∧ Below w.heap.size w w' := by
  by_cases hnm : q = r
  · subst hnm
    have HN := Lib.hid hP.hq
    have HM := Lib.hid hQ.hq
    have HPQ : Hid (∀ w', Below w.heap.size w w' → EsIn w' A q cq P ∧ EsIn w' B q cr Q) := fun w' h => ⟨hP.below h, hQ.below h⟩
    have HSP := Lib.hid hsp
    have HSQ := Lib.hid hsq
    clear hP hQ hsp hsq
    go_enter Tryd.func70, Tryd.ntmps70
    go_wp2_with (fail)
    go_loopw [17] (fun i wr => ∃ k : Nat, k ≤ q ∧ i = .int .i64 k ∧ Hid (eqL evEqB P Q = eqL evEqB (P.drop k) (Q.drop k)) ∧ Below w.heap.size w wr) (fun i _ => q - (intOf i).toNat)
    case atStart => exact ⟨0, by omega, rfl, rfl, Below.refl _ _⟩
    case round =>
      obtain ⟨k, hk, rfl, HR, hbw⟩ := hrel
      have HB := Lib.hid hbw
      clear hbw
      by_cases hlt : k < q
      · have hkn : (k : Int) < (q : Int) := by omega
        obtain ⟨b1, o1, sa, sc, rfl, hB1, hPk, _, ⟨c0, c1, c2, c3, c4, c5⟩, hS1⟩ := (HPQ.out _ HB.out).1.at hlt
        obtain ⟨b2, o2, sb, sd, rfl, hB2, hQk, _, ⟨e0, e1, e2, e3, e4, e5⟩, hS2⟩ := (HPQ.out _ HB.out).2.at hlt
        have HL := Lib.hid (HSP.out _ (List.mem_of_getElem? hPk))
        have HL2 := Lib.hid (HSQ.out _ (List.mem_of_getElem? hQk))
        have HS1 := Lib.hid hS1
        have HS2 := Lib.hid hS2
        have HST := Lib.hid (eqL_step evEqB z6 HR.out (by have := HN.out; omega) (by have := HM.out; omega))
        clear hS1 hS2 hPk hQk
        generalize P.getD k z6 = x at *
        generalize Q.getD k z6 = y at *
        obtain ⟨bar, v, d, t, tie, L⟩ := x
        obtain ⟨bar2, v2, d2, t2, tie2, M⟩ := y
        dsimp only at c0 c1 c2 c3 c4 c5 e0 e1 e2 e3 e4 e5 HL HL2 HS1 HS2
        have e0' := cell_same ((ba wr (evO bar v d t tie sa L.length sc)).block b2 hB2) e0
        have e1' := cell_same ((ba wr (evO bar v d t tie sa L.length sc)).block b2 hB2) e1
        have e2' := cell_same ((ba wr (evO bar v d t tie sa L.length sc)).block b2 hB2) e2
        have e3' := cell_same ((ba wr (evO bar v d t tie sa L.length sc)).block b2 hB2) e3
        have e4' := cell_same ((ba wr (evO bar v d t tie sa L.length sc)).block b2 hB2) e4
        have e5' := cell_same ((ba wr (evO bar v d t tie sa L.length sc)).block b2 hB2) e5
        have HCL := Lib.hid (sameEvent_any bar v d t tie sa L.length sc bar2 v2 d2 t2 tie2 sb M.length sd L M _ (HS1.out.below (bt (ba wr (evO bar v d t tie sa L.length sc)) (ba _ (evO bar2 v2 d2 t2 tie2 sb M.length sd)))) (HS2.out.below (bt (ba wr (evO bar v d t tie sa L.length sc)) (ba _ (evO bar2 v2 d2 t2 tie2 sb M.length sd)))) rfl rfl HL.out HL2.out)
        clear e0 e1 e2 e3 e4 e5
        generalize L.length = nl at *
        generalize M.length = ml at *
        cases hxy : evEqB ⟨bar, v, d, t, tie, L⟩ ⟨bar2, v2, d2, t2, tie2, M⟩ with
        | true =>
          have HS3 : Hid (eqL evEqB P Q = eqL evEqB (P.drop (k + 1)) (Q.drop (k + 1))) := by unfold Hid; rw [HST.out, hxy]; simp
          rw [hxy] at HCL
          clear hxy HST
          go_wp2_with (go_at_call 72; refine HCL.out.mono ?_; rintro e w2 ⟨rfl, hb2⟩)
          go_roundw
          case rel => exact ⟨k + 1, by omega, by first | rfl | go_num, HS3.out, bt HB.out (bx (bx hb2))⟩
          case measure => simp [intOf]; omega
        | false =>
          have HS3 : Hid (eqL evEqB P Q = false) := by unfold Hid; rw [HST.out, hxy]; simp
          rw [hxy] at HCL
          clear hxy HST
          go_wp2_with (go_at_call 72; refine HCL.out.mono ?_; rintro e w2 ⟨rfl, hb2⟩)
          go_ret
          exact ⟨ret_bool HS3.out.symm, bt HB.out (bx (bx hb2))⟩
      · have hkn : ¬ ((k : Int) < (q : Int)) := by omega
        have HT : Hid (eqL evEqB P Q = true) := by
          unfold Hid
          rw [HR.out, List.drop_of_length_le (by have := HN.out; omega), List.drop_of_length_le (by have := HM.out; omega)]
          rfl
        go_wp2_with (fail)
        go_ret
        exact ⟨ret_bool HT.out.symm, HB.out⟩
  · have HF := Lib.hid (eqL_len evEqB P Q (by have := hP.hq; have := hQ.hq; omega))
    have hnb : ((q : Int) == (r : Int)) = false := by simp; omega
    clear hP hQ hsp hsq
    go_enter Tryd.func70, Tryd.ntmps70
    go_wp2_with (fail)
    go_ret
    exact ⟨ret_bool HF.out.symm, Below.refl _ _⟩

def pcEqB (C : List Cr) (S : List Int) (P : List EvP) (D : List Cr) (U : List Int) (Q : List EvP) : Bool := sameB C S D U && eqL evEqB P Q
set_option maxRecDepth 100000 in
set_option maxHeartbeats 6400000 in
theorem pcSame_any (A : Option Addr) (n c : Nat) (A' : Option Addr) (m c' : Nat) (A2 : Option Addr) (q cq : Nat) (B : Option Addr) (n2 d : Nat) (B' : Option Addr) (m2 d' : Nat) (B2 : Option Addr) (q2 dq : Nat) (C : List Cr) (S : List Int) (P : List EvP) (D : List Cr) (U : List Int) (Q : List EvP) (w : World)
    (hP : PcIn w A n c A' m c' A2 q cq C S P) (hQ : PcIn w B n2 d B' m2 d' B2 q2 dq D U Q) (b1 : n ≤ 65536) (b2 : m ≤ 65536) (b3 : q ≤ 65536) (b4 : n2 ≤ 65536) (b5 : m2 ≤ 65536) (b6 : q2 ≤ 65536) (hsp : ∀ y ∈ P, y.L.length ≤ 1000000) (hsq : ∀ y ∈ Q, y.L.length ≤ 1000000) :
    Calls Tryd.prog 28 #[pcV A n c A' m c' A2 q cq, pcV B n2 d B' m2 d' B2 q2 dq] w fun e w' => e = .returned (.bool (pcEqB C S P D U Q)) ∧ Below w.heap.size w w' := by
  have HE : Hid (∀ w', Below ((w.alloc (pcO A n c A' m c' A2 q cq)).alloc (pcO B n2 d B' m2 d' B2 q2 dq)).heap.size ((w.alloc (pcO A n c A' m c' A2 q cq)).alloc (pcO B n2 d B' m2 d' B2 q2 dq)) w' → PcIn w' A n c A' m c' A2 q cq C S P ∧ PcIn w' B n2 d B' m2 d' B2 q2 dq D U Q) :=
    fun w' h => ⟨(hP.below (bt (ba _ _) (ba _ _))).below h, (hQ.below (bt (ba _ _) (ba _ _))).below h⟩
  have CI := Lib.hid (fun w' (h : PcIn w' A n c A' m c' A2 q cq C S P ∧ PcIn w' B n2 d B' m2 d' B2 q2 dq D U Q) => same_any A n c A' m c' B n2 d B' m2 d' C S D U w' h.1.crs h.1.stp h.2.crs h.2.stp h.1.hn h.1.hm h.2.hn h.2.hm b1 b2 b4 b5)
  have CF := Lib.hid (fun w' (h : PcIn w' A n c A' m c' A2 q cq C S P ∧ PcIn w' B n2 d B' m2 d' B2 q2 dq D U Q) => equalFuncS_any A2 q cq B2 q2 dq P Q w' h.1.es h.2.es b3 b6 hsp hsq)
  obtain ⟨p0, p1, p2⟩ := cell3 (ba (w.alloc (pcO A n c A' m c' A2 q cq)) (pcO B n2 d B' m2 d' B2 q2 dq))
  obtain ⟨r0, r1, r2⟩ := cell3 (Below.refl _ ((w.alloc (pcO A n c A' m c' A2 q cq)).alloc (pcO B n2 d B' m2 d' B2 q2 dq)))
  simp only [World.size_alloc] at r0 r1 r2
  unfold pcEqB
  clear hP hQ hsp hsq
  generalize eqL evEqB P Q = Y at *
  cases h1 : sameB C S D U with
  | true =>
    rw [h1] at CI
    clear h1
    go_enter Tryd.func28, Tryd.ntmps28
    go_wp2_with (first
      | (go_at_call 68; refine (CI.out _ (HE.out _ (Below.refl _ _))).mono ?_; rintro e w1 ⟨rfl, hb1⟩; obtain ⟨x0, x1, x2⟩ := cell3 (bt (ba _ _) hb1); obtain ⟨y0, y1, y2⟩ := cell3 hb1; simp only [World.size_alloc] at y0 y1 y2; have hz : w.heap.size + 1 < w1.heap.size := (by have := hb1.size; simp at this; omega))
      | (go_at_call 70; refine (CF.out _ (HE.out _ hb1)).mono ?_; rintro e w2 ⟨rfl, hb2⟩))
    go_ret
    exact ⟨rfl, bx (bx (bt hb1 hb2))⟩
  | false =>
    rw [h1] at CI
    clear h1
    go_enter Tryd.func28, Tryd.ntmps28
    go_wp2_with (go_at_call 68; refine (CI.out _ (HE.out _ (Below.refl _ _))).mono ?_; rintro e w1 ⟨rfl, hb1⟩)
    go_ret
    exact ⟨rfl, bx (bx hb1)⟩

end Go.Proofs.YtjobablfojnppaaDoor
