/- Pieces: Join of the program. -/
import Derived.Test.YtdhjigaocamglaaDoorQcJn1
import Derived.Test.YtdhjigaocamglaaDoorQcCopy
import Derived.Test.YtdhjigaocamglaaDoorQcPcLeaf
import Derived.Test.YtdhjigaocamglaaDoorQcOnsets
import Derived.BigQuiet
import Derived.Test.YtdhjigaocamglaaDoorQcPcMeas2
import Derived.Test.YtdhjigaocamglaaDoorQcRr2
namespace Go.Proofs.YtdhjigaocamglaaDoor
open Go Go.RowKit

attribute [local go_sem] Oper.semAt_some

end Go.Proofs.YtdhjigaocamglaaDoor

/- What slices.Equal returns at courses and at numbers: whether the two lists are one. -/
namespace Go.Proofs.YtdhjigaocamglaaDoor
open Go.RowKit

def crEqB (x y : Cr) : Bool := decide (x.p = y.p) && (decide (x.f = y.f) && (x.o == y.o))
def eqC : List Cr → List Cr → Bool
  | [], [] => true
  | x :: r, y :: s => crEqB x y && eqC r s
  | _, _ => false
def eqI : List Int → List Int → Bool
  | [], [] => true
  | x :: r, y :: s => decide (x = y) && eqI r s
  | _, _ => false
theorem eqC_len : ∀ (C D : List Cr), C.length ≠ D.length → eqC C D = false
  | [], [], h => absurd rfl h
  | [], _ :: _, _ => rfl
  | _ :: _, [], _ => rfl
  | x :: r, y :: s, h => by
    unfold eqC
    rw [eqC_len r s (by simpa using h)]
    simp
theorem eqI_len : ∀ (C D : List Int), C.length ≠ D.length → eqI C D = false
  | [], [], h => absurd rfl h
  | [], _ :: _, _ => rfl
  | _ :: _, [], _ => rfl
  | x :: r, y :: s, h => by
    unfold eqI
    rw [eqI_len r s (by simpa using h)]
    simp
theorem crEqB_no {p f p' f' : Int} {o o' : Bool} (hxy : crEqB ⟨p, f, o⟩ ⟨p', f', o'⟩ = false) : ¬ p = p' ∨ (p = p' ∧ ¬ f = f') ∨ (p = p' ∧ f = f' ∧ ¬ o = o') := by
  simp only [crEqB, Bool.and_eq_false_iff, decide_eq_false_iff_not, beq_eq_false_iff_ne] at hxy
  by_cases g1 : p = p'
  · by_cases g2 : f = f'
    · exact .inr (.inr ⟨g1, g2, by rcases hxy with h | h | h; exact absurd g1 h; exact absurd g2 h; exact h⟩)
    · exact .inr (.inl ⟨g1, g2⟩)
  · exact .inl g1
theorem crEqB_refl (x : Cr) : crEqB x x = true := by simp [crEqB]
theorem eqC_refl : ∀ C : List Cr, eqC C C = true
  | [] => rfl
  | x :: r => by unfold eqC; rw [crEqB_refl, eqC_refl r]; rfl
theorem eqI_refl : ∀ C : List Int, eqI C C = true
  | [] => rfl
  | x :: r => by unfold eqI; rw [eqI_refl r]; simp
theorem eqC_step {C D : List Cr} {k : Nat} (h : eqC C D = eqC (C.drop k) (D.drop k)) (h1 : k < C.length) (h2 : k < D.length) : eqC C D = (crEqB (C.getD k z0) (D.getD k z0) && eqC (C.drop (k + 1)) (D.drop (k + 1))) := by
  rw [h, drop_consC C k h1, drop_consC D k h2]; rfl
theorem eqI_step {C D : List Int} {k : Nat} (h : eqI C D = eqI (C.drop k) (D.drop k)) (h1 : k < C.length) (h2 : k < D.length) : eqI C D = (decide (C.getD k 0 = D.getD k 0) && eqI (C.drop (k + 1)) (D.drop (k + 1))) := by
  rw [h, drop_cons C k h1, drop_cons D k h2]; rfl

end Go.Proofs.YtdhjigaocamglaaDoor

/- What Same returns, the program's and the reference's: whether two instruments have the same courses and steps. -/
namespace Go.Proofs.YtdhjigaocamglaaDoor
open Go.RowKit

def sameB (C : List Cr) (S : List Int) (D : List Cr) (U : List Int) : Bool := eqC C D && eqI S U
theorem sameB_refl (C : List Cr) (S : List Int) : sameB C S C S = true := by simp [sameB, eqC_refl, eqI_refl]

/-- Two instruments as arguments: their two blocks, in whatever world lies above them. -/
theorem args2i {w : World} {A : Option Addr} {n c : Nat} {A' : Option Addr} {m c' : Nat} {B : Option Addr} {n2 d : Nat} {B' : Option Addr} {m2 d' : Nat} {w' : World}
    (h : Below ((w.alloc (iObj A n c A' m c')).alloc (iObj B n2 d B' m2 d')).heap.size ((w.alloc (iObj A n c A' m c')).alloc (iObj B n2 d B' m2 d')) w') :
    w'.cell? ⟨w.heap.size, 0, none⟩ = some (.slice A n c) ∧ w'.cell? ⟨w.heap.size, 1, none⟩ = some (.slice A' m c') ∧ w'.cell? ⟨w.heap.size + 1, 0, none⟩ = some (.slice B n2 d) ∧ w'.cell? ⟨w.heap.size + 1, 1, none⟩ = some (.slice B' m2 d') ∧
      w.heap.size + 1 < w'.heap.size ∧ Below ((w.alloc (iObj A n c A' m c')).alloc (iObj B n2 d B' m2 d')).heap.size ((w.alloc (iObj A n c A' m c')).alloc (iObj B n2 d B' m2 d')) w' := by
  obtain ⟨c0, _⟩ := keepb (bt (ba _ _) h) 0
  obtain ⟨c1, _⟩ := keepb (bt (ba _ _) h) 1
  obtain ⟨d0, _⟩ := keepb h 0
  obtain ⟨d1, _⟩ := keepb h 1
  have hz := h.size
  simp at c0 c1 d0 d1 hz
  exact ⟨c0, c1, d0, d1, by omega, h⟩

set_option maxRecDepth 100000 in
set_option maxHeartbeats 16000000 in
theorem rsame_any (A : Option Addr) (n c : Nat) (A' : Option Addr) (m c' : Nat) (B : Option Addr) (n2 d : Nat) (B' : Option Addr) (m2 d' : Nat) (C : List Cr) (S : List Int) (D : List Cr) (U : List Int) (w : World)
    (hC : Sl w w.heap.size 3 A n c (crC C)) (hS : Sl w w.heap.size 1 A' m c' (intC S)) (hD : Sl w w.heap.size 3 B n2 d (crC D)) (hU : Sl w w.heap.size 1 B' m2 d' (intC U))
    (hn : n = C.length) (hm : m = S.length) (hn2 : n2 = D.length) (hm2 : m2 = U.length) (b1 : n ≤ 65536) (b2 : m ≤ 65536) (b3 : n2 ≤ 65536) (b4 : m2 ≤ 65536) :
    Calls Tryd.prog 28 #[.agg #[.slice A n c, .slice A' m c'], .agg #[.slice B n2 d, .slice B' m2 d']] w fun e w' => e = .returned (.bool (sameB C S D U)) ∧ Below w.heap.size w w' := by
  have HE : Hid (∀ w', Below ((w.alloc (iObj A n c A' m c')).alloc (iObj B n2 d B' m2 d')).heap.size ((w.alloc (iObj A n c A' m c')).alloc (iObj B n2 d B' m2 d')) w' →
      Sl w' w'.heap.size 3 A n c (crC C) ∧ Sl w' w'.heap.size 1 A' m c' (intC S) ∧ Sl w' w'.heap.size 3 B n2 d (crC D) ∧ Sl w' w'.heap.size 1 B' m2 d' (intC U) ∧ Below w.heap.size w w') :=
    fun w' h => ⟨((hC.below (ba _ _)).below (ba _ _)).below h, ((hS.below (ba _ _)).below (ba _ _)).below h, ((hD.below (ba _ _)).below (ba _ _)).below h, ((hU.below (ba _ _)).below (ba _ _)).below h, bx (bt (ba _ _) h)⟩
  clear hC hS hD hU
  by_cases h1 : n = n2
  · by_cases h2 : m = m2
    · subst h1 h2
      have HN := Lib.hid hn
      have HM := Lib.hid hm
      have HN2 := Lib.hid hn2
      have HM2 := Lib.hid hm2
      have HSB : Hid (sameB C S D U = (eqC C D && eqI S U)) := rfl
      clear hn hm hn2 hm2
      go_enter Tryd.func28, Tryd.ntmps28
      go_wp2_with (fail)
      go_loopw [5] (fun i wr => ∃ k : Nat, k ≤ n ∧ i = .int .i64 k ∧ eqC C D = eqC (C.drop k) (D.drop k) ∧ Below ((w.alloc (iObj A n c A' m c')).alloc (iObj B n d B' m d')).heap.size ((w.alloc (iObj A n c A' m c')).alloc (iObj B n d B' m d')) wr) (fun i _ => n - (intOf i).toNat)
      case atStart => exact ⟨0, by omega, rfl, rfl, Below.refl _ _⟩
      case round =>
        obtain ⟨k, hk, rfl, hr, hbw⟩ := hrel
        have HR := Lib.hid hr
        have HBW := Lib.hid hbw
        obtain ⟨q0, q1, q2, q3, hz, _⟩ := args2i hbw
        clear hr
        by_cases hlt : k < n
        · have hkn : (k : Int) < (n : Int) := by omega
          obtain ⟨b1, o1, hA1, hB1, hc1⟩ := (HE.out _ hbw).1.2.2 (by omega)
          obtain ⟨b2, o2, hA2, hB2, hc2⟩ := (HE.out _ hbw).2.2.1.2.2 (by omega)
          subst hA1 hA2
          obtain ⟨i0, i1, i2⟩ := crC_at C k (by have := HN.out; omega)
          obtain ⟨j0, j1, j2⟩ := crC_at D k (by have := HN2.out; omega)
          have a0 := hc1 _ _ i0
          have a1 := hc1 _ _ i1
          have a2 := hc1 _ _ i2
          have b0 := hc2 _ _ j0
          have b1' := hc2 _ _ j1
          have b2' := hc2 _ _ j2
          rw [← Nat.add_assoc] at a1 a2 b1' b2'
          have HS := Lib.hid (eqC_step HR.out (by have := HN.out; omega) (by have := HN2.out; omega))
          clear hc1 hc2 i0 i1 i2 j0 j1 j2 hbw
          generalize C.getD k z0 = x at *
          generalize D.getD k z0 = y at *
          obtain ⟨p, f, o⟩ := x
          obtain ⟨p', f', o'⟩ := y
          dsimp only at a0 a1 a2 b0 b1' b2'
          cases hxy : crEqB ⟨p, f, o⟩ ⟨p', f', o'⟩ with
          | true =>
            have h3 : p = p' ∧ f = f' ∧ o = o' := by simpa [crEqB] using hxy
            obtain ⟨rfl, rfl, rfl⟩ := h3
            have HS2 : Hid (eqC C D = eqC (C.drop (k + 1)) (D.drop (k + 1))) := by unfold Hid; rw [HS.out, hxy]; simp
            clear hxy
            go_wp2_with (fail)
            go_quiet (fail)
            go_wp2_with (fail)
            go_roundw
            case rel => exact ⟨k + 1, by omega, by go_num, HS2.out, bd HBW.out _⟩
            case measure => simp [intOf]; omega
          | false =>
            have HS2 : Hid (sameB C S D U = false) := by unfold Hid; rw [HSB.out, HS.out, hxy]; simp
            have h3 := crEqB_no hxy
            clear hxy
            rcases h3 with h3 | ⟨rfl, h3⟩ | ⟨rfl, rfl, h3⟩
            · have hxb : (p == p') = false := by simpa using h3
              go_wp2_with (fail)
              go_quiet (fail)
              go_wp2_with (fail)
              go_ret
              exact ⟨ret_bool HS2.out.symm, (HE.out _ (bd HBW.out _)).2.2.2.2⟩
            · have hxb : (f == f') = false := by simpa using h3
              go_wp2_with (fail)
              go_quiet (fail)
              go_wp2_with (fail)
              go_ret
              exact ⟨ret_bool HS2.out.symm, (HE.out _ (bd HBW.out _)).2.2.2.2⟩
            · have hxb : (o == o') = false := by simpa using h3
              go_wp2_with (fail)
              go_quiet (fail)
              go_wp2_with (fail)
              go_ret
              exact ⟨ret_bool HS2.out.symm, (HE.out _ (bd HBW.out _)).2.2.2.2⟩
        · have hkn : ¬ ((k : Int) < (n : Int)) := by omega
          have HT : Hid (sameB C S D U = eqI S U) := by
            unfold Hid
            rw [HSB.out, HR.out, List.drop_of_length_le (by have := HN.out; omega), List.drop_of_length_le (by have := HN2.out; omega)]
            rfl
          clear HSB HR hbw
          go_wp2_with (fail)
          go_loopw [6] (fun i wr => ∃ k : Nat, k ≤ m ∧ i = .int .i64 k ∧ eqI S U = eqI (S.drop k) (U.drop k) ∧ Below ((w.alloc (iObj A n c A' m c')).alloc (iObj B n d B' m d')).heap.size ((w.alloc (iObj A n c A' m c')).alloc (iObj B n d B' m d')) wr) (fun i _ => m - (intOf i).toNat)
          case atStart => exact ⟨0, by omega, rfl, rfl, HBW.out⟩
          case round =>
            obtain ⟨k2, hk2, rfl, hr, hbw⟩ := hrel
            have HR := Lib.hid hr
            have HBX := Lib.hid hbw
            clear q0 q1 q2 q3 hz
            obtain ⟨q0, q1, q2, q3, hz, _⟩ := args2i hbw
            clear hr
            by_cases hlt2 : k2 < m
            · have hkm : (k2 : Int) < (m : Int) := by omega
              obtain ⟨b1, o1, hA1, hB1, hc1⟩ := (HE.out _ hbw).2.1.2.2 (by omega)
              obtain ⟨b2, o2, hA2, hB2, hc2⟩ := (HE.out _ hbw).2.2.2.1.2.2 (by omega)
              subst hA1 hA2
              have a0 := hc1 _ _ (intC_at S k2 (by have := HM.out; omega))
              have b0 := hc2 _ _ (intC_at U k2 (by have := HM2.out; omega))
              have HS := Lib.hid (eqI_step HR.out (by have := HM.out; omega) (by have := HM2.out; omega))
              clear hc1 hc2 hbw
              generalize S.getD k2 0 = x at *
              generalize U.getD k2 0 = y at *
              by_cases hxy : x = y
              · subst hxy
                have HS2 : Hid (eqI S U = eqI (S.drop (k2 + 1)) (U.drop (k2 + 1))) := by unfold Hid; rw [HS.out]; simp
                go_wp2_with (fail)
                go_quiet (fail)
                go_wp2_with (fail)
                go_roundw
                case rel => exact ⟨k2 + 1, by omega, by go_num, HS2.out, bd HBX.out _⟩
                case measure => simp [intOf]; omega
              · have HS2 : Hid (sameB C S D U = false) := by unfold Hid; rw [HT.out, HS.out]; simp [hxy]
                have hxb : (x == y) = false := by simpa using hxy
                go_wp2_with (fail)
                go_quiet (fail)
                go_wp2_with (fail)
                go_ret
                exact ⟨ret_bool HS2.out.symm, (HE.out _ (bd HBX.out _)).2.2.2.2⟩
            · have hkm : ¬ ((k2 : Int) < (m : Int)) := by omega
              have HT2 : Hid (sameB C S D U = true) := by
                unfold Hid
                rw [HT.out, HR.out, List.drop_of_length_le (by have := HM.out; omega), List.drop_of_length_le (by have := HM2.out; omega)]
                rfl
              clear hbw
              go_wp2_with (fail)
              go_ret
              exact ⟨ret_bool HT2.out.symm, (HE.out _ HBX.out).2.2.2.2⟩
    · have HF : Hid (sameB C S D U = false) := by unfold Hid sameB; rw [eqI_len S U (by omega)]; simp
      have hnb : ((n : Int) == (n2 : Int)) = true := by simp; omega
      have hmb : ((m : Int) == (m2 : Int)) = false := by simp; omega
      subst h1
      clear hn hm hn2 hm2 h2
      go_enter Tryd.func28, Tryd.ntmps28
      go_wp2_with (fail)
      go_ret
      exact ⟨ret_bool HF.out.symm, balA (ba _ _) _⟩
  · have HF : Hid (sameB C S D U = false) := by unfold Hid sameB; rw [eqC_len C D (by omega)]; simp
    have hnb : ((n : Int) == (n2 : Int)) = false := by simp; omega
    clear hn hm hn2 hm2 h1
    go_enter Tryd.func28, Tryd.ntmps28
    go_wp2_with (fail)
    go_ret
    exact ⟨ret_bool HF.out.symm, balA (ba _ _) _⟩

end Go.Proofs.YtdhjigaocamglaaDoor

/- Pieces: when two are the same (piece.Same): stops, events, pieces compared, for any two. -/
namespace Go.Proofs.YtdhjigaocamglaaDoor
open Go Go.RowKit

def eqL {α : Type} (f : α → α → Bool) : List α → List α → Bool
  | [], [] => true
  | x :: r, y :: s => f x y && eqL f r s
  | _, _ => false
theorem eqL_len {α : Type} (f : α → α → Bool) : ∀ (C D : List α), C.length ≠ D.length → eqL f C D = false
  | [], [], h => absurd rfl h
  | [], _ :: _, _ => rfl
  | _ :: _, [], _ => rfl
  | x :: r, y :: s, h => by
    unfold eqL
    rw [eqL_len f r s (by simpa using h)]
    simp
theorem eqL_refl {α : Type} {f : α → α → Bool} (h : ∀ x, f x x = true) : ∀ C : List α, eqL f C C = true
  | [] => rfl
  | x :: r => by unfold eqL; rw [h, eqL_refl h r]; rfl
theorem drop_consL {α : Type} (z : α) (L : List α) (k : Nat) (h : k < L.length) : L.drop k = L.getD k z :: L.drop (k + 1) := by
  rw [List.drop_eq_getElem_cons h]; simp [List.getElem?_eq_getElem h]
def stEqB (a b : St) : Bool := decide (a.c = b.c) && (decide (a.f = b.f) && (decide (a.r = b.r) && (decide (a.g = b.g) && decide (a.h = b.h))))
def evEqB (x y : EvP) : Bool := (x.bar == y.bar) && (decide (x.v = y.v) && ((x.d == y.d) && ((x.t == y.t) && ((x.tie == y.tie) && eqL stEqB x.L y.L))))
theorem stEqB_refl (x : St) : stEqB x x = true := by simp [stEqB]
theorem evEqB_refl (x : EvP) : evEqB x x = true := by simp [evEqB, eqL_refl stEqB_refl]
end Go.Proofs.YtdhjigaocamglaaDoor

/- Pieces: piece.Same, for any two pieces. -/
namespace Go.Proofs.YtdhjigaocamglaaDoor
open Go Go.RowKit

def pcEqB (C : List Cr) (S : List Int) (P : List EvP) (D : List Cr) (U : List Int) (Q : List EvP) : Bool := sameB C S D U && eqL evEqB P Q
end Go.Proofs.YtdhjigaocamglaaDoor

/- Pieces: the reference's Augment. -/
namespace Go.Proofs.YtdhjigaocamglaaDoor
open Go Go.RowKit

/-- What a reference's loop over its own copy keeps. -/
structure RpA (w : World) (b qb rb : Nat) (A : Option Addr) (n c : Nat) (A' : Option Addr) (m c' : Nat) (A2 : Option Addr) (q cq : Nat) (C : List Cr) (S : List Int) (P : List EvP) (wr : World) : Prop where
  pc : ∃ E, PcOE wr b A n c A' m c' A2 q cq C S P E
  qx : Blk wr qb 28 #[.slice A n c, .slice A' m c', .slice A2 q cq]
  rs : Blk wr rb 28 #[.slice none 0 0, .slice none 0 0, .slice none 0 0]
  lo : Below w.heap.size w wr
end Go.Proofs.YtdhjigaocamglaaDoor
