/- What slices.Equal returns at courses and at numbers: whether the two lists are one. -/
import Derived.Test.YtbjmlbmkfgocdaaDoorCopy
namespace Go.Proofs.YtbjmlbmkfgocdaaDoor
open Go.RowKit

def crEqB (x y : Cr) : Bool := decide (x.p = y.p) && (decide (x.f = y.f) && (x.o == y.o))
def eqC : List Cr → List Cr → Bool
  | [], [] => true
  | x :: r, y :: s => crEqB x y && eqC r s
  | _, _ => false
def eqI : List Int → List Int → Bool
  | [], [] => true
  | x :: r, y :: s => decide (x = y) && eqI r s
  | _, _ => false
theorem eqC_len : ∀ (C D : List Cr), C.length ≠ D.length → eqC C D = false
  | [], [], h => absurd rfl h
  | [], _ :: _, _ => rfl
  | _ :: _, [], _ => rfl
  | x :: r, y :: s, h => by
    unfold eqC
    rw [eqC_len r s (by simpa using h)]
    simp
theorem eqI_len : ∀ (C D : List Int), C.length ≠ D.length → eqI C D = false
  | [], [], h => absurd rfl h
  | [], _ :: _, _ => rfl
  | _ :: _, [], _ => rfl
  | x :: r, y :: s, h => by
    unfold eqI
    rw [eqI_len r s (by simpa using h)]
    simp
theorem crEqB_no {p f p' f' : Int} {o o' : Bool} (hxy : crEqB ⟨p, f, o⟩ ⟨p', f', o'⟩ = false) : ¬ p = p' ∨ (p = p' ∧ ¬ f = f') ∨ (p = p' ∧ f = f' ∧ ¬ o = o') := by
  simp only [crEqB, Bool.and_eq_false_iff, decide_eq_false_iff_not, beq_eq_false_iff_ne] at hxy
  by_cases g1 : p = p'
  · by_cases g2 : f = f'
    · exact .inr (.inr ⟨g1, g2, by rcases hxy with h | h | h; exact absurd g1 h; exact absurd g2 h; exact h⟩)
    · exact .inr (.inl ⟨g1, g2⟩)
  · exact .inl g1
theorem crEqB_refl (x : Cr) : crEqB x x = true := by simp [crEqB]
theorem eqC_refl : ∀ C : List Cr, eqC C C = true
  | [] => rfl
  | x :: r => by unfold eqC; rw [crEqB_refl, eqC_refl r]; rfl
theorem eqI_refl : ∀ C : List Int, eqI C C = true
  | [] => rfl
  | x :: r => by unfold eqI; rw [eqI_refl r]; simp
theorem eqC_step {C D : List Cr} {k : Nat} (h : eqC C D = eqC (C.drop k) (D.drop k)) (h1 : k < C.length) (h2 : k < D.length) : eqC C D = (crEqB (C.getD k z0) (D.getD k z0) && eqC (C.drop (k + 1)) (D.drop (k + 1))) := by
  rw [h, drop_consC C k h1, drop_consC D k h2]; rfl
theorem eqI_step {C D : List Int} {k : Nat} (h : eqI C D = eqI (C.drop k) (D.drop k)) (h1 : k < C.length) (h2 : k < D.length) : eqI C D = (decide (C.getD k 0 = D.getD k 0) && eqI (C.drop (k + 1)) (D.drop (k + 1))) := by
  rw [h, drop_cons C k h1, drop_cons D k h2]; rfl

set_option maxHeartbeats 1600000 in
theorem equalI_any (A B : Option Addr) (n c m d : Nat) (C D : List Int) (w : World) (hA : Sl w w.heap.size 1 A n c (intC C)) (hB : Sl w w.heap.size 1 B m d (intC D)) (hn : n = C.length) (hm : m = D.length) (hb : n ≤ 9223372036854775807) (hb2 : m ≤ 9223372036854775807) :
    Calls Tryd.prog 62 #[.slice A n c, .slice B m d] w fun e w' => e = .returned (.bool (eqI C D)) ∧ Below w.heap.size w w' := by
  by_cases hnm : n = m
  · subst hnm
    have HN := Lib.hid hn
    have HM := Lib.hid hm
    clear hn hm
    go_enter Tryd.func62, Tryd.ntmps62
    go_wp2_with (fail)
    go_loopw [13, 5] (fun i _ wr => ∃ k : Nat, k ≤ n ∧ i = .int .i64 k ∧ eqI C D = eqI (C.drop k) (D.drop k) ∧ Below w.heap.size w wr) (fun i _ _ => n - (intOf i).toNat)
    case atStart => exact ⟨0, by omega, rfl, rfl, Below.refl _ _⟩
    case round =>
      obtain ⟨k, hk, rfl, hr, hbw⟩ := hrel
      have HR := Lib.hid hr
      clear hr
      by_cases hlt : k < n
      · have hkn : (k : Int) < (n : Int) := by omega
        obtain ⟨b1, o1, hA1, hB1, hc1⟩ := (hA.below hbw).2.2 (by omega)
        obtain ⟨b2, o2, hA2, hB2, hc2⟩ := (hB.below hbw).2.2 (by omega)
        subst hA1 hA2
        have a0 : wr.cell? ⟨b1, o1 + k, none⟩ = _ := hc1 _ _ (intC_at C k (by have := HN.out; omega))
        have b0 : wr.cell? ⟨b2, o2 + k, none⟩ = _ := hc2 _ _ (intC_at D k (by have := HM.out; omega))
        have HS := Lib.hid (eqI_step HR.out (by have := HN.out; omega) (by have := HM.out; omega))
        clear hc1 hc2 hA hB
        generalize C.getD k 0 = x at *
        generalize D.getD k 0 = y at *
        by_cases hxy : x = y
        · subst hxy
          have HS2 : Hid (eqI C D = eqI (C.drop (k + 1)) (D.drop (k + 1))) := by unfold Hid; rw [HS.out]; simp
          go_wp2_with (fail)
          go_quiet (fail)
          go_wp2_with (fail)
          go_roundw
          case rel => exact ⟨k + 1, by omega, by go_num, HS2.out, bd hbw _⟩
          case measure => simp [intOf]; omega
        · have HS2 : Hid (eqI C D = false) := by unfold Hid; rw [HS.out]; simp [hxy]
          have hxb : (x == y) = false := by simpa using hxy
          go_wp2_with (fail)
          go_quiet (fail)
          go_wp2_with (fail)
          go_ret
          exact ⟨ret_bool HS2.out.symm, bd hbw _⟩
      · have hkn : ¬ ((k : Int) < (n : Int)) := by omega
        have HT : Hid (eqI C D = true) := by
          unfold Hid
          rw [HR.out, List.drop_of_length_le (by have := HN.out; omega), List.drop_of_length_le (by have := HM.out; omega)]
          rfl
        go_wp2_with (fail)
        go_ret
        exact ⟨ret_bool HT.out.symm, hbw⟩
  · have HF := Lib.hid (eqI_len C D (by omega))
    have hnb : ((n : Int) == (m : Int)) = false := by simp; omega
    clear hA hB hn hm
    go_enter Tryd.func62, Tryd.ntmps62
    go_wp2_with (fail)
    go_ret
    exact ⟨ret_bool HF.out.symm, Below.refl _ _⟩

set_option maxHeartbeats 3200000 in
theorem equalC_any (A B : Option Addr) (n c m d : Nat) (C D : List Cr) (w : World) (hA : Sl w w.heap.size 3 A n c (crC C)) (hB : Sl w w.heap.size 3 B m d (crC D)) (hn : n = C.length) (hm : m = D.length) (hb : n ≤ 9223372036854775807) (hb2 : m ≤ 9223372036854775807) :
    Calls Tryd.prog 61 #[.slice A n c, .slice B m d] w fun e w' => e = .returned (.bool (eqC C D)) ∧ Below w.heap.size w w' := by
  by_cases hnm : n = m
  · subst hnm
    have HN := Lib.hid hn
    have HM := Lib.hid hm
    clear hn hm
    go_enter Tryd.func61, Tryd.ntmps61
    go_wp2_with (fail)
    go_loopw [13, 5] (fun i _ wr => ∃ k : Nat, k ≤ n ∧ i = .int .i64 k ∧ eqC C D = eqC (C.drop k) (D.drop k) ∧ Below w.heap.size w wr) (fun i _ _ => n - (intOf i).toNat)
    case atStart => exact ⟨0, by omega, rfl, rfl, Below.refl _ _⟩
    case round =>
      obtain ⟨k, hk, rfl, hr, hbw⟩ := hrel
      have HR := Lib.hid hr
      clear hr
      by_cases hlt : k < n
      · have hkn : (k : Int) < (n : Int) := by omega
        obtain ⟨b1, o1, hA1, hB1, hc1⟩ := (hA.below hbw).2.2 (by omega)
        obtain ⟨b2, o2, hA2, hB2, hc2⟩ := (hB.below hbw).2.2 (by omega)
        subst hA1 hA2
        obtain ⟨i0, i1, i2⟩ := crC_at C k (by have := HN.out; omega)
        obtain ⟨j0, j1, j2⟩ := crC_at D k (by have := HM.out; omega)
        have a0 : wr.cell? ⟨b1, o1 + k * 3, none⟩ = _ := hc1 _ _ i0
        have a1 : wr.cell? ⟨b1, o1 + (k * 3 + 1), none⟩ = _ := hc1 _ _ i1
        have a2 : wr.cell? ⟨b1, o1 + (k * 3 + 2), none⟩ = _ := hc1 _ _ i2
        have b0 : wr.cell? ⟨b2, o2 + k * 3, none⟩ = _ := hc2 _ _ j0
        have b1' : wr.cell? ⟨b2, o2 + (k * 3 + 1), none⟩ = _ := hc2 _ _ j1
        have b2' : wr.cell? ⟨b2, o2 + (k * 3 + 2), none⟩ = _ := hc2 _ _ j2
        rw [← Nat.add_assoc] at a1 a2 b1' b2'
        have HS := Lib.hid (eqC_step HR.out (by have := HN.out; omega) (by have := HM.out; omega))
        clear hc1 hc2 hA hB i0 i1 i2 j0 j1 j2
        generalize C.getD k z0 = x at *
        generalize D.getD k z0 = y at *
        obtain ⟨p, f, o⟩ := x
        obtain ⟨p', f', o'⟩ := y
        dsimp only at a0 a1 a2 b0 b1' b2'
        cases hxy : crEqB ⟨p, f, o⟩ ⟨p', f', o'⟩ with
        | true =>
          have h3 : p = p' ∧ f = f' ∧ o = o' := by simpa [crEqB] using hxy
          obtain ⟨rfl, rfl, rfl⟩ := h3
          have HS2 : Hid (eqC C D = eqC (C.drop (k + 1)) (D.drop (k + 1))) := by unfold Hid; rw [HS.out, hxy]; simp
          clear hxy
          go_wp2_with (fail)
          go_quiet (fail)
          go_wp2_with (fail)
          go_roundw
          case rel => exact ⟨k + 1, by omega, by go_num, HS2.out, bd hbw _⟩
          case measure => simp [intOf]; omega
        | false =>
          have HS2 : Hid (eqC C D = false) := by unfold Hid; rw [HS.out, hxy]; simp
          have h3 : ¬ p = p' ∨ (p = p' ∧ ¬ f = f') ∨ (p = p' ∧ f = f' ∧ ¬ o = o') := by
            simp only [crEqB, Bool.and_eq_false_iff, decide_eq_false_iff_not, beq_eq_false_iff_ne] at hxy
            by_cases g1 : p = p'
            · by_cases g2 : f = f'
              · exact .inr (.inr ⟨g1, g2, by rcases hxy with h | h | h; exact absurd g1 h; exact absurd g2 h; exact h⟩)
              · exact .inr (.inl ⟨g1, g2⟩)
            · exact .inl g1
          clear hxy
          rcases h3 with h3 | ⟨rfl, h3⟩ | ⟨rfl, rfl, h3⟩
          · have hxb : (p == p') = false := by simpa using h3
            go_wp2_with (fail)
            go_quiet (fail)
            go_wp2_with (fail)
            go_ret
            exact ⟨ret_bool HS2.out.symm, bd hbw _⟩
          · have hxb : (f == f') = false := by simpa using h3
            go_wp2_with (fail)
            go_quiet (fail)
            go_wp2_with (fail)
            go_ret
            exact ⟨ret_bool HS2.out.symm, bd hbw _⟩
          · have hxb : (o == o') = false := by simpa using h3
            go_wp2_with (fail)
            go_quiet (fail)
            go_wp2_with (fail)
            go_ret
            exact ⟨ret_bool HS2.out.symm, bd hbw _⟩
      · have hkn : ¬ ((k : Int) < (n : Int)) := by omega
        have HT : Hid (eqC C D = true) := by
          unfold Hid
          rw [HR.out, List.drop_of_length_le (by have := HN.out; omega), List.drop_of_length_le (by have := HM.out; omega)]
          rfl
        go_wp2_with (fail)
        go_ret
        exact ⟨ret_bool HT.out.symm, hbw⟩
  · have HF := Lib.hid (eqC_len C D (by omega))
    have hnb : ((n : Int) == (m : Int)) = false := by simp; omega
    clear hA hB hn hm
    go_enter Tryd.func61, Tryd.ntmps61
    go_wp2_with (fail)
    go_ret
    exact ⟨ret_bool HF.out.symm, Below.refl _ _⟩

end Go.Proofs.YtbjmlbmkfgocdaaDoor
