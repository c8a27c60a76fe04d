/- What slices.Equal returns at courses and at numbers: whether the two lists are one. -/
import Derived.Test.YtcebpgcmmdfccaaCopy
import Derived.Test.YtcebpgcmmdfccaaPc
import Derived.Deep.RegionHeld3
namespace Go.Proofs.Ytcebpgcmmdfccaa
open Go.RowKit

def crEqB (x y : Cr) : Bool := decide (x.p = y.p) && (decide (x.f = y.f) && (x.o == y.o))
def eqC : List Cr → List Cr → Bool
  | [], [] => true
  | x :: r, y :: s => crEqB x y && eqC r s
  | _, _ => false
def eqI : List Int → List Int → Bool
  | [], [] => true
  | x :: r, y :: s => decide (x = y) && eqI r s
  | _, _ => false
theorem eqC_len : ∀ (C D : List Cr), C.length ≠ D.length → eqC C D = false
  | [], [], h => absurd rfl h
  | [], _ :: _, _ => rfl
  | _ :: _, [], _ => rfl
  | x :: r, y :: s, h => by
    unfold eqC
    rw [eqC_len r s (by simpa using h)]
    simp
theorem eqI_len : ∀ (C D : List Int), C.length ≠ D.length → eqI C D = false
  | [], [], h => absurd rfl h
  | [], _ :: _, _ => rfl
  | _ :: _, [], _ => rfl
  | x :: r, y :: s, h => by
    unfold eqI
    rw [eqI_len r s (by simpa using h)]
    simp
theorem crEqB_no {p f p' f' : Int} {o o' : Bool} (hxy : crEqB ⟨p, f, o⟩ ⟨p', f', o'⟩ = false) : ¬ p = p' ∨ (p = p' ∧ ¬ f = f') ∨ (p = p' ∧ f = f' ∧ ¬ o = o') := by
  simp only [crEqB, Bool.and_eq_false_iff, decide_eq_false_iff_not, beq_eq_false_iff_ne] at hxy
  by_cases g1 : p = p'
  · by_cases g2 : f = f'
    · exact .inr (.inr ⟨g1, g2, by rcases hxy with h | h | h; exact absurd g1 h; exact absurd g2 h; exact h⟩)
    · exact .inr (.inl ⟨g1, g2⟩)
  · exact .inl g1
theorem crEqB_refl (x : Cr) : crEqB x x = true := by simp [crEqB]
theorem eqC_refl : ∀ C : List Cr, eqC C C = true
  | [] => rfl
  | x :: r => by unfold eqC; rw [crEqB_refl, eqC_refl r]; rfl
theorem eqI_refl : ∀ C : List Int, eqI C C = true
  | [] => rfl
  | x :: r => by unfold eqI; rw [eqI_refl r]; simp
theorem eqC_step {C D : List Cr} {k : Nat} (h : eqC C D = eqC (C.drop k) (D.drop k)) (h1 : k < C.length) (h2 : k < D.length) : eqC C D = (crEqB (C.getD k z0) (D.getD k z0) && eqC (C.drop (k + 1)) (D.drop (k + 1))) := by
  rw [h, drop_consC C k h1, drop_consC D k h2]; rfl
theorem eqI_step {C D : List Int} {k : Nat} (h : eqI C D = eqI (C.drop k) (D.drop k)) (h1 : k < C.length) (h2 : k < D.length) : eqI C D = (decide (C.getD k 0 = D.getD k 0) && eqI (C.drop (k + 1)) (D.drop (k + 1))) := by
  rw [h, drop_cons C k h1, drop_cons D k h2]; rfl

end Go.Proofs.Ytcebpgcmmdfccaa

/- What Same returns, the program's and the reference's: whether two instruments have the same courses and steps. -/
namespace Go.Proofs.Ytcebpgcmmdfccaa
open Go.RowKit

def sameB (C : List Cr) (S : List Int) (D : List Cr) (U : List Int) : Bool := eqC C D && eqI S U
theorem sameB_refl (C : List Cr) (S : List Int) : sameB C S C S = true := by simp [sameB, eqC_refl, eqI_refl]

/-- Two instruments as arguments: their two blocks, in whatever world lies above them. -/
theorem args2i {w : World} {A : Option Addr} {n c : Nat} {A' : Option Addr} {m c' : Nat} {B : Option Addr} {n2 d : Nat} {B' : Option Addr} {m2 d' : Nat} {w' : World}
    (h : Below ((w.alloc (iObj A n c A' m c')).alloc (iObj B n2 d B' m2 d')).heap.size ((w.alloc (iObj A n c A' m c')).alloc (iObj B n2 d B' m2 d')) w') :
    w'.cell? ⟨w.heap.size, 0, none⟩ = some (.slice A n c) ∧ w'.cell? ⟨w.heap.size, 1, none⟩ = some (.slice A' m c') ∧ w'.cell? ⟨w.heap.size + 1, 0, none⟩ = some (.slice B n2 d) ∧ w'.cell? ⟨w.heap.size + 1, 1, none⟩ = some (.slice B' m2 d') ∧
      w.heap.size + 1 < w'.heap.size ∧ Below ((w.alloc (iObj A n c A' m c')).alloc (iObj B n2 d B' m2 d')).heap.size ((w.alloc (iObj A n c A' m c')).alloc (iObj B n2 d B' m2 d')) w' := by
  obtain ⟨c0, _⟩ := keepb (bt (ba _ _) h) 0
  obtain ⟨c1, _⟩ := keepb (bt (ba _ _) h) 1
  obtain ⟨d0, _⟩ := keepb h 0
  obtain ⟨d1, _⟩ := keepb h 1
  have hz := h.size
  simp at c0 c1 d0 d1 hz
  exact ⟨c0, c1, d0, d1, by omega, h⟩

set_option maxRecDepth 100000 in
set_option maxHeartbeats 16000000 in
theorem rsame_any (A : Option Addr) (n c : Nat) (A' : Option Addr) (m c' : Nat) (B : Option Addr) (n2 d : Nat) (B' : Option Addr) (m2 d' : Nat) (C : List Cr) (S : List Int) (D : List Cr) (U : List Int) (w : World)
    (hC : Sl w w.heap.size 3 A n c (crC C)) (hS : Sl w w.heap.size 1 A' m c' (intC S)) (hD : Sl w w.heap.size 3 B n2 d (crC D)) (hU : Sl w w.heap.size 1 B' m2 d' (intC U))
    (hn : n = C.length) (hm : m = S.length) (hn2 : n2 = D.length) (hm2 : m2 = U.length) (b1 : n ≤ 65536) (b2 : m ≤ 65536) (b3 : n2 ≤ 65536) (b4 : m2 ≤ 65536) :
    Calls Try.prog 53 #[.agg #[.slice A n c, .slice A' m c'], .agg #[.slice B n2 d, .slice B' m2 d']] w fun e w' => e = .returned (.bool (sameB C S D U)) ∧ Below w.heap.size w w' := by
  have HE : Hid (∀ w', Below ((w.alloc (iObj A n c A' m c')).alloc (iObj B n2 d B' m2 d')).heap.size ((w.alloc (iObj A n c A' m c')).alloc (iObj B n2 d B' m2 d')) w' →
      Sl w' w'.heap.size 3 A n c (crC C) ∧ Sl w' w'.heap.size 1 A' m c' (intC S) ∧ Sl w' w'.heap.size 3 B n2 d (crC D) ∧ Sl w' w'.heap.size 1 B' m2 d' (intC U) ∧ Below w.heap.size w w') :=
    fun w' h => ⟨((hC.below (ba _ _)).below (ba _ _)).below h, ((hS.below (ba _ _)).below (ba _ _)).below h, ((hD.below (ba _ _)).below (ba _ _)).below h, ((hU.below (ba _ _)).below (ba _ _)).below h, bx (bt (ba _ _) h)⟩
  clear hC hS hD hU
  by_cases h1 : n = n2
  · by_cases h2 : m = m2
    · subst h1 h2
      have HN := Lib.hid hn
      have HM := Lib.hid hm
      have HN2 := Lib.hid hn2
      have HM2 := Lib.hid hm2
      have HSB : Hid (sameB C S D U = (eqC C D && eqI S U)) := rfl
      clear hn hm hn2 hm2
      go_enter Try.func53, Try.ntmps53
      go_wp2_with (fail)
      go_loopw [5] (fun i wr => ∃ k : Nat, k ≤ n ∧ i = .int .i64 k ∧ eqC C D = eqC (C.drop k) (D.drop k) ∧ Below ((w.alloc (iObj A n c A' m c')).alloc (iObj B n d B' m d')).heap.size ((w.alloc (iObj A n c A' m c')).alloc (iObj B n d B' m d')) wr) (fun i _ => n - (intOf i).toNat)
      case atStart => exact ⟨0, by omega, rfl, rfl, Below.refl _ _⟩
      case round =>
        obtain ⟨k, hk, rfl, hr, hbw⟩ := hrel
        have HR := Lib.hid hr
        have HBW := Lib.hid hbw
        obtain ⟨q0, q1, q2, q3, hz, _⟩ := args2i hbw
        clear hr
        by_cases hlt : k < n
        · have hkn : (k : Int) < (n : Int) := by omega
          obtain ⟨b1, o1, hA1, hB1, hc1⟩ := (HE.out _ hbw).1.2.2 (by omega)
          obtain ⟨b2, o2, hA2, hB2, hc2⟩ := (HE.out _ hbw).2.2.1.2.2 (by omega)
          subst hA1 hA2
          obtain ⟨i0, i1, i2⟩ := crC_at C k (by have := HN.out; omega)
          obtain ⟨j0, j1, j2⟩ := crC_at D k (by have := HN2.out; omega)
          have a0 := hc1 _ _ i0
          have a1 := hc1 _ _ i1
          have a2 := hc1 _ _ i2
          have b0 := hc2 _ _ j0
          have b1' := hc2 _ _ j1
          have b2' := hc2 _ _ j2
          rw [← Nat.add_assoc] at a1 a2 b1' b2'
          have HS := Lib.hid (eqC_step HR.out (by have := HN.out; omega) (by have := HN2.out; omega))
          clear hc1 hc2 i0 i1 i2 j0 j1 j2 hbw
          generalize C.getD k z0 = x at *
          generalize D.getD k z0 = y at *
          obtain ⟨p, f, o⟩ := x
          obtain ⟨p', f', o'⟩ := y
          dsimp only at a0 a1 a2 b0 b1' b2'
          cases hxy : crEqB ⟨p, f, o⟩ ⟨p', f', o'⟩ with
          | true =>
            have h3 : p = p' ∧ f = f' ∧ o = o' := by simpa [crEqB] using hxy
            obtain ⟨rfl, rfl, rfl⟩ := h3
            have HS2 : Hid (eqC C D = eqC (C.drop (k + 1)) (D.drop (k + 1))) := by unfold Hid; rw [HS.out, hxy]; simp
            clear hxy
            go_wp2_with (fail)
            go_quiet (fail)
            go_wp2_with (fail)
            go_roundw
            case rel => exact ⟨k + 1, by omega, by go_num, HS2.out, bd HBW.out _⟩
            case measure => simp [intOf]; omega
          | false =>
            have HS2 : Hid (sameB C S D U = false) := by unfold Hid; rw [HSB.out, HS.out, hxy]; simp
            have h3 := crEqB_no hxy
            clear hxy
            rcases h3 with h3 | ⟨rfl, h3⟩ | ⟨rfl, rfl, h3⟩
            · have hxb : (p == p') = false := by simpa using h3
              go_wp2_with (fail)
              go_quiet (fail)
              go_wp2_with (fail)
              go_ret
              exact ⟨ret_bool HS2.out.symm, (HE.out _ (bd HBW.out _)).2.2.2.2⟩
            · have hxb : (f == f') = false := by simpa using h3
              go_wp2_with (fail)
              go_quiet (fail)
              go_wp2_with (fail)
              go_ret
              exact ⟨ret_bool HS2.out.symm, (HE.out _ (bd HBW.out _)).2.2.2.2⟩
            · have hxb : (o == o') = false := by simpa using h3
              go_wp2_with (fail)
              go_quiet (fail)
              go_wp2_with (fail)
              go_ret
              exact ⟨ret_bool HS2.out.symm, (HE.out _ (bd HBW.out _)).2.2.2.2⟩
        · have hkn : ¬ ((k : Int) < (n : Int)) := by omega
          have HT : Hid (sameB C S D U = eqI S U) := by
            unfold Hid
            rw [HSB.out, HR.out, List.drop_of_length_le (by have := HN.out; omega), List.drop_of_length_le (by have := HN2.out; omega)]
            rfl
          clear HSB HR hbw
          go_wp2_with (fail)
          go_loopw [6] (fun i wr => ∃ k : Nat, k ≤ m ∧ i = .int .i64 k ∧ eqI S U = eqI (S.drop k) (U.drop k) ∧ Below ((w.alloc (iObj A n c A' m c')).alloc (iObj B n d B' m d')).heap.size ((w.alloc (iObj A n c A' m c')).alloc (iObj B n d B' m d')) wr) (fun i _ => m - (intOf i).toNat)
          case atStart => exact ⟨0, by omega, rfl, rfl, HBW.out⟩
          case round =>
            obtain ⟨k2, hk2, rfl, hr, hbw⟩ := hrel
            have HR := Lib.hid hr
            have HBX := Lib.hid hbw
            clear q0 q1 q2 q3 hz
            obtain ⟨q0, q1, q2, q3, hz, _⟩ := args2i hbw
            clear hr
            by_cases hlt2 : k2 < m
            · have hkm : (k2 : Int) < (m : Int) := by omega
              obtain ⟨b1, o1, hA1, hB1, hc1⟩ := (HE.out _ hbw).2.1.2.2 (by omega)
              obtain ⟨b2, o2, hA2, hB2, hc2⟩ := (HE.out _ hbw).2.2.2.1.2.2 (by omega)
              subst hA1 hA2
              have a0 := hc1 _ _ (intC_at S k2 (by have := HM.out; omega))
              have b0 := hc2 _ _ (intC_at U k2 (by have := HM2.out; omega))
              have HS := Lib.hid (eqI_step HR.out (by have := HM.out; omega) (by have := HM2.out; omega))
              clear hc1 hc2 hbw
              generalize S.getD k2 0 = x at *
              generalize U.getD k2 0 = y at *
              by_cases hxy : x = y
              · subst hxy
                have HS2 : Hid (eqI S U = eqI (S.drop (k2 + 1)) (U.drop (k2 + 1))) := by unfold Hid; rw [HS.out]; simp
                go_wp2_with (fail)
                go_quiet (fail)
                go_wp2_with (fail)
                go_roundw
                case rel => exact ⟨k2 + 1, by omega, by go_num, HS2.out, bd HBX.out _⟩
                case measure => simp [intOf]; omega
              · have HS2 : Hid (sameB C S D U = false) := by unfold Hid; rw [HT.out, HS.out]; simp [hxy]
                have hxb : (x == y) = false := by simpa using hxy
                go_wp2_with (fail)
                go_quiet (fail)
                go_wp2_with (fail)
                go_ret
                exact ⟨ret_bool HS2.out.symm, (HE.out _ (bd HBX.out _)).2.2.2.2⟩
            · have hkm : ¬ ((k2 : Int) < (m : Int)) := by omega
              have HT2 : Hid (sameB C S D U = true) := by
                unfold Hid
                rw [HT.out, HR.out, List.drop_of_length_le (by have := HM.out; omega), List.drop_of_length_le (by have := HM2.out; omega)]
                rfl
              clear hbw
              go_wp2_with (fail)
              go_ret
              exact ⟨ret_bool HT2.out.symm, (HE.out _ HBX.out).2.2.2.2⟩
    · have HF : Hid (sameB C S D U = false) := by unfold Hid sameB; rw [eqI_len S U (by omega)]; simp
      have hnb : ((n : Int) == (n2 : Int)) = true := by simp; omega
      have hmb : ((m : Int) == (m2 : Int)) = false := by simp; omega
      subst h1
      clear hn hm hn2 hm2 h2
      go_enter Try.func53, Try.ntmps53
      go_wp2_with (fail)
      go_ret
      exact ⟨ret_bool HF.out.symm, balA (ba _ _) _⟩
  · have HF : Hid (sameB C S D U = false) := by unfold Hid sameB; rw [eqC_len C D (by omega)]; simp
    have hnb : ((n : Int) == (n2 : Int)) = false := by simp; omega
    clear hn hm hn2 hm2 h1
    go_enter Try.func53, Try.ntmps53
    go_wp2_with (fail)
    go_ret
    exact ⟨ret_bool HF.out.symm, balA (ba _ _) _⟩

end Go.Proofs.Ytcebpgcmmdfccaa

/- Pieces: the reference's Same, at two equal pieces. -/
namespace Go.Proofs.Ytcebpgcmmdfccaa
open Go Go.RowKit

set_option maxRecDepth 100000 in
set_option maxHeartbeats 3200000 in
theorem rSameEvent_eq (bar : Bool) (v : Int) (d t tie : Bool) (sa sb : Option Addr) (n sc sd : Nat) (L : List St) (w : World) (hA : Sl w w.heap.size 5 sa n sc (stC L)) (hB : Sl w w.heap.size 5 sb n sd (stC L)) (hn : n = L.length) (hb : n ≤ 1000000) :
    Calls Try.prog 54 #[evV bar v d t tie sa n sc, evV bar v d t tie sb n sd] w fun e w' => e = .returned (.bool true) ∧ Below w.heap.size w w' := by
  have HA : Hid (∀ w', Below ((w.alloc (evO bar v d t tie sa n sc)).alloc (evO bar v d t tie sb n sd)).heap.size ((w.alloc (evO bar v d t tie sa n sc)).alloc (evO bar v d t tie sb n sd)) w' → Sl w' w'.heap.size 5 sa n sc (stC L) ∧ Sl w' w'.heap.size 5 sb n sd (stC L)) :=
    fun w' h => ⟨(hA.below (bt (ba _ _) (ba _ _))).below h, (hB.below (bt (ba _ _) (ba _ _))).below h⟩
  have HN := Lib.hid hn
  clear hA hB hn
  go_enter Try.func54, Try.ntmps54
  go_wp2_with (fail)
  go_loopw [5] (fun i wr => ∃ k : Nat, k ≤ n ∧ i = .int .i64 k ∧ Below ((w.alloc (evO bar v d t tie sa n sc)).alloc (evO bar v d t tie sb n sd)).heap.size ((w.alloc (evO bar v d t tie sa n sc)).alloc (evO bar v d t tie sb n sd)) wr) (fun i _ => n - (intOf i).toNat)
  case atStart => exact ⟨0, by omega, rfl, Below.refl _ _⟩
  case round =>
    obtain ⟨k, hk, rfl, hbw⟩ := hrel
    have HB := Lib.hid hbw
    obtain ⟨_, _, _, _, _, p5⟩ := cell6 (bt (ba _ _) hbw)
    obtain ⟨_, _, _, _, _, r5⟩ := cell6 hbw
    simp only [World.size_alloc] at r5
    have hz : w.heap.size + 1 < wr.heap.size := by have := hbw.size; simp at this; omega
    clear hbw
    by_cases hlt : k < n
    · have hkn : (k : Int) < (n : Int) := by omega
      obtain ⟨b1, o1, rfl, hB1, _, _, c0, c1, c2, c3, c4⟩ := st_at (HA.out _ HB.out).1 HN.out hlt
      obtain ⟨b2, o2, rfl, hB2, _, _, d0, d1, d2, d3, d4⟩ := st_at (HA.out _ HB.out).2 HN.out hlt
      generalize L.getD k z5 = s at *
      obtain ⟨s0, s1, s2, s3, s4⟩ := s
      dsimp only at c0 c1 c2 c3 c4 d0 d1 d2 d3 d4
      go_wp2_with (fail)
      go_quiet (fail)
      go_wp2_with (fail)
      go_roundw
      case rel => exact ⟨k + 1, by omega, by first | rfl | go_num, bd HB.out _⟩
      case measure => simp [intOf]; omega
    · go_wp2_with (fail)
      go_ret
      exact ⟨rfl, bx (bx HB.out)⟩

theorem evs_len' {P : List EvP} {k : Nat} {y : EvP} (h : P[k]? = some y) (hst : ∀ y ∈ P, y.L.length ≤ 1000000) : y.L.length ≤ 1000000 := hst y (List.mem_of_getElem? h)

set_option maxRecDepth 100000 in
set_option maxHeartbeats 8000000 in
theorem rSamePc_eq (A : Option Addr) (n c : Nat) (A' : Option Addr) (m c' : Nat) (A2 : Option Addr) (q cq : Nat) (B : Option Addr) (n2 d2 : Nat) (B' : Option Addr) (m2 d' : Nat) (B2 : Option Addr) (q2 cq2 : Nat) (C : List Cr) (S : List Int) (P : List EvP) (w : World)
    (hP : PcIn w A n c A' m c' A2 q cq C S P) (hQ : PcIn w B n2 d2 B' m2 d' B2 q2 cq2 C S P) (hnb : n ≤ 65536) (hmb : m ≤ 65536) (hq : q ≤ 1000000) (hst : ∀ y ∈ P, y.L.length ≤ 1000000) :
    Calls Try.prog 20 #[pcV A n c A' m c' A2 q cq, pcV B n2 d2 B' m2 d' B2 q2 cq2] w fun e w' => e = .returned (.bool true) ∧ Below w.heap.size w w' := by
  obtain rfl : n = n2 := hP.hn.trans hQ.hn.symm
  obtain rfl : m = m2 := hP.hm.trans hQ.hm.symm
  obtain rfl : q = q2 := hP.es.hq.trans hQ.es.hq.symm
  have HE : Hid (∀ w', Below ((w.alloc (pcO A n c A' m c' A2 q cq)).alloc (pcO B n d2 B' m d' B2 q cq2)).heap.size ((w.alloc (pcO A n c A' m c' A2 q cq)).alloc (pcO B n d2 B' m d' B2 q cq2)) w' → PcIn w' A n c A' m c' A2 q cq C S P ∧ PcIn w' B n d2 B' m d' B2 q cq2 C S P) :=
    fun w' h => ⟨(hP.below (bt (ba _ _) (ba _ _))).below h, (hQ.below (bt (ba _ _) (ba _ _))).below h⟩
  have HST := Lib.hid hst
  have HRF := Lib.hid (sameB_refl C S)
  clear hP hQ hst
  go_enter Try.func20, Try.ntmps20
  go_wp2_with (go_at_call 53; refine (rsame_any A n c A' m c' B n d2 B' m d' C S C S _ (HE.out _ (Below.refl _ _)).1.crs (HE.out _ (Below.refl _ _)).1.stp (HE.out _ (Below.refl _ _)).2.crs (HE.out _ (Below.refl _ _)).2.stp (HE.out _ (Below.refl _ _)).1.hn (HE.out _ (Below.refl _ _)).1.hm (HE.out _ (Below.refl _ _)).2.hn (HE.out _ (Below.refl _ _)).2.hm (by omega) (by omega) (by omega) (by omega)).mono ?_; rintro e w1 ⟨rfl, hb1⟩; rw [HRF.out]; obtain ⟨_, _, x2⟩ := cell3 (bt (ba _ _) hb1); obtain ⟨_, _, y2⟩ := cell3 hb1; simp only [World.size_alloc] at y2)
  have HB1 := Lib.hid hb1
  clear hb1
  go_loopw [5] (fun i wr => ∃ k : Nat, k ≤ q ∧ i = .int .i64 k ∧ Below ((w.alloc (pcO A n c A' m c' A2 q cq)).alloc (pcO B n d2 B' m d' B2 q cq2)).heap.size ((w.alloc (pcO A n c A' m c' A2 q cq)).alloc (pcO B n d2 B' m d' B2 q cq2)) wr) (fun i _ => q - (intOf i).toNat)
  case atStart => exact ⟨0, by omega, rfl, HB1.out⟩
  case round =>
    obtain ⟨k, hk, rfl, hbw⟩ := hrel
    have HB := Lib.hid hbw
    obtain ⟨_, _, p2⟩ := cell3 (bt (ba _ _) hbw)
    obtain ⟨_, _, r2⟩ := cell3 hbw
    simp only [World.size_alloc] at r2
    have hz : w.heap.size + 1 < wr.heap.size := by have := hbw.size; simp at this; omega
    clear hbw x2 y2
    by_cases hlt : k < q
    · have hkn : (k : Int) < (q : Int) := by omega
      obtain ⟨b1, o1, sa, sc, rfl, hB1, hPk, _, ⟨c0, c1, c2, c3, c4, c5⟩, hS1⟩ := (HE.out _ HB.out).1.es.at hlt
      obtain ⟨b2, o2, sb, sd, rfl, hB2, _, _, ⟨e0, e1, e2, e3, e4, e5⟩, hS2⟩ := (HE.out _ HB.out).2.es.at hlt
      have HL := Lib.hid (evs_len' hPk HST.out)
      have HS1 := Lib.hid hS1
      have HS2 := Lib.hid hS2
      clear hS1 hS2 hPk
      generalize P.getD k z6 = y at *
      obtain ⟨bar, v, d, t, tie, L⟩ := y
      dsimp only at c0 c1 c2 c3 c4 c5 e0 e1 e2 e3 e4 e5 HL HS1 HS2
      obtain ⟨N, hN⟩ : ∃ N, L.length = N := ⟨_, rfl⟩
      rw [hN] at c5 e5 HL HS1 HS2
      have HN := Lib.hid hN
      clear hN
      have HC : Hid (∀ w', Below wr.heap.size wr w' → (w'.cell? ⟨w.heap.size, 2, none⟩ = some (.slice (some ⟨b1, o1, none⟩) q cq) ∧ w'.cell? ⟨w.heap.size + 1, 2, none⟩ = some (.slice (some ⟨b2, o2, none⟩) q cq2)) ∧ (w'.cell? ⟨b1, o1 + k * 6, none⟩ = some (.bool bar) ∧ w'.cell? ⟨b1, o1 + k * 6 + 1, none⟩ = some (.int .i64 v) ∧ w'.cell? ⟨b1, o1 + k * 6 + 2, none⟩ = some (.bool d) ∧ w'.cell? ⟨b1, o1 + k * 6 + 3, none⟩ = some (.bool t) ∧ w'.cell? ⟨b1, o1 + k * 6 + 4, none⟩ = some (.bool tie) ∧ w'.cell? ⟨b1, o1 + k * 6 + 5, none⟩ = some (.slice sa N sc)) ∧ (w'.cell? ⟨b2, o2 + k * 6, none⟩ = some (.bool bar) ∧ w'.cell? ⟨b2, o2 + k * 6 + 1, none⟩ = some (.int .i64 v) ∧ w'.cell? ⟨b2, o2 + k * 6 + 2, none⟩ = some (.bool d) ∧ w'.cell? ⟨b2, o2 + k * 6 + 3, none⟩ = some (.bool t) ∧ w'.cell? ⟨b2, o2 + k * 6 + 4, none⟩ = some (.bool tie) ∧ w'.cell? ⟨b2, o2 + k * 6 + 5, none⟩ = some (.slice sb N sd))) := fun w' h =>
        have hw0 := h.block w.heap.size (by omega)
        have hw1 := h.block (w.heap.size + 1) (by omega)
        have h1 := h.block b1 hB1
        have h2 := h.block b2 hB2
        ⟨⟨cell_same hw0 p2, cell_same hw1 r2⟩, ⟨cell_same h1 c0, cell_same h1 c1, cell_same h1 c2, cell_same h1 c3, cell_same h1 c4, cell_same h1 c5⟩, ⟨cell_same h2 e0, cell_same h2 e1, cell_same h2 e2, cell_same h2 e3, cell_same h2 e4, cell_same h2 e5⟩⟩
      go_wp2_with (fail)
      have T := (Below.refl wr.heap.size wr).drew
      go_region_held3 (fun w' => (w'.cell? ⟨w.heap.size, 2, none⟩ = some (.slice (some ⟨b1, o1, none⟩) q cq) ∧ w'.cell? ⟨w.heap.size + 1, 2, none⟩ = some (.slice (some ⟨b2, o2, none⟩) q cq2)) ∧ (w'.cell? ⟨b1, o1 + k * 6, none⟩ = some (.bool bar) ∧ w'.cell? ⟨b1, o1 + k * 6 + 1, none⟩ = some (.int .i64 v) ∧ w'.cell? ⟨b1, o1 + k * 6 + 2, none⟩ = some (.bool d) ∧ w'.cell? ⟨b1, o1 + k * 6 + 3, none⟩ = some (.bool t) ∧ w'.cell? ⟨b1, o1 + k * 6 + 4, none⟩ = some (.bool tie) ∧ w'.cell? ⟨b1, o1 + k * 6 + 5, none⟩ = some (.slice sa N sc)) ∧ (w'.cell? ⟨b2, o2 + k * 6, none⟩ = some (.bool bar) ∧ w'.cell? ⟨b2, o2 + k * 6 + 1, none⟩ = some (.int .i64 v) ∧ w'.cell? ⟨b2, o2 + k * 6 + 2, none⟩ = some (.bool d) ∧ w'.cell? ⟨b2, o2 + k * 6 + 3, none⟩ = some (.bool t) ∧ w'.cell? ⟨b2, o2 + k * 6 + 4, none⟩ = some (.bool tie) ∧ w'.cell? ⟨b2, o2 + k * 6 + 5, none⟩ = some (.slice sb N sd)))
        (exact HC.out _ T)
        (first | (go_at_call 54; refine (rSameEvent_eq bar v d t tie sa sb N sc sd L _ (HS1.out.below T) (HS2.out.below T) HN.out.symm HL.out).mono ?_; rintro e wz ⟨rfl, hbz⟩; replace T := bt T hbz))
      go_wp2_with (fail)
      go_roundw
      case rel => exact ⟨k + 1, by omega, by first | rfl | go_num, bt HB.out T⟩
      case measure => simp [intOf]; omega
    · go_wp2_with (fail)
      go_ret
      exact ⟨rfl, bx (bx HB.out)⟩

end Go.Proofs.Ytcebpgcmmdfccaa
