/- Plain facts on an instrument with a capo: it is valid, its places sound what they sounded, two capos are one. No program is imported here. -/
import Derived.Test.YtpcehgifpajmbaaGreatPure7
namespace Go.Proofs.YtpcehgifpajmbaaGreat

theorem riseB_drop : ∀ (S : List Int) (b : Int) (k : Nat), k ≤ S.length → riseB b S = true → riseB (if k = 0 then b else S.getD (k - 1) 0) (S.drop k) = true
  | _, _, 0, _, h => by simpa using h
  | [], _, k + 1, h, _ => by simp at h
  | s :: r, b, k + 1, h, hr => by
    simp [riseB] at hr
    have ih := riseB_drop r s k (by simpa using h) hr.2
    by_cases hk : k = 0
    · subst hk
      simpa using ih
    · rw [if_neg hk] at ih
      rw [if_neg (by omega), List.drop_succ_cons]
      have e : (s :: r).getD (k + 1 - 1) 0 = r.getD (k - 1) 0 := by
        obtain ⟨j, rfl⟩ : ∃ j, k = j + 1 := ⟨k - 1, by omega⟩
        simp [List.getD_eq_getElem?_getD]
      rw [e]
      exact ih
theorem riseB_sub : ∀ (S : List Int) (b d : Int), 0 ≤ d → riseB b S = true → riseB (b - d) (S.map (· - d)) = true
  | [], _, _, _, _ => rfl
  | s :: r, b, d, hd, h => by
    simp [riseB] at h
    have ih := riseB_sub r s d hd h.2
    simp [riseB]
    exact ⟨⟨by omega, by omega⟩, ih⟩
theorem riseV_nat (S : List Int) (i : Nat) : riseV S (i : Int) = if i = 0 then 0 else S.getD (i - 1) 0 := by
  unfold riseV
  by_cases h : i = 0
  · subst h; rfl
  · rw [if_neg (by omega), if_neg h, show ((i : Int) - 1).toNat = i - 1 by omega]
theorem riseB_cap {S : List Int} {k : Nat} (h : riseB 0 S = true) (hk : k ≤ S.length) : riseB 0 (capS S k) = true := by
  have h1 := riseB_drop S 0 k hk h
  have h2 := riseB_sub _ _ (riseV S k) (riseV_bd h (by omega) (by omega)).1 h1
  have e : (if k = 0 then (0 : Int) else S.getD (k - 1) 0) = riseV S k := (riseV_nat S k).symm
  rw [e, Int.sub_self] at h2
  unfold capS
  rw [Int.toNat_natCast]
  exact h2
theorem capS_at (S : List Int) (k i : Nat) (h : k + i < S.length) : (capS S k).getD i 0 = S.getD (k + i) 0 - riseV S k := by
  unfold capS
  rw [Int.toNat_natCast, getI_at _ i (by simp; omega), getI_at S (k + i) h]
  simp
theorem capS_length (S : List Int) (k : Nat) : (capS S k).length = S.length - k := by simp [capS]
theorem riseV_cap (S : List Int) (k i : Nat) (h : k + i ≤ S.length) : riseV (capS S k) (i : Int) = riseV S ((k + i : Nat) : Int) - riseV S (k : Int) := by
  rw [riseV_nat, riseV_nat S (k + i)]
  by_cases hi : i = 0
  · subst hi
    rw [if_pos rfl, Nat.add_zero, ← riseV_nat]
    omega
  · rw [if_neg hi, if_neg (by omega), capS_at S k (i - 1) (by omega), show k + (i - 1) = k + i - 1 by omega]
theorem riseV_mono : ∀ {S : List Int} {i j : Nat}, riseB 0 S = true → i ≤ j → j ≤ S.length → riseV S (i : Int) ≤ riseV S (j : Int) := by
  intro S i j h hij hj
  have h1 := riseB_cap h (Nat.le_trans hij hj)
  have h2 := riseV_cap S i (j - i) (by omega)
  have h3 := riseV_bd h1 (f := ((j - i : Nat) : Int)) (by omega) (by rw [capS_length]; omega)
  rw [h2, show i + (j - i) = j by omega] at h3
  omega

theorem crErr_zero {S : List Int} {c : Cr} (h1 : 0 ≤ c.f ∧ c.f ≤ S.length) (h2 : 0 ≤ c.p ∧ c.p ≤ 127) (h3 : crTop S c ≤ 127) : crErr S c = 0 := by
  unfold crErr
  rw [if_neg (by omega), if_neg (by rw [isP_iff.2 h2]; simp), if_neg (by omega)]
theorem crErr_facts {S : List Int} {c : Cr} (h : crErr S c = 0) : (0 ≤ c.f ∧ c.f ≤ S.length) ∧ (0 ≤ c.p ∧ c.p ≤ 127) ∧ crTop S c ≤ 127 := by
  unfold crErr at h
  split at h
  · cases h
  · split at h
    · cases h
    · split at h
      · cases h
      · rename_i a b c'
        refine ⟨by omega, ?_, by omega⟩
        refine isP_iff.1 ?_
        simpa using b
theorem crsErr_zero {S : List Int} : ∀ {C : List Cr}, (∀ c ∈ C, crErr S c = 0) → crsErr S C = 0
  | [], _ => rfl
  | x :: r, h => by
    unfold crsErr
    rw [if_pos (h x (by simp))]
    exact crsErr_zero fun c hc => h c (by simp [hc])
theorem crsErr_all {S : List Int} : ∀ {C : List Cr}, crsErr S C = 0 → ∀ c ∈ C, crErr S c = 0
  | [], _, c, hc => by cases hc
  | x :: r, h, c, hc => by
    unfold crsErr at h
    by_cases hx : crErr S x = 0
    · rw [if_pos hx] at h
      rcases List.mem_cons.1 hc with rfl | hc
      · exact hx
      · exact crsErr_all h c hc
    · rw [if_neg hx] at h; exact absurd h hx
theorem chk_zero {C : List Cr} {S : List Int} (h1 : C.length ≤ 14) (h2 : S.length ≤ 18) (h3 : C.length ≠ 0) (h4 : riseB 0 S = true) (h5 : ∀ c ∈ C, crErr S c = 0) : chk C S = 0 := by
  unfold chk
  rw [if_neg (by omega), if_neg (by rw [h4]; simp; intro e; exact h3 (by rw [e]; rfl))]
  exact crsErr_zero h5
theorem chk_facts {C : List Cr} {S : List Int} (h : chk C S = 0) : C.length ≤ 14 ∧ S.length ≤ 18 ∧ C.length ≠ 0 ∧ riseB 0 S = true ∧ ∀ c ∈ C, crErr S c = 0 := by
  unfold chk at h
  split at h
  · cases h
  · split at h
    · cases h
    · rename_i a b
      refine ⟨by omega, by omega, fun e => b (.inl e), ?_, crsErr_all h⟩
      cases hr : riseB 0 S with
      | true => rfl
      | false => exact absurd (.inr hr) b

theorem cap1_ok {S : List Int} {x : Cr} {k : Nat} (hr : riseB 0 S = true) (hx : crErr S x = 0) (hk : k ≤ S.length) (ho : x.f = 0 ∨ (k : Int) ≤ x.f) : crErr (capS S k) (cap1 (riseV S k) k x) = 0 := by
  obtain ⟨⟨f0, f1⟩, ⟨p0, p1⟩, ht⟩ := crErr_facts hx
  obtain ⟨d0, d1⟩ := riseV_bd hr (f := (k : Int)) (by omega) (by omega)
  unfold cap1
  by_cases hf : x.f = 0
  · rw [if_pos hf]
    refine crErr_zero ⟨f0, by rw [hf]; omega⟩ ⟨p0, p1⟩ ?_
    unfold crTop at ht ⊢
    rw [hf] at ht ⊢
    exact ht
  · rw [if_neg hf]
    have hkf : (k : Int) ≤ x.f := by omega
    obtain ⟨F, hF⟩ := Int.eq_ofNat_of_zero_le f0
    have hv := riseV_cap S k (F - k) (by omega)
    rw [show k + (F - k) = F by omega] at hv
    have hm := riseV_mono hr (show k ≤ F by omega) (show F ≤ S.length by omega)
    unfold crTop at ht
    rw [hF] at ht
    have ho2 : (0 : Int) ≤ if x.o then 12 else 0 := by split <;> omega
    refine crErr_zero ⟨by show 0 ≤ x.f - k; omega, by show x.f - (k : Int) ≤ _; rw [capS_length]; omega⟩ ⟨by show 0 ≤ x.p + _; omega, by show x.p + _ ≤ 127; omega⟩ ?_
    unfold crTop
    show x.p + riseV S k + riseV (capS S k) (x.f - k) + (if x.o then 12 else 0) ≤ 127
    rw [hF, show (F : Int) - (k : Int) = ((F - k : Nat) : Int) by omega, hv]
    omega
/-- The instrument with a capo is a valid one. -/
theorem cap_chk {C : List Cr} {S : List Int} {k : Nat} (h : chk C S = 0) (hk : k ≤ S.length) (ho : capOk k C = true) : chk (capC C S k) (capS S k) = 0 := by
  obtain ⟨h1, h2, h3, h4, h5⟩ := chk_facts h
  refine chk_zero (by simpa [capC] using h1) (by rw [capS_length]; omega) (by simpa [capC] using h3) (riseB_cap h4 hk) fun c hc => ?_
  unfold capC at hc
  obtain ⟨x, hx, rfl⟩ := List.mem_map.1 hc
  refine cap1_ok h4 (h5 x hx) hk ?_
  unfold capOk at ho
  simpa using List.all_eq_true.1 ho x hx
theorem capE_facts {C : List Cr} {S : List Int} {k : Int} (h : capE C S k = 0) : chk C S = 0 ∧ (∃ j : Nat, k = j ∧ j ≤ S.length) ∧ capOk k C = true := by
  unfold capE at h
  split at h
  · rename_i a; exact absurd h a
  · rename_i a
    split at h
    · cases h
    · rename_i b
      split at h
      · rename_i c
        exact ⟨by simpa using a, ⟨k.toNat, by omega, by omega⟩, c⟩
      · cases h

/-- Two capos are one. -/
theorem cap_twice {C : List Cr} {S : List Int} {k j : Nat} (h : chk C S = 0) (hk : k ≤ S.length) (ho : capOk k C = true) (hf : ∀ x ∈ C, x.f = 0 ∨ (k : Int) < x.f) :
    capE (capC C S k) (capS S k) j = capE C S ((k + j : Nat) : Int) ∧ (capE C S ((k + j : Nat) : Int) = 0 → capC (capC C S k) (capS S k) j = capC C S ((k + j : Nat) : Int) ∧ capS (capS S k) j = capS S ((k + j : Nat) : Int)) := by
  obtain ⟨h1, h2, h3, h4, h5⟩ := chk_facts h
  have hok : capOk (j : Int) (capC C S k) = capOk ((k + j : Nat) : Int) C := by
    unfold capOk capC
    rw [List.all_map]
    apply Bool.eq_iff_iff.2
    rw [List.all_eq_true, List.all_eq_true]
    refine forall_congr' fun x => forall_congr' fun hx => ?_
    have := hf x hx
    obtain ⟨⟨f0, _⟩, _⟩ := crErr_facts (h5 x hx)
    have e1 : (cap1 (riseV S k) k x).f = if x.f = 0 then 0 else x.f - (k : Int) := by
      unfold cap1
      by_cases e : x.f = 0
      · rw [if_pos e, if_pos e, e]
      · rw [if_neg e, if_neg e]
    simp only [Function.comp, Bool.or_eq_true, decide_eq_true_eq, e1]
    by_cases e : x.f = 0
    · simp [e]
    · simp only [if_neg e]
      omega
  constructor
  · unfold capE
    rw [cap_chk h hk ho, h, hok, capS_length]
    simp only [ne_eq, not_true_eq_false, if_false]
    by_cases hj : S.length < k + j
    · have a1 : (j : Int) < 0 ∨ ((S.length - k : Nat) : Int) < j := by omega
      have a2 : ((k + j : Nat) : Int) < 0 ∨ (S.length : Int) < ((k + j : Nat) : Int) := by omega
      rw [if_pos a1, if_pos a2]
    · have a1 : ¬ ((j : Int) < 0 ∨ ((S.length - k : Nat) : Int) < j) := by omega
      have a2 : ¬ (((k + j : Nat) : Int) < 0 ∨ (S.length : Int) < ((k + j : Nat) : Int)) := by omega
      rw [if_neg a1, if_neg a2]
  · intro hE
    obtain ⟨_, ⟨j', hj', hjl⟩, _⟩ := capE_facts hE
    have hjs : k + j ≤ S.length := by omega
    have hv := riseV_cap S k j hjs
    constructor
    · unfold capC
      rw [List.map_map]
      refine List.map_congr_left fun x hx => ?_
      have hfx := hf x hx
      show cap1 (riseV (capS S k) j) j (cap1 (riseV S k) k x) = cap1 (riseV S ((k + j : Nat) : Int)) ((k + j : Nat) : Int) x
      by_cases e : x.f = 0
      · have ex : ∀ d q : Int, cap1 d q x = x := fun d q => by unfold cap1; rw [if_pos e]
        rw [ex, ex, ex]
      · have ex : ∀ d q : Int, cap1 d q x = ⟨x.p + d, x.f - q, x.o⟩ := fun d q => by unfold cap1; rw [if_neg e]
        rw [ex, ex]
        unfold cap1
        have e2 : ¬ x.f - (k : Int) = 0 := by omega
        rw [if_neg (by exact e2), hv]
        show (⟨x.p + riseV S k + (riseV S ((k + j : Nat) : Int) - riseV S k), x.f - (k : Int) - (j : Int), x.o⟩ : Cr) = _
        congr 1
        · omega
        · omega
    · refine extI_at (by rw [capS_length, capS_length, capS_length]; omega) fun i hi => ?_
      rw [capS_length, capS_length] at hi
      rw [capS_at _ j i (by rw [capS_length]; omega), capS_at S k (j + i) (by omega), capS_at S (k + j) i (by omega), hv, show k + (j + i) = k + j + i by omega]
      omega

end Go.Proofs.YtpcehgifpajmbaaGreat
