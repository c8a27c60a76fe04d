/- Plain facts on the places that sound a pitch: they are those places and no others, in order of courses. No program is imported here. -/
import Derived.Test.YtbjmlbmkfgocdaaDoorPure9
import Derived.Test.YtbjmlbmkfgocdaaDoorPure5
namespace Go.Proofs.YtbjmlbmkfgocdaaDoor

theorem riseV_lt {S : List Int} {i j : Nat} (h : riseB 0 S = true) (hij : i < j) (hj : j ≤ S.length) : riseV S (i : Int) < riseV S (j : Int) := by
  have h1 := riseV_mono h (show i + 1 ≤ j by omega) hj
  have h2 := riseB_drop S 0 i (by omega) h
  have e : (if i = 0 then (0 : Int) else S.getD (i - 1) 0) = riseV S i := (riseV_nat S i).symm
  rw [e, drop_cons S i (by omega)] at h2
  simp only [riseB, Bool.and_eq_true, Bool.not_eq_true', decide_eq_false_iff_not] at h2
  have h3 : riseV S ((i + 1 : Nat) : Int) = S.getD i 0 := by rw [riseV_nat, if_neg (by omega)]; rfl
  rw [h3] at h1
  have := h2.1.1
  omega

theorem frsL_mem (S : List Int) (x : Cr) (p : Int) (i : Nat) : ∀ (k q : Nat) (y : Int × Int), y ∈ frsL S x p i q k → y.1 = (i : Int) ∧ ∃ r : Nat, y.2 = (r : Int) ∧ q ≤ r ∧ r < q + k ∧ x.p + riseV S (r : Int) = p
  | 0, _, y, h => by simp [frsL] at h
  | k + 1, q, y, h => by
    unfold frsL at h
    rcases List.mem_append.1 h with h | h
    · by_cases g : x.p + riseV S q = p
      · rw [if_pos g] at h
        obtain rfl := List.mem_singleton.1 h
        exact ⟨rfl, q, rfl, Nat.le_refl _, by omega, g⟩
      · rw [if_neg g] at h; cases h
    · obtain ⟨h1, r, h2, h3, h4, h5⟩ := frsL_mem S x p i k (q + 1) y h
      exact ⟨h1, r, h2, by omega, by omega, h5⟩
theorem frsL_has (S : List Int) (x : Cr) (p : Int) (i : Nat) : ∀ (k q r : Nat), q ≤ r → r < q + k → x.p + riseV S (r : Int) = p → ((i : Int), (r : Int)) ∈ frsL S x p i q k
  | 0, q, r, h1, h2, _ => absurd h2 (by omega)
  | k + 1, q, r, h1, h2, h3 => by
    unfold frsL
    by_cases g : q = r
    · subst g
      rw [if_pos h3]
      simp
    · exact List.mem_append.2 (.inr (frsL_has S x p i k (q + 1) r (by omega) (by omega) h3))
theorem frsL_pw {S : List Int} (hr : riseB 0 S = true) (x : Cr) (p : Int) (i : Nat) : ∀ (k q : Nat), q + k ≤ S.length + 1 → (frsL S x p i q k).Pairwise fun a b => a.1 < b.1
  | 0, _, _ => by simp [frsL]
  | k + 1, q, hk => by
    have ih := frsL_pw hr x p i k (q + 1) (by omega)
    unfold frsL
    by_cases g : x.p + riseV S q = p
    · have he : frsL S x p i (q + 1) k = [] := by
        apply List.eq_nil_iff_forall_not_mem.2
        intro y hy
        obtain ⟨_, r, _, h3, h4, h5⟩ := frsL_mem S x p i k (q + 1) y hy
        have := riseV_lt hr (show q < r by omega) (by omega)
        omega
      rw [he, if_pos g]
      simp
    · rw [if_neg g]
      exact ih
theorem plsL_mem (S : List Int) (p : Int) : ∀ (C : List Cr) (i : Nat) (y : Int × Int), y ∈ plsL S p i C → ∃ j : Nat, j < C.length ∧ y.1 = ((i + j + 1 : Nat) : Int) ∧ ∃ r : Nat, y.2 = (r : Int) ∧ r ≤ (C.getD j z0).f.toNat ∧ (C.getD j z0).p + riseV S (r : Int) = p
  | [], _, y, h => by simp [plsL] at h
  | x :: r, i, y, h => by
    unfold plsL at h
    rcases List.mem_append.1 h with h | h
    · obtain ⟨h1, q, h2, _, h4, h5⟩ := frsL_mem S x p (i + 1) _ 0 y h
      exact ⟨0, by simp, h1, q, h2, by show q ≤ x.f.toNat; omega, h5⟩
    · obtain ⟨j, hj, h1, q, h2, h3, h4⟩ := plsL_mem S p r (i + 1) y h
      exact ⟨j + 1, by simp; omega, by rw [h1]; congr 1; omega, q, h2, h3, h4⟩
theorem plsL_has (S : List Int) (p : Int) : ∀ (C : List Cr) (i j q : Nat), j < C.length → q ≤ (C.getD j z0).f.toNat → (C.getD j z0).p + riseV S (q : Int) = p → (((i + j + 1 : Nat) : Int), (q : Int)) ∈ plsL S p i C
  | x :: r, i, 0, q, _, h2, h3 => by
    unfold plsL
    exact List.mem_append.2 (.inl (frsL_has S x p (i + 1) _ 0 q (by omega) (by have : q ≤ x.f.toNat := h2; omega) h3))
  | x :: r, i, j + 1, q, h1, h2, h3 => by
    unfold plsL
    have := plsL_has S p r (i + 1) j q (by simpa using h1) h2 h3
    rw [show i + 1 + j + 1 = i + (j + 1) + 1 by omega] at this
    exact List.mem_append.2 (.inr this)
theorem plsL_pw {S : List Int} (hr : riseB 0 S = true) (p : Int) : ∀ (C : List Cr) (i : Nat), (∀ x ∈ C, x.f.toNat ≤ S.length) → (plsL S p i C).Pairwise fun a b => a.1 < b.1
  | [], _, _ => by simp [plsL]
  | x :: r, i, h => by
    unfold plsL
    refine List.pairwise_append.2 ⟨frsL_pw hr x p (i + 1) _ 0 (by have := h x (by simp); omega), plsL_pw hr p r (i + 1) fun y hy => h y (by simp [hy]), fun a ha b hb => ?_⟩
    obtain ⟨h1, _⟩ := frsL_mem S x p (i + 1) _ 0 a ha
    obtain ⟨j, _, h2, _⟩ := plsL_mem S p r (i + 1) b hb
    rw [h1, h2]
    omega

/-- Where a place sounds a pitch: the places of that pitch hold it, all sound it, and each lies on a later course than the one ahead of it. -/
theorem finds {C : List Cr} {S : List Int} {pc pf : Int} (h : atE C S pc pf = 0) :
    plE C S (atP C S pc pf) = 0 ∧ (pc, pf) ∈ plL C S (atP C S pc pf) ∧ (∀ y ∈ plL C S (atP C S pc pf), atE C S y.1 y.2 = 0 ∧ atP C S y.1 y.2 = atP C S pc pf) ∧ (plL C S (atP C S pc pf)).Pairwise fun a b => a.1 < b.1 := by
  have hc : chk C S = 0 := by
    by_cases g : chk C S = 0
    · exact g
    · rw [(at_chk g).1] at h; exact absurd h g
  have hh : hasB C.length pc = true := by
    cases g : hasB C.length pc with
    | true => rfl
    | false => rw [(at_has hc g).1] at h; cases h
  have hf : ¬ (pf < 0 ∨ (C.getD (pc - 1).toNat z0).f < pf) := by
    intro g
    rw [(at_fret hc hh g).1] at h
    cases h
  have hb : 1 ≤ pc ∧ pc ≤ C.length := by simpa [hasB] using hh
  have hP := (at_ok hc hh hf).2
  obtain ⟨_, h18, _, hr, hall⟩ := chk_facts hc
  have hm := getD_mem C (pc - 1).toNat (by omega)
  obtain ⟨⟨f0, f1⟩, ⟨p0, p1⟩, ht⟩ := crErr_facts (hall _ hm)
  obtain ⟨F, hF⟩ := Int.eq_ofNat_of_zero_le (show 0 ≤ pf by omega)
  obtain ⟨G, hG⟩ := Int.eq_ofNat_of_zero_le f0
  have hmo := riseV_mono hr (show F ≤ G by omega) (by omega)
  have h0 := riseV_bd (f := pf) hr (by omega) (by omega)
  have hiP : isP (atP C S pc pf) = true := by
    refine isP_iff.2 ⟨by rw [hP]; omega, ?_⟩
    unfold crTop at ht
    rw [hP, hF]
    rw [hG] at ht
    have : (0 : Int) ≤ if (C.getD (pc - 1).toNat z0).o then 12 else 0 := by split <;> omega
    omega
  obtain ⟨e1, e2⟩ := pl_ok (p := atP C S pc pf) hc hiP
  refine ⟨e1, ?_, ?_, ?_⟩
  · rw [e2]
    have := plsL_has S (atP C S pc pf) C 0 (pc - 1).toNat F (by omega) (by omega) (by rw [hP, hF])
    rw [show ((0 + (pc - 1).toNat + 1 : Nat) : Int) = pc by omega, ← hF] at this
    exact this
  · intro y hy
    rw [e2] at hy
    obtain ⟨j, hj, g1, q, g2, g3, g4⟩ := plsL_mem _ _ C 0 y hy
    obtain ⟨⟨f0, f1⟩, _, _⟩ := crErr_facts (hall _ (getD_mem C j hj))
    have ej : (y.1 - 1).toNat = j := by omega
    have hhy : hasB C.length y.1 = true := by simp [hasB]; omega
    have := at_ok (pf := y.2) hc hhy (by rw [ej]; omega)
    refine ⟨this.1, ?_⟩
    rw [this.2, ej, g2]
    exact g4
  · rw [e2]
    refine plsL_pw hr _ C 0 fun x hx => ?_
    obtain ⟨⟨f0, f1⟩, _, _⟩ := crErr_facts (hall x hx)
    omega
theorem pw_next {L : List (Int × Int)} (h : L.Pairwise fun a b => a.1 < b.1) {j k : Nat} (hjk : j < k) (hk : k < L.length) : (L.getD j (0, 0)).1 < (L.getD k (0, 0)).1 := by
  have e1 : L.getD j (0, 0) = L[j] := by rw [List.getD_eq_getElem?_getD, List.getElem?_eq_getElem]; rfl
  have e2 : L.getD k (0, 0) = L[k] := by rw [List.getD_eq_getElem?_getD, List.getElem?_eq_getElem]; rfl
  rw [e1, e2]
  exact List.pairwise_iff_getElem.1 h j k _ _ hjk
theorem getP_mem (L : List (Int × Int)) (k : Nat) (h : k < L.length) : L.getD k (0, 0) ∈ L := by
  have e : L.getD k (0, 0) = L[k] := by rw [List.getD_eq_getElem?_getD, List.getElem?_eq_getElem h]; rfl
  rw [e]; exact List.getElem_mem h
theorem take_in {L : List (Int × Int)} {k : Nat} (h : k < L.length) (y : Int × Int) : y ∈ L.take (k + 1) ↔ y ∈ L.take k ∨ L.getD k (0, 0) = y := by
  have e : L.getD k (0, 0) = L[k] := by rw [List.getD_eq_getElem?_getD, List.getElem?_eq_getElem h]; rfl
  rw [e, List.take_succ_eq_append_getElem h, List.mem_append, List.mem_singleton]
  exact ⟨fun g => g.imp id Eq.symm, fun g => g.imp id Eq.symm⟩

end Go.Proofs.YtbjmlbmkfgocdaaDoor
