/- With a capo every place sounds what the place that many frets higher sounds without it. -/
import Derived.Test.YtbjmlbmkfgocdaaDoorAt
import Derived.Test.YtbjmlbmkfgocdaaDoorPure8
namespace Go.Proofs.YtbjmlbmkfgocdaaDoor

theorem hasB_len (n : Nat) (pc : Int) (h1 : 1 ≤ pc) (h2 : pc ≤ n) : hasB n pc = true := by simp [hasB]; omega
/-- k frets higher, but on a course without frets as it is. -/
def mvF (C : List Cr) (pc : Int) (k : Int) : Int := if (C.getD (pc - 1).toNat z0).f = 0 then 0 else k
theorem cap_at {C : List Cr} {S : List Int} {k : Nat} {pc pf : Int} (h : chk C S = 0) (hk : k ≤ S.length) (ho : capOk k C = true) (h1 : 1 ≤ pc) (h2 : pc ≤ C.length) (h3 : 0 ≤ pf) :
    atE (capC C S k) (capS S k) pc pf = atE C S pc (pf + mvF C pc k) ∧ atP (capC C S k) (capS S k) pc pf = atP C S pc (pf + mvF C pc k) := by
  have hc := cap_chk h hk ho
  have hi : (pc - 1).toNat < C.length := by omega
  have hx : (capC C S k).getD (pc - 1).toNat z0 = cap1 (riseV S k) k (C.getD (pc - 1).toNat z0) := map_at _ C _ hi
  obtain ⟨_, _, _, hr, hall⟩ := chk_facts h
  have hok : (C.getD (pc - 1).toNat z0).f = 0 ∨ (k : Int) ≤ (C.getD (pc - 1).toNat z0).f := capOk_at ho hi
  obtain ⟨⟨f0, f1⟩, _, _⟩ := crErr_facts (hall _ (getD_mem C _ hi))
  have hl : (capC C S k).length = C.length := by simp [capC]
  unfold mvF
  have hE : atE (capC C S k) (capS S k) pc pf = atE C S pc (pf + if (C.getD (pc - 1).toNat z0).f = 0 then 0 else (k : Int)) := by
    unfold atE
    rw [hc, h, hl, hasB_len _ _ h1 h2, hx]
    simp only [ne_eq, not_true_eq_false, if_false, Bool.true_eq_false]
    generalize C.getD (pc - 1).toNat z0 = x at *
    have e1 : (cap1 (riseV S k) k x).f = if x.f = 0 then 0 else x.f - (k : Int) := by
      unfold cap1
      by_cases e : x.f = 0
      · rw [if_pos e, if_pos e, e]
      · rw [if_neg e, if_neg e]
    rw [e1]
    by_cases e : x.f = 0
    · have e3 : (if x.f = 0 then (0 : Int) else x.f - (k : Int)) = 0 := if_pos e
      have e4 : (if x.f = 0 then (0 : Int) else (k : Int)) = 0 := if_pos e
      rw [e3, e4, Int.add_zero, e]
    · simp only [if_neg e]
      by_cases g : x.f - (k : Int) < pf
      · rw [if_pos (.inr g), if_pos (.inr (by omega))]
      · rw [if_neg (by omega), if_neg (by omega)]
  refine ⟨hE, ?_⟩
  unfold atP
  rw [hE]
  by_cases h0 : atE C S pc (pf + if (C.getD (pc - 1).toNat z0).f = 0 then 0 else (k : Int)) = 0
  · rw [if_pos h0, if_pos h0, hx]
    have hfr : pf + (if (C.getD (pc - 1).toNat z0).f = 0 then 0 else (k : Int)) ≤ (C.getD (pc - 1).toNat z0).f := by
      by_cases g : pf + (if (C.getD (pc - 1).toNat z0).f = 0 then 0 else (k : Int)) < 0 ∨ (C.getD (pc - 1).toNat z0).f < pf + (if (C.getD (pc - 1).toNat z0).f = 0 then 0 else (k : Int))
      · have := (at_fret h (hasB_len _ _ h1 h2) g).1
        rw [this] at h0
        exact absurd h0 (by decide)
      · omega
    generalize C.getD (pc - 1).toNat z0 = x at *
    by_cases e : x.f = 0
    · have ex : cap1 (riseV S k) k x = x := by unfold cap1; rw [if_pos e]
      rw [if_pos e] at hfr ⊢
      have hp : pf = 0 := by omega
      subst hp
      rw [ex]
      rfl
    · have ex : cap1 (riseV S k) k x = ⟨x.p + riseV S k, x.f - k, x.o⟩ := by unfold cap1; rw [if_neg e]
      rw [if_neg e] at hfr ⊢
      obtain ⟨q, rfl⟩ := Int.eq_ofNat_of_zero_le h3
      have hv := riseV_cap S k q (by omega)
      rw [ex, show (q : Int) + (k : Int) = ((k + q : Nat) : Int) by omega]
      show x.p + riseV S k + riseV (capS S k) q = _
      rw [hv]
      omega
  · rw [if_neg h0, if_neg h0]

end Go.Proofs.YtbjmlbmkfgocdaaDoor
