/- Plain facts on an instrument tuned up and down again. No program is imported here. -/
import Derived.Test.YtbjmlbmkfgocdaaDoorPure8
import Derived.Test.YtbjmlbmkfgocdaaDoorAt
namespace Go.Proofs.YtbjmlbmkfgocdaaDoor

theorem tuE_facts {C : List Cr} {S : List Int} {k d : Int} (h : tuE C S k d = 0) : chk C S = 0 ∧ ∃ t : Nat, k = (t : Int) + 1 ∧ t < C.length ∧ (-127 ≤ d ∧ d ≤ 127) ∧ chk (tun C t (t + 1) d) S = 0 := by
  unfold tuE at h
  split at h
  · rename_i a; exact absurd h a
  · rename_i a
    split at h
    · cases h
    · rename_i b
      unfold retE at h
      split at h
      · cases h
      · rename_i c
        refine ⟨by simpa using a, k.toNat - 1, by omega, by omega, by omega, ?_⟩
        rw [show k.toNat - 1 + 1 = k.toNat by omega]
        exact h
theorem tuE_ok {C : List Cr} {S : List Int} {t : Nat} {d : Int} (h : chk C S = 0) (ht : t < C.length) (hd : -127 ≤ d ∧ d ≤ 127) (h2 : chk (tun C t (t + 1) d) S = 0) : tuE C S ((t : Int) + 1) d = 0 := by
  unfold tuE retE
  rw [if_neg (by rw [h]; simp), if_neg (by omega), if_neg (by omega), show ((t : Int) + 1).toNat = t + 1 by omega]
  exact h2
theorem tun_back (C : List Cr) (t : Nat) (d : Int) : tun (tun C t (t + 1) d) t (t + 1) (-d) = C := by
  refine ext_at (by rw [tun_len, tun_len]) fun i hi => ?_
  rw [tun_len, tun_len] at hi
  rw [tun_at _ _ _ _ _ (by rw [tun_len]; exact hi), tun_at _ _ _ _ _ hi]
  by_cases g : t ≤ i ∧ i < t + 1
  · rw [if_pos g, if_pos g]
    unfold bump
    show (⟨(C.getD i zc).p + d + -d, (C.getD i zc).f, (C.getD i zc).o⟩ : Cr) = _
    rw [show (C.getD i zc).p + d + -d = (C.getD i zc).p by omega]
  · rw [if_neg g, if_neg g]
theorem tun_next (C : List Cr) (b : Nat) (d : Int) : tun (tun C 0 b d) b (b + 1) d = tun C 0 (b + 1) d := by
  refine ext_at (by rw [tun_len, tun_len, tun_len]) fun i hi => ?_
  rw [tun_len, tun_len] at hi
  rw [tun_at _ _ _ _ _ (by rw [tun_len]; exact hi), tun_at _ _ _ _ _ hi, tun_at _ _ _ _ _ hi]
  by_cases g : i < b
  · rw [if_neg (by omega), if_pos ⟨by omega, g⟩, if_pos ⟨by omega, by omega⟩]
  · by_cases g2 : i = b
    · rw [if_pos ⟨by omega, by omega⟩, if_neg (by omega), if_pos ⟨by omega, by omega⟩]
    · rw [if_neg (by omega), if_neg (by omega), if_neg (by omega)]
/-- A place of the course that was tuned sounds d higher, every other as it did. -/
theorem at_tun {C : List Cr} {S : List Int} {t : Nat} {d : Int} (h : chk C S = 0) (h2 : chk (tun C t (t + 1) d) S = 0) (b : Nat) (hb : b < C.length) (pf : Int) :
    atE (tun C t (t + 1) d) S ((b : Int) + 1) pf = atE C S ((b : Int) + 1) pf ∧
    (atE C S ((b : Int) + 1) pf = 0 → atP (tun C t (t + 1) d) S ((b : Int) + 1) pf = atP C S ((b : Int) + 1) pf + (if b = t then d else 0) ∧ 0 ≤ atP C S ((b : Int) + 1) pf ∧ atP C S ((b : Int) + 1) pf ≤ 254) := by
  have e1 : ((b : Int) + 1 - 1).toNat = b := by omega
  have hh : hasB C.length ((b : Int) + 1) = true := by simp [hasB]; omega
  have hx : (tun C t (t + 1) d).getD b z0 = if t ≤ b ∧ b < t + 1 then bump d (C.getD b z0) else C.getD b z0 := tun_at C t (t + 1) d b hb
  have hf : ((tun C t (t + 1) d).getD b z0).f = (C.getD b z0).f := by
    rw [hx]; split <;> rfl
  have hE : atE (tun C t (t + 1) d) S ((b : Int) + 1) pf = atE C S ((b : Int) + 1) pf := by
    unfold atE
    rw [h, h2, tun_len, e1, hf]
  refine ⟨hE, fun h0 => ?_⟩
  have hfr : ¬ (pf < 0 ∨ (C.getD b z0).f < pf) := by
    intro g
    have := (at_fret (C := C) (S := S) (pc := (b : Int) + 1) (pf := pf) h hh (by rw [e1]; exact g)).1
    rw [this] at h0
    exact absurd h0 (by decide)
  obtain ⟨_, _, _, hr, hall⟩ := chk_facts h
  obtain ⟨⟨f0, f1⟩, ⟨p0, p1⟩, _⟩ := crErr_facts (hall _ (getD_mem C b hb))
  obtain ⟨r0, r1⟩ := riseV_bd (f := pf) hr (by omega) (by omega)
  unfold atP
  rw [if_pos (by rw [hE]; exact h0), if_pos h0, e1]
  refine ⟨?_, by omega, by omega⟩
  have hp : ((tun C t (t + 1) d).getD b z0).p = (C.getD b z0).p + if b = t then d else 0 := by
    rw [hx]
    by_cases g : b = t
    · rw [if_pos (by omega), if_pos g]; rfl
    · rw [if_neg (by omega), if_neg g, Int.add_zero]
  rw [hp]
  omega

end Go.Proofs.YtbjmlbmkfgocdaaDoor
