/- Plain functions: an instrument tuned differently. No program is imported here. -/
import Derived.Test.YtpcehgifpajmbaaGreatPure3
namespace Go.Proofs.YtpcehgifpajmbaaGreat

def zc : Cr := ⟨0, 0, false⟩
def bump (d : Int) (x : Cr) : Cr := ⟨x.p + d, x.f, x.o⟩
/-- The courses from a to b - 1 (from 0) are d higher. -/
def tun (C : List Cr) (a b : Nat) (d : Int) : List Cr := (List.range C.length).map fun i => if a ≤ i ∧ i < b then bump d (C.getD i zc) else C.getD i zc
theorem tun_len (C : List Cr) (a b : Nat) (d : Int) : (tun C a b d).length = C.length := by simp [tun]
theorem getD_at (C : List Cr) (i : Nat) (h : i < C.length) : C.getD i zc = C[i] := by
  rw [List.getD_eq_getElem?_getD, List.getElem?_eq_getElem h]; rfl
theorem tun_at (C : List Cr) (a b : Nat) (d : Int) (i : Nat) (h : i < C.length) : (tun C a b d).getD i zc = if a ≤ i ∧ i < b then bump d (C.getD i zc) else C.getD i zc := by
  rw [getD_at _ i (by rw [tun_len]; exact h)]
  simp [tun]
theorem ext_at {C D : List Cr} (hl : C.length = D.length) (h : ∀ i, i < C.length → C.getD i zc = D.getD i zc) : C = D := by
  apply List.ext_getElem hl
  intro i h1 h2
  have := h i h1
  rwa [getD_at C i h1, getD_at D i h2] at this
theorem tun_none (C : List Cr) (a : Nat) (d : Int) : tun C a a d = C := by
  refine ext_at (tun_len _ _ _ _) fun i hi => ?_
  rw [tun_len] at hi
  rw [tun_at _ _ _ _ _ hi, if_neg (by omega)]
theorem set_at (C : List Cr) (k i : Nat) (x : Cr) (h : i < C.length) : (C.set k x).getD i zc = if k = i then x else C.getD i zc := by
  rw [getD_at _ i (by simpa using h), getD_at C i h, List.getElem_set]
theorem tun_step (C : List Cr) (a b : Nat) (d : Int) (h1 : a ≤ b) : tun C a (b + 1) d = (tun C a b d).set b (bump d (C.getD b zc)) := by
  refine ext_at (by rw [List.length_set, tun_len, tun_len]) fun i hi => ?_
  rw [tun_len] at hi
  rw [set_at _ _ _ _ (by rw [tun_len]; exact hi), tun_at _ _ _ _ _ hi, tun_at _ _ _ _ _ hi]
  by_cases e : b = i
  · subst e; rw [if_pos ⟨h1, by omega⟩, if_pos rfl]
  · rw [if_neg e]
    by_cases g : a ≤ i ∧ i < b
    · rw [if_pos ⟨g.1, by omega⟩, if_pos g]
    · rw [if_neg (by omega), if_neg g]

def retE (C : List Cr) (S : List Int) (a b : Nat) (d : Int) : Int := if d < -127 ∨ 127 < d then 1 else chk (tun C a b d) S
def tuE (C : List Cr) (S : List Int) (k d : Int) : Int := if chk C S ≠ 0 then chk C S else if k < 1 ∨ (C.length : Int) < k then 12 else retE C S (k.toNat - 1) k.toNat d
def trE (C : List Cr) (S : List Int) (d : Int) : Int := if chk C S ≠ 0 then chk C S else retE C S 0 C.length d
/-- What a call hands back: L where the error is 0. -/
def okL {α : Type} (e : Int) (L : List α) : List α := if e = 0 then L else []
theorem okL_ok {α : Type} {e : Int} (h : e = 0) (L : List α) : okL e L = L := if_pos h
theorem okL_no {α : Type} {e : Int} (h : e ≠ 0) (L : List α) : okL e L = [] := if_neg h

end Go.Proofs.YtpcehgifpajmbaaGreat
