/- Plain facts of a spelled pitch: it sounds as itself, lies in its key's row, and its name is read back; and where nothing is spelled. -/
import Derived.Test.YtjigapilplolcaaDoorSpell
import Derived.Test.YtjigapilplolcaaDoorPName
namespace Go.Proofs.YtjigapilplolcaaDoor
open Go.RowKit

def spGood (p key : Int) : Bool :=
  if spE p key = 0 then rgt (spL p key) (spAl p key) (spOc p key) && decide (pit (spL p key) (spAl p key) (spOc p key) = p) && decide (key - 3 ≤ fif (spL p key) + 7 * spAl p key) && decide (fif (spL p key) + 7 * spAl p key ≤ key + 8)
  else decide (p = 0) && decide (key = 4)
theorem spGood_all : ((List.range 128).all fun p => (List.range 9).all fun k => spGood p ((k : Nat) - 4)) = true := by kernel_rfl
theorem spGood_at {p key : Int} (h0 : 0 ≤ p) (h1 : p ≤ 127) (k0 : -4 ≤ key) (k1 : key ≤ 4) : spGood p key = true := by
  have h := List.all_eq_true.1 (List.all_eq_true.1 spGood_all p.toNat (by simp; omega)) (key + 4).toNat (by simp; omega)
  have e1 : ((p.toNat : Nat) : Int) = p := by omega
  have e2 : (((key + 4).toNat : Nat) : Int) - 4 = key := by omega
  rw [e1, e2] at h
  exact h

/-- Where no note is spelled. -/
theorem sp_err {p key : Int} (h : spE p key ≠ 0) : p < 0 ∨ 127 < p ∨ key < -4 ∨ 4 < key ∨ (p = 0 ∧ key = 4) := by
  by_cases a : p < 0
  · exact .inl a
  by_cases b : 127 < p
  · exact .inr (.inl b)
  by_cases c : key < -4
  · exact .inr (.inr (.inl c))
  by_cases d : 4 < key
  · exact .inr (.inr (.inr (.inl d)))
  have g := spGood_at (p := p) (key := key) (by omega) (by omega) (by omega) (by omega)
  unfold spGood at g
  rw [if_neg h] at g
  simp at g
  exact .inr (.inr (.inr (.inr g)))

/-- What is spelled. -/
theorem sp_ok {p key : Int} (h : spE p key = 0) : rgt (spL p key) (spAl p key) (spOc p key) = true ∧ pit (spL p key) (spAl p key) (spOc p key) = p ∧ key - 3 ≤ fif (spL p key) + 7 * spAl p key ∧ fif (spL p key) + 7 * spAl p key ≤ key + 8 := by
  have hp : isP p = true := by
    cases hp : isP p with
    | true => rfl
    | false => simp [spE, hp] at h
  have hk : ¬ (key < -4 ∨ 4 < key) := by
    intro hk
    simp [spE, hp, hk] at h
  obtain ⟨h0, h1⟩ := isP_iff.1 hp
  have g := spGood_at (p := p) (key := key) (by omega) (by omega) (by omega) (by omega)
  unfold spGood at g
  rw [if_pos h] at g
  simp only [Bool.and_eq_true, decide_eq_true_eq] at g
  exact ⟨g.1.1.1, g.1.1.2, g.1.2, g.2⟩

def oB (o : Int) : List UInt8 := if o = -1 then [45, 49] else [UInt8.ofNat (48 + o.toNat)]
theorem itoa_oB {o : Int} (h0 : -1 ≤ o) (h1 : o ≤ 9) : Lib.itoa o = oB o := by
  by_cases h : o = -1
  · subst h
    unfold Lib.itoa Lib.decDigits oB
    rfl
  · have hn : ¬ o < 0 := by omega
    unfold Lib.itoa Lib.decDigits oB
    rw [if_neg hn, if_neg h, dif_pos (by omega)]

def nbGood (n : Nat) (a o : Int) : Bool := !rgt n a o || decide (pForm (lnB n ++ altB a ++ oB o) = some (n, a, o))
theorem nbGood_all : ((List.range 7).all fun n => (List.range 3).all fun a => (List.range 11).all fun o => nbGood n ((a : Nat) - 1) ((o : Nat) - 1)) = true := by kernel_rfl

/-- A right note's name is read back. -/
theorem pForm_nmB {n : Nat} {a o : Int} (h : rgt n a o = true) : pForm (nmB n a o) = some (n, a, o) := by
  obtain ⟨⟨_, hn⟩, ⟨a0, a1⟩, o0, o1⟩ := rngB_iff.1 (rgt_rng h).1
  have g := List.all_eq_true.1 (List.all_eq_true.1 (List.all_eq_true.1 nbGood_all n (by simp; omega)) (a + 1).toNat (by simp; omega)) (o + 1).toNat (by simp; omega)
  have e1 : (((a + 1).toNat : Nat) : Int) - 1 = a := by omega
  have e2 : (((o + 1).toNat : Nat) : Int) - 1 = o := by omega
  rw [e1, e2] at g
  unfold nbGood at g
  rw [h] at g
  unfold nmB
  rw [itoa_oB o0 o1, show ((n : Nat) : Int).toNat = n by omega]
  simpa using g

theorem nm_back {n : Nat} {a o : Int} (h : rgt n a o = true) : nmL (nmS n a o) = n ∧ nmA (nmS n a o) = a ∧ nmO (nmS n a o) = o ∧ nmE (nmS n a o) = 0 := by
  have hp : pForm (nmS n a o) = some (n, a, o) := by unfold nmS; rw [if_pos h]; exact pForm_nmB h
  simp [nmL, nmA, nmO, nmE, sndE, hp, h]

end Go.Proofs.YtjigapilplolcaaDoor
