/- Plain facts: the first note in the reference's order that fits a pitch and a key is the one that the program spells. -/
import Derived.Test.YtdaeanjjmbibmaaDoorSpell
namespace Go.Proofs.YtdaeanjjmbibmaaDoor
open Go.RowKit

/-- The j-th note in the reference's order: octave j/21-1, letter j%21/3, accidental j%3-1. -/
def rsO (j : Nat) : Int := ((j / 21 : Nat) : Int) - 1
def rsL (j : Nat) : Int := ((j % 21 / 3 : Nat) : Int)
def rsA (j : Nat) : Int := ((j % 3 : Nat) : Int) - 1
def rsOk (p key : Int) (j : Nat) : Bool := decide (pit (rsL j) (rsA j) (rsO j) = p) && rgt (rsL j) (rsA j) (rsO j) && decide (key - 3 ≤ fif (rsL j) + 7 * rsA j) && decide (fif (rsL j) + 7 * rsA j ≤ key + 8)
def rsFirst (p key : Int) (n : Nat) : Nat → Nat
  | 0 => n
  | k + 1 => if rsOk p key (n - (k + 1)) then n - (k + 1) else rsFirst p key n k
theorem rsFirst_hit (p key : Int) (n j : Nat) (hj : j < n) (h : rsOk p key j = true) (hn : ∀ i, i < j → rsOk p key i = false) : ∀ k, k ≤ n → n - k ≤ j → rsFirst p key n k = j
  | 0, _, h2 => by omega
  | k + 1, h1, h2 => by
    unfold rsFirst
    by_cases e : n - (k + 1) = j
    · rw [e, if_pos h]
    · rw [if_neg (by rw [hn _ (by omega)]; simp)]
      exact rsFirst_hit p key n j hj h hn k (by omega) (by omega)
theorem rsFirst_miss (p key : Int) (n : Nat) (hn : ∀ i, i < n → rsOk p key i = false) : ∀ k, k ≤ n → rsFirst p key n k = n
  | 0, _ => rfl
  | k + 1, h1 => by
    unfold rsFirst
    rw [if_neg (by rw [hn _ (by omega)]; simp)]
    exact rsFirst_miss p key n hn k (by omega)

def rsGood (p key : Int) : Bool :=
  let j := rsFirst p key 231 231
  if j = 231 then decide (spE p key = 10) else decide (spE p key = 0) && decide (spL p key = rsL j) && decide (spAl p key = rsA j) && decide (spOc p key = rsO j)
theorem rsGood_all : ((List.range 128).all fun p => (List.range 9).all fun k => rsGood p ((k : Nat) - 4)) = true := by kernel_rfl
theorem rsGood_at {p key : Int} (h0 : 0 ≤ p) (h1 : p ≤ 127) (k0 : -4 ≤ key) (k1 : key ≤ 4) : rsGood p key = true := by
  have h := List.all_eq_true.1 (List.all_eq_true.1 rsGood_all p.toNat (by simp; omega)) (key + 4).toNat (by simp; omega)
  have e1 : ((p.toNat : Nat) : Int) = p := by omega
  have e2 : (((key + 4).toNat : Nat) : Int) - 4 = key := by omega
  rw [e1, e2] at h
  exact h

theorem rs_found {p key : Int} (h0 : 0 ≤ p) (h1 : p ≤ 127) (k0 : -4 ≤ key) (k1 : key ≤ 4) {j : Nat} (hj : j < 231) (h : rsOk p key j = true) (hn : ∀ i, i < j → rsOk p key i = false) :
    spL p key = rsL j ∧ spAl p key = rsA j ∧ spOc p key = rsO j ∧ spE p key = 0 := by
  have g := rsGood_at h0 h1 k0 k1
  have e : rsFirst p key 231 231 = j := rsFirst_hit p key 231 j hj h hn 231 (by omega) (by omega)
  unfold rsGood at g
  simp only [e] at g
  rw [if_neg (by omega)] at g
  simp only [Bool.and_eq_true, decide_eq_true_eq] at g
  exact ⟨g.1.1.2, g.1.2, g.2, g.1.1.1⟩
theorem rs_none {p key : Int} (h0 : 0 ≤ p) (h1 : p ≤ 127) (k0 : -4 ≤ key) (k1 : key ≤ 4) (hn : ∀ i, i < 231 → rsOk p key i = false) :
    spL p key = 0 ∧ spAl p key = 0 ∧ spOc p key = 0 ∧ spE p key = 10 := by
  have g := rsGood_at h0 h1 k0 k1
  have e : rsFirst p key 231 231 = 231 := rsFirst_miss p key 231 hn 231 (by omega)
  unfold rsGood at g
  simp only [e] at g
  simp at g
  have hne : ¬ spE p key = 0 := by rw [g]; decide
  exact ⟨by rw [spL, if_neg hne], by rw [spAl, if_neg hne], by rw [spOc, if_neg hne], g⟩
theorem rs_at (o k q : Nat) (hk : k < 7) (hq : q < 3) : rsO (21 * o + 3 * k + q) = (o : Int) - 1 ∧ rsL (21 * o + 3 * k + q) = k ∧ rsA (21 * o + 3 * k + q) = (q : Int) - 1 := by
  unfold rsO rsL rsA
  refine ⟨?_, ?_, ?_⟩ <;> omega
theorem rs_ok (p key : Int) (o k q : Nat) (hk : k < 7) (hq : q < 3) :
    rsOk p key (21 * o + 3 * k + q) = (decide (pit k ((q : Int) - 1) ((o : Int) - 1) = p) && rgt k ((q : Int) - 1) ((o : Int) - 1) && decide (key - 3 ≤ fif k + 7 * ((q : Int) - 1)) && decide (fif k + 7 * ((q : Int) - 1) ≤ key + 8)) := by
  obtain ⟨h1, h2, h3⟩ := rs_at o k q hk hq
  unfold rsOk
  rw [h1, h2, h3]
theorem rs_more {p key : Int} {n : Nat} (h : ∀ j, j < n → rsOk p key j = false) (hn : rsOk p key n = false) : ∀ j, j < n + 1 → rsOk p key j = false := fun j hj => by
  by_cases e : j = n
  · rw [e]; exact hn
  · exact h j (by omega)

end Go.Proofs.YtdaeanjjmbibmaaDoor
