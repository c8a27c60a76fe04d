/- Facts on the names of notes, and the accidental's name: what does not depend on the functions that write a name. -/
import Derived.Test.YtdaeanjjmbibmaaDoorLeaf
import Derived.Lib.ItoaNum
import Derived.Deep.RegionHeld3
namespace Go.Proofs.YtdaeanjjmbibmaaDoor
open Go.RowKit

theorem ret_str {a b : ByteArray} (h : a = b) : Ending.returned (.string a) = .returned (.string b) := by rw [h]

theorem dgt_at (d : Nat) (h : d < 10) : (ByteArray.mk #[48, 49, 50, 51, 52, 53, 54, 55, 56, 57]).extract d (d + 1) = ⟨#[UInt8.ofNat (48 + d)]⟩ := by
  have hall : ∀ d : Fin 10, ((ByteArray.mk #[48, 49, 50, 51, 52, 53, 54, 55, 56, 57]).extract d.val (d.val + 1)).data = #[UInt8.ofNat (48 + d.val)] := by decide
  exact ByteArray.ext (hall ⟨d, h⟩)
theorem str_app (a b : List UInt8) : (ByteArray.mk a.toArray) ++ (ByteArray.mk b.toArray) = ⟨(a ++ b).toArray⟩ := by
  apply ByteArray.ext; simp [ByteArray.data_append]

theorem dec_len : ∀ (k n : Nat), n < 10 ^ (k + 1) → (Lib.decDigits n).length ≤ k + 1
  | 0, n, h => by rw [Lib.decDigits, dif_pos (by simpa using h)]; simp
  | k + 1, n, h => by
    by_cases h0 : n < 10
    · rw [Lib.decDigits, dif_pos h0]; simp
    · rw [Lib.decDigits, dif_neg h0]
      have := dec_len k (n / 10) (by rw [Nat.pow_succ] at h; omega)
      simp; omega
theorem itoa_len (n : Int) (h0 : -999 ≤ n) (h1 : n < 1000) : (Lib.itoa n).length ≤ 4 := by
  unfold Lib.itoa
  split
  · have := dec_len 2 n.natAbs (by simp; omega); simp; omega
  · have := dec_len 2 n.toNat (by simp; omega); omega

theorem ret_sp {a b : ByteArray} {k : IntKind} {e e' : Int} (h : a = b) (he : e = e') : Ending.returned (.tuple #[.string a, .int k e]) = .returned (.tuple #[.string b, .int k e']) := by rw [h, he]

set_option maxHeartbeats 400000 in
theorem alterName_any (a : Int) (w : World) :
    Calls Tryd.prog 108 #[.int .i64 a] w fun e w' => e = .returned (.string ⟨(altB a).toArray⟩) ∧ w = w' := by
  by_cases h1 : a = -1
  · subst h1
    go_enter Tryd.func108, Tryd.ntmps108
    go_wp2_with (fail)
    go_ret
    exact ⟨rfl, rfl⟩
  · by_cases h2 : a = 1
    · subst h2
      go_enter Tryd.func108, Tryd.ntmps108
      go_wp2_with (fail)
      go_ret
      exact ⟨rfl, rfl⟩
    · have hP : Hid (altB a = []) := by unfold Hid altB; rw [if_neg h1, if_neg h2]
      have hA : (a == -1) = false := by simpa using h1
      have hB : (a == 1) = false := by simpa using h2
      go_enter Tryd.func108, Tryd.ntmps108
      go_wp2_with (fail)
      go_ret
      exact ⟨ret_str (by rw [hP.out]), rfl⟩

theorem altB_len (a : Int) : (altB a).length ≤ 1 := by unfold altB; split; simp; split <;> simp
theorem lnm_size (n : Nat) (h : n < 7) : (lnm n).size ≤ 1 := by
  have : ∀ n : Fin 7, (lnm n.val).size ≤ 1 := by decide
  exact this ⟨n, h⟩

/-- The name of a note. -/
def nmB (l a o : Int) : List UInt8 := lnB l.toNat ++ altB a ++ Lib.itoa o
def nmS (l a o : Int) : List UInt8 := if rgt l a o then nmB l a o else []

theorem nm_eq (n : Nat) (a o : Int) : lnm n ++ (ByteArray.mk (altB a).toArray) ++ (ByteArray.mk (Lib.itoa o).toArray) = ⟨(nmB n a o).toArray⟩ := by
  unfold lnm nmB; rw [str_app, str_app]; simp

theorem ltr_at (n : Nat) (h : n < 7) : (ByteArray.mk #[67, 68, 69, 70, 71, 65, 66]).extract n (n + 1) = lnm n := by
  have hall : ∀ d : Fin 7, ((ByteArray.mk #[67, 68, 69, 70, 71, 65, 66]).extract d.val (d.val + 1)).data = (lnm d.val).data := by decide
  exact ByteArray.ext (hall ⟨n, h⟩)

end Go.Proofs.YtdaeanjjmbibmaaDoor
