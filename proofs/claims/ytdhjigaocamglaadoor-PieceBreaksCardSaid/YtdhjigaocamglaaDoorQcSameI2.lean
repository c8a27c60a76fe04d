/- Pieces: is a piece larger than what a statement looks at? -/
import Derived.Test.YtdhjigaocamglaaDoorQcPcLeaf
import Derived.Test.YtdhjigaocamglaaDoorQcCopy
namespace Go.Proofs.YtdhjigaocamglaaDoor
open Go Go.RowKit

def manyB : List EvP → Bool
  | [] => false
  | y :: r => decide (20 < y.L.length) || manyB r
def pbigB (n m : Nat) (P : List EvP) : Bool := decide (64 < n) || decide (64 < m) || decide (420 < P.length) || manyB P
theorem manyB_mem : ∀ {P : List EvP}, manyB P = false → ∀ y ∈ P, y.L.length ≤ 20
  | [], _, y, h => by cases h
  | x :: r, hb, y, h => by
    simp [manyB] at hb
    rcases List.mem_cons.1 h with rfl | h
    · exact hb.1
    · exact manyB_mem hb.2 y h
theorem pbigB_no {n m : Nat} {P : List EvP} (h : pbigB n m P = false) : n ≤ 64 ∧ m ≤ 64 ∧ P.length ≤ 420 ∧ ∀ y ∈ P, y.L.length ≤ 20 := by
  simp [pbigB] at h
  exact ⟨h.1.1.1, h.1.1.2, h.1.2, manyB_mem h.2⟩

set_option maxRecDepth 100000 in
set_option maxHeartbeats 1600000 in
theorem pbig_any (A : Option Addr) (n c : Nat) (A' : Option Addr) (m c' : Nat) (A2 : Option Addr) (q cq : Nat) (P : List EvP) (w : World) (hE : EsIn w A2 q cq P) :
    Calls Tryd.prog 8 #[pcV A n c A' m c' A2 q cq] w fun e w' => e = .returned (.bool (pbigB n m P)) ∧ Below w.heap.size w w' := by
  have HQ := Lib.hid hE.hq
  have HE := Lib.hid (hE.below (ba w (pcO A n c A' m c' A2 q cq)))
  have HB : Hid (∀ B, (decide (64 < n) || decide (64 < m) || decide (420 < q) || manyB P) = B → pbigB n m P = B) := fun B h => by rw [pbigB, ← HQ.out, h]
  clear hE
  by_cases h1 : (64 : Int) < (n : Int)
  · have h1' : 64 < n := by omega
    have HZ := Lib.hid (HB.out true (by simp [h1']))
    clear h1'
    go_enter Tryd.func8, Tryd.ntmps8
    go_wp2_with (fail)
    go_ret
    exact ⟨ret_b HZ.out.symm, ba _ _⟩
  by_cases h2 : (64 : Int) < (m : Int)
  · have h1' : 64 < m := by omega
    have HZ := Lib.hid (HB.out true (by simp [h1']))
    clear h1'
    go_enter Tryd.func8, Tryd.ntmps8
    go_wp2_with (fail)
    go_ret
    exact ⟨ret_b HZ.out.symm, ba _ _⟩
  by_cases h3 : (420 : Int) < (q : Int)
  · have h1' : 420 < q := by omega
    have HZ := Lib.hid (HB.out true (by simp [h1']))
    clear h1'
    go_enter Tryd.func8, Tryd.ntmps8
    go_wp2_with (fail)
    go_ret
    exact ⟨ret_b HZ.out.symm, ba _ _⟩
  have HM : Hid (pbigB n m P = manyB P) := HB.out _ (by simp [show ¬ 64 < n by omega, show ¬ 64 < m by omega, show ¬ 420 < q by omega])
  clear HB
  go_enter Tryd.func8, Tryd.ntmps8
  go_wp2_with (fail)
  go_loop [3] (fun i => ∃ k : Nat, k ≤ q ∧ i = .int .i64 k ∧ manyB P = manyB (P.drop k)) (fun i => q - (intOf i).toNat)
  case atStart => exact ⟨0, by omega, rfl, rfl⟩
  case round =>
    obtain ⟨k, hk, rfl, hr⟩ := hrel
    have HR := Lib.hid hr
    clear hr
    by_cases hlt : k < q
    · obtain ⟨b, off, sa, sc, rfl, hbl, _, hd, ⟨_, _, _, _, _, c5⟩, _⟩ := HE.out.at hlt
      have HD := Lib.hid hd
      clear hd
      obtain ⟨N, hN⟩ : ∃ N, (P.getD k z6).L.length = N := ⟨_, rfl⟩
      rw [hN] at c5
      have HN : Hid (manyB (P.drop k) = (decide (20 < N) || manyB (P.drop (k + 1)))) := by unfold Hid; rw [HD.out, manyB, hN]
      clear hN
      by_cases hm : (20 : Int) < (N : Int)
      · have HZ : Hid (manyB (P.drop k) = true) := by unfold Hid; rw [HN.out]; simp; left; omega
        go_wp2_with (fail)
        go_ret
        exact ⟨ret_b (by rw [HM.out, HR.out, HZ.out]), ba _ _⟩
      · have HZ : Hid (manyB (P.drop k) = manyB (P.drop (k + 1))) := by unfold Hid; rw [HN.out]; simp; intro h; omega
        go_wp2_with (fail)
        go_round
        case rel => exact ⟨k + 1, by omega, by first | rfl | go_num, by rw [HR.out, HZ.out]⟩
        case measure => simp [intOf]; omega
    · go_wp2_with (fail)
      go_ret
      exact ⟨ret_b (by rw [HM.out, HR.out, List.drop_of_length_le (by have := HQ.out; omega)]; rfl), ba _ _⟩

end Go.Proofs.YtdhjigaocamglaaDoor

/- What SameInts returns at two equal lists; what Long returns. -/
namespace Go.Proofs.YtdhjigaocamglaaDoor
open Go Go.RowKit

def plongB (n m : Nat) (P : List EvP) : Bool := pbigB n m P || decide (60 < P.length)
theorem plongB_no {n m : Nat} {P : List EvP} (h : plongB n m P = false) : pbigB n m P = false ∧ P.length ≤ 60 := by
  simp [plongB] at h
  exact ⟨h.1, h.2⟩
set_option maxHeartbeats 1600000 in
theorem plong_any (A : Option Addr) (n c : Nat) (A' : Option Addr) (m c' : Nat) (A2 : Option Addr) (q cq : Nat) (P : List EvP) (w : World) (hE : EsIn w A2 q cq P) :
    Calls Tryd.prog 20 #[pcV A n c A' m c' A2 q cq] w fun e w' => e = .returned (.bool (plongB n m P)) ∧ Below w.heap.size w w' := by
  have HQ := Lib.hid hE.hq
  have HE := Lib.hid (hE.below (ba w (pcO A n c A' m c' A2 q cq)))
  have HB : Hid (plongB n m P = (pbigB n m P || decide (60 < P.length))) := rfl
  have HBG := Lib.hid (pbig_any A n c A' m c' A2 q cq P _ HE.out)
  clear hE
  generalize pbigB n m P = bg at *
  cases bg with
  | true =>
    go_enter Tryd.func20, Tryd.ntmps20
    go_wp2_with (go_at_call 8; refine HBG.out.mono ?_; rintro e w1 ⟨rfl, hb1⟩)
    go_ret
    exact ⟨ret_b (by rw [HB.out]; rfl), bx hb1⟩
  | false =>
    by_cases h60 : 60 < q
    · have h60i : (60 : Int) < (q : Int) := by omega
      go_enter Tryd.func20, Tryd.ntmps20
      go_wp2_with (go_at_call 8; refine HBG.out.mono ?_; rintro e w1 ⟨rfl, hb1⟩; obtain ⟨p0, p1, p2⟩ := cell3 hb1)
      go_ret
      exact ⟨ret_b (by rw [HB.out, ← HQ.out]; simp [h60]), bx hb1⟩
    · have h60i : ¬ ((60 : Int) < (q : Int)) := by omega
      go_enter Tryd.func20, Tryd.ntmps20
      go_wp2_with (go_at_call 8; refine HBG.out.mono ?_; rintro e w1 ⟨rfl, hb1⟩; obtain ⟨p0, p1, p2⟩ := cell3 hb1)
      go_ret
      exact ⟨ret_b (by rw [HB.out, ← HQ.out]; simp [h60]; try omega), bx hb1⟩

end Go.Proofs.YtdhjigaocamglaaDoor
