/- What the reference's Sound and At return for any instrument and place. -/
import Derived.Test.YtpcehgifpajmbaaGreatRefCheck
namespace Go.Proofs.YtpcehgifpajmbaaGreat
open Go.RowKit

set_option maxHeartbeats 1600000 in
theorem rsound_any (A A' : Option Addr) (n c m c' : Nat) (C : List Cr) (S : List Int) (k : Nat) (pf : Int) (w : World) (hC : Sl w w.heap.size 3 A n c (crC C)) (hS : Sl w w.heap.size 1 A' m c' (intC S)) (hn : n = C.length) (hm : m = S.length)
    (hb : n ≤ 9223372036854775807) (hb2 : m ≤ 9223372036854775807) (hk : k < n) (h0 : 0 ≤ pf) (h1 : pf ≤ m) (hp : 0 ≤ (C.getD k z0).p ∧ (C.getD k z0).p ≤ 127) (hr : 0 ≤ riseV S pf ∧ riseV S pf ≤ 127) :
    Calls Tryz.prog 31 #[.agg #[.slice A n c, .slice A' m c'], .agg #[.int .i64 ((k : Int) + 1), .int .i64 pf]] w fun e w' => e = .returned (.int .i64 ((C.getD k z0).p + riseV S pf)) ∧ Below w.heap.size w w' := by
  have hC2 := (hC.below (ba w (.cells #[.slice A n c, .slice A' m c'] 25))).below (ba _ (.cells #[.int .i64 ((k : Int) + 1), .int .i64 pf] 76))
  have hS2 := (hS.below (ba w (.cells #[.slice A n c, .slice A' m c'] 25))).below (ba _ (.cells #[.int .i64 ((k : Int) + 1), .int .i64 pf] 76))
  obtain ⟨b, off, rfl, hB, hc⟩ := hC2.2.2 (by omega)
  obtain ⟨i0, _, _⟩ := crC_at C k (by omega)
  have k0 := hc _ _ i0
  have g2 : (k : Int) < n := by omega
  clear hc i0 hC2 hC
  generalize C.getD k z0 = x at *
  obtain ⟨p, f, o⟩ := x
  dsimp only at k0 hp ⊢
  obtain ⟨p1, p2⟩ := hp
  obtain ⟨r1, r2⟩ := hr
  by_cases hf0 : 0 < pf
  · obtain ⟨g, rfl⟩ : ∃ g : Nat, pf = (g : Int) + 1 := ⟨(pf - 1).toNat, by omega⟩
    obtain ⟨b2, off2, rfl, hB2, hc2⟩ := hS2.2.2 (by omega)
    have hcell := hc2 g _ (intC_at S g (by omega))
    have hv : riseV S ((g : Int) + 1) = S.getD g 0 := by unfold riseV; rw [if_neg (by omega), show ((g : Int) + 1 - 1).toNat = g by omega]
    rw [hv] at r1 r2 ⊢
    have g3 : (g : Int) < m := by omega
    clear hc2 hS2 hv hS hn hm
    generalize S.getD g 0 = s at *
    go_enter Tryz.func31, Tryz.ntmps31
    go_wp2_with (fail)
    go_ret
    exact ⟨rfl, balA (ba _ _) _⟩
  · obtain rfl : pf = 0 := by omega
    have hv : riseV S 0 = 0 := rfl
    rw [hv]
    clear r1 r2 hv hS2 hS hn hm
    go_enter Tryz.func31, Tryz.ntmps31
    go_wp2_with (fail)
    go_ret
    exact ⟨ret_int (by omega), balA (ba _ _) _⟩

end Go.Proofs.YtpcehgifpajmbaaGreat
