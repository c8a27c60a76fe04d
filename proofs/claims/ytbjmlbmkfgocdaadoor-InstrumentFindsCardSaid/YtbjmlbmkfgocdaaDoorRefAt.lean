/- What the reference's Sound and At return for any instrument and place. -/
import Derived.Test.YtbjmlbmkfgocdaaDoorRefCheck
namespace Go.Proofs.YtbjmlbmkfgocdaaDoor
open Go.RowKit

set_option maxHeartbeats 1600000 in
theorem rsound_any (A A' : Option Addr) (n c m c' : Nat) (C : List Cr) (S : List Int) (k : Nat) (pf : Int) (w : World) (hC : Sl w w.heap.size 3 A n c (crC C)) (hS : Sl w w.heap.size 1 A' m c' (intC S)) (hn : n = C.length) (hm : m = S.length)
    (hb : n ≤ 9223372036854775807) (hb2 : m ≤ 9223372036854775807) (hk : k < n) (h0 : 0 ≤ pf) (h1 : pf ≤ m) (hp : 0 ≤ (C.getD k z0).p ∧ (C.getD k z0).p ≤ 127) (hr : 0 ≤ riseV S pf ∧ riseV S pf ≤ 127) :
    Calls Tryd.prog 53 #[.agg #[.slice A n c, .slice A' m c'], .agg #[.int .i64 ((k : Int) + 1), .int .i64 pf]] w fun e w' => e = .returned (.int .i64 ((C.getD k z0).p + riseV S pf)) ∧ Below w.heap.size w w' := by
  have hC2 := (hC.below (ba w (.cells #[.slice A n c, .slice A' m c'] 36))).below (ba _ (.cells #[.int .i64 ((k : Int) + 1), .int .i64 pf] 38))
  have hS2 := (hS.below (ba w (.cells #[.slice A n c, .slice A' m c'] 36))).below (ba _ (.cells #[.int .i64 ((k : Int) + 1), .int .i64 pf] 38))
  obtain ⟨b, off, rfl, hB, hc⟩ := hC2.2.2 (by omega)
  obtain ⟨i0, _, _⟩ := crC_at C k (by omega)
  have k0 := hc _ _ i0
  have g2 : (k : Int) < n := by omega
  clear hc i0 hC2 hC
  generalize C.getD k z0 = x at *
  obtain ⟨p, f, o⟩ := x
  dsimp only at k0 hp ⊢
  obtain ⟨p1, p2⟩ := hp
  obtain ⟨r1, r2⟩ := hr
  by_cases hf0 : 0 < pf
  · obtain ⟨g, rfl⟩ : ∃ g : Nat, pf = (g : Int) + 1 := ⟨(pf - 1).toNat, by omega⟩
    obtain ⟨b2, off2, rfl, hB2, hc2⟩ := hS2.2.2 (by omega)
    have hcell := hc2 g _ (intC_at S g (by omega))
    have hv : riseV S ((g : Int) + 1) = S.getD g 0 := by unfold riseV; rw [if_neg (by omega), show ((g : Int) + 1 - 1).toNat = g by omega]
    rw [hv] at r1 r2 ⊢
    have g3 : (g : Int) < m := by omega
    clear hc2 hS2 hv hS hn hm
    generalize S.getD g 0 = s at *
    go_enter Tryd.func53, Tryd.ntmps53
    go_wp2_with (fail)
    go_ret
    exact ⟨rfl, balA (ba _ _) _⟩
  · obtain rfl : pf = 0 := by omega
    have hv : riseV S 0 = 0 := rfl
    rw [hv]
    clear r1 r2 hv hS2 hS hn hm
    go_enter Tryd.func53, Tryd.ntmps53
    go_wp2_with (fail)
    go_ret
    exact ⟨ret_int (by omega), balA (ba _ _) _⟩

set_option maxRecDepth 100000 in
set_option maxHeartbeats 3200000 in
theorem rat_any (A A' : Option Addr) (n c m c' : Nat) (C : List Cr) (S : List Int) (pc pf : Int) (w : World) (hC : Sl w w.heap.size 3 A n c (crC C)) (hS : Sl w w.heap.size 1 A' m c' (intC S)) (hn : n = C.length) (hm : m = S.length)
    (hb : n ≤ 9223372036854775807) (hb2 : m ≤ 9223372036854775807) :
    Calls Tryd.prog 22 #[.agg #[.slice A n c, .slice A' m c'], .agg #[.int .i64 pc, .int .i64 pf]] w fun e w' => e = .returned (.tuple #[.int .i64 (atP C S pc pf), .int .i64 (atE C S pc pf)]) ∧ Below w.heap.size w w' := by
  have hC2 := (hC.below (ba w (.cells #[.slice A n c, .slice A' m c'] 36))).below (ba _ (.cells #[.int .i64 pc, .int .i64 pf] 38))
  have hS2 := (hS.below (ba w (.cells #[.slice A n c, .slice A' m c'] 36))).below (ba _ (.cells #[.int .i64 pc, .int .i64 pf] 38))
  have HCK := Lib.hid (rcheck_any A A' n c m c' C S _ hC2 hS2 hn hm hb hb2)
  have HC2 := Lib.hid hC2
  have HS2 := Lib.hid hS2
  have HN := Lib.hid hn
  have HM := Lib.hid hm
  clear hC hS hC2 hS2 hm
  by_cases h1 : chk C S = 0
  · have H1 := Lib.hid h1
    by_cases h2 : hasB C.length pc = false
    · have H := Lib.hid (at_has (pf := pf) h1 h2)
      have h3 : pc < 1 ∨ (n : Int) < pc := by simp [hasB] at h2; omega
      clear h1 h2 hn
      rcases h3 with h3 | h3
      · go_enter Tryd.func22, Tryd.ntmps22
        go_wp2_with (go_at_call 24; refine HCK.out.mono ?_; rintro e w3 ⟨rfl, hb3⟩; rw [H1.out]; have hbt := bt (ba _ _) hb3; obtain ⟨c0, _⟩ := keepb hbt 0; obtain ⟨c1, _⟩ := keepb hbt 1; obtain ⟨d0, _⟩ := keepb hb3 0; obtain ⟨d1, _⟩ := keepb hb3 1; have hz : w.heap.size + 1 < w3.heap.size := (by have := hb3.size; simp at this; omega); simp at c0 c1 d0 d1)
        go_ret2
        exact ⟨ret_ii H.out.2.symm H.out.1.symm, bx hbt⟩
      · have h3' : ¬ pc < 1 := by omega
        go_enter Tryd.func22, Tryd.ntmps22
        go_wp2_with (go_at_call 24; refine HCK.out.mono ?_; rintro e w3 ⟨rfl, hb3⟩; rw [H1.out]; have hbt := bt (ba _ _) hb3; obtain ⟨c0, _⟩ := keepb hbt 0; obtain ⟨c1, _⟩ := keepb hbt 1; obtain ⟨d0, _⟩ := keepb hb3 0; obtain ⟨d1, _⟩ := keepb hb3 1; have hz : w.heap.size + 1 < w3.heap.size := (by have := hb3.size; simp at this; omega); simp at c0 c1 d0 d1)
        go_ret2
        exact ⟨ret_ii H.out.2.symm H.out.1.symm, bx hbt⟩
    · replace h2 : hasB C.length pc = true := by simpa using h2
      have hh : 1 ≤ pc ∧ pc ≤ n := by rw [hn]; simpa [hasB] using h2
      obtain ⟨k, rfl⟩ : ∃ k : Nat, pc = (k : Int) + 1 := ⟨(pc - 1).toNat, by omega⟩
      have hk : k < C.length := by omega
      have e1 : ((k : Int) + 1 - 1).toNat = k := by omega
      obtain ⟨b, off, rfl, hB, hc⟩ := HC2.out.2.2 (by omega)
      obtain ⟨i0, i1, i2⟩ := crC_at C k hk
      have k1 := hc _ _ i1
      rw [← Nat.add_assoc] at k1
      obtain ⟨_, _, hri, hce⟩ := chk_ok h1
      obtain ⟨x1, x2, x3, x4, _⟩ := crErr_ok (crsErr_mem hce _ (getD_mem C k hk))
      have g1 : ¬ ((k : Int) + 1 < 1) := by omega
      have g2 : (k : Int) < n := by omega
      have g3 : ¬ ((n : Int) < (k : Int) + 1) := by omega
      have g4 : IntKind.i64.wrap (k : Int) = k := IntWalk.i64_in _ ⟨by omega, by omega⟩
      have HK : Hid (∀ w4, Below ((w.alloc (.cells #[.slice (some ⟨b, off, none⟩) n c, .slice A' m c'] 36)).alloc (.cells #[.int .i64 ((k : Int) + 1), .int .i64 pf] 38)).heap.size ((w.alloc (.cells #[.slice (some ⟨b, off, none⟩) n c, .slice A' m c'] 36)).alloc (.cells #[.int .i64 ((k : Int) + 1), .int .i64 pf] 38)) w4 → w4.cell? ⟨b, off + k * 3 + 1, none⟩ = some (.int .i64 (C.getD k z0).f) ∧ b < w4.heap.size) :=
        fun w4 h => ⟨((bcell h).1 b _ hB).trans k1, Nat.lt_of_lt_of_le hB h.size⟩
      clear k1 i0 i1 i2 hc hB hce
      by_cases h3 : pf < 0 ∨ (C.getD ((k : Int) + 1 - 1).toNat z0).f < pf
      · have H := Lib.hid (at_fret h1 h2 h3)
        rw [e1] at h3
        clear h1 h2 hn hh e1 hri HC2 HS2
        generalize C.getD k z0 = x at *
        by_cases h4 : pf < 0
        · clear h3
          go_enter Tryd.func22, Tryd.ntmps22
          go_wp2_with (go_at_call 24; refine HCK.out.mono ?_; rintro e w3 ⟨rfl, hb3⟩; rw [H1.out]; have hbt := bt (ba _ _) hb3; obtain ⟨c0, _⟩ := keepb hbt 0; obtain ⟨c1, _⟩ := keepb hbt 1; obtain ⟨d0, _⟩ := keepb hb3 0; obtain ⟨d1, _⟩ := keepb hb3 1; have hz : w.heap.size + 1 < w3.heap.size := (by have := hb3.size; simp at this; omega); simp at c0 c1 d0 d1; obtain ⟨y1, y3⟩ := HK.out _ hb3)
          go_quiet (fail)
          go_wp2_with (fail)
          go_ret2
          exact ⟨ret_ii H.out.2.symm H.out.1.symm, bd (bx hbt) _⟩
        · have h5 : x.f < pf := by omega
          clear h3
          go_enter Tryd.func22, Tryd.ntmps22
          go_wp2_with (go_at_call 24; refine HCK.out.mono ?_; rintro e w3 ⟨rfl, hb3⟩; rw [H1.out]; have hbt := bt (ba _ _) hb3; obtain ⟨c0, _⟩ := keepb hbt 0; obtain ⟨c1, _⟩ := keepb hbt 1; obtain ⟨d0, _⟩ := keepb hb3 0; obtain ⟨d1, _⟩ := keepb hb3 1; have hz : w.heap.size + 1 < w3.heap.size := (by have := hb3.size; simp at this; omega); simp at c0 c1 d0 d1; obtain ⟨y1, y3⟩ := HK.out _ hb3)
          go_quiet (fail)
          go_wp2_with (fail)
          go_ret2
          exact ⟨ret_ii H.out.2.symm H.out.1.symm, bd (bx hbt) _⟩
      · have hO := at_ok h1 h2 h3
        rw [e1] at h3 hO
        have p1 : 0 ≤ pf := by omega
        have p2 : pf ≤ (C.getD k z0).f := by omega
        have p3 : pf ≤ (m : Int) := by have := HM.out; omega
        have p4 : ¬ pf < 0 := by omega
        have p5 : ¬ (C.getD k z0).f < pf := by omega
        have HSD : Hid (∀ w4, Below ((w.alloc (.cells #[.slice (some ⟨b, off, none⟩) n c, .slice A' m c'] 36)).alloc (.cells #[.int .i64 ((k : Int) + 1), .int .i64 pf] 38)).heap.size ((w.alloc (.cells #[.slice (some ⟨b, off, none⟩) n c, .slice A' m c'] 36)).alloc (.cells #[.int .i64 ((k : Int) + 1), .int .i64 pf] 38)) w4 →
            ∀ q, Calls Tryd.prog 53 #[.agg #[.slice (some ⟨b, off, none⟩) n c, .slice A' m c'], .agg #[.int .i64 ((k : Int) + 1), .int .i64 pf]] (w4.drewN q) fun e w' => e = .returned (.int .i64 (atP C S ((k : Int) + 1) pf)) ∧ Below w4.heap.size w4 w') := by
          intro w4 h q
          refine (rsound_any _ _ _ _ _ _ C S k pf (w4.drewN q) ((HC2.out.below h).keep fun _ _ _ => rfl) ((HS2.out.below h).keep fun _ _ _ => rfl) hn HM.out hb hb2 (by omega) p1 p3 ⟨by omega, by omega⟩ (riseV_bd hri p1 (by omega))).mono ?_
          rintro e w' ⟨rfl, hbb⟩
          exact ⟨by rw [hO.2], (bd (Below.refl _ _) q).trans hbb⟩
        have H := Lib.hid hO.1
        clear h1 h2 hn hh e1 hri h3 hO HC2 HS2
        generalize C.getD k z0 = x at *
        go_enter Tryd.func22, Tryd.ntmps22
        go_wp2_with (go_at_call 24; refine HCK.out.mono ?_; rintro e w3 ⟨rfl, hb3⟩; rw [H1.out]; have hbt := bt (ba _ _) hb3; obtain ⟨c0, _⟩ := keepb hbt 0; obtain ⟨c1, _⟩ := keepb hbt 1; obtain ⟨d0, _⟩ := keepb hb3 0; obtain ⟨d1, _⟩ := keepb hb3 1; have hz : w.heap.size + 1 < w3.heap.size := (by have := hb3.size; simp at this; omega); simp at c0 c1 d0 d1; obtain ⟨y1, y3⟩ := HK.out _ hb3)
        go_quiet (fail)
        go_wp2_with (go_at_call 53; refine (HSD.out _ hb3 _).mono ?_; rintro e w5 ⟨rfl, hb5⟩)
        go_ret2
        exact ⟨ret_ii rfl H.out.symm, bx (bt hbt hb5)⟩
  · have H := Lib.hid (at_chk (pc := pc) (pf := pf) h1)
    obtain ⟨ev, hev⟩ : ∃ ev, chk C S = ev := ⟨_, rfl⟩
    rw [hev] at h1
    have HV := Lib.hid hev
    clear hev hn
    go_enter Tryd.func22, Tryd.ntmps22
    go_wp2_with (go_at_call 24; refine HCK.out.mono ?_; rintro e w3 ⟨rfl, hb3⟩; rw [HV.out]; have hbt := bt (ba _ _) hb3)
    go_ret2
    exact ⟨ret_ii H.out.2.symm (by rw [H.out.1, HV.out]), bx hbt⟩

end Go.Proofs.YtbjmlbmkfgocdaaDoor
