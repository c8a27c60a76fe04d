/- What the program's At returns for any instrument and place. -/
import Derived.Test.YtpcehgifpajmbaaGreatCheckAll
namespace Go.Proofs.YtpcehgifpajmbaaGreat
open Go.RowKit

def hasB (n : Nat) (pc : Int) : Bool := decide (1 ≤ pc) && decide (pc ≤ n)
def atE (C : List Cr) (S : List Int) (pc pf : Int) : Int :=
  if chk C S ≠ 0 then chk C S else if hasB C.length pc = false then 12 else if pf < 0 ∨ (C.getD (pc - 1).toNat z0).f < pf then 13 else 0
def atP (C : List Cr) (S : List Int) (pc pf : Int) : Int := if atE C S pc pf = 0 then (C.getD (pc - 1).toNat z0).p + riseV S pf else 0

theorem chk_ok {C : List Cr} {S : List Int} (h : chk C S = 0) : C.length ≤ 14 ∧ S.length ≤ 18 ∧ riseB 0 S = true ∧ crsErr S C = 0 := by
  unfold chk at h
  by_cases h1 : 14 < C.length ∨ 18 < S.length
  · rw [if_pos h1] at h; cases h
  · rw [if_neg h1] at h
    by_cases h2 : C.length = 0 ∨ riseB 0 S = false
    · rw [if_pos h2] at h; cases h
    · rw [if_neg h2] at h
      refine ⟨by omega, by omega, ?_, h⟩
      cases hr : riseB 0 S with
      | true => rfl
      | false => exact absurd (.inr hr) h2
theorem crsErr_mem {S : List Int} : ∀ {C : List Cr}, crsErr S C = 0 → ∀ c ∈ C, crErr S c = 0
  | [], _, c, hc => by cases hc
  | x :: r, h, c, hc => by
    unfold crsErr at h
    by_cases hx : crErr S x = 0
    · rw [if_pos hx] at h
      rcases List.mem_cons.1 hc with rfl | hc
      · exact hx
      · exact crsErr_mem h c hc
    · rw [if_neg hx] at h; exact absurd h hx
theorem crErr_ok {S : List Int} {c : Cr} (h : crErr S c = 0) : 0 ≤ c.f ∧ c.f ≤ S.length ∧ 0 ≤ c.p ∧ c.p ≤ 127 ∧ crTop S c ≤ 127 := by
  by_cases h1 : c.f < 0 ∨ (S.length : Int) < c.f
  · rw [crErr_fret h1] at h; cases h
  · cases h2 : isP c.p with
    | false => rw [crErr_pitch (by omega) h2] at h; cases h
    | true =>
      rw [crErr_top (by omega) h2] at h
      have := isP_iff.1 h2
      split at h
      · cases h
      · omega
theorem getD_mem (C : List Cr) (k : Nat) (h : k < C.length) : C.getD k z0 ∈ C := by
  have e : C.getD k z0 = C[k] := by rw [List.getD_eq_getElem?_getD, List.getElem?_eq_getElem h]; rfl
  rw [e]; exact List.getElem_mem h

set_option maxHeartbeats 800000 in
theorem hasCourse_any (A A' : Option Addr) (n c m c' : Nat) (pc : Int) (w : World) :
    Calls Tryz.prog 50 #[.agg #[.slice A n c, .slice A' m c'], .int .i64 pc] w fun e w' => e = .returned (.bool (hasB n pc)) ∧ Below w.heap.size w w' := by
  go_enter Tryz.func50, Tryz.ntmps50
  go_wp2_with (fail)
  all_goals (go_ret; exact ⟨ret_bool (by simp [hasB]; omega), ba _ _⟩)

theorem balA {w W : World} (h : Below w.heap.size w W) (o : Obj) : Below w.heap.size w (W.alloc o) := h.alloc h.size o
theorem ret_ii {k k2 : IntKind} {a b c d : Int} (h : a = b) (he : c = d) : Ending.returned (.tuple #[.int k a, .int k2 c]) = .returned (.tuple #[.int k b, .int k2 d]) := by rw [h, he]
theorem at_chk {C : List Cr} {S : List Int} {pc pf : Int} (h : chk C S ≠ 0) : atE C S pc pf = chk C S ∧ atP C S pc pf = 0 := by
  have : atE C S pc pf = chk C S := by rw [atE, if_pos h]
  exact ⟨this, by rw [atP, if_neg (by rw [this]; exact h)]⟩
theorem at_has {C : List Cr} {S : List Int} {pc pf : Int} (h : chk C S = 0) (h2 : hasB C.length pc = false) : atE C S pc pf = 12 ∧ atP C S pc pf = 0 := by
  have : atE C S pc pf = 12 := by rw [atE, if_neg (by rw [h]; simp), if_pos h2]
  exact ⟨this, by rw [atP, if_neg (by rw [this]; decide)]⟩
theorem at_fret {C : List Cr} {S : List Int} {pc pf : Int} (h : chk C S = 0) (h2 : hasB C.length pc = true) (h3 : pf < 0 ∨ (C.getD (pc - 1).toNat z0).f < pf) : atE C S pc pf = 13 ∧ atP C S pc pf = 0 := by
  have : atE C S pc pf = 13 := by rw [atE, if_neg (by rw [h]; simp), if_neg (by rw [h2]; simp), if_pos h3]
  exact ⟨this, by rw [atP, if_neg (by rw [this]; decide)]⟩
theorem at_ok {C : List Cr} {S : List Int} {pc pf : Int} (h : chk C S = 0) (h2 : hasB C.length pc = true) (h3 : ¬ (pf < 0 ∨ (C.getD (pc - 1).toNat z0).f < pf)) : atE C S pc pf = 0 ∧ atP C S pc pf = (C.getD (pc - 1).toNat z0).p + riseV S pf := by
  have : atE C S pc pf = 0 := by rw [atE, if_neg (by rw [h]; simp), if_neg (by rw [h2]; simp), if_neg h3]
  exact ⟨this, by rw [atP, if_pos this]⟩

set_option maxRecDepth 100000 in
set_option maxHeartbeats 1600000 in
theorem at_any (A A' : Option Addr) (n c m c' : Nat) (C : List Cr) (S : List Int) (pc pf : Int) (w : World) (hC : Sl w w.heap.size 3 A n c (crC C)) (hS : Sl w w.heap.size 1 A' m c' (intC S)) (hn : n = C.length) (hm : m = S.length)
    (hb : n ≤ 9223372036854775807) (hb2 : m ≤ 9223372036854775807) :
    Calls Tryz.prog 35 #[.agg #[.slice A n c, .slice A' m c'], .agg #[.int .i64 pc, .int .i64 pf]] w fun e w' => e = .returned (.tuple #[.int .i64 (atP C S pc pf), .int .i64 (atE C S pc pf)]) ∧ Below w.heap.size w w' := by
  obtain ⟨O1, hO1⟩ : ∃ o : Obj, o = .cells #[.slice A n c, .slice A' m c'] 25 := ⟨_, rfl⟩
  obtain ⟨O2, hO2⟩ : ∃ o : Obj, o = .cells #[.int .i64 pc, .int .i64 pf] 76 := ⟨_, rfl⟩
  have hC2 := (hC.below (ba w (.cells #[.slice A n c, .slice A' m c'] 25))).below (ba _ (.cells #[.int .i64 pc, .int .i64 pf] 76))
  have hS2 := (hS.below (ba w (.cells #[.slice A n c, .slice A' m c'] 25))).below (ba _ (.cells #[.int .i64 pc, .int .i64 pf] 76))
  have HCK := Lib.hid (check_any A A' n c m c' C S _ hC2 hS2 hn hm hb hb2)
  have HC2 := Lib.hid hC2
  have HS2 := Lib.hid hS2
  have HN := Lib.hid hn
  have HM := Lib.hid hm
  clear hC hS hC2 hS2 hO1 hO2 O1 O2 hm
  by_cases h1 : chk C S = 0
  · have H1 := Lib.hid h1
    cases h2 : hasB C.length pc with
    | false =>
      have H := Lib.hid (at_has (pf := pf) h1 h2)
      have H2 : Hid (hasB n pc = false) := by unfold Hid; rw [hn]; exact h2
      clear h1 h2 hn
      go_enter Tryz.func35, Tryz.ntmps35
      go_wp2_with (first | (go_at_call 49; refine HCK.out.mono ?_; rintro e w3 ⟨rfl, hb3⟩; rw [H1.out]; have hbt := bt (ba _ _) hb3; obtain ⟨c0, _⟩ := keepb hbt 0; obtain ⟨c1, _⟩ := keepb hbt 1; obtain ⟨d0, _⟩ := keepb hb3 0; obtain ⟨d1, _⟩ := keepb hb3 1; have hz : w.heap.size + 1 < w3.heap.size := (by have := hb3.size; simp at this; omega); simp at c0 c1 d0 d1) | (go_at_call 50; refine (hasCourse_any A A' n c m c' pc _).mono ?_; rintro e w4 ⟨rfl, hb4⟩; rw [H2.out]))
      go_ret2
      exact ⟨ret_ii H.out.2.symm H.out.1.symm, bx (bt hbt hb4)⟩
    | true =>
      have hh : 1 ≤ pc ∧ pc ≤ n := by rw [hn]; simpa [hasB] using h2
      obtain ⟨k, rfl⟩ : ∃ k : Nat, pc = (k : Int) + 1 := ⟨(pc - 1).toNat, by omega⟩
      have hk : k < C.length := by omega
      have e1 : ((k : Int) + 1 - 1).toNat = k := by omega
      obtain ⟨b, off, rfl, hB, hc⟩ := HC2.out.2.2 (by omega)
      obtain ⟨i0, i1, i2⟩ := crC_at C k hk
      have k0 := hc _ _ i0
      have k1 := hc _ _ i1
      have k2 := hc _ _ i2
      rw [← Nat.add_assoc] at k1 k2
      obtain ⟨_, _, hri, hce⟩ := chk_ok h1
      obtain ⟨x1, x2, x3, x4, _⟩ := crErr_ok (crsErr_mem hce _ (getD_mem C k hk))
      have H2 : Hid (hasB n ((k : Int) + 1) = true) := by unfold Hid; rw [hn]; exact h2
      have g1 : (1 : Int) ≤ (k : Int) + 1 := by omega
      have g2 : (k : Int) < n := by omega
      have HSR : Hid (∀ w4, Below ((w.alloc (.cells #[.slice (some ⟨b, off, none⟩) n c, .slice A' m c'] 25)).alloc (.cells #[.int .i64 ((k : Int) + 1), .int .i64 pf] 76)).heap.size ((w.alloc (.cells #[.slice (some ⟨b, off, none⟩) n c, .slice A' m c'] 25)).alloc (.cells #[.int .i64 ((k : Int) + 1), .int .i64 pf] 76)) w4 → ∀ o q, Sl ((w4.alloc o).drewN q) (w4.alloc o).heap.size 1 A' m c' (intC S)) :=
        fun w4 h o _ => ((HS2.out.below h).below (ba w4 o)).keep fun _ _ _ => rfl
      have HK : Hid (∀ w4, Below ((w.alloc (.cells #[.slice (some ⟨b, off, none⟩) n c, .slice A' m c'] 25)).alloc (.cells #[.int .i64 ((k : Int) + 1), .int .i64 pf] 76)).heap.size ((w.alloc (.cells #[.slice (some ⟨b, off, none⟩) n c, .slice A' m c'] 25)).alloc (.cells #[.int .i64 ((k : Int) + 1), .int .i64 pf] 76)) w4 → w4.cell? ⟨b, off + k * 3, none⟩ = some (.int .i64 (C.getD k z0).p) ∧ w4.cell? ⟨b, off + k * 3 + 1, none⟩ = some (.int .i64 (C.getD k z0).f) ∧ w4.cell? ⟨b, off + k * 3 + 2, none⟩ = some (.bool (C.getD k z0).o) ∧ b < w4.heap.size) :=
        fun w4 h => ⟨((bcell h).1 b _ hB).trans k0, ((bcell h).1 b _ hB).trans k1, ((bcell h).1 b _ hB).trans k2, Nat.lt_of_lt_of_le hB h.size⟩
      clear k0 k1 k2 i0 i1 i2 hc hB hce HC2 HS2
      by_cases h3 : pf < 0 ∨ (C.getD ((k : Int) + 1 - 1).toNat z0).f < pf
      · have H := Lib.hid (at_fret h1 h2 h3)
        rw [e1] at h3
        clear h1 h2 hn hh e1 hri
        generalize C.getD k z0 = x at *
        rcases h3 with h3 | h3
        · go_enter Tryz.func35, Tryz.ntmps35
          go_wp2_with (first | (go_at_call 49; refine HCK.out.mono ?_; rintro e w3 ⟨rfl, hb3⟩; rw [H1.out]; have hbt := bt (ba _ _) hb3; obtain ⟨c0, _⟩ := keepb hbt 0; obtain ⟨c1, _⟩ := keepb hbt 1; obtain ⟨d0, _⟩ := keepb hb3 0; obtain ⟨d1, _⟩ := keepb hb3 1; have hz : w.heap.size + 1 < w3.heap.size := (by have := hb3.size; simp at this; omega); simp at c0 c1 d0 d1) | (go_at_call 50; refine (hasCourse_any (some ⟨b, off, none⟩) A' n c m c' ((k : Int) + 1) _).mono ?_; rintro e w4 ⟨rfl, hb4⟩; rw [H2.out]; obtain ⟨y0, y1, y2, y3⟩ := HK.out _ (bt hb3 hb4); have hz4 : w.heap.size + 1 < w4.heap.size := Nat.lt_of_lt_of_le hz hb4.size; have hz5 : w.heap.size < w4.heap.size := (by omega); obtain ⟨m0, _⟩ := keepb (bt hbt hb4) 0; obtain ⟨m1, _⟩ := keepb (bt hbt hb4) 1; obtain ⟨l0, _⟩ := keepb (bt hb3 hb4) 0; obtain ⟨l1, _⟩ := keepb (bt hb3 hb4) 1; simp at m0 m1 l0 l1))
          go_ret2
          exact ⟨ret_ii H.out.2.symm H.out.1.symm, bx (balA (bt hbt hb4) _)⟩
        · have h3' : ¬ pf < 0 := by omega
          go_enter Tryz.func35, Tryz.ntmps35
          go_wp2_with (first | (go_at_call 49; refine HCK.out.mono ?_; rintro e w3 ⟨rfl, hb3⟩; rw [H1.out]; have hbt := bt (ba _ _) hb3; obtain ⟨c0, _⟩ := keepb hbt 0; obtain ⟨c1, _⟩ := keepb hbt 1; obtain ⟨d0, _⟩ := keepb hb3 0; obtain ⟨d1, _⟩ := keepb hb3 1; have hz : w.heap.size + 1 < w3.heap.size := (by have := hb3.size; simp at this; omega); simp at c0 c1 d0 d1) | (go_at_call 50; refine (hasCourse_any (some ⟨b, off, none⟩) A' n c m c' ((k : Int) + 1) _).mono ?_; rintro e w4 ⟨rfl, hb4⟩; rw [H2.out]; obtain ⟨y0, y1, y2, y3⟩ := HK.out _ (bt hb3 hb4); have hz4 : w.heap.size + 1 < w4.heap.size := Nat.lt_of_lt_of_le hz hb4.size; have hz5 : w.heap.size < w4.heap.size := (by omega); obtain ⟨m0, _⟩ := keepb (bt hbt hb4) 0; obtain ⟨m1, _⟩ := keepb (bt hbt hb4) 1; obtain ⟨l0, _⟩ := keepb (bt hb3 hb4) 0; obtain ⟨l1, _⟩ := keepb (bt hb3 hb4) 1; simp at m0 m1 l0 l1))
          go_ret2
          exact ⟨ret_ii H.out.2.symm H.out.1.symm, bx (balA (bt hbt hb4) _)⟩
      · have hO := at_ok h1 h2 h3
        rw [e1] at h3 hO
        have p1 : 0 ≤ pf := by omega
        have p2 : pf ≤ (C.getD k z0).f := by omega
        have p3 : pf ≤ (m : Int) := by have := HM.out; omega
        obtain ⟨r1, r2⟩ := riseV_bd hri p1 (by omega)
        have H := Lib.hid hO
        clear h1 h2 hn hh e1 hri h3 hO
        generalize C.getD k z0 = x at *
        go_enter Tryz.func35, Tryz.ntmps35
        go_wp2_with (first | (go_at_call 49; refine HCK.out.mono ?_; rintro e w3 ⟨rfl, hb3⟩; rw [H1.out]; have hbt := bt (ba _ _) hb3; obtain ⟨c0, _⟩ := keepb hbt 0; obtain ⟨c1, _⟩ := keepb hbt 1; obtain ⟨d0, _⟩ := keepb hb3 0; obtain ⟨d1, _⟩ := keepb hb3 1; have hz : w.heap.size + 1 < w3.heap.size := (by have := hb3.size; simp at this; omega); simp at c0 c1 d0 d1) | (go_at_call 50; refine (hasCourse_any (some ⟨b, off, none⟩) A' n c m c' ((k : Int) + 1) _).mono ?_; rintro e w4 ⟨rfl, hb4⟩; rw [H2.out]; obtain ⟨y0, y1, y2, y3⟩ := HK.out _ (bt hb3 hb4); have hz4 : w.heap.size + 1 < w4.heap.size := Nat.lt_of_lt_of_le hz hb4.size; have hz5 : w.heap.size < w4.heap.size := (by omega); obtain ⟨m0, _⟩ := keepb (bt hbt hb4) 0; obtain ⟨m1, _⟩ := keepb (bt hbt hb4) 1; obtain ⟨l0, _⟩ := keepb (bt hb3 hb4) 0; obtain ⟨l1, _⟩ := keepb (bt hb3 hb4) 1; simp at m0 m1 l0 l1))
        go_quiet ((go_at_call 51; exact Calls.quiet_of_same ((rise_any A' m c' S pf _ _ (HSR.out _ (bt hb3 hb4) _ _) HM.out hb2 p1 p3).mono fun _ _ h => ⟨h.1, h.2.symm⟩)))
        go_wp2_with (fail)
        go_ret2
        exact ⟨ret_ii H.out.2.symm H.out.1.symm, bd (bx (balA (bt hbt hb4) _)) _⟩
  · have H := Lib.hid (at_chk (pc := pc) (pf := pf) h1)
    obtain ⟨ev, hev⟩ : ∃ ev, chk C S = ev := ⟨_, rfl⟩
    rw [hev] at h1
    have HV := Lib.hid hev
    clear hev hn
    go_enter Tryz.func35, Tryz.ntmps35
    go_wp2_with (go_at_call 49; refine HCK.out.mono ?_; rintro e w3 ⟨rfl, hb3⟩; rw [HV.out]; have hbt := bt (ba _ _) hb3)
    go_ret2
    exact ⟨ret_ii H.out.2.symm (by rw [H.out.1, HV.out]), bx hbt⟩

end Go.Proofs.YtpcehgifpajmbaaGreat
