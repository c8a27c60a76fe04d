/- The law InstrumentCapoSounds returns true for every instrument, fret and place, in every world that holds the program's tables. -/
import Derived.Test.YtbjmlbmkfgocdaaDoorWorks
import Derived.Test.YtbjmlbmkfgocdaaDoorCapo
import Derived.Test.YtbjmlbmkfgocdaaDoorCapP
import Derived.Test.YtbjmlbmkfgocdaaDoorLawChecks
namespace Go.Proofs.YtbjmlbmkfgocdaaDoor
open Go.RowKit

theorem okL_le2 {α : Type} (e : Int) (L : List α) (N : Nat) (h : L.length ≤ N) : (okL e L).length ≤ N := by
  unfold okL
  split
  · exact h
  · simp
theorem keep2s {w W : World} {u v : Value} {t : TypeId} (h : Below (w.alloc (.cells #[u, v] t)).heap.size (w.alloc (.cells #[u, v] t)) W) :
    W.cell? ⟨w.heap.size, 0, none⟩ = some u ∧ W.cell? ⟨w.heap.size, 1, none⟩ = some v ∧ w.heap.size < W.heap.size := by
  obtain ⟨c0, _⟩ := keepb h 0
  obtain ⟨c1, _⟩ := keepb h 1
  have hz := h.size
  simp at c0 c1 hz
  exact ⟨c0, c1, by omega⟩
/-- Where the law looks at nothing. -/
def csOut (n m : Nat) (k pc pf : Int) : Prop := bigB n m = true ∨ k < 0 ∨ 18 < k ∨ pc < 1 ∨ (n : Int) < pc ∨ pf < 0 ∨ 18 < pf

set_option maxRecDepth 100000 in
set_option maxHeartbeats 16000000 in
theorem law_caposounds_out (A A' : Option Addr) (n c m c' : Nat) (k pc pf : Int) (w : World) (E : Env w) (h : csOut n m k pc pf) :
    Calls Tryd.prog 11 #[.agg #[.slice A n c, .slice A' m c'], .int .i64 k, .agg #[.int .i64 pc, .int .i64 pf]] w fun e w' => e = .returned (.bool true) ∧ Below w.heap.size w w' := by
  have HE : Hid (∀ w', Below ((w.alloc (iObj A n c A' m c')).alloc (pObj pc pf)).heap.size ((w.alloc (iObj A n c A' m c')).alloc (pObj pc pf)) w' → Env w' ∧ Below w.heap.size w w') :=
    fun w' h => ⟨((E.alloc _).alloc _).below h, bx (bt (ba _ _) h)⟩
  clear E
  have hc : bigB n m = true ∨ (bigB n m = false ∧ k < 0) ∨ (bigB n m = false ∧ ¬ k < 0 ∧ 18 < k) ∨ (bigB n m = false ∧ ¬ k < 0 ∧ ¬ 18 < k ∧ pc < 1) ∨ (bigB n m = false ∧ ¬ k < 0 ∧ ¬ 18 < k ∧ ¬ pc < 1 ∧ (n : Int) < pc) ∨
      (bigB n m = false ∧ ¬ k < 0 ∧ ¬ 18 < k ∧ ¬ pc < 1 ∧ ¬ (n : Int) < pc ∧ pf < 0) ∨ (bigB n m = false ∧ ¬ k < 0 ∧ ¬ 18 < k ∧ ¬ pc < 1 ∧ ¬ (n : Int) < pc ∧ ¬ pf < 0 ∧ 18 < pf) := by
    unfold csOut at h
    cases hb : bigB n m with
    | true => exact .inl rfl
    | false =>
      rw [hb] at h
      simp only [Bool.false_eq_true, false_or, true_and] at h ⊢
      omega
  clear h
  rcases hc with hb | ⟨hb, g1⟩ | ⟨hb, g1, g2⟩ | ⟨hb, g1, g2, g3⟩ | ⟨hb, g1, g2, g3, g4⟩ | ⟨hb, g1, g2, g3, g4, g5⟩ | ⟨hb, g1, g2, g3, g4, g5, g6⟩
  all_goals
    have HB := Lib.hid hb
    clear hb
    go_enter Tryd.func11, Tryd.ntmps11
    go_wp2_with (fail)
    refine (big_any _ _ _ _ _ _ _).mono ?_
    rintro e w1 ⟨rfl, hb1⟩
    rw [HB.out]
    obtain ⟨q0, q1, q2, q3, hz, _⟩ := args2 hb1
    go_wp2_with (go_at_call 18; refine (works_any _ (HE.out _ hb1).1).mono ?_; rintro e w2 ⟨rfl, hb2⟩)
    go_ret
    exact ⟨rfl, bt (HE.out _ hb1).2 hb2⟩

theorem cap_at0 {C : List Cr} {S : List Int} {k : Nat} {pc pf : Int} (h : capE C S k = 0) (h1 : 1 ≤ pc) (h2 : pc ≤ C.length) (h3 : 0 ≤ pf) (hz : (C.getD (pc - 1).toNat z0).f = 0) :
    atE (capC C S k) (capS S k) pc pf = atE C S pc pf ∧ atP (capC C S k) (capS S k) pc pf = atP C S pc pf := by
  obtain ⟨a, ⟨j, hj, hjl⟩, b⟩ := capE_facts h
  have := cap_at (k := k) (pf := pf) a (by omega) b h1 h2 h3
  unfold mvF at this
  rw [if_pos hz, Int.add_zero] at this
  exact this
theorem cap_at1 {C : List Cr} {S : List Int} {k : Nat} {pc pf : Int} (h : capE C S k = 0) (h1 : 1 ≤ pc) (h2 : pc ≤ C.length) (h3 : 0 ≤ pf) (hz : ¬ (C.getD (pc - 1).toNat z0).f = 0) :
    atE (capC C S k) (capS S k) pc pf = atE C S pc (pf + k) ∧ atP (capC C S k) (capS S k) pc pf = atP C S pc (pf + k) := by
  obtain ⟨a, ⟨j, hj, hjl⟩, b⟩ := capE_facts h
  have := cap_at (k := k) (pf := pf) a (by omega) b h1 h2 h3
  unfold mvF at this
  rw [if_neg hz] at this
  exact this

set_option maxRecDepth 100000 in
set_option maxHeartbeats 16000000 in
theorem law_caposounds_in (A A' : Option Addr) (n c m c' : Nat) (C : List Cr) (S : List Int) (k : Nat) (p : Nat) (pf : Int) (w : World) (E : Env w) (hC : Sl w w.heap.size 3 A n c (crC C)) (hS : Sl w w.heap.size 1 A' m c' (intC S)) (hn : n = C.length) (hm : m = S.length)
    (hb : bigB n m = false) (hk : k ≤ 18) (hp : p < n) (h0 : 0 ≤ pf) (h1 : pf ≤ 18) :
    Calls Tryd.prog 11 #[.agg #[.slice A n c, .slice A' m c'], .int .i64 (k : Int), .agg #[.int .i64 ((p : Int) + 1), .int .i64 pf]] w fun e w' => e = .returned (.bool true) ∧ Below w.heap.size w w' := by
  have HE : Hid (∀ w', Below ((w.alloc (iObj A n c A' m c')).alloc (pObj ((p : Int) + 1) pf)).heap.size ((w.alloc (iObj A n c A' m c')).alloc (pObj ((p : Int) + 1) pf)) w' → Env w' ∧ Sl w' w'.heap.size 3 A n c (crC C) ∧ Sl w' w'.heap.size 1 A' m c' (intC S) ∧ Below w.heap.size w w') :=
    fun w' h => ⟨((E.alloc _).alloc _).below h, ((hC.below (ba _ _)).below (ba _ _)).below h, ((hS.below (ba _ _)).below (ba _ _)).below h, bx (bt (ba _ _) h)⟩
  have HB := Lib.hid hb
  have HN := Lib.hid hn
  have HM := Lib.hid hm
  obtain ⟨l1, l2⟩ : n ≤ 64 ∧ m ≤ 64 := by simp [bigB] at hb; omega
  have b1 : n ≤ 65536 := by omega
  have b2 : m ≤ 65536 := by omega
  have b3 : n ≤ 9223372036854775807 := by omega
  have b4 : m ≤ 9223372036854775807 := by omega
  have g1 : ¬ (k : Int) < 0 := by omega
  have g2 : ¬ (18 : Int) < k := by omega
  have g3 : ¬ (p : Int) + 1 < 1 := by omega
  have g4 : ¬ (n : Int) < (p : Int) + 1 := by omega
  have g5 : ¬ pf < 0 := by omega
  have g6 : ¬ 18 < pf := by omega
  have g7 : (p : Int) < n := by omega
  have HCELL : Hid (∀ w', Below ((w.alloc (iObj A n c A' m c')).alloc (pObj ((p : Int) + 1) pf)).heap.size ((w.alloc (iObj A n c A' m c')).alloc (pObj ((p : Int) + 1) pf)) w' → ∃ b off, A = some ⟨b, off, none⟩ ∧ b < w'.heap.size ∧ w'.cell? ⟨b, off + p * 3 + 1, none⟩ = some (.int .i64 (C.getD p z0).f)) := by
    intro w' h
    obtain ⟨b, off, e, hB, hc⟩ := (HE.out w' h).2.1.2.2 (by omega)
    obtain ⟨_, i1, _⟩ := crC_at C p (by omega)
    have := hc _ _ i1
    rw [← Nat.add_assoc] at this
    exact ⟨b, off, e, hB, this⟩
  have ep : (((p : Int) + 1) - 1).toNat = p := by omega
  have hlc : (capC C S (k : Int)).length = n := by rw [hn]; simp [capC]
  have hls : (capS S (k : Int)).length ≤ 64 := by rw [capS_length]; omega
  have HA0 := Lib.hid (fun h hz => cap_at0 (C := C) (S := S) (k := k) (pc := (p : Int) + 1) (pf := pf) h (by omega) (by omega) h0 hz)
  have HA1 := Lib.hid (fun h hz => cap_at1 (C := C) (S := S) (k := k) (pc := (p : Int) + 1) (pf := pf) h (by omega) (by omega) h0 hz)
  rw [ep] at HA0 HA1
  have HLC := Lib.hid hlc
  have HLS := Lib.hid hls
  clear hC hS hn hm E hb l1 l2 hlc hls ep hp hk
  go_enter Tryd.func11, Tryd.ntmps11
  go_wp2_with (fail)
  refine (big_any _ _ _ _ _ _ _).mono ?_
  rintro e w1 ⟨rfl, hb1⟩
  rw [HB.out]
  obtain ⟨q0, q1, q2, q3, hz, _⟩ := args2 hb1
  go_wp2_with (fail)
  refine (rcopy_any A A' n c m c' C S _ (HE.out _ hb1).2.1 (HE.out _ hb1).2.2.1 b1 b2).mono ?_
  rintro e w2 ⟨G1, d1, G2, d2, rfl, o1, o2, hb2⟩
  have hT2 := bt hb1 hb2
  clear q0 q1 q2 q3 hz
  by_cases hE : capE C S k = 0
  · have HCE := Lib.hid hE
    clear hE
    go_wp2_with (fail)
    refine (capo_any _ _ _ _ _ _ C S k _ o1.sl o2.sl HN.out HM.out b1 b2).mono ?_
    rintro e w3 ⟨B1, n1, e1, B2, m1, e2, rfl, hn1, hm1, s1, s2, _, _, hb3⟩
    rw [okL_ok HCE.out] at hn1 hm1 s1 s2
    rw [HCE.out]
    have HS1 := Lib.hid (And.intro hn1 (And.intro hm1 (And.intro s1 s2)))
    have hT3 := bt hT2 hb3
    have hT4 := bt hT3 (ba w3 (.cells #[.slice B1 n1 e1, .slice B2 m1 e2] 36))
    obtain ⟨q0, q1, q2, q3, hz, _⟩ := args2 hT4
    obtain ⟨b, off, hAe, hbz, k1⟩ := HCELL.out _ hT4
    subst hAe
    have HAT := Lib.hid (at_any B1 B2 n1 e1 m1 e2 (capC C S k) (capS S k) ((p : Int) + 1) pf _ (s1.below (ba w3 (.cells #[.slice B1 n1 e1, .slice B2 m1 e2] 36))) (s2.below (ba w3 (.cells #[.slice B1 n1 e1, .slice B2 m1 e2] 36))) hn1 hm1 (by have := HLC.out; omega) (by have := HLS.out; omega))
    clear s1 s2 hn1 hm1 o1 o2 HCELL
    have w0 : IntKind.i64.wrap pf = pf := IntWalk.i64_in _ ⟨by omega, by omega⟩
    generalize (C.getD p z0).f = fv at *
    by_cases hf : fv = 0
    · rw [hf] at k1
      have hq := HA0.out HCE.out hf
      rw [hq.1, hq.2] at HAT
      clear hq HA0 HA1
      go_wp2_with (go_at_call 20; refine HAT.out.mono ?_; rintro e w5 ⟨rfl, hb5⟩)
      have hT5 := bt hT4 hb5
      clear q0 q1 q2 q3 hz k1 hbz
      generalize hpv : atP C S ((p : Int) + 1) pf = pv at *
      generalize hev : atE C S ((p : Int) + 1) pf = ev at *
      have HPV := Lib.hid (And.intro hpv hev)
      clear hpv hev HAT
      go_region_held3 (fun w' => w'.cell? ⟨w.heap.size, 0, none⟩ = some (.slice (some ⟨b, off, none⟩) n c) ∧ w'.cell? ⟨w.heap.size, 1, none⟩ = some (.slice A' m c') ∧ w'.cell? ⟨w.heap.size + 1, 0, none⟩ = some (.int .i64 ((p : Int) + 1)) ∧ w'.cell? ⟨w.heap.size + 1, 1, none⟩ = some (.int .i64 pf) ∧ w.heap.size + 1 < w'.heap.size ∧ Below ((w.alloc (iObj (some ⟨b, off, none⟩) n c A' m c')).alloc (pObj ((p : Int) + 1) pf)).heap.size ((w.alloc (iObj (some ⟨b, off, none⟩) n c A' m c')).alloc (pObj ((p : Int) + 1) pf)) w')
        (first | exact args2 (bt (bt hT5.drew hb6) hb7) | exact args2 (bt hT5.drew hb6) | exact args2 hT5.drew)
        (first
          | (go_at_call 21; refine (rcopy_any _ A' n c m c' C S _ (HE.out _ hT5.drew).2.1 (HE.out _ hT5.drew).2.2.1 b1 b2).mono ?_; rintro e w6 ⟨G3, d3, G4, d4, rfl, o3, o4, hb6⟩)
          | (go_at_call 20; refine (at_any _ _ _ _ _ _ C S ((p : Int) + 1) pf _ o3.sl o4.sl HN.out HM.out b3 b4).mono ?_; rintro e w7 ⟨rfl, hb7⟩; rw [HPV.out.1, HPV.out.2]))
      have hT7 := bt (bt hT5.drew hb6) hb7
      go_wp2_with (go_at_call 18; refine (works_any _ (HE.out _ hT7).1).mono ?_; rintro e w9 ⟨rfl, hb9⟩)
      go_ret
      exact ⟨rfl, (HE.out _ (bt hT7 hb9)).2.2.2⟩
    · have hfb : (fv == 0) = false := by simpa using hf
      have hq := HA1.out HCE.out hf
      rw [hq.1, hq.2] at HAT
      have w64 : IntKind.i64.wrap (pf + (k : Int)) = pf + (k : Int) := IntWalk.i64_in _ ⟨by omega, by omega⟩
      clear hq HA0 HA1
      go_wp2_with (go_at_call 20; refine HAT.out.mono ?_; rintro e w5 ⟨rfl, hb5⟩)
      have hT5 := bt hT4 hb5
      clear q0 q1 q2 q3 hz k1 hbz
      generalize hpv : atP C S ((p : Int) + 1) (pf + k) = pv at *
      generalize hev : atE C S ((p : Int) + 1) (pf + k) = ev at *
      have HPV := Lib.hid (And.intro hpv hev)
      clear hpv hev HAT
      go_region_held3 (fun w' => w'.cell? ⟨w.heap.size, 0, none⟩ = some (.slice (some ⟨b, off, none⟩) n c) ∧ w'.cell? ⟨w.heap.size, 1, none⟩ = some (.slice A' m c') ∧ w'.cell? ⟨w.heap.size + 1, 0, none⟩ = some (.int .i64 ((p : Int) + 1)) ∧ w'.cell? ⟨w.heap.size + 1, 1, none⟩ = some (.int .i64 pf) ∧ w.heap.size + 1 < w'.heap.size ∧ Below ((w.alloc (iObj (some ⟨b, off, none⟩) n c A' m c')).alloc (pObj ((p : Int) + 1) pf)).heap.size ((w.alloc (iObj (some ⟨b, off, none⟩) n c A' m c')).alloc (pObj ((p : Int) + 1) pf)) w')
        (first | exact args2 (bt (bt hT5.drew hb6) hb7) | exact args2 (bt hT5.drew hb6) | exact args2 hT5.drew)
        (first
          | (go_at_call 21; refine (rcopy_any _ A' n c m c' C S _ (HE.out _ hT5.drew).2.1 (HE.out _ hT5.drew).2.2.1 b1 b2).mono ?_; rintro e w6 ⟨G3, d3, G4, d4, rfl, o3, o4, hb6⟩)
          | (go_at_call 20; refine (at_any _ _ _ _ _ _ C S ((p : Int) + 1) (pf + k) _ o3.sl o4.sl HN.out HM.out b3 b4).mono ?_; rintro e w7 ⟨rfl, hb7⟩; rw [HPV.out.1, HPV.out.2]))
      have hT7 := bt (bt hT5.drew hb6) hb7
      go_wp2_with (go_at_call 18; refine (works_any _ (HE.out _ hT7).1).mono ?_; rintro e w9 ⟨rfl, hb9⟩)
      go_ret
      exact ⟨rfl, (HE.out _ (bt hT7 hb9)).2.2.2⟩
  · obtain ⟨er, her⟩ : ∃ er, capE C S k = er := ⟨_, rfl⟩
    rw [her] at hE
    have HER := Lib.hid her
    clear her HA0 HA1 HCELL
    go_wp2_with (fail)
    refine (capo_any _ _ _ _ _ _ C S k _ o1.sl o2.sl HN.out HM.out b1 b2).mono ?_
    rintro e w3 ⟨B1, n1, e1, B2, m1, e2, rfl, hn1, hm1, _, _, _, _, hb3⟩
    clear hn1 hm1
    rw [HER.out]
    have hT4 := bt (bt hT2 hb3) (ba w3 (.cells #[.slice B1 n1 e1, .slice B2 m1 e2] 36))
    clear o1 o2
    go_wp2_with (go_at_call 18; refine (works_any _ (HE.out _ hT4).1).mono ?_; rintro e w9 ⟨rfl, hb9⟩)
    go_ret
    exact ⟨rfl, (HE.out _ (bt hT4 hb9)).2.2.2⟩

theorem law_caposounds (A A' : Option Addr) (n c m c' : Nat) (C : List Cr) (S : List Int) (k pc pf : Int) (w : World) (E : Env w) (hC : Sl w w.heap.size 3 A n c (crC C)) (hS : Sl w w.heap.size 1 A' m c' (intC S)) (hn : n = C.length) (hm : m = S.length) :
    Calls Tryd.prog 11 #[.agg #[.slice A n c, .slice A' m c'], .int .i64 k, .agg #[.int .i64 pc, .int .i64 pf]] w fun e w' => e = .returned (.bool true) ∧ Below w.heap.size w w' := by
  by_cases h : csOut n m k pc pf
  · exact law_caposounds_out A A' n c m c' k pc pf w E h
  · unfold csOut at h
    have hb : bigB n m = false := by
      cases hb : bigB n m with
      | false => rfl
      | true => exact absurd (.inl hb) h
    obtain ⟨j, rfl⟩ := Int.eq_ofNat_of_zero_le (show 0 ≤ k by omega)
    obtain ⟨p, rfl⟩ : ∃ p : Nat, pc = (p : Int) + 1 := ⟨(pc - 1).toNat, by omega⟩
    exact law_caposounds_in A A' n c m c' C S j p pf w E hC hS hn hm hb (by omega) (by omega) (by omega) (by omega)

end Go.Proofs.YtbjmlbmkfgocdaaDoor
