/- The law InstrumentCapoTwice returns true for every instrument and two frets, in every world that holds the program's tables. -/
import Derived.Test.YtbjmlbmkfgocdaaDoorLawTunes
import Derived.Test.YtbjmlbmkfgocdaaDoorLawCapos
import Derived.Test.YtbjmlbmkfgocdaaDoorLawCapoSounds
namespace Go.Proofs.YtbjmlbmkfgocdaaDoor
open Go.RowKit

/-- Where the law looks at nothing. -/
def ctOut (n m : Nat) (k j : Int) : Prop := bigB n m = true ∨ k < 0 ∨ 18 < k ∨ j < 0 ∨ 19 < j

set_option maxRecDepth 100000 in
set_option maxHeartbeats 16000000 in
theorem law_capotwice_out (A A' : Option Addr) (n c m c' : Nat) (k j : Int) (w : World) (E : Env w) (h : ctOut n m k j) :
    Calls Tryd.prog 12 #[.agg #[.slice A n c, .slice A' m c'], .int .i64 k, .int .i64 j] w fun e w' => e = .returned (.bool true) ∧ Below w.heap.size w w' := by
  have HE : Hid (∀ w', Below (w.alloc (iObj A n c A' m c')).heap.size (w.alloc (iObj A n c A' m c')) w' → Env w' ∧ Below w.heap.size w w') :=
    fun w' h => ⟨(E.alloc _).below h, bx h⟩
  clear E
  have hc : bigB n m = true ∨ (bigB n m = false ∧ k < 0) ∨ (bigB n m = false ∧ ¬ k < 0 ∧ 18 < k) ∨ (bigB n m = false ∧ ¬ k < 0 ∧ ¬ 18 < k ∧ j < 0) ∨ (bigB n m = false ∧ ¬ k < 0 ∧ ¬ 18 < k ∧ ¬ j < 0 ∧ 19 < j) := by
    unfold ctOut at h
    cases hb : bigB n m with
    | true => exact .inl rfl
    | false =>
      rw [hb] at h
      simp only [Bool.false_eq_true, false_or, true_and] at h ⊢
      omega
  clear h
  rcases hc with hb | ⟨hb, g1⟩ | ⟨hb, g1, g2⟩ | ⟨hb, g1, g2, g3⟩ | ⟨hb, g1, g2, g3, g4⟩
  all_goals
    have HB := Lib.hid hb
    clear hb
    go_enter Tryd.func12, Tryd.ntmps12
    go_wp2_with (first | (go_at_call 19; refine (big_any _ _ _ _ _ _ _).mono ?_; rintro e w1 ⟨rfl, hb1⟩; rw [HB.out]) | (go_at_call 18; refine (works_any _ (HE.out _ hb1).1).mono ?_; rintro e w2 ⟨rfl, hb2⟩))
    go_ret
    exact ⟨rfl, bt (HE.out _ hb1).2 hb2⟩

theorem okL_eq {α : Type} {e e' : Int} {L M : List α} (h : e = e') (hl : e' = 0 → L = M) : okL e L = okL e' M := by
  subst h
  by_cases h0 : e = 0
  · rw [okL_ok h0, okL_ok h0, hl h0]
  · rw [okL_no h0, okL_no h0]

set_option maxRecDepth 100000 in
set_option maxHeartbeats 16000000 in
theorem law_capotwice_in (A A' : Option Addr) (n c m c' : Nat) (C : List Cr) (S : List Int) (k j : Nat) (w : World) (E : Env w) (hC : Sl w w.heap.size 3 A n c (crC C)) (hS : Sl w w.heap.size 1 A' m c' (intC S)) (hn : n = C.length) (hm : m = S.length)
    (hb : bigB n m = false) (hk : k ≤ 18) (hj : j ≤ 19) :
    Calls Tryd.prog 12 #[.agg #[.slice A n c, .slice A' m c'], .int .i64 (k : Int), .int .i64 (j : Int)] w fun e w' => e = .returned (.bool true) ∧ Below w.heap.size w w' := by
  have HE : Hid (∀ w', Below (w.alloc (iObj A n c A' m c')).heap.size (w.alloc (iObj A n c A' m c')) w' → Env w' ∧ Sl w' w'.heap.size 3 A n c (crC C) ∧ Sl w' w'.heap.size 1 A' m c' (intC S) ∧ Below w.heap.size w w') :=
    fun w' h => ⟨(E.alloc _).below h, (hC.below (ba _ _)).below h, (hS.below (ba _ _)).below h, bx h⟩
  have HB := Lib.hid hb
  have HN := Lib.hid hn
  have HM := Lib.hid hm
  obtain ⟨l1, l2⟩ : n ≤ 64 ∧ m ≤ 64 := by simp [bigB] at hb; omega
  have b1 : n ≤ 65536 := by omega
  have b2 : m ≤ 65536 := by omega
  have g1 : ¬ (k : Int) < 0 := by omega
  have g2 : ¬ (18 : Int) < k := by omega
  have g3 : ¬ (j : Int) < 0 := by omega
  have g4 : ¬ (19 : Int) < j := by omega
  have w64 : IntKind.i64.wrap ((k : Int) + (j : Int)) = (k : Int) + (j : Int) := IntWalk.i64_in _ ⟨by omega, by omega⟩
  have HCELL : Hid (∀ w' b, b < n → Below (w.alloc (iObj A n c A' m c')).heap.size (w.alloc (iObj A n c A' m c')) w' → ∃ g off, A = some ⟨g, off, none⟩ ∧ g < w'.heap.size ∧ w'.cell? ⟨g, off + b * 3 + 1, none⟩ = some (.int .i64 (C.getD b z0).f)) := by
    intro w' b hbn h
    obtain ⟨g, off, e, hB, hc⟩ := (HE.out w' h).2.1.2.2 (by omega)
    obtain ⟨_, i1, _⟩ := crC_at C b (by omega)
    have := hc _ _ i1
    rw [← Nat.add_assoc] at this
    exact ⟨g, off, e, hB, this⟩
  clear hC hS hn hm E hb l1 l2 hk hj
  go_enter Tryd.func12, Tryd.ntmps12
  go_wp2_with (fail)
  refine (big_any _ _ _ _ _ _ _).mono ?_
  rintro e w1 ⟨rfl, hb1⟩
  rw [HB.out]
  obtain ⟨q0, q1, hz, _⟩ := args1 hb1
  go_wp2_with (fail)
  refine (rcopy_any A A' n c m c' C S _ (HE.out _ hb1).2.1 (HE.out _ hb1).2.2.1 b1 b2).mono ?_
  rintro e w2 ⟨G1, d1, G2, d2, rfl, o1, o2, hb2⟩
  have hT2 := bt hb1 hb2
  clear q0 q1 hz
  by_cases hE : capE C S k = 0
  · have HCE := Lib.hid hE
    clear hE
    go_wp2_with (fail)
    refine (capo_any _ _ _ _ _ _ C S k _ o1.sl o2.sl HN.out HM.out b1 b2).mono ?_
    rintro e w3 ⟨B1, n1, e1, B2, m1, e2, rfl, hn1, hm1, s1, s2, _, _, hb3⟩
    rw [okL_ok HCE.out] at hn1 hm1 s1 s2
    rw [HCE.out]
    have HS1 := Lib.hid (And.intro hn1 (And.intro hm1 (And.intro s1 s2)))
    have hT3 := bt (bt hT2 hb3) (ba w3 (.cells #[.slice B1 n1 e1, .slice B2 m1 e2] 36))
    obtain ⟨q0, q1, hz, _⟩ := args1 hT3
    clear s1 s2 hn1 hm1 o1 o2
    go_wp2_with (fail)
    go_loopw [9] (fun i wr => ∃ b : Nat, b ≤ n ∧ i = .int .i64 b ∧ (∀ t, t < b → (C.getD t z0).f ≤ 0 ∨ (k : Int) < (C.getD t z0).f) ∧ Below (w3.alloc (.cells #[.slice B1 n1 e1, .slice B2 m1 e2] 36)).heap.size (w3.alloc (.cells #[.slice B1 n1 e1, .slice B2 m1 e2] 36)) wr) (fun i _ => n - (intOf i).toNat)
    case atStart => exact ⟨0, by omega, rfl, fun t ht => absurd ht (by omega), Below.refl _ _⟩
    case round =>
      obtain ⟨b, hbn, rfl, hf, hbw⟩ := hrel
      have HF := Lib.hid hf
      have hT4 := bt hT3 hbw
      clear hf q0 q1 hz
      obtain ⟨q0, q1, hz, _⟩ := args1 hT4
      by_cases hlt : b < n
      · have g5 : (b : Int) < (n : Int) := by omega
        obtain ⟨g, off, hAe, hgz, k1⟩ := HCELL.out _ b hlt hT4
        subst hAe
        obtain ⟨fv, hfv⟩ : ∃ fv, (C.getD b z0).f = fv := ⟨_, rfl⟩
        rw [hfv] at k1
        have HFV := Lib.hid hfv
        clear hfv
        by_cases h1 : 0 < fv
        · by_cases h2 : fv ≤ (k : Int)
          · go_wp2_with (go_at_call 18; refine (works_any _ (HE.out _ hT4).1).mono ?_; rintro e w9 ⟨rfl, hb9⟩)
            go_ret
            exact ⟨rfl, (HE.out _ (bt hT4 hb9)).2.2.2⟩
          · go_wp2_with (fail)
            go_roundw
            case rel =>
              refine ⟨b + 1, by omega, by go_num, fun t ht => ?_, hbw⟩
              by_cases htb : t < b
              · exact HF.out t htb
              · obtain rfl : t = b := by omega
                rw [HFV.out]
                omega
            case measure => simp [intOf]; omega
        · go_wp2_with (fail)
          go_roundw
          case rel =>
            refine ⟨b + 1, by omega, by go_num, fun t ht => ?_, hbw⟩
            by_cases htb : t < b
            · exact HF.out t htb
            · obtain rfl : t = b := by omega
              rw [HFV.out]
              omega
          case measure => simp [intOf]; omega
      · obtain rfl : b = n := by omega
        have g5 : ¬ ((b : Int) < (b : Int)) := by omega
        have hcf := capE_facts HCE.out
        have hkl : k ≤ S.length := by
          obtain ⟨_, ⟨t, ht, htl⟩, _⟩ := hcf
          omega
        have htw := cap_twice (C := C) (S := S) (k := k) (j := j) hcf.1 hkl hcf.2.2 (by
          intro x hx
          obtain ⟨t, ht, rfl⟩ := List.getElem_of_mem hx
          have h1 := HF.out t (by have := HN.out; omega)
          have h2 := crErr_facts ((chk_facts hcf.1).2.2.2.2 _ hx)
          have h3 : C.getD t z0 = C[t] := by simp [List.getD_eq_getElem?_getD, List.getElem?_eq_getElem ht]
          rw [h3] at h1
          omega)
        rw [show ((k + j : Nat) : Int) = (k : Int) + (j : Int) by omega] at htw
        have HD1 := Lib.hid (okL_eq htw.1 fun h => (htw.2 h).1)
        have HD2 := Lib.hid (okL_eq htw.1 fun h => (htw.2 h).2)
        have HD3 := Lib.hid htw.1
        have HL1 : Hid ((okL (capE C S ((k : Int) + j)) (capC C S ((k : Int) + j))).length ≤ 65536) := okL_le _ _ _ (by rw [capC_len]; have := HN.out; omega)
        have HL2 : Hid ((okL (capE C S ((k : Int) + j)) (capS S ((k : Int) + j))).length ≤ 65536) := okL_le _ _ _ (by have := capS_len S ((k : Int) + j); have := HM.out; omega)
        have HC3 : Hid (∀ (A1 A2 : Option Addr) (c1 c2 : Nat) (w' : World), Sl w' w'.heap.size 3 A1 b c1 (crC C) → Sl w' w'.heap.size 1 A2 m c2 (intC S) →
            Calls Tryd.prog 41 #[.agg #[.slice A1 b c1, .slice A2 m c2], .int .i64 ((k : Int) + j)] w' (InP (okL (capE C S ((k : Int) + j)) (capC C S ((k : Int) + j))) (okL (capE C S ((k : Int) + j)) (capS S ((k : Int) + j))) (capE C S ((k : Int) + j)) w')) :=
          fun A1 A2 c1 c2 w' h1 h2 => capo_any _ _ _ _ _ _ C S _ w' h1 h2 HN.out HM.out b1 b2
        have HC2 : Hid (∀ (w' : World), Sl w' w'.heap.size 3 B1 n1 e1 (crC (capC C S k)) → Sl w' w'.heap.size 1 B2 m1 e2 (intC (capS S k)) →
            Calls Tryd.prog 41 #[.agg #[.slice B1 n1 e1, .slice B2 m1 e2], .int .i64 (j : Int)] w' (InP (okL (capE C S ((k : Int) + j)) (capC C S ((k : Int) + j))) (okL (capE C S ((k : Int) + j)) (capS S ((k : Int) + j))) (capE C S ((k : Int) + j)) w')) := by
          intro w' h1 h2
          rw [← HD1.out, ← HD2.out, ← HD3.out]
          exact capo_any _ _ _ _ _ _ _ _ _ w' h1 h2 HS1.out.1 HS1.out.2.1 (by rw [HS1.out.1, capC_len]; have := HN.out; omega) (by rw [HS1.out.2.1]; have := capS_len S k; have := HM.out; omega)
        clear hcf hkl htw HD1 HD2 HD3 HCELL HF
        generalize okL (capE C S ((k : Int) + j)) (capC C S ((k : Int) + j)) = D2 at *
        generalize okL (capE C S ((k : Int) + j)) (capS S ((k : Int) + j)) = U2 at *
        generalize capE C S ((k : Int) + j) = er at *
        have HSR := Lib.hid (sameB_refl D2 U2)
        obtain ⟨p0, p1, pz⟩ := keep2 hbw
        go_wp2_with (fail)
        have y1 := bt (ba w3 (.cells #[.slice B1 n1 e1, .slice B2 m1 e2] 36)) hbw
        refine (HC2.out _ (HS1.out.2.2.1.below y1) (HS1.out.2.2.2.below y1)).mono ?_
        rintro e w5 ⟨B3, n3, d3, B4, m3, d4, rfl, hn3, hm3, s1, s2, _, _, hb5⟩
        have HS3 := Lib.hid (And.intro hn3 (And.intro hm3 (And.intro s1 s2)))
        have hT5 := bt (bt hT4 hb5) (ba w5 (.cells #[.slice B3 n3 d3, .slice B4 m3 d4] 36))
        clear s1 s2 hn3 hm3 q0 q1 hz p0 p1 pz y1
        obtain ⟨q0, q1, hz, _⟩ := args1 hT5
        go_wp2_with (fail)
        refine (rcopy_any A A' b c m c' C S _ (HE.out _ hT5).2.1 (HE.out _ hT5).2.2.1 b1 b2).mono ?_
        rintro e w6 ⟨G3, d5, G4, d6, rfl, o3, o4, hb6⟩
        have K6 := hb6
        have hT6 := bt hT5 hb6
        clear q0 q1 hz
        go_wp2_with (fail)
        refine (HC3.out G3 G4 d5 d6 _ o3.sl o4.sl).mono ?_
        rintro e w7 ⟨B5, n5, d7, B6, m5, d8, rfl, hn5, hm5, s1, s2, _, _, hb7⟩
        have HS5 := Lib.hid (And.intro hn5 (And.intro hm5 (And.intro s1 s2)))
        have hT7 := bt (bt hT6 hb7) (ba w7 (.cells #[.slice B5 n5 d7, .slice B6 m5 d8] 36))
        have K7 := bt (bt K6 hb7) (ba w7 (.cells #[.slice B5 n5 d7, .slice B6 m5 d8] 36))
        clear s1 s2 hn5 hm5 o3 o4
        obtain ⟨p0, p1, pz⟩ := keep2 K7
        go_wp2_with (fail)
        have y3 := bt (ba w5 (.cells #[.slice B3 n3 d3, .slice B4 m3 d4] 36)) K7
        have y5 := ba w7 (.cells #[.slice B5 n5 d7, .slice B6 m5 d8] 36)
        refine (same_any _ _ _ _ _ _ _ _ _ _ _ _ D2 U2 D2 U2 _ (HS3.out.2.2.1.below y3) (HS3.out.2.2.2.below y3) (HS5.out.2.2.1.below y5) (HS5.out.2.2.2.below y5) HS3.out.1 HS3.out.2.1 HS5.out.1 HS5.out.2.1 (by rw [HS3.out.1]; exact HL1.out) (by rw [HS3.out.2.1]; exact HL2.out) (by rw [HS5.out.1]; exact HL1.out) (by rw [HS5.out.2.1]; exact HL2.out)).mono ?_
        rintro e w8 ⟨rfl, hb8⟩
        rw [HSR.out]
        have hT8 := bt hT7 hb8
        clear y3 y5 p0 p1 pz
        go_wp2_with (go_at_call 18; refine (works_any _ (HE.out _ hT8).1).mono ?_; rintro e w9 ⟨rfl, hb9⟩)
        go_ret
        exact ⟨rfl, (HE.out _ (bt hT8 hb9)).2.2.2⟩
  · obtain ⟨er, her⟩ : ∃ er, capE C S k = er := ⟨_, rfl⟩
    rw [her] at hE
    have HER := Lib.hid her
    clear her HCELL
    go_wp2_with (fail)
    refine (capo_any _ _ _ _ _ _ C S k _ o1.sl o2.sl HN.out HM.out b1 b2).mono ?_
    rintro e w3 ⟨B1, n1, e1, B2, m1, e2, rfl, hn1, hm1, _, _, _, _, hb3⟩
    clear hn1 hm1
    rw [HER.out]
    have hT4 := bt (bt hT2 hb3) (ba w3 (.cells #[.slice B1 n1 e1, .slice B2 m1 e2] 36))
    clear o1 o2
    go_wp2_with (go_at_call 18; refine (works_any _ (HE.out _ hT4).1).mono ?_; rintro e w9 ⟨rfl, hb9⟩)
    go_ret
    exact ⟨rfl, (HE.out _ (bt hT4 hb9)).2.2.2⟩

theorem law_capotwice (A A' : Option Addr) (n c m c' : Nat) (C : List Cr) (S : List Int) (k j : Int) (w : World) (E : Env w) (hC : Sl w w.heap.size 3 A n c (crC C)) (hS : Sl w w.heap.size 1 A' m c' (intC S)) (hn : n = C.length) (hm : m = S.length) :
    Calls Tryd.prog 12 #[.agg #[.slice A n c, .slice A' m c'], .int .i64 k, .int .i64 j] w fun e w' => e = .returned (.bool true) ∧ Below w.heap.size w w' := by
  by_cases h : ctOut n m k j
  · exact law_capotwice_out A A' n c m c' k j w E h
  · unfold ctOut at h
    have hb : bigB n m = false := by
      cases hb : bigB n m with
      | false => rfl
      | true => exact absurd (.inl hb) h
    obtain ⟨k, rfl⟩ := Int.eq_ofNat_of_zero_le (show 0 ≤ k by omega)
    obtain ⟨j, rfl⟩ := Int.eq_ofNat_of_zero_le (show 0 ≤ j by omega)
    exact law_capotwice_in A A' n c m c' C S k j w E hC hS hn hm hb (by omega) (by omega)

end Go.Proofs.YtbjmlbmkfgocdaaDoor
