/- What Reentrant returns for any instrument, the program's and the reference's. -/
import Derived.Test.YtdaeanjjmbibmaaDoorRank
namespace Go.Proofs.YtdaeanjjmbibmaaDoor
open Go.RowKit

set_option maxRecDepth 100000 in
set_option maxHeartbeats 16000000 in
theorem reent_any (A A' : Option Addr) (n c m c' : Nat) (C : List Cr) (S : List Int) (w : World) (hC : Sl w w.heap.size 3 A n c (crC C)) (hS : Sl w w.heap.size 1 A' m c' (intC S)) (hn : n = C.length) (hm : m = S.length)
    (hb : n ≤ 9223372036854775807) (hb2 : m ≤ 9223372036854775807) :
    Calls Tryd.prog 18 #[.agg #[.slice A n c, .slice A' m c']] w (NumPost (reS C S) (chk C S) w) := by
  obtain ⟨i0, ii1, ii2, ii3, ii4⟩ := info_parts Tryd.info3'
  have hC1 := hC.below (ba w (iObj A n c A' m c'))
  have hS1 := hS.below (ba w (iObj A n c A' m c'))
  have HCK := Lib.hid (check_any A A' n c m c' C S _ hC1 hS1 hn hm hb hb2)
  have HC := Lib.hid hC1
  have HN := Lib.hid hn
  clear hC hS hC1 hS1 hm
  by_cases h1 : chk C S = 0
  · have H1 := Lib.hid h1
    have HV : Hid (reS C S = reA C) := if_pos h1
    have hn14 : n ≤ 14 := by have := (chk_ok h1).1; omega
    have hn0 : 0 < n := by
      rcases Nat.eq_zero_or_pos n with h | h
      · have := chk_none (C := C) (S := S) (by have := chk_ok h1; omega) (.inl (by omega)); omega
      · exact h
    have HST : Hid (reA C = [] ++ reL (C.getD 0 z0).p 1 (C.drop 1)) := reA_at C (by omega)
    clear h1 hn
    go_enter Tryd.func18, Tryd.ntmps18
    go_wp2_with (go_at_call 45; refine HCK.out.mono ?_; rintro e w1 ⟨rfl, hb1⟩; rw [H1.out]; obtain ⟨q0, q1, hz, _⟩ := args1 hb1)
    go_loopw [6, 5] (fun i v wr => ∃ (j k : Nat) (acc : List Int) (A1 : Option Addr) (c1 : Nat), k ≤ n ∧ i = .int .i64 (k : Int) ∧ v = .slice A1 acc.length c1 ∧ Own1 (w.alloc (iObj A n c A' m c')) wr 3 1 A1 acc.length c1 (intC acc) ∧ Hid (k = j + 1 ∧ reA C = acc ++ reL (C.getD j z0).p k (C.drop k)) ∧ acc.length ≤ k) (fun i _ _ => n + 1 - (intOf i).toNat)
    case atStart => exact ⟨0, 1, [], none, 0, by omega, rfl, rfl, Own1.start hb1 _ _, ⟨rfl, HST.out⟩, by simp⟩
    case round =>
      obtain ⟨j, k, acc, A1, c1, hk, rfl, rfl, hO, HL, hlen⟩ := hrel
      have HO := Lib.hid hO
      clear hO q0 q1 hz
      obtain ⟨q0, q1, hz, _⟩ := args1 HO.out.low
      have hj1 : j < n := by have := HL.out.1; omega
      have hjn : (j : Int) < (n : Int) := by omega
      have wk0 : IntKind.i64.wrap (k : Int) = k := IntWalk.i64_in _ ⟨by omega, by omega⟩
      have wk1 : IntKind.i64.wrap ((k : Int) + 1) = (k : Int) + 1 := IntWalk.i64_in _ ⟨by omega, by omega⟩
      have wj1 : IntKind.i64.wrap ((k : Int) - 1) = (j : Int) := by rw [IntWalk.i64_in _ ⟨by omega, by omega⟩]; have := HL.out.1; omega
      have wj2 : IntKind.i64.wrap ((k : Int) + 1 - 2) = (j : Int) := by rw [IntWalk.i64_in _ ⟨by omega, by omega⟩]; have := HL.out.1; omega
      by_cases hlt : k < n
      · have g2 : ((k : Int) < (n : Int)) := by omega
        have hkn : (k : Int) < (n : Int) := by omega
        obtain ⟨b, off, hA, hB, hc⟩ := (HC.out.below HO.out.low).2.2 (by omega)
        subst hA
        obtain ⟨j0, _, _⟩ := crC_at C k (by have := HN.out; omega)
        have k0 := hc _ _ j0
        obtain ⟨jj, _, _⟩ := crC_at C j (by have := HN.out; omega)
        have k1 := hc _ _ jj
        have HD := Lib.hid (drop_consC C k (by have := HN.out; omega))
        have HLL := Lib.hid HL.out.2
        have HKJ := Lib.hid HL.out.1
        clear hc j0 jj HL
        generalize hx : C.getD k z0 = x at *
        generalize hy : C.getD j z0 = y at *
        have HXY : Hid (C.getD k z0 = x) := hx
        clear hx hy
        by_cases he : y.p < x.p
        · have HH := Lib.hid (reL_hit HLL.out HD.out he)
          go_wp2_with (fail)
          go_quiet (fail)
          have hqb : Below wr.heap.size wr (wr.drewN nq) := bd (Below.refl _ _) nq
          generalize wr.drewN nq = wq at *
          go_wp2_with (at_builtin; refine wpList_append_own _ rfl _ _ 23 rfl (w.alloc (iObj (some ⟨b, off, none⟩) n c A' m c')).heap.size 3 i0 _ 1 8 Tryd.underlying23 ii1 ii2 ii3 ii4 rfl (by decide) (.slice A1 acc.length c1) acc.length _ rfl ((own_below HO.out.own hqb).alloc _) ⟨wq.heap.size, 0, none⟩ 1 1 [.int .i64 ((k : Int) + 1)] rfl rfl ?d1 ?d2 ?d3 ?d4 ?d5 ?_)
          case d1 => exact cell_one_new _ _ _
          case d2 =>
            intro u hu
            simp at hu
            rcases hu with rfl
            rfl
          case d3 => unfold maxLen; omega
          case d4 => omega
          case d5 => have := (bt HO.out.low hqb).size; simp at this ⊢; omega
          intro v' w3 hown' hgrow _
          obtain ⟨A3, c3, rfl, hO3, _⟩ := Own1.step HO.out hqb (by simp) hown' hgrow
          have HO4 : Hid (Own1 (w.alloc (iObj (some ⟨b, off, none⟩) n c A' m c')) w3 3 1 A3 (acc ++ [(k : Int) + 1]).length c3 (intC (acc ++ [(k : Int) + 1]))) := by
            unfold Hid; rw [intC_app, List.length_append]; exact hO3
          clear hown' hgrow hO3
          go_wp2_with (fail)
          go_roundw
          case rel => exact ⟨k, k + 1, _, A3, c3, by omega, by go_num, by simp, HO4.out, ⟨rfl, by rw [HXY.out]; exact HH.out⟩, by simp; omega⟩
          case measure => simp [intOf]; omega
        · have HH := Lib.hid (reL_miss HLL.out HD.out he)
          go_wp2_with (fail)
          go_quiet (fail)
          have hqb : Below wr.heap.size wr (wr.drewN nq) := bd (Below.refl _ _) nq
          generalize wr.drewN nq = wq at *
          go_wp2_with (fail)
          go_roundw
          case rel => exact ⟨k, k + 1, acc, A1, c1, by omega, by go_num, rfl, HO.out.below hqb, ⟨rfl, by rw [HXY.out]; exact HH.out⟩, by omega⟩
          case measure => simp [intOf]; omega
      · have g2 : ¬ ((k : Int) < (n : Int)) := by omega
        have HR : Hid (reA C = acc) := by
          have := HL.out.2
          rw [List.drop_of_length_le (by have := HN.out; omega), reL, List.append_nil] at this
          exact this
        go_wp2_with (fail)
        go_ret2
        rw [HV.out, HR.out, H1.out]
        exact ⟨A1, _, c1, rfl, rfl, HO.out.sl, bx HO.out.low⟩
  · obtain ⟨cv, hcv⟩ : ∃ cv, chk C S = cv := ⟨_, rfl⟩
    have HV : Hid (reS C S = []) := if_neg h1
    rw [hcv] at h1
    have hcb : (cv == 0) = false := by simpa using h1
    have HCV := Lib.hid hcv
    clear hcv hn
    go_enter Tryd.func18, Tryd.ntmps18
    go_wp2_with (go_at_call 45; refine HCK.out.mono ?_; rintro e w1 ⟨rfl, hb1⟩; rw [HCV.out])
    go_ret2
    rw [HV.out, HCV.out]
    exact numPost_none (bx hb1)

set_option maxRecDepth 100000 in
set_option maxHeartbeats 16000000 in
theorem rreent_any (A A' : Option Addr) (n c m c' : Nat) (C : List Cr) (S : List Int) (w : World) (hC : Sl w w.heap.size 3 A n c (crC C)) (hS : Sl w w.heap.size 1 A' m c' (intC S)) (hn : n = C.length) (hm : m = S.length)
    (hb : n ≤ 9223372036854775807) (hb2 : m ≤ 9223372036854775807) :
    Calls Tryd.prog 19 #[.agg #[.slice A n c, .slice A' m c']] w (NumPost (reS C S) (chk C S) w) := by
  obtain ⟨i0, ii1, ii2, ii3, ii4⟩ := info_parts Tryd.info3'
  have hC1 := hC.below (ba w (iObj A n c A' m c'))
  have hS1 := hS.below (ba w (iObj A n c A' m c'))
  have HCK := Lib.hid (rcheck_any A A' n c m c' C S _ hC1 hS1 hn hm hb hb2)
  have HC := Lib.hid hC1
  have HN := Lib.hid hn
  clear hC hS hC1 hS1 hm
  by_cases h1 : chk C S = 0
  · have H1 := Lib.hid h1
    have HV : Hid (reS C S = reA C) := if_pos h1
    have hn14 : n ≤ 14 := by have := (chk_ok h1).1; omega
    have hn0 : 0 < n := by
      rcases Nat.eq_zero_or_pos n with h | h
      · have := chk_none (C := C) (S := S) (by have := chk_ok h1; omega) (.inl (by omega)); omega
      · exact h
    have HST : Hid (reA C = [] ++ reL (C.getD 0 z0).p 1 (C.drop 1)) := reA_at C (by omega)
    clear h1 hn
    go_enter Tryd.func19, Tryd.ntmps19
    go_wp2_with (go_at_call 47; refine HCK.out.mono ?_; rintro e w1 ⟨rfl, hb1⟩; rw [H1.out]; obtain ⟨q0, q1, hz, _⟩ := args1 hb1)
    go_loopw [6, 5] (fun i v wr => ∃ (j k : Nat) (acc : List Int) (A1 : Option Addr) (c1 : Nat), k ≤ n ∧ i = .int .i64 ((k : Int) + 1) ∧ v = .slice A1 acc.length c1 ∧ Own1 (w.alloc (iObj A n c A' m c')) wr 3 1 A1 acc.length c1 (intC acc) ∧ Hid (k = j + 1 ∧ reA C = acc ++ reL (C.getD j z0).p k (C.drop k)) ∧ acc.length ≤ k) (fun i _ _ => n + 1 - (intOf i).toNat)
    case atStart => exact ⟨0, 1, [], none, 0, by omega, rfl, rfl, Own1.start hb1 _ _, ⟨rfl, HST.out⟩, by simp⟩
    case round =>
      obtain ⟨j, k, acc, A1, c1, hk, rfl, rfl, hO, HL, hlen⟩ := hrel
      have HO := Lib.hid hO
      clear hO q0 q1 hz
      obtain ⟨q0, q1, hz, _⟩ := args1 HO.out.low
      have hj1 : j < n := by have := HL.out.1; omega
      have hjn : (j : Int) < (n : Int) := by omega
      have wk0 : IntKind.i64.wrap (k : Int) = k := IntWalk.i64_in _ ⟨by omega, by omega⟩
      have wk1 : IntKind.i64.wrap ((k : Int) + 1) = (k : Int) + 1 := IntWalk.i64_in _ ⟨by omega, by omega⟩
      have wj1 : IntKind.i64.wrap ((k : Int) - 1) = (j : Int) := by rw [IntWalk.i64_in _ ⟨by omega, by omega⟩]; have := HL.out.1; omega
      have wj2 : IntKind.i64.wrap ((k : Int) + 1 - 2) = (j : Int) := by rw [IntWalk.i64_in _ ⟨by omega, by omega⟩]; have := HL.out.1; omega
      by_cases hlt : k < n
      · have g2 : ((k : Int) + 1 ≤ (n : Int)) := by omega
        have hkn : (k : Int) < (n : Int) := by omega
        obtain ⟨b, off, hA, hB, hc⟩ := (HC.out.below HO.out.low).2.2 (by omega)
        subst hA
        obtain ⟨j0, _, _⟩ := crC_at C k (by have := HN.out; omega)
        have k0 := hc _ _ j0
        obtain ⟨jj, _, _⟩ := crC_at C j (by have := HN.out; omega)
        have k1 := hc _ _ jj
        have HD := Lib.hid (drop_consC C k (by have := HN.out; omega))
        have HLL := Lib.hid HL.out.2
        have HKJ := Lib.hid HL.out.1
        clear hc j0 jj HL
        generalize hx : C.getD k z0 = x at *
        generalize hy : C.getD j z0 = y at *
        have HXY : Hid (C.getD k z0 = x) := hx
        clear hx hy
        by_cases he : y.p < x.p
        · have HH := Lib.hid (reL_hit HLL.out HD.out he)
          go_wp2_with (fail)
          go_quiet (fail)
          have hqb : Below wr.heap.size wr (wr.drewN nq) := bd (Below.refl _ _) nq
          generalize wr.drewN nq = wq at *
          go_wp2_with (at_builtin; refine wpList_append_own _ rfl _ _ 23 rfl (w.alloc (iObj (some ⟨b, off, none⟩) n c A' m c')).heap.size 3 i0 _ 1 8 Tryd.underlying23 ii1 ii2 ii3 ii4 rfl (by decide) (.slice A1 acc.length c1) acc.length _ rfl ((own_below HO.out.own hqb).alloc _) ⟨wq.heap.size, 0, none⟩ 1 1 [.int .i64 ((k : Int) + 1)] rfl rfl ?d1 ?d2 ?d3 ?d4 ?d5 ?_)
          case d1 => exact cell_one_new _ _ _
          case d2 =>
            intro u hu
            simp at hu
            rcases hu with rfl
            rfl
          case d3 => unfold maxLen; omega
          case d4 => omega
          case d5 => have := (bt HO.out.low hqb).size; simp at this ⊢; omega
          intro v' w3 hown' hgrow _
          obtain ⟨A3, c3, rfl, hO3, _⟩ := Own1.step HO.out hqb (by simp) hown' hgrow
          have HO4 : Hid (Own1 (w.alloc (iObj (some ⟨b, off, none⟩) n c A' m c')) w3 3 1 A3 (acc ++ [(k : Int) + 1]).length c3 (intC (acc ++ [(k : Int) + 1]))) := by
            unfold Hid; rw [intC_app, List.length_append]; exact hO3
          clear hown' hgrow hO3
          go_wp2_with (fail)
          go_roundw
          case rel => exact ⟨k, k + 1, _, A3, c3, by omega, by go_num, by simp, HO4.out, ⟨rfl, by rw [HXY.out]; exact HH.out⟩, by simp; omega⟩
          case measure => simp [intOf]; omega
        · have HH := Lib.hid (reL_miss HLL.out HD.out he)
          go_wp2_with (fail)
          go_quiet (fail)
          have hqb : Below wr.heap.size wr (wr.drewN nq) := bd (Below.refl _ _) nq
          generalize wr.drewN nq = wq at *
          go_wp2_with (fail)
          go_roundw
          case rel => exact ⟨k, k + 1, acc, A1, c1, by omega, by go_num, rfl, HO.out.below hqb, ⟨rfl, by rw [HXY.out]; exact HH.out⟩, by omega⟩
          case measure => simp [intOf]; omega
      · have g2 : ¬ ((k : Int) + 1 ≤ (n : Int)) := by omega
        have HR : Hid (reA C = acc) := by
          have := HL.out.2
          rw [List.drop_of_length_le (by have := HN.out; omega), reL, List.append_nil] at this
          exact this
        go_wp2_with (fail)
        go_ret2
        rw [HV.out, HR.out, H1.out]
        exact ⟨A1, _, c1, rfl, rfl, HO.out.sl, bx HO.out.low⟩
  · obtain ⟨cv, hcv⟩ : ∃ cv, chk C S = cv := ⟨_, rfl⟩
    have HV : Hid (reS C S = []) := if_neg h1
    rw [hcv] at h1
    have hcb : (cv == 0) = false := by simpa using h1
    have HCV := Lib.hid hcv
    clear hcv hn
    go_enter Tryd.func19, Tryd.ntmps19
    go_wp2_with (go_at_call 47; refine HCK.out.mono ?_; rintro e w1 ⟨rfl, hb1⟩; rw [HCV.out])
    go_ret2
    rw [HV.out, HCV.out]
    exact numPost_none (bx hb1)

end Go.Proofs.YtdaeanjjmbibmaaDoor
