/- What the program's Format returns for any instrument. -/
import Derived.Test.YtdaeanjjmbibmaaDoorFmtM
import Derived.Test.YtdaeanjjmbibmaaDoorSamePl
namespace Go.Proofs.YtdaeanjjmbibmaaDoor
open Go.RowKit

theorem strC_app (L M : List (List UInt8)) : strC (L ++ M) = strC L ++ strC M := by simp [strC]
theorem strC_take (C : List Cr) (k : Nat) (h : k < C.length) : strC ((C.map fmC).take (k + 1)) = strC ((C.map fmC).take k) ++ [.string ⟨(fmC (C.getD k z0)).toArray⟩] := by
  rw [List.take_add_one, List.getElem?_map, List.getElem?_eq_getElem h, strC_app]
  simp [strC, List.getElem?_eq_getElem h]
theorem strS_take (S : List Int) (k : Nat) (h : k < S.length) : strC ((S.map fun s => Lib.decDigits s.toNat).take (k + 1)) = strC ((S.map fun s => Lib.decDigits s.toNat).take k) ++ [.string ⟨(Lib.decDigits (S.getD k 0).toNat).toArray⟩] := by
  rw [List.take_add_one, List.getElem?_map, List.getElem?_eq_getElem h, strC_app]
  simp [strC, List.getElem?_eq_getElem h]

set_option maxRecDepth 100000 in
set_option maxHeartbeats 16000000 in
theorem format_any (A A' : Option Addr) (n c m c' : Nat) (C : List Cr) (S : List Int) (w : World) (E : Env w) (T : Tab w) (hC : Sl w w.heap.size 3 A n c (crC C)) (hS : Sl w w.heap.size 1 A' m c' (intC S)) (hn : n = C.length) (hm : m = S.length)
    (hb : n ≤ 9223372036854775807) (hb2 : m ≤ 9223372036854775807) :
    Calls Tryd.prog 25 #[.agg #[.slice A n c, .slice A' m c']] w fun e w' => e = .returned (.tuple #[.string ⟨(fmA C S).toArray⟩, .int .i64 (chk C S)]) ∧ Below w.heap.size w w' := by
  obtain ⟨i0, ii1, ii2, ii3, ii4⟩ := info_parts Tryd.infoStr
  have hC1 := hC.below (ba w (iObj A n c A' m c'))
  have hS1 := hS.below (ba w (iObj A n c A' m c'))
  have HCK := Lib.hid (check_any A A' n c m c' C S _ hC1 hS1 hn hm hb hb2)
  have HC := Lib.hid hC1
  have HS := Lib.hid hS1
  have HN := Lib.hid hn
  have HM := Lib.hid hm
  have HE : Hid (∀ w', Below (w.alloc (iObj A n c A' m c')).heap.size (w.alloc (iObj A n c A' m c')) w' → Env w' ∧ Tab w') := fun w' h => ⟨(E.alloc _).below h, T.below (bx h)⟩
  clear hC hS hC1 hS1 E T
  by_cases h1 : chk C S = 0
  · have H1 := Lib.hid h1
    have HV : Hid (fmA C S = fmT C S) := if_pos h1
    have HOK := Lib.hid (in_ok h1)
    have hn14 : n ≤ 14 := by have := (chk_ok h1).1; omega
    have hm18 : m ≤ 18 := by have := (chk_ok h1).2.1; omega
    clear h1 hn hm
    go_enter Tryd.func25, Tryd.ntmps25
    go_wp2_with (fail)
    refine HCK.out.mono ?_
    rintro e w1 ⟨rfl, hb1⟩
    rw [H1.out]
    obtain ⟨q0, q1, hz, _⟩ := args1 hb1
    go_wp2_with (fail)
    go_loopw [18, 5, 7] (fun i v _ wr => ∃ (k : Nat) (A1 : Option Addr) (c1 : Nat), k ≤ n ∧ i = .int .i64 k ∧ v = .slice A1 k c1 ∧ Hid (Own1 (w.alloc (iObj A n c A' m c')) wr 9 1 A1 k c1 (strC ((C.map fmC).take k)))) (fun i _ _ _ => n - (intOf i).toNat)
    case atStart => exact ⟨0, none, 0, by omega, rfl, rfl, by have := Own1.start hb1 9 1; simpa [strC, Hid] using this⟩
    case round =>
      obtain ⟨k, A1, c1, hk, rfl, rfl, HO⟩ := hrel
      clear q0 q1 hz
      obtain ⟨q0, q1, hz, _⟩ := args1 HO.out.low
      by_cases hlt : k < n
      · have hkn : (k : Int) < (n : Int) := by omega
        obtain ⟨b, off, rfl, hB, hc⟩ := (HC.out.below HO.out.low).2.2 (by omega)
        obtain ⟨j0, j1, j2⟩ := crC_at C k (by have := HN.out; omega)
        have k0 := hc _ _ j0
        have k1 := hc _ _ j1
        have k2 := hc _ _ j2
        rw [← Nat.add_assoc] at k1 k2
        have hmem : C.getD k z0 ∈ C := by
          have hkC : k < C.length := by have := HN.out; omega
          rw [List.getD_eq_getElem?_getD, List.getElem?_eq_getElem hkC]; exact List.getElem_mem hkC
        obtain ⟨p0, p1, f0, f1⟩ := HOK.out.cr _ hmem
        have HTK := Lib.hid (strC_take C k (by have := HN.out; omega))
        clear hc j0 j1 j2 hmem
        generalize C.getD k z0 = x at *
        obtain ⟨xp, xf, xo⟩ := x
        dsimp only at k0 k1 k2 p0 p1 f0 f1
        obtain ⟨F, rfl⟩ := Int.eq_ofNat_of_zero_le f0
        have HFC : Hid (∀ w', Below (w.alloc (iObj (some ⟨b, off, none⟩) n c A' m c')).heap.size (w.alloc (iObj (some ⟨b, off, none⟩) n c A' m c')) w' → Calls Tryd.prog 53 #[.agg #[.int .i64 xp, .int .i64 F, .bool xo]] w' fun e w2 => e = .returned (.string ⟨(fmC ⟨xp, F, xo⟩).toArray⟩) ∧ Below w'.heap.size w' w2) :=
          fun w' h => formatCourse_any xp F xo w' (HE.out _ h).1 (HE.out _ h).2 p0 p1 (by omega)
        generalize fmC ⟨xp, F, xo⟩ = txt at *
        have hRb := bt HO.out.low (ba wr (.cells #[.int .i64 xp, .int .i64 F, .bool xo] 75))
        go_wp2_with (first | (go_at_call 53; refine (HFC.out _ hRb).mono ?_; rintro e w2 ⟨rfl, hb2⟩) | (at_builtin; refine wpList_append_own _ rfl _ _ 35 rfl (w.alloc (iObj (some ⟨b, off, none⟩) n c A' m c')).heap.size 9 i0 _ 1 16 Tryd.underlying35 ii1 ii2 ii3 ii4 rfl (by decide) (.slice A1 k c1) k _ rfl ((own_below HO.out.own (bt (ba wr (.cells #[.int .i64 xp, .int .i64 F, .bool xo] 75)) hb2)).alloc _) ⟨w2.heap.size, 0, none⟩ 1 1 [.string ⟨txt.toArray⟩] rfl rfl ?d1 ?d2 ?d3 ?d4 ?d5 ?_))
        case d1 => exact cell_one_new _ _ _
        case d2 =>
          intro u hu
          simp at hu
          rcases hu with rfl
          rfl
        case d3 => unfold maxLen; omega
        case d4 => omega
        case d5 => have := (bt hRb hb2).size; simp at this ⊢; omega
        intro v' w3 hown' hgrow _
        obtain ⟨A3, c3, rfl, hO3, _⟩ := Own1.step HO.out (bt (ba wr (.cells #[.int .i64 xp, .int .i64 F, .bool xo] 75)) hb2) (B := w.heap.size + 1) (by simp) hown' hgrow
        have HO4 : Hid (Own1 (w.alloc (iObj (some ⟨b, off, none⟩) n c A' m c')) w3 9 1 A3 (k + 1) c3 (strC ((C.map fmC).take (k + 1)))) := by
          unfold Hid; rw [HTK.out]; exact hO3
        clear hown' hgrow hO3
        go_wp2_with (fail)
        go_roundw
        case rel => exact ⟨k + 1, A3, c3, by omega, by go_num, rfl, HO4⟩
        case measure => simp [intOf]; omega
      · have hkn : ¬ (k : Int) < (n : Int) := by omega
        obtain rfl : k = n := by omega
        have HO2 : Hid (Own1 (w.alloc (iObj A k c A' m c')) wr 9 1 A1 k c1 (strC (C.map fmC))) := by
          have := HO.out; rw [List.take_of_length_le (by rw [List.length_map]; have := HN.out; omega)] at this; exact this
        clear HO hlt hkn hk
        go_wp2_with (at_builtin; refine wpList_append_own _ rfl _ _ 35 rfl (w.alloc (iObj A k c A' m c')).heap.size 9 i0 _ 1 16 Tryd.underlying35 ii1 ii2 ii3 ii4 rfl (by decide) (.slice A1 k c1) k _ rfl (HO2.out.own.alloc _) ⟨wr.heap.size, 0, none⟩ 1 1 [.string ⟨#[58]⟩] rfl rfl ?g1 ?g2 ?g3 ?g4 ?g5 ?_)
        case g1 => exact cell_one_new _ _ _
        case g2 =>
          intro u hu
          simp at hu
          rcases hu with rfl
          rfl
        case g3 => unfold maxLen; omega
        case g4 => omega
        case g5 => have := HO2.out.low.size; simp at this ⊢; omega
        intro v' w3 hown' hgrow _
        obtain ⟨A3, c3, rfl, hO3, _⟩ := Own1.step HO2.out (Below.refl _ _) (by simp) hown' hgrow
        have HO3 : Hid (Own1 (w.alloc (iObj A k c A' m c')) w3 9 1 A3 (k + 1 + 0) c3 (strC (C.map fmC ++ [58] :: (S.map fun s => Lib.decDigits s.toNat).take 0))) := by
          unfold Hid; rw [strC_app]; simpa [strC] using hO3
        clear hown' hgrow hO3 q0 q1 hz
        obtain ⟨q0, q1, hz, _⟩ := args1 HO3.out.low
        go_wp2_with (fail)
        obtain ⟨wo, rfl⟩ : ∃ wo : World, wo = w3 := ⟨_, rfl⟩
        go_loopw [34, 5, 9] (fun i v _ wr => ∃ (q : Nat) (A1 : Option Addr) (c1 : Nat), q ≤ m ∧ i = .int .i64 q ∧ v = .slice A1 (k + 1 + q) c1 ∧ Hid (Own1 (w.alloc (iObj A k c A' m c')) wr 9 1 A1 (k + 1 + q) c1 (strC (C.map fmC ++ [58] :: (S.map fun s => Lib.decDigits s.toNat).take q)))) (fun i _ _ _ => m - (intOf i).toNat)
        case atStart => exact ⟨0, A3, c3, by omega, rfl, rfl, HO3⟩
        case round =>
          obtain ⟨q, A4, c4, hq, rfl, rfl, HO4⟩ := hrel
          clear q0 q1 hz
          obtain ⟨q0, q1, hz, _⟩ := args1 HO4.out.low
          by_cases hlt : q < m
          · have hqm : (q : Int) < (m : Int) := by omega
            obtain ⟨b, off, rfl, hB, hc⟩ := (HS.out.below HO4.out.low).2.2 (by omega)
            have s0 := hc _ _ (intC_at S q (by have := HM.out; omega))
            have hmem : S.getD q 0 ∈ S := by
              have hkC : q < S.length := by have := HM.out; omega
              rw [List.getD_eq_getElem?_getD, List.getElem?_eq_getElem hkC]; exact List.getElem_mem hkC
            obtain ⟨p0, p1⟩ := HOK.out.st _ hmem
            have HTK := Lib.hid (strS_take S q (by have := HM.out; omega))
            clear hc hmem
            generalize S.getD q 0 = x at *
            obtain ⟨F, rfl⟩ := Int.eq_ofNat_of_zero_le p0
            have HIT := Lib.hid (itoa_t F (by omega) wr (HE.out _ HO4.out.low).2)
            rw [show ((F : Nat) : Int).toNat = F by omega] at HTK
            generalize Lib.decDigits F = txt at *
            go_wp2_with (first | (go_at_call 54; refine HIT.out.mono ?_; rintro e w2 ⟨rfl, hb2⟩) | (at_builtin; refine wpList_append_own _ rfl _ _ 35 rfl (w.alloc (iObj A k c (some ⟨b, off, none⟩) m c')).heap.size 9 i0 _ 1 16 Tryd.underlying35 ii1 ii2 ii3 ii4 rfl (by decide) (.slice A4 (k + 1 + q) c4) (k + 1 + q) _ rfl ((own_below HO4.out.own hb2).alloc _) ⟨w2.heap.size, 0, none⟩ 1 1 [.string ⟨txt.toArray⟩] rfl rfl ?u1 ?u2 ?u3 ?u4 ?u5 ?_))
            case u1 => exact cell_one_new _ _ _
            case u2 =>
              intro u hu
              simp at hu
              rcases hu with rfl
              rfl
            case u3 => unfold maxLen; omega
            case u4 => omega
            case u5 => have := (bt HO4.out.low hb2).size; simp at this ⊢; omega
            intro v' w5 hown' hgrow _
            obtain ⟨A5, c5, rfl, hO5, _⟩ := Own1.step HO4.out hb2 (B := w.heap.size + 1) (by simp) hown' hgrow
            have HO5 : Hid (Own1 (w.alloc (iObj A k c (some ⟨b, off, none⟩) m c')) w5 9 1 A5 (k + 1 + (q + 1)) c5 (strC (C.map fmC ++ [58] :: (S.map fun s => Lib.decDigits s.toNat).take (q + 1)))) := by
              unfold Hid
              rw [strC_app, show strC ([58] :: (S.map fun s => Lib.decDigits s.toNat).take (q + 1)) = strC ([58] :: (S.map fun s => Lib.decDigits s.toNat).take q) ++ [.string ⟨txt.toArray⟩] from congrArg (List.cons _) HTK.out, ← List.append_assoc, ← strC_app]
              exact hO5
            clear hown' hgrow hO5
            go_wp2_with (fail)
            go_roundw
            case rel => exact ⟨q + 1, A5, c5, by omega, by go_num, rfl, HO5⟩
            case measure => simp [intOf]; omega
          · have hqm : ¬ (q : Int) < (m : Int) := by omega
            obtain rfl : q = m := by omega
            have HJ : Hid (Calls Tryd.prog 55 #[.slice A4 (k + 1 + q) c4, .string ⟨#[32]⟩] wr fun e w' => e = .returned (.string ⟨(fmT C S).toArray⟩) ∧ Below wr.heap.size wr w') := by
              have ho := HO4.out.own
              rw [List.take_of_length_le (by rw [List.length_map]; have := HM.out; omega)] at ho
              have hl := fmT_len HOK.out
              exact join_any (fmW C S) A4 _ c4 _ wr (by rw [hl.2]; have := HN.out; have := HM.out; omega) (by simp [fmW]) ho (by rw [hl.2]; have := HN.out; have := HM.out; omega) (by have := hl.1; unfold fmT at this; omega)
            clear hq hlt hqm
            go_wp2_with (fail)
            refine HJ.out.mono ?_
            rintro e w6 ⟨rfl, hb6⟩
            go_wp2_with (fail)
            go_ret2
            rw [HV.out, H1.out]
            exact ⟨rfl, bx (bt HO4.out.low hb6)⟩
  · obtain ⟨cv, hcv⟩ : ∃ cv, chk C S = cv := ⟨_, rfl⟩
    have HV : Hid (fmA C S = []) := if_neg h1
    rw [hcv] at h1
    have hcb : (cv == 0) = false := by simpa using h1
    have HCV := Lib.hid hcv
    clear hcv hn hm
    go_enter Tryd.func25, Tryd.ntmps25
    go_wp2_with (go_at_call 45; refine HCK.out.mono ?_; rintro e w1 ⟨rfl, hb1⟩; rw [HCV.out])
    go_ret2
    rw [HV.out, HCV.out]
    exact ⟨rfl, bx hb1⟩

end Go.Proofs.YtdaeanjjmbibmaaDoor
