/- What the reference's Rank and both Reentrant return for any instrument. -/
import Derived.Test.YtdaeanjjmbibmaaDoorRankP
import Derived.Test.YtdaeanjjmbibmaaDoorSamePl
import Derived.Test.YtdaeanjjmbibmaaDoorGrow
namespace Go.Proofs.YtdaeanjjmbibmaaDoor
open Go.RowKit

theorem intC_app (S : List Int) (x : Int) : intC (S ++ [x]) = intC S ++ [.int .i64 x] := by simp [intC]
/-- A list of numbers in memory of its own, and an error. -/
def NumPost (L : List Int) (er : Int) (w : World) (e : Ending) (w' : World) : Prop :=
  ∃ (A : Option Addr) (n c : Nat), e = .returned (.tuple #[.slice A n c, .int .i64 er]) ∧ n = L.length ∧ Sl w' w'.heap.size 1 A n c (intC L) ∧ Below w.heap.size w w'
theorem numPost_none {er : Int} {w w' : World} (h : Below w.heap.size w w') : NumPost [] er w (.returned (.tuple #[.slice none 0 0, .int .i64 er])) w' := ⟨none, 0, 0, rfl, rfl, Sl.none_ _ _ _, h⟩
def rkA (C : List Cr) (S : List Int) : List Int := if chk C S = 0 then rkL C else []
def reS (C : List Cr) (S : List Int) : List Int := if chk C S = 0 then reA C else []

theorem rkG_len (p : Int) : ∀ (D : List Cr) (i : Nat), (rkG p i D).length ≤ D.length
  | [], _ => by simp [rkG]
  | x :: r, i => by
    have := rkG_len p r (i + 1)
    unfold rkG
    split <;> simp <;> omega
theorem rkG_hit {T acc tail : List Int} {p : Int} {C : List Cr} {k : Nat} {x : Cr} (h : T = acc ++ (rkG p k (C.drop k) ++ tail)) (hd : C.drop k = x :: C.drop (k + 1)) (he : x.p = p) : T = (acc ++ [(k : Int) + 1]) ++ (rkG p (k + 1) (C.drop (k + 1)) ++ tail) := by
  rw [h, hd, rkG, if_pos he]; simp
theorem rkG_miss {T acc tail : List Int} {p : Int} {C : List Cr} {k : Nat} {x : Cr} (h : T = acc ++ (rkG p k (C.drop k) ++ tail)) (hd : C.drop k = x :: C.drop (k + 1)) (he : ¬ x.p = p) : T = acc ++ (rkG p (k + 1) (C.drop (k + 1)) ++ tail) := by
  rw [h, hd, rkG, if_neg he]
theorem reL_hit {T acc : List Int} {b : Int} {C : List Cr} {k : Nat} {x : Cr} (h : T = acc ++ reL b k (C.drop k)) (hd : C.drop k = x :: C.drop (k + 1)) (he : b < x.p) : T = (acc ++ [(k : Int) + 1]) ++ reL x.p (k + 1) (C.drop (k + 1)) := by
  rw [h, hd, reL, if_pos he]; simp
theorem reL_miss {T acc : List Int} {b : Int} {C : List Cr} {k : Nat} {x : Cr} (h : T = acc ++ reL b k (C.drop k)) (hd : C.drop k = x :: C.drop (k + 1)) (he : ¬ b < x.p) : T = acc ++ reL x.p (k + 1) (C.drop (k + 1)) := by
  rw [h, hd, reL, if_neg he]
theorem reA_at (C : List Cr) (h : 0 < C.length) : reA C = [] ++ reL (C.getD 0 z0).p 1 (C.drop 1) := by
  cases C with
  | nil => simp at h
  | cons x r => rfl

set_option maxRecDepth 100000 in
set_option maxHeartbeats 16000000 in
theorem rrank_any (A A' : Option Addr) (n c m c' : Nat) (C : List Cr) (S : List Int) (w : World) (hC : Sl w w.heap.size 3 A n c (crC C)) (hS : Sl w w.heap.size 1 A' m c' (intC S)) (hn : n = C.length) (hm : m = S.length)
    (hb : n ≤ 9223372036854775807) (hb2 : m ≤ 9223372036854775807) :
    Calls Tryd.prog 16 #[.agg #[.slice A n c, .slice A' m c']] w (NumPost (rkA C S) (chk C S) w) := by
  obtain ⟨i0, ii1, ii2, ii3, ii4⟩ := info_parts Tryd.info3'
  have hC1 := hC.below (ba w (iObj A n c A' m c'))
  have hS1 := hS.below (ba w (iObj A n c A' m c'))
  have HCK := Lib.hid (rcheck_any A A' n c m c' C S _ hC1 hS1 hn hm hb hb2)
  have HC := Lib.hid hC1
  have HN := Lib.hid hn
  clear hC hS hC1 hS1 hm
  by_cases h1 : chk C S = 0
  · have H1 := Lib.hid h1
    have HV : Hid (rkA C S = rkL C) := if_pos h1
    have hn14 : n ≤ 14 := by have := (chk_ok h1).1; omega
    clear h1 hn
    go_enter Tryd.func16, Tryd.ntmps16
    go_wp2_with (go_at_call 47; refine HCK.out.mono ?_; rintro e w1 ⟨rfl, hb1⟩; rw [H1.out]; obtain ⟨q0, q1, hz, _⟩ := args1 hb1)
    go_loopw [6, 5, 7] (fun i v _ wr => ∃ (kk : Nat) (acc : List Int) (A1 : Option Addr) (c1 : Nat), kk ≤ 128 ∧ i = .int .i64 ((kk : Int) - 1) ∧ v = .slice A1 acc.length c1 ∧ Own1 (w.alloc (iObj A n c A' m c')) wr 3 1 A1 acc.length c1 (intC acc) ∧ Hid (rkL C = acc ++ rkD C kk) ∧ acc.length ≤ n * (128 - kk)) (fun i _ _ _ => (intOf i + 1).toNat)
    case atStart => exact ⟨128, [], none, 0, by omega, rfl, rfl, Own1.start hb1 _ _, rfl, by simp⟩
    case round =>
      obtain ⟨kk, acc, A1, c1, hk, rfl, rfl, hO, HL, hlen⟩ := hrel
      have HO := Lib.hid hO
      have HLEN := Lib.hid hlen
      clear hO q0 q1 hz hlen
      obtain ⟨q0, q1, hz, _⟩ := args1 HO.out.low
      cases kk with
      | zero =>
        have g1 : ¬ ((0 : Int) ≤ ((0 : Nat) : Int) - 1) := by omega
        have HR : Hid (rkL C = acc) := HL.out.trans (by simp [rkD])
        go_wp2_with (fail)
        go_ret2
        rw [HV.out, HR.out, H1.out]
        exact ⟨A1, _, c1, rfl, rfl, HO.out.sl, bx HO.out.low⟩
      | succ kk =>
        have e1 : (((kk + 1 : Nat) : Int)) - 1 = (kk : Int) := by omega
        rw [e1]
        have g1 : (0 : Int) ≤ (kk : Int) := by omega
        have HD0 : Hid (rkL C = acc ++ (rkG kk 0 (C.drop 0) ++ rkD C kk)) := HL.out
        have HLEN2 : Hid (acc.length ≤ n * (127 - kk) + 0) := by have := HLEN.out; rw [show 128 - (kk + 1) = 127 - kk by omega] at this; exact this
        clear HLEN
        go_wp2_with (fail)
        obtain ⟨wo, rfl⟩ : ∃ wo : World, wo = wr := ⟨_, rfl⟩
        go_loopw [7, 5] (fun s v wr => ∃ (q : Nat) (acc2 : List Int) (A2 : Option Addr) (c2 : Nat), q ≤ n ∧ s = .int .i64 ((q : Int) + 1) ∧ v = .slice A2 acc2.length c2 ∧ Own1 (w.alloc (iObj A n c A' m c')) wr 3 1 A2 acc2.length c2 (intC acc2) ∧ Hid (rkL C = acc2 ++ (rkG kk q (C.drop q) ++ rkD C kk)) ∧ Hid (acc2.length ≤ n * (127 - kk) + q)) (fun s _ _ => n + 1 - (intOf s).toNat)
        case atStart => exact ⟨0, acc, A1, c1, by omega, rfl, rfl, HO.out, HD0, HLEN2⟩
        case round =>
          obtain ⟨q, acc2, A2, c2, hq, rfl, rfl, hO2, HT, HLL⟩ := hrel
          have HO2 := Lib.hid hO2
          clear q0 q1 hz hO2
          obtain ⟨q0, q1, hz, _⟩ := args1 HO2.out.low
          by_cases hlt : q < n
          · have g2 : ((q : Int) + 1 ≤ (n : Int)) := by omega
            have hkn : (q : Int) < (n : Int) := by omega
            have g4 : IntKind.i64.wrap (q : Int) = q := IntWalk.i64_in _ ⟨by omega, by omega⟩
            obtain ⟨b, off, hA, hB, hc⟩ := (HC.out.below HO2.out.low).2.2 (by omega)
            subst hA
            obtain ⟨j0, _, _⟩ := crC_at C q (by have := HN.out; omega)
            have k0 := hc _ _ j0
            have HD := Lib.hid (drop_consC C q (by have := HN.out; omega))
            have hal : acc2.length ≤ 2000 := by
              have := HLL.out
              have h2 : n * (127 - kk) ≤ 14 * 127 := Nat.mul_le_mul hn14 (by omega)
              omega
            clear hc j0
            generalize C.getD q z0 = x at *
            by_cases he : x.p = kk
            · have HH := Lib.hid (rkG_hit HT.out HD.out he)
              have heb : (x.p == (kk : Int)) = true := by simpa using he
              clear he
              go_wp2_with (at_builtin; refine wpList_append_own _ rfl _ _ 23 rfl (w.alloc (iObj (some ⟨b, off, none⟩) n c A' m c')).heap.size 3 i0 _ 1 8 Tryd.underlying23 ii1 ii2 ii3 ii4 rfl (by decide) (.slice A2 acc2.length c2) acc2.length _ rfl (HO2.out.own.alloc _) ⟨wr.heap.size, 0, none⟩ 1 1 [.int .i64 ((q : Int) + 1)] rfl rfl ?d1 ?d2 ?d3 ?d4 ?d5 ?_)
              case d1 => exact cell_one_new _ _ _
              case d2 =>
                intro u hu
                simp at hu
                rcases hu with rfl
                rfl
              case d3 => unfold maxLen; omega
              case d4 => omega
              case d5 => have := HO2.out.low.size; simp at this ⊢; omega
              intro v' w3 hown' hgrow _
              obtain ⟨A3, c3, rfl, hO3, _⟩ := Own1.step HO2.out (Below.refl _ _) (by simp) hown' hgrow
              have HO4 : Hid (Own1 (w.alloc (iObj (some ⟨b, off, none⟩) n c A' m c')) w3 3 1 A3 (acc2 ++ [(q : Int) + 1]).length c3 (intC (acc2 ++ [(q : Int) + 1]))) := by
                unfold Hid; rw [intC_app, List.length_append]; exact hO3
              have HLL2 : Hid ((acc2 ++ [(q : Int) + 1]).length ≤ n * (127 - kk) + (q + 1)) := by unfold Hid; have := HLL.out; simp; omega
              clear hown' hgrow hO3
              go_wp2_with (fail)
              go_roundw
              case rel => exact ⟨q + 1, _, A3, c3, by omega, by go_num, by simp, HO4.out, HH, HLL2⟩
              case measure => simp [intOf]; omega
            · have HH := Lib.hid (rkG_miss HT.out HD.out he)
              have heb : (x.p == (kk : Int)) = false := by simpa using he
              have HLL2 : Hid (acc2.length ≤ n * (127 - kk) + (q + 1)) := by unfold Hid; have := HLL.out; omega
              clear he
              go_wp2_with (fail)
              go_roundw
              case rel => exact ⟨q + 1, acc2, A2, c2, by omega, by go_num, rfl, HO2.out, HH, HLL2⟩
              case measure => simp [intOf]; omega
          · have g2 : ¬ ((q : Int) + 1 ≤ (n : Int)) := by omega
            have hqn : q = n := by omega
            have HR : Hid (rkL C = acc2 ++ rkD C kk) := by
              have := HT.out
              rw [List.drop_of_length_le (by have := HN.out; omega), rkG, List.nil_append] at this
              exact this
            have HLN : Hid (acc2.length ≤ n * (128 - kk)) := by
              have := HLL.out
              have e : n * (128 - kk) = n * (127 - kk) + n := by rw [show 128 - kk = (127 - kk) + 1 by omega, Nat.mul_succ]
              unfold Hid; omega
            clear hqn
            go_wp2_with (fail)
            go_roundw
            case rel => exact ⟨kk, acc2, A2, c2, by omega, by go_num, rfl, HO2.out, HR, HLN.out⟩
            case measure => simp [intOf]
  · obtain ⟨cv, hcv⟩ : ∃ cv, chk C S = cv := ⟨_, rfl⟩
    have HV : Hid (rkA C S = []) := if_neg h1
    rw [hcv] at h1
    have hcb : (cv == 0) = false := by simpa using h1
    have HCV := Lib.hid hcv
    clear hcv hn
    go_enter Tryd.func16, Tryd.ntmps16
    go_wp2_with (go_at_call 47; refine HCK.out.mono ?_; rintro e w1 ⟨rfl, hb1⟩; rw [HCV.out])
    go_ret2
    rw [HV.out, HCV.out]
    exact numPost_none (bx hb1)

end Go.Proofs.YtdaeanjjmbibmaaDoor
