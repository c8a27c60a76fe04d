/- What the reference's Format returns for any instrument. -/
import Derived.Test.YtdaeanjjmbibmaaDoorFmtM
import Derived.Test.YtdaeanjjmbibmaaDoorSamePl
namespace Go.Proofs.YtdaeanjjmbibmaaDoor
open Go.RowKit

/-- The text behind k courses; what q steps add. -/
def fmP (C : List Cr) (k : Nat) : List UInt8 := (((C.map fmC).take k).map (· ++ [32])).flatten
def fmQ (S : List Int) (q : Nat) : List UInt8 := Lib.joinTail [32] ((S.map fun s => Lib.decDigits s.toNat).take q)
theorem fmP_step (C : List Cr) (k : Nat) (h : k < C.length) : fmP C (k + 1) = fmP C k ++ (fmC (C.getD k z0) ++ [32]) := by
  unfold fmP
  rw [List.take_add_one, List.getElem?_map, List.getElem?_eq_getElem h]
  simp [List.getElem?_eq_getElem h]
theorem fmQ_step (S : List Int) (q : Nat) (h : q < S.length) : fmQ S (q + 1) = fmQ S q ++ [32] ++ Lib.decDigits (S.getD q 0).toNat := by
  unfold fmQ
  rw [Lib.joinTail_take_succ [32] _ q (Lib.decDigits (S.getD q 0).toNat) (by rw [List.getElem?_map, List.getElem?_eq_getElem h]; simp [List.getElem?_eq_getElem h])]
theorem join_split : ∀ (L R : List (List UInt8)), Lib.join (L ++ [58] :: R) [32] = (L.map (· ++ [32])).flatten ++ [58] ++ Lib.joinTail [32] R
  | [], R => by rw [List.nil_append, Lib.join_cons]; simp
  | x :: L, R => by
    have ih := join_split L R
    cases L with
    | nil => rw [List.cons_append, List.nil_append, Lib.join_cons]; simp [Lib.joinTail]
    | cons y L =>
      rw [List.cons_append] at ih
      rw [List.cons_append, List.cons_append, Lib.join_cons]
      rw [Lib.join_cons] at ih
      rw [show Lib.joinTail [32] (y :: (L ++ [58] :: R)) = [32] ++ (y ++ Lib.joinTail [32] (L ++ [58] :: R)) by simp [Lib.joinTail], ih]
      simp
theorem fmT_flat (C : List Cr) (S : List Int) {n m : Nat} (hn : n = C.length) (hm : m = S.length) : fmT C S = fmP C n ++ [58] ++ fmQ S m := by
  unfold fmT fmW fmP fmQ
  rw [join_split, List.take_of_length_le (by simp; omega), List.take_of_length_le (by simp; omega)]
theorem cat3 (acc nm dd : List UInt8) : (ByteArray.mk acc.toArray) ++ (ByteArray.mk nm.toArray) ++ (ByteArray.mk #[47]) ++ (ByteArray.mk dd.toArray) ++ (ByteArray.mk #[32]) = ⟨(acc ++ ((nm ++ 47 :: dd) ++ [32])).toArray⟩ := by
  rw [show (ByteArray.mk #[47]) = ⟨([47] : List UInt8).toArray⟩ from rfl, show (ByteArray.mk #[32]) = ⟨([32] : List UInt8).toArray⟩ from rfl, str_app, str_app, str_app, str_app]; simp
theorem cat4 (acc nm dd : List UInt8) : (ByteArray.mk acc.toArray) ++ (ByteArray.mk nm.toArray) ++ (ByteArray.mk #[47]) ++ (ByteArray.mk dd.toArray) ++ (ByteArray.mk #[43]) ++ (ByteArray.mk #[32]) = ⟨(acc ++ ((nm ++ 47 :: dd ++ [43]) ++ [32])).toArray⟩ := by
  rw [show (ByteArray.mk #[47]) = ⟨([47] : List UInt8).toArray⟩ from rfl, show (ByteArray.mk #[43]) = ⟨([43] : List UInt8).toArray⟩ from rfl, show (ByteArray.mk #[32]) = ⟨([32] : List UInt8).toArray⟩ from rfl, str_app, str_app, str_app, str_app, str_app]; simp
theorem cat2 (acc dd : List UInt8) : (ByteArray.mk acc.toArray) ++ (ByteArray.mk #[32]) ++ (ByteArray.mk dd.toArray) = ⟨(acc ++ [32] ++ dd).toArray⟩ := by
  rw [show (ByteArray.mk #[32]) = ⟨([32] : List UInt8).toArray⟩ from rfl, str_app, str_app]
theorem cat1 (acc : List UInt8) : (ByteArray.mk acc.toArray) ++ (ByteArray.mk #[58]) = ⟨(acc ++ [58]).toArray⟩ := by
  rw [show (ByteArray.mk #[58]) = ⟨([58] : List UInt8).toArray⟩ from rfl, str_app]

set_option maxRecDepth 100000 in
set_option maxHeartbeats 16000000 in
theorem rformat_any (A A' : Option Addr) (n c m c' : Nat) (C : List Cr) (S : List Int) (w : World) (hC : Sl w w.heap.size 3 A n c (crC C)) (hS : Sl w w.heap.size 1 A' m c' (intC S)) (hn : n = C.length) (hm : m = S.length)
    (hb : n ≤ 9223372036854775807) (hb2 : m ≤ 9223372036854775807) :
    Calls Tryd.prog 26 #[.agg #[.slice A n c, .slice A' m c']] w fun e w' => e = .returned (.tuple #[.string ⟨(fmA C S).toArray⟩, .int .i64 (chk C S)]) ∧ Below w.heap.size w w' := by
  have hC1 := hC.below (ba w (iObj A n c A' m c'))
  have hS1 := hS.below (ba w (iObj A n c A' m c'))
  have HCK := Lib.hid (rcheck_any A A' n c m c' C S _ hC1 hS1 hn hm hb hb2)
  have HC := Lib.hid hC1
  have HS := Lib.hid hS1
  have HN := Lib.hid hn
  have HM := Lib.hid hm
  clear hC hS hC1 hS1
  by_cases h1 : chk C S = 0
  · have H1 := Lib.hid h1
    have HV : Hid (fmA C S = fmT C S) := if_pos h1
    have HOK := Lib.hid (in_ok h1)
    have HFL := Lib.hid (fmT_flat C S hn hm)
    have hn14 : n ≤ 14 := by have := (chk_ok h1).1; omega
    have hm18 : m ≤ 18 := by have := (chk_ok h1).2.1; omega
    clear h1 hn hm
    go_enter Tryd.func26, Tryd.ntmps26
    go_wp2_with (fail)
    refine HCK.out.mono ?_
    rintro e w1 ⟨rfl, hb1⟩
    rw [H1.out]
    obtain ⟨q0, q1, hz, _⟩ := args1 hb1
    go_wp2_with (fail)
    go_loopw [6, 5, 7, 8, 9, 10] (fun i t _ _ _ _ wr => ∃ (k : Nat) (acc : List UInt8), k ≤ n ∧ i = .int .i64 k ∧ t = .string ⟨acc.toArray⟩ ∧ acc.length ≤ 10 * k ∧ Hid (acc = fmP C k) ∧ Below (w.alloc (iObj A n c A' m c')).heap.size (w.alloc (iObj A n c A' m c')) wr) (fun i _ _ _ _ _ _ => n - (intOf i).toNat)
    case atStart => exact ⟨0, [], by omega, rfl, rfl, by simp, by simp [Hid, fmP], hb1⟩
    case round =>
      obtain ⟨k, acc, hk, rfl, rfl, hal, HA, hbw⟩ := hrel
      have HBW := Lib.hid hbw
      clear q0 q1 hz
      obtain ⟨q0, q1, hz, _⟩ := args1 hbw
      clear hbw
      by_cases hlt : k < n
      · have hkn : (k : Int) < (n : Int) := by omega
        obtain ⟨b, off, hA, _⟩ := (HC.out.below HBW.out).2.2 (by omega)
        subst hA
        have hmem : C.getD k z0 ∈ C := by
          have hkC : k < C.length := by have := HN.out; omega
          rw [List.getD_eq_getElem?_getD, List.getElem?_eq_getElem hkC]; exact List.getElem_mem hkC
        obtain ⟨p0, p1, f0, f1⟩ := HOK.out.cr _ hmem
        have HST := Lib.hid (fmP_step C k (by have := HN.out; omega))
        obtain ⟨F, hF⟩ := Int.eq_ofNat_of_zero_le f0
        obtain ⟨xp, hxp⟩ : ∃ xp, (C.getD k z0).p = xp := ⟨_, rfl⟩
        obtain ⟨xo, hxo⟩ : ∃ xo, (C.getD k z0).o = xo := ⟨_, rfl⟩
        have HCELL : Hid (∀ w', Below (w.alloc (iObj (some ⟨b, off, none⟩) n c A' m c')).heap.size (w.alloc (iObj (some ⟨b, off, none⟩) n c A' m c')) w' → w'.cell? ⟨b, off + k * 3, none⟩ = some (.int .i64 xp) ∧ w'.cell? ⟨b, off + k * 3 + 1, none⟩ = some (.int .i64 F) ∧ w'.cell? ⟨b, off + k * 3 + 2, none⟩ = some (.bool xo) ∧ b < w'.heap.size ∧
            w'.cell? ⟨w.heap.size, 0, none⟩ = some (.slice (some ⟨b, off, none⟩) n c) ∧ w'.cell? ⟨w.heap.size, 1, none⟩ = some (.slice A' m c') ∧ w.heap.size < w'.heap.size) := by
          intro w' h
          obtain ⟨b', off', hA, hB, hc⟩ := (HC.out.below h).2.2 (by omega)
          injection hA with hA
          injection hA with hA1 hA2
          subst hA1 hA2
          obtain ⟨j0, j1, j2⟩ := crC_at C k (by have := HN.out; omega)
          have k0 := hc _ _ j0
          have k1 := hc _ _ j1
          have k2 := hc _ _ j2
          rw [← Nat.add_assoc] at k1 k2
          obtain ⟨a0, a1, a2, _⟩ := args1 h
          exact ⟨by rw [k0, hxp], by rw [k1, hF], by rw [k2, hxo], hB, a0, a1, a2⟩
        rw [hxp] at p0 p1
        rw [hF] at f1
        have hx : C.getD k z0 = ⟨xp, (F : Int), xo⟩ := by rw [← hxp, ← hxo, show ((F : Nat) : Int) = (C.getD k z0).f from hF.symm]
        rw [hx] at HST
        have HNM := Lib.hid (nmS_is p0 p1)
        have hl := (nm_ok p0 p1).len
        have hd := (nu_ok (n := F) (by omega)).len
        have HF : Hid (fmC ⟨xp, F, xo⟩ = nmK xp ++ 47 :: Lib.decDigits F ++ if xo then [43] else []) := by simp [Hid, fmC]
        have ha2 : acc.length ≤ 140 := by omega
        have HDE := Lib.hid (fun w' => decimal_pos F w' (by omega))
        have hfl := (fmC_solid (c := ⟨xp, F, xo⟩) p0 p1 (by show (0 : Int) ≤ (F : Int); omega) (by show (F : Int) ≤ 18; omega)).2.2
        have HLN : Hid ((acc ++ (fmC ⟨xp, F, xo⟩ ++ [32])).length ≤ 10 * (k + 1)) := by unfold Hid; simp; omega
        clear hx hxp hxo hF hmem f0 f1 p0 p1 hfl q0 q1 hz
        generalize nmK xp = nm at *
        generalize Lib.decDigits F = dd at *
        generalize fmC ⟨xp, F, xo⟩ = out at *
        obtain ⟨c0, _, _, hbz, q0, q1, hz⟩ := HCELL.out _ HBW.out
        cases xo with
        | true =>
          go_wp2_with (fail)
          refine (rspell_any xp 0 _).mono ?_
          rintro e w2 ⟨rfl, hb2⟩
          clear c0 hbz q0 q1 hz
          go_wp2_with (fail)
          have T2 := bt HBW.out (bt hb2 (ba w2 (.cells #[.int .i64 (spL xp 0), .int .i64 (spAl xp 0), .int .i64 (spOc xp 0)] 86)))
          refine (rname_any _ _ _ _).mono ?_
          rintro e w3 ⟨rfl, hb3⟩
          rw [HNM.out]
          have T3 := bt T2 hb3
          obtain ⟨c0, c1, c2, hbz, q0, q1, hz⟩ := HCELL.out _ T3
          go_wp2_with (go_at_call 58; refine (HDE.out _).mono ?_; rintro e w4 ⟨rfl, rfl⟩)
          go_roundw
          case rel => exact ⟨k + 1, acc ++ (out ++ [32]), by omega, by go_num, congrArg Value.string (by rw [cat4, HF.out]; simp), HLN.out, by unfold Hid; rw [HST.out, HA.out], T3⟩
          case measure => simp [intOf]; omega
        | false =>
          go_wp2_with (fail)
          refine (rspell_any xp 0 _).mono ?_
          rintro e w2 ⟨rfl, hb2⟩
          clear c0 hbz q0 q1 hz
          go_wp2_with (fail)
          have T2 := bt HBW.out (bt hb2 (ba w2 (.cells #[.int .i64 (spL xp 0), .int .i64 (spAl xp 0), .int .i64 (spOc xp 0)] 86)))
          refine (rname_any _ _ _ _).mono ?_
          rintro e w3 ⟨rfl, hb3⟩
          rw [HNM.out]
          have T3 := bt T2 hb3
          obtain ⟨c0, c1, c2, hbz, q0, q1, hz⟩ := HCELL.out _ T3
          go_wp2_with (go_at_call 58; refine (HDE.out _).mono ?_; rintro e w4 ⟨rfl, rfl⟩)
          go_roundw
          case rel => exact ⟨k + 1, acc ++ (out ++ [32]), by omega, by go_num, congrArg Value.string (by rw [cat3, HF.out]; simp), HLN.out, by unfold Hid; rw [HST.out, HA.out], T3⟩
          case measure => simp [intOf]; omega
      · have hkn : ¬ (k : Int) < (n : Int) := by omega
        obtain rfl : k = n := by omega
        have ha2 : acc.length ≤ 140 := by omega
        clear hal hlt hkn hk
        go_wp2_with (fail)
        rw [cat1]
        have hal : (acc ++ [58]).length ≤ 141 + 4 * 0 := by simp; omega
        have HB0 : Hid (acc ++ [58] = fmP C k ++ [58] ++ fmQ S 0) := by unfold Hid; rw [HA.out]; simp [fmQ, Lib.joinTail]
        clear ha2 HA
        generalize acc ++ [58] = acc0 at *
        obtain ⟨wo, rfl⟩ : ∃ wo : World, wo = wr := ⟨_, rfl⟩
        go_loopw [11, 5] (fun i t wr => ∃ (q : Nat) (acc : List UInt8), q ≤ m ∧ i = .int .i64 q ∧ t = .string ⟨acc.toArray⟩ ∧ acc.length ≤ 141 + 4 * q ∧ Hid (acc = fmP C k ++ [58] ++ fmQ S q) ∧ Below (w.alloc (iObj A k c A' m c')).heap.size (w.alloc (iObj A k c A' m c')) wr) (fun i _ _ => m - (intOf i).toNat)
        case atStart => exact ⟨0, acc0, by omega, rfl, rfl, hal, HB0, HBW.out⟩
        case round =>
          obtain ⟨q, acc, hq, rfl, rfl, hal2, HA, hbw2⟩ := hrel
          have HBW2 := Lib.hid hbw2
          clear q0 q1 hz
          obtain ⟨q0, q1, hz, _⟩ := args1 hbw2
          clear hbw2 hal
          by_cases hlt : q < m
          · have hqm : (q : Int) < (m : Int) := by omega
            obtain ⟨b, off, rfl, hB, hc⟩ := (HS.out.below HBW2.out).2.2 (by omega)
            have s0 := hc _ _ (intC_at S q (by have := HM.out; omega))
            have hmem : S.getD q 0 ∈ S := by
              have hkC : q < S.length := by have := HM.out; omega
              rw [List.getD_eq_getElem?_getD, List.getElem?_eq_getElem hkC]; exact List.getElem_mem hkC
            obtain ⟨p0, p1⟩ := HOK.out.st _ hmem
            have HST := Lib.hid (fmQ_step S q (by have := HM.out; omega))
            clear hc hmem
            generalize S.getD q 0 = x at *
            obtain ⟨F, rfl⟩ := Int.eq_ofNat_of_zero_le p0
            have hd := (nu_ok (n := F) (by omega)).len
            rw [show ((F : Nat) : Int).toNat = F by omega] at HST
            have HDE := Lib.hid (fun w' => decimal_pos F w' (by omega))
            have ha2 : acc.length ≤ 300 := by omega
            generalize Lib.decDigits F = dd at *
            go_wp2_with (go_at_call 58; refine (HDE.out _).mono ?_; rintro e w4 ⟨rfl, rfl⟩)
            go_roundw
            case rel => exact ⟨q + 1, acc ++ [32] ++ dd, by omega, by go_num, congrArg Value.string (cat2 acc dd), by simp; omega, by unfold Hid; rw [HST.out, HA.out]; simp, HBW2.out⟩
            case measure => simp [intOf]; omega
          · have hqm : ¬ (q : Int) < (m : Int) := by omega
            obtain rfl : q = m := by omega
            clear hlt hqm hq
            go_wp2_with (fail)
            go_ret2
            rw [HV.out, H1.out, HFL.out, ← HA.out]
            exact ⟨rfl, bx HBW2.out⟩
  · obtain ⟨cv, hcv⟩ : ∃ cv, chk C S = cv := ⟨_, rfl⟩
    have HV : Hid (fmA C S = []) := if_neg h1
    rw [hcv] at h1
    have hcb : (cv == 0) = false := by simpa using h1
    have HCV := Lib.hid hcv
    clear hcv hn hm
    go_enter Tryd.func26, Tryd.ntmps26
    go_wp2_with (fail)
    refine HCK.out.mono ?_
    rintro e w1 ⟨rfl, hb1⟩
    rw [HCV.out]
    go_wp2_with (fail)
    go_ret2
    rw [HV.out, HCV.out]
    exact ⟨rfl, bx hb1⟩

end Go.Proofs.YtdaeanjjmbibmaaDoor
