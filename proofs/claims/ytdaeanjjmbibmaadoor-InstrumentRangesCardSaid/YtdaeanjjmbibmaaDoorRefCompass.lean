/- What the reference's Compass returns for any instrument. -/
import Derived.Test.YtdaeanjjmbibmaaDoorCompass
import Derived.Test.YtdaeanjjmbibmaaDoorPure8
namespace Go.Proofs.YtdaeanjjmbibmaaDoor
open Go.RowKit

/-- The lowest and the highest behind q frets of a course. -/
def loQ (b xp : Int) (q : Nat) : Int := if q = 0 then b else if xp < b then xp else b
def hiQ (S : List Int) (b xp : Int) (q : Nat) : Int := if q = 0 then b else if b < xp + riseV S ((q - 1 : Nat) : Int) then xp + riseV S ((q - 1 : Nat) : Int) else b
theorem loQ_step {b xp rv bl : Int} {q : Nat} (h : bl = loQ b xp q) (h0 : q = 0 → rv = 0) (h1 : 0 ≤ rv) : (if xp + rv < bl then xp + rv else bl) = loQ b xp (q + 1) := by
  subst h
  unfold loQ
  rw [if_neg (by omega : ¬ q + 1 = 0)]
  by_cases hq : q = 0
  · rw [if_pos hq, h0 hq, Int.add_zero]
  · rw [if_neg hq]
    by_cases hx : xp < b
    · rw [if_pos hx, if_neg (by omega)]
    · rw [if_neg hx, if_neg (by omega)]
theorem hiQ_step {S : List Int} {b xp bh rv : Int} {q : Nat} (h : bh = hiQ S b xp q) (hr : riseV S (q : Int) = rv) (h1 : ∀ i, i + 1 = q → riseV S (i : Int) ≤ rv) : (if bh < xp + rv then xp + rv else bh) = hiQ S b xp (q + 1) := by
  subst h hr
  unfold hiQ
  rw [if_neg (by omega : ¬ q + 1 = 0), Nat.add_sub_cancel]
  by_cases hq : q = 0
  · rw [if_pos hq]
  · rw [if_neg hq]
    have := h1 (q - 1) (by omega)
    by_cases hx : b < xp + riseV S ((q - 1 : Nat) : Int)
    · rw [if_pos hx, if_pos (show b < xp + riseV S (q : Int) by omega)]
      split <;> omega
    · rw [if_neg hx]

set_option maxRecDepth 100000 in
set_option maxHeartbeats 16000000 in
theorem rcompass_any (A A' : Option Addr) (n c m c' : Nat) (C : List Cr) (S : List Int) (w : World) (hC : Sl w w.heap.size 3 A n c (crC C)) (hS : Sl w w.heap.size 1 A' m c' (intC S)) (hn : n = C.length) (hm : m = S.length)
    (hb : n ≤ 9223372036854775807) (hb2 : m ≤ 9223372036854775807) :
    Calls Tryd.prog 14 #[.agg #[.slice A n c, .slice A' m c']] w fun e w' => e = .returned (.tuple #[.int .i64 (coLo C S), .int .i64 (coHi C S), .int .i64 (chk C S)]) ∧ Below w.heap.size w w' := by
  have hC1 := hC.below (ba w (iObj A n c A' m c'))
  have hS1 := hS.below (ba w (iObj A n c A' m c'))
  have HCK := Lib.hid (rcheck_any A A' n c m c' C S _ hC1 hS1 hn hm hb hb2)
  have HC := Lib.hid hC1
  have HS := Lib.hid hS1
  have HN := Lib.hid hn
  have HM := Lib.hid hm
  clear hC hS hC1 hS1 hm
  by_cases h1 : chk C S = 0
  · have H1 := Lib.hid h1
    have HV : Hid (coLo C S = loL 127 C ∧ coHi C S = hiL S 0 C) := ⟨if_pos h1, if_pos h1⟩
    have HX := Lib.hid (fun k hk => chk_course h1 k hk)
    have HRI := Lib.hid (chk_ok h1).2.2.1
    clear h1 hn
    go_enter Tryd.func14, Tryd.ntmps14
    go_wp2_with (go_at_call 47; refine HCK.out.mono ?_; rintro e w1 ⟨rfl, hb1⟩; rw [H1.out]; obtain ⟨q0, q1, hz, _⟩ := args1 hb1)
    go_loopw [8, 6, 7, 9] (fun i lo hi _ wr => ∃ (k : Nat) (bl bh : Int), k ≤ n ∧ i = .int .i64 ((k : Int) + 1) ∧ lo = .int .i64 bl ∧ hi = .int .i64 bh ∧ Hid (loL 127 C = loL bl (C.drop k) ∧ hiL S 0 C = hiL S bh (C.drop k)) ∧ Below (w.alloc (iObj A n c A' m c')).heap.size (w.alloc (iObj A n c A' m c')) wr) (fun i _ _ _ _ => n + 1 - (intOf i).toNat)
    case atStart => exact ⟨0, 127, 0, by omega, rfl, rfl, rfl, ⟨rfl, rfl⟩, hb1⟩
    case round =>
      obtain ⟨k, bl, bh, hk, rfl, rfl, rfl, HL, hbw⟩ := hrel
      have HBW := Lib.hid hbw
      clear q0 q1 hz
      obtain ⟨q0, q1, hz, _⟩ := args1 hbw
      clear hbw
      by_cases hlt : k < n
      · have hA := (HC.out.below HBW.out).2.2 (by omega)
        obtain ⟨b, off, hA, _⟩ := hA
        subst hA
        obtain ⟨x1, x2, x3, x4, x5, x6⟩ := HX.out k (by have := HN.out; omega)
        have HXk := Lib.hid (And.intro x1 x2)
        have HD := Lib.hid (drop_consC C k (by have := HN.out; omega))
        have hk14 : k < 14 := by have := HN.out; omega
        have hle : ((k : Int) + 1 ≤ (n : Int)) := by omega
        have hkn : (k : Int) < (n : Int) := by omega
        have g4 : IntKind.i64.wrap (k : Int) = k := IntWalk.i64_in _ ⟨by omega, by omega⟩
        obtain ⟨F, hF⟩ := Int.eq_ofNat_of_zero_le x3
        have HFm : Hid (F ≤ m) := by unfold Hid; have := HM.out; omega
        have hF18 : F ≤ 18 := by omega
        have HC1 : Hid (∀ w', Below (w.alloc (iObj (some ⟨b, off, none⟩) n c A' m c')).heap.size (w.alloc (iObj (some ⟨b, off, none⟩) n c A' m c')) w' → w'.cell? ⟨b, off + k * 3 + 1, none⟩ = some (.int .i64 F) ∧ b < w'.heap.size ∧
            ∀ q : Nat, q ≤ F → Calls Tryd.prog 48 #[.agg #[.slice (some ⟨b, off, none⟩) n c, .slice A' m c'], .agg #[.int .i64 ((k : Int) + 1), .int .i64 q]] w' fun e w2 => e = .returned (.int .i64 ((C.getD k z0).p + riseV S q)) ∧ Below w'.heap.size w' w2) := by
          intro w' h
          obtain ⟨b', off', hA, hB, hc⟩ := (HC.out.below h).2.2 (by omega)
          injection hA with hA
          injection hA with hA1 hA2
          subst hA1 hA2
          obtain ⟨_, j1, _⟩ := crC_at C k (by have := HN.out; omega)
          have k1 := hc _ _ j1
          rw [← Nat.add_assoc] at k1
          refine ⟨by rw [k1, hF], hB, fun q hq => ?_⟩
          exact rsound_any _ _ _ _ _ _ C S k q w' (HC.out.below h) (HS.out.below h) HN.out HM.out hb hb2 (by omega) (by omega) (by have := HFm.out; omega) HXk.out (riseV_bd HRI.out (by omega) (by have := HM.out; have := HFm.out; omega))
        clear x1 x2 x3 x4
        have hxx : Hid (∃ xo, C.getD k z0 = ⟨(C.getD k z0).p, F, xo⟩) := ⟨(C.getD k z0).o, by rw [← hF]⟩
        clear hF
        obtain ⟨xo, hx⟩ := hxx.out
        rw [hx] at HD
        have HP1 := Lib.hid HXk.out
        generalize hgp : (C.getD k z0).p = xp at *
        clear hxx hx hgp HXk
        obtain ⟨x1, x2⟩ := HP1.out
        go_wp2_with (fail)
        obtain ⟨wo, rfl⟩ : ∃ wo : World, wo = wr := ⟨_, rfl⟩
        go_loopw [9, 6, 7] (fun s lo hi wr => ∃ (q : Nat) (cl ch : Int), q ≤ F + 1 ∧ s = .int .i64 q ∧ lo = .int .i64 cl ∧ hi = .int .i64 ch ∧ Hid (cl = loQ bl xp q ∧ ch = hiQ S bh xp q) ∧ Below (w.alloc (iObj (some ⟨b, off, none⟩) n c A' m c')).heap.size (w.alloc (iObj (some ⟨b, off, none⟩) n c A' m c')) wr) (fun s _ _ _ => F + 1 - (intOf s).toNat)
        case atStart => exact ⟨0, bl, bh, by omega, rfl, rfl, rfl, ⟨rfl, rfl⟩, HBW.out⟩
        case round =>
          obtain ⟨q, cl, ch, hq, rfl, rfl, rfl, HQ, hbw2⟩ := hrel
          have HBW2 := Lib.hid hbw2
          clear q0 q1 hz
          obtain ⟨s0, s1, hzw, _⟩ := args1 hbw2
          obtain ⟨t1, hbz, hsd⟩ := HC1.out wr hbw2
          have HSD := Lib.hid hsd
          clear hbw2 hsd
          by_cases hqF : q ≤ F
          · have g1 : (q : Int) ≤ (F : Int) := by omega
            have HS1 : Hid (∀ w', Below wr.heap.size wr w' → Calls Tryd.prog 48 #[.agg #[.slice (some ⟨b, off, none⟩) n c, .slice A' m c'], .agg #[.int .i64 ((k : Int) + 1), .int .i64 q]] w' fun e w2 => e = .returned (.int .i64 (xp + riseV S q)) ∧ Below w'.heap.size w' w2) := fun w' h => ((HC1.out w' (bt HBW2.out h)).2.2 q hqF)
            obtain ⟨r1, r2⟩ := riseV_bd (S := S) (f := (q : Int)) HRI.out (by omega) (by have := HM.out; have := HFm.out; omega)
            have HMO : Hid (∀ i, i + 1 = q → riseV S (i : Int) ≤ riseV S (q : Int)) := fun i hi => riseV_mono HRI.out (by omega) (by have := HM.out; have := HFm.out; omega)
            have HZ : Hid (q = 0 → riseV S (q : Int) = 0) := fun h => by subst h; rfl
            obtain ⟨rv, hrv⟩ : ∃ rv, riseV S (q : Int) = rv := ⟨_, rfl⟩
            rw [hrv] at r1 r2 HS1 HMO HZ
            have HRV := Lib.hid hrv
            clear hrv
            have HL1 := Lib.hid (loQ_step HQ.out.1 HZ.out r1)
            have HH1 := Lib.hid (hiQ_step HQ.out.2 HRV.out HMO.out)
            rcases Decidable.em (xp + rv < cl) with h3 | h3 <;> rcases Decidable.em (ch < xp + rv) with h4 | h4
            all_goals
              have H3 := Lib.hid h3
              have H4 := Lib.hid h4
              go_wp2_with (fail)
              refine (HS1.out _ (Below.refl _ _)).mono ?_
              rintro e w5 ⟨rfl, hb5⟩
              obtain ⟨u0, u1, hzu, _⟩ := args1 (bt HBW2.out hb5)
              go_wp2_with (fail)
              refine (HS1.out _ hb5).mono ?_
              rintro e w6 ⟨rfl, hb6⟩
              go_wp2_with (fail)
              go_roundw
              case rel => exact ⟨q + 1, _, _, by omega, by go_num, rfl, rfl, ⟨(by first | (rw [← HL1.out, if_pos H3.out]) | (rw [← HL1.out, if_neg (Int.not_lt.2 H3.out)]) | (rw [← HL1.out, if_neg H3.out])), (by first | (rw [← HH1.out, if_pos H4.out]) | (rw [← HH1.out, if_neg (Int.not_lt.2 H4.out)]) | (rw [← HH1.out, if_neg H4.out]))⟩, bt HBW2.out (bt hb5 hb6)⟩
              case measure => simp [intOf]; omega
          · have g1 : ¬ ((q : Int) ≤ (F : Int)) := by omega
            have hqq : q = F + 1 := by omega
            have HE : Hid (loL 127 C = loL cl (C.drop (k + 1)) ∧ hiL S 0 C = hiL S ch (C.drop (k + 1))) := by
              obtain ⟨e1, e2⟩ := HQ.out
              obtain ⟨e3, e4⟩ := HL.out
              rw [HD.out] at e3 e4
              unfold loQ at e1
              unfold hiQ at e2
              rw [if_neg (by omega)] at e1 e2
              rw [show q - 1 = F by omega] at e2
              rw [loL] at e3
              rw [hiL] at e4
              exact ⟨by rw [e3, e1], by rw [e4, e2]⟩
            clear hqq
            go_wp2_with (fail)
            go_roundw
            case rel => exact ⟨k + 1, cl, ch, by omega, by go_num, rfl, rfl, HE, HBW2.out⟩
            case measure => simp [intOf]; omega
      · have hle : ¬ ((k : Int) + 1 ≤ (n : Int)) := by omega
        have hkk : k = n := by omega
        have HE := Lib.hid (show C.drop k = [] from List.drop_of_length_le (by have := HN.out; omega))
        go_wp2_with (fail)
        refine bodyPost_ret (v := .tuple #[.int .i64 bl, .int .i64 bh, .int .i64 0]) ?_ rfl ?_
        · simp [results, Tryd.results14, go_sem]
          done
        · exact ⟨ret_iii (by rw [HV.out.1, HL.out.1, HE.out]; rfl) (by rw [HV.out.2, HL.out.2, HE.out]; rfl) H1.out.symm, bx HBW.out⟩
  · obtain ⟨cv, hcv⟩ : ∃ cv, chk C S = cv := ⟨_, rfl⟩
    have HV : Hid (coLo C S = 0 ∧ coHi C S = 0) := ⟨if_neg h1, if_neg h1⟩
    rw [hcv] at h1
    have hcb : (cv == 0) = false := by simpa using h1
    have HCV := Lib.hid hcv
    clear hcv hn
    go_enter Tryd.func14, Tryd.ntmps14
    go_wp2_with (go_at_call 47; refine HCK.out.mono ?_; rintro e w1 ⟨rfl, hb1⟩; rw [HCV.out])
    refine bodyPost_ret (v := .tuple #[.int .i64 0, .int .i64 0, .int .i64 cv]) ?_ rfl ?_
    · simp [results, Tryd.results14, go_sem]
      done
    · exact ⟨ret_iii HV.out.1.symm HV.out.2.symm HCV.out.symm, bx hb1⟩

end Go.Proofs.YtdaeanjjmbibmaaDoor
