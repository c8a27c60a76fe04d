/- Sound: Ringing, in the program and in the reference, for any piece and event. -/
import Derived.Test.YtcebpgcmmdfccaaSndRS
namespace Go.Proofs.Ytcebpgcmmdfccaa
open Go Go.RowKit

def rgB (t : Int) (x : Nt) : Bool := decide (x.fm < t) && decide (t < x.to)
def rgEr (C : List Cr) (S : List Int) (P : List EvP) (ev : Int) : Int := if pcErr C S P ≠ 0 then pcErr C S P else if ev < 0 ∨ (P.length : Int) ≤ ev then 1 else 0
def rgL (C : List Cr) (S : List Int) (P : List EvP) (ev : Int) : List Nt := if rgEr C S P ev = 0 then (ntL C S P).filter (rgB (onAt (onsL C S P) ev.toNat)) else []
theorem rgL_len (C : List Cr) (S : List Int) (P : List EvP) (ev : Int) : (rgL C S P ev).length ≤ 5600 := by
  unfold rgL
  split
  · exact Nat.le_trans (List.length_filter_le _ _) (ntL_len C S P)
  · simp
theorem fl_yes {T acc : List Nt} {L : List Nt} {k : Nat} {p : Nt → Bool} (h : T = acc ++ (L.drop k).filter p) (hk : k < L.length) (hf : p (L.getD k zNt) = true) : T = (acc ++ [L.getD k zNt]) ++ (L.drop (k + 1)).filter p := by
  rw [h, drop_consN L k hk, List.filter_cons, if_pos hf]
  simp
theorem fl_no {T acc : List Nt} {L : List Nt} {k : Nat} {p : Nt → Bool} (h : T = acc ++ (L.drop k).filter p) (hk : k < L.length) (hf : p (L.getD k zNt) = false) : T = acc ++ (L.drop (k + 1)).filter p := by
  rw [h, drop_consN L k hk, List.filter_cons, if_neg (by rw [hf]; simp)]

set_option maxRecDepth 100000 in
set_option maxHeartbeats 8000000 in
theorem ringing_any (A : Option Addr) (n c : Nat) (A' : Option Addr) (m c' : Nat) (A2 : Option Addr) (q cq : Nat) (C : List Cr) (S : List Int) (P : List EvP) (ev : Int) (w : World) (hP : PcIn w A n c A' m c' A2 q cq C S P) (hnb : n ≤ 1000000) (hmb : m ≤ 1000000) (hq : q ≤ 65536) (hst : ∀ y ∈ P, y.L.length ≤ 1000000) :
    Calls Try.prog 45 #[pcV A n c A' m c' A2 q cq, .int .i64 ev] w (NtPost (rgL C S P ev) (rgEr C S P ev) w) := by
  have HP : Hid (∀ w', Below w.heap.size w w' → PcIn w' A n c A' m c' A2 q cq C S P) := fun w' hb => hP.below hb
  have HQ := Lib.hid hP.es.hq
  have HPY := Lib.hid (play_any A n c A' m c' A2 q cq C S P _ (hP.below (ba w (pcO A n c A' m c' A2 q cq))) hnb hmb hq hst)
  unfold PyPost at HPY
  have HLL := Lib.hid (pyL_len C S P)
  have HEN : Hid (ntL C S P = (pyL C S P).map fun x => x.t) := rfl
  unfold NtPost
  have HE : Hid (rgEr C S P ev = if pcErr C S P ≠ 0 then pcErr C S P else if ev < 0 ∨ (P.length : Int) ≤ ev then 1 else 0) := rfl
  have HL : Hid (rgL C S P ev = if rgEr C S P ev = 0 then (ntL C S P).filter (rgB (onAt (onsL C S P) ev.toNat)) else []) := rfl
  have HNL := Lib.hid (ntL_len C S P)
  have HOL : Hid (pcErr C S P = 0 → (onsL C S P).length = P.length + 1) := fun h => by
    unfold onsL
    rw [if_pos h]
    simp [sumL_len, frcL_len]
  obtain ⟨i0, ii1, ii2, ii3, ii4⟩ := info_parts (show (Try.prog.info? 74).map (fun i => (i.zero, i.size, i.bytes)) = some (some (.agg #[.int .i64 0, .int .i64 0, .int .i64 0, .int .i64 0, .int .i64 0]), 5, 40) by kernel_rfl)
  clear hP hst
  generalize rgEr C S P ev = er at *
  generalize rgL C S P ev = Z at *
  generalize pyL C S P = T at *
  generalize ntL C S P = U at *
  generalize onsL C S P = O at *
  generalize pcErr C S P = X at *
  by_cases hX : X = 0
  · subst hX
    have HOL2 := Lib.hid (HOL.out rfl)
    clear HOL
    by_cases h0 : ev < 0
    · have HEE : Hid (er = 1) := by unfold Hid; rw [HE.out, if_neg (by simp), if_pos (.inl h0)]
      have HLE : Hid (Z = []) := by unfold Hid; rw [HL.out, if_neg (by rw [HEE.out]; decide)]
      clear HE HL
      go_enter Try.func45, Try.ntmps45
      go_wp2_with (go_at_call 50; refine HPY.out.mono ?_; rintro e w1 ⟨A1, n1, c1, B1, m1, d1, rfl, hn1, hm1, hA1, hO1, hb1⟩; have HNA := Lib.hid (And.intro hn1 hA1); have HM := Lib.hid (And.intro hm1 hO1); have HB1 := Lib.hid hb1; obtain ⟨p0, p1, p2⟩ := cell3 hb1; clear hn1 hm1 hA1 hO1 hb1)
      go_ret2
      exact ⟨none, 0, 0, by rw [HEE.out]; rfl, by rw [HLE.out]; rfl, by rw [HLE.out]; exact Sl.none_ _ _ _, bx HB1.out⟩
    by_cases h1 : (q : Int) ≤ ev
    · have h1p : (P.length : Int) ≤ ev := by have := HQ.out; omega
      have HH := Lib.hid h1p
      clear h1p
      have HEE : Hid (er = 1) := by unfold Hid; rw [HE.out, if_neg (by simp), if_pos (.inr HH.out)]
      have HLE : Hid (Z = []) := by unfold Hid; rw [HL.out, if_neg (by rw [HEE.out]; decide)]
      clear HE HL
      go_enter Try.func45, Try.ntmps45
      go_wp2_with (go_at_call 50; refine HPY.out.mono ?_; rintro e w1 ⟨A1, n1, c1, B1, m1, d1, rfl, hn1, hm1, hA1, hO1, hb1⟩; have HNA := Lib.hid (And.intro hn1 hA1); have HM := Lib.hid (And.intro hm1 hO1); have HB1 := Lib.hid hb1; obtain ⟨p0, p1, p2⟩ := cell3 hb1; clear hn1 hm1 hA1 hO1 hb1)
      go_ret2
      exact ⟨none, 0, 0, by rw [HEE.out]; rfl, by rw [HLE.out]; rfl, by rw [HLE.out]; exact Sl.none_ _ _ _, bx HB1.out⟩
    obtain ⟨en, rfl⟩ := Int.eq_ofNat_of_zero_le (show 0 ≤ ev by omega)
    have HEE : Hid (er = 0) := by unfold Hid; rw [HE.out, if_neg (by simp), if_neg (by have := HQ.out; omega)]
    have HLE : Hid (Z = U.filter (rgB (onAt O en))) := by unfold Hid; rw [HL.out, if_pos HEE.out]; rfl
    clear HE HL
    go_enter Try.func45, Try.ntmps45
    go_wp2_with (first
      | (go_at_call 50; refine HPY.out.mono ?_; rintro e w1 ⟨A1, n1, c1, B1, m1, d1, rfl, hn1, hm1, hA1, hO1, hb1⟩; have HNA := Lib.hid (And.intro hn1 hA1); have HM := Lib.hid (And.intro hm1 hO1); have HB1 := Lib.hid hb1; obtain ⟨p0, p1, p2⟩ := cell3 hb1; clear hn1 hm1 hA1 hO1 hb1)
      | (go_at_call 55; refine (notesOf_any A1 n1 c1 T _ HNA.out.2 HNA.out.1 (by have := HNA.out.1; have := HLL.out; omega)).mono ?_; rintro e w2 ⟨B2, d2, rfl, hs2, hb2⟩; have HS2 := Lib.hid hs2; have HB2 := Lib.hid (bt HB1.out hb2); have HM2 := Lib.hid (HM.out.2.below hb2); clear hs2 hb2 p0 p1 p2))
    obtain ⟨n2, hn2⟩ : ∃ n2, n1 = n2 := ⟨_, rfl⟩
    subst hn2
    have HU : Hid (n1 = U.length) := by unfold Hid; rw [HEN.out, List.length_map]; exact HNA.out.1
    have HUS : Hid (Sl w2 w2.heap.size 5 B2 n1 d2 (ntC U)) := by unfold Hid; rw [HEN.out]; exact HS2.out
    have hub : n1 ≤ 5600 := by have := HU.out; have := HNL.out; omega
    have henm : (en : Int) < (m1 : Int) := by have := HM.out.1; have := HOL2.out; have := HQ.out; omega
    obtain ⟨bO, oO, rfl, hbO, hcO⟩ := HM2.out.2.2 (by omega)
    have HCO : Hid (∀ w', Below w2.heap.size w2 w' → w'.cell? ⟨bO, oO + en, none⟩ = some (.int .i64 (onAt O en))) := fun w' hb => cell_same (hb.block bO hbO) (hcO _ _ (intC_at O en (by have := HM.out.1; omega)))
    have HBO := Lib.hid hbO
    clear hcO hbO
    generalize onAt O en = tv at *
    go_loopw [34, 9, 12] (fun i l _ wr => ∃ (k : Nat) (acc : List Nt) (A3 : Option Addr) (c3 : Nat), k ≤ n1 ∧ i = .int .i64 k ∧ l = .slice A3 acc.length c3 ∧ Own1 w2 wr 74 5 A3 acc.length c3 (ntC acc) ∧ Z = acc ++ (U.drop k).filter (rgB tv) ∧ acc.length ≤ k) (fun i _ _ _ => n1 - (intOf i).toNat)
    case atStart => exact ⟨0, [], none, 0, by omega, rfl, rfl, Own1.start (Below.refl _ _) _ _, HLE.out, by simp⟩
    case round =>
      obtain ⟨k, acc, A3, c3, hk, rfl, rfl, hO, hV, hlen⟩ := hrel
      have HO := Lib.hid hO
      have HV := Lib.hid hV
      have t0 := HCO.out _ hO.low
      have hbOr : bO < wr.heap.size := Nat.lt_of_lt_of_le HBO.out hO.low.size
      clear hO hV
      by_cases hlt : k < n1
      · have hkn : (k : Int) < (n1 : Int) := by omega
        obtain ⟨b, off, rfl, hb, hc⟩ := (HUS.out.below HO.out.low).2.2 (by omega)
        have hkU : k < U.length := by have := HU.out; omega
        obtain ⟨j0, j1, j2, j3, j4⟩ := ntC_at U k hkU
        have a0 := hc _ _ j0
        have a1 := hc _ _ j1
        have a2 := hc _ _ j2
        have a3 := hc _ _ j3
        have a4 := hc _ _ j4
        rw [← Nat.add_assoc] at a1 a2 a3 a4
        have HYES := Lib.hid (fl_yes HV.out hkU)
        have HNO := Lib.hid (fl_no HV.out hkU)
        clear hc j0 j1 j2 j3 j4 hkU
        generalize U.getD k zNt = x at *
        obtain ⟨xe, xc, xp, xf, xt⟩ := x
        dsimp only at a0 a1 a2 a3 a4 HYES HNO
        have HR : Hid (rgB tv ⟨xe, xc, xp, xf, xt⟩ = (decide (xf < tv) && decide (tv < xt))) := rfl
        by_cases hf : xf < tv
        · have hfd : decide (xf < tv) = true := by simpa using hf
          by_cases ht : tv < xt
          · have htd : decide (tv < xt) = true := by simpa using ht
            have HX := Lib.hid (HYES.out (by rw [HR.out, hfd, htd]; rfl))
            have D1 := World.news_of_block (heap_alloc_new (wr.alloc (.cells #[.int .i64 xe, .int .i64 xc, .int .i64 xp, .int .i64 xf, .int .i64 xt] 74)) (.cells #[.int .i64 xe, .int .i64 xc, .int .i64 xp, .int .i64 xf, .int .i64 xt] 74))
            rw [World.size_alloc] at D1
            have D := Lib.hid (And.intro D1 (one5 xe xc xp xf xt))
            clear D1
            have hml : acc.length + 1 ≤ maxLen := Nat.le_trans (show acc.length + 1 ≤ 100000 by omega) (by decide)
            have hzz : w2.heap.size ≤ wr.heap.size := HO.out.low.size
            go_wp2_with (at_builtin; go_loud (refine wpList_append_own _ rfl _ _ 43 rfl w2.heap.size 74 i0 _ 5 40 Try.underlying43 ii1 ii2 ii3 ii4 rfl (by decide) (.slice A3 acc.length c3) acc.length _ rfl ((HO.out.own.alloc _).alloc _) ⟨wr.heap.size + 1, 0, none⟩ 1 1 [.int .i64 xe, .int .i64 xc, .int .i64 xp, .int .i64 xf, .int .i64 xt] rfl rfl D.out.1 D.out.2 hml (by omega) (by simp; omega) ?_))
            intro v' w3 hown' hgrow _
            obtain ⟨A4, c4, rfl, hO3, _⟩ := Own1.step HO.out (ba wr _) rfl hown' hgrow
            have HO4 : Hid (Own1 w2 w3 74 5 A4 (acc ++ [(⟨xe, xc, xp, xf, xt⟩ : Nt)]).length c4 (ntC (acc ++ [(⟨xe, xc, xp, xf, xt⟩ : Nt)]))) := by
              unfold Hid
              rw [ntC_snoc, List.length_append]
              exact hO3
            clear hown' hgrow hO3
            go_wp2_with (fail)
            go_roundw
            case rel => exact ⟨k + 1, _, A4, c4, by omega, by first | rfl | go_num, by simp, HO4.out, HX.out, by simp; omega⟩
            case measure => simp [intOf]; omega
          · have htd : decide (tv < xt) = false := by simpa using ht
            have HX := Lib.hid (HNO.out (by rw [HR.out, htd]; simp))
            go_wp2_with (fail)
            go_roundw
            case rel => exact ⟨k + 1, acc, A3, c3, by omega, by first | rfl | go_num, rfl, HO.out.below (ba _ _), HX.out, by omega⟩
            case measure => simp [intOf]; omega
        · have hfd : decide (xf < tv) = false := by simpa using hf
          have HX := Lib.hid (HNO.out (by rw [HR.out, hfd]; rfl))
          go_wp2_with (fail)
          go_roundw
          case rel => exact ⟨k + 1, acc, A3, c3, by omega, by first | rfl | go_num, rfl, HO.out.below (ba _ _), HX.out, by omega⟩
          case measure => simp [intOf]; omega
      · have hkn : ¬ ((k : Int) < (n1 : Int)) := by omega
        have HVZ : Hid (Z = acc) := by
          unfold Hid
          rw [HV.out, List.drop_of_length_le (by have := HU.out; omega)]
          simp
        go_wp2_with (fail)
        go_ret2
        exact ⟨A3, _, c3, by rw [HEE.out]; rfl, by rw [HVZ.out], by rw [HVZ.out]; exact HO.out.sl, bx (bt HB2.out HO.out.low)⟩
  · have hXb : (X != 0) = true := by simpa using hX
    have HEE : Hid (er = X) := by unfold Hid; rw [HE.out, if_pos hX]
    have HLE : Hid (Z = []) := by unfold Hid; rw [HL.out, if_neg (by rw [HEE.out]; exact hX)]
    clear hX HE HL HOL
    go_enter Try.func45, Try.ntmps45
    go_wp2_with (go_at_call 50; refine HPY.out.mono ?_; rintro e w1 ⟨A1, n1, c1, B1, m1, d1, rfl, hn1, hm1, hA1, hO1, hb1⟩; have HNA := Lib.hid (And.intro hn1 hA1); have HM := Lib.hid (And.intro hm1 hO1); have HB1 := Lib.hid hb1; obtain ⟨p0, p1, p2⟩ := cell3 hb1; clear hn1 hm1 hA1 hO1 hb1)
    go_ret2
    exact ⟨none, 0, 0, by rw [HEE.out]; rfl, by rw [HLE.out]; rfl, by rw [HLE.out]; exact Sl.none_ _ _ _, bx HB1.out⟩

set_option maxRecDepth 100000 in
set_option maxHeartbeats 8000000 in
theorem rringing_any (A : Option Addr) (n c : Nat) (A' : Option Addr) (m c' : Nat) (A2 : Option Addr) (q cq : Nat) (C : List Cr) (S : List Int) (P : List EvP) (ev : Int) (w : World) (hP : PcIn w A n c A' m c' A2 q cq C S P) (hnb : n ≤ 1000000) (hmb : m ≤ 1000000) (hq : q ≤ 65536) (hst : ∀ y ∈ P, y.L.length ≤ 1000000) :
    Calls Try.prog 46 #[pcV A n c A' m c' A2 q cq, .int .i64 ev] w (NtPost (rgL C S P ev) (rgEr C S P ev) w) := by
  have HP : Hid (∀ w', Below w.heap.size w w' → PcIn w' A n c A' m c' A2 q cq C S P) := fun w' hb => hP.below hb
  have HQ := Lib.hid hP.es.hq
  have DO := Lib.hid (fun w' (h : PcIn w' A n c A' m c' A2 q cq C S P) => rOnsets_any A n c A' m c' A2 q cq C S P w' h hnb hmb hq hst)
  have DN := Lib.hid (fun w' (h : PcIn w' A n c A' m c' A2 q cq C S P) => rnotes_any A n c A' m c' A2 q cq C S P w' h hnb hmb hq hst)
  unfold OnPost at DO
  unfold NtPost at DN
  unfold NtPost
  have HE : Hid (rgEr C S P ev = if pcErr C S P ≠ 0 then pcErr C S P else if ev < 0 ∨ (P.length : Int) ≤ ev then 1 else 0) := rfl
  have HL : Hid (rgL C S P ev = if rgEr C S P ev = 0 then (ntL C S P).filter (rgB (onAt (onsL C S P) ev.toNat)) else []) := rfl
  have HNL := Lib.hid (ntL_len C S P)
  have HOL : Hid (pcErr C S P = 0 → (onsL C S P).length = P.length + 1) := fun h => by
    unfold onsL
    rw [if_pos h]
    simp [sumL_len, frcL_len]
  obtain ⟨i0, ii1, ii2, ii3, ii4⟩ := info_parts (show (Try.prog.info? 74).map (fun i => (i.zero, i.size, i.bytes)) = some (some (.agg #[.int .i64 0, .int .i64 0, .int .i64 0, .int .i64 0, .int .i64 0]), 5, 40) by kernel_rfl)
  clear hP hst
  generalize rgEr C S P ev = er at *
  generalize rgL C S P ev = Z at *
  generalize ntL C S P = U at *
  generalize onsL C S P = O at *
  generalize pcErr C S P = X at *
  by_cases hX : X = 0
  · subst hX
    have HOL2 := Lib.hid (HOL.out rfl)
    clear HOL
    by_cases h0 : ev < 0
    · have HEE : Hid (er = 1) := by unfold Hid; rw [HE.out, if_neg (by simp), if_pos (.inl h0)]
      have HLE : Hid (Z = []) := by unfold Hid; rw [HL.out, if_neg (by rw [HEE.out]; decide)]
      clear HE HL
      go_enter Try.func46, Try.ntmps46
      go_wp2_with (go_at_call 51; refine (DO.out _ (HP.out _ (ba w _))).mono ?_; rintro e w1 ⟨B1, m1, d1, rfl, hm1, hO1, hb1⟩; have HM := Lib.hid (And.intro hm1 hO1); have HB1 := Lib.hid hb1; obtain ⟨p0, p1, p2⟩ := cell3 hb1; clear hm1 hO1 hb1)
      go_ret2
      exact ⟨none, 0, 0, by rw [HEE.out]; rfl, by rw [HLE.out]; rfl, by rw [HLE.out]; exact Sl.none_ _ _ _, bx HB1.out⟩
    by_cases h1 : (q : Int) ≤ ev
    · have h1p : (P.length : Int) ≤ ev := by have := HQ.out; omega
      have HH := Lib.hid h1p
      clear h1p
      have HEE : Hid (er = 1) := by unfold Hid; rw [HE.out, if_neg (by simp), if_pos (.inr HH.out)]
      have HLE : Hid (Z = []) := by unfold Hid; rw [HL.out, if_neg (by rw [HEE.out]; decide)]
      clear HE HL
      go_enter Try.func46, Try.ntmps46
      go_wp2_with (go_at_call 51; refine (DO.out _ (HP.out _ (ba w _))).mono ?_; rintro e w1 ⟨B1, m1, d1, rfl, hm1, hO1, hb1⟩; have HM := Lib.hid (And.intro hm1 hO1); have HB1 := Lib.hid hb1; obtain ⟨p0, p1, p2⟩ := cell3 hb1; clear hm1 hO1 hb1)
      go_ret2
      exact ⟨none, 0, 0, by rw [HEE.out]; rfl, by rw [HLE.out]; rfl, by rw [HLE.out]; exact Sl.none_ _ _ _, bx HB1.out⟩
    obtain ⟨en, rfl⟩ := Int.eq_ofNat_of_zero_le (show 0 ≤ ev by omega)
    have HEE : Hid (er = 0) := by unfold Hid; rw [HE.out, if_neg (by simp), if_neg (by have := HQ.out; omega)]
    have HLE : Hid (Z = U.filter (rgB (onAt O en))) := by unfold Hid; rw [HL.out, if_pos HEE.out]; rfl
    clear HE HL
    go_enter Try.func46, Try.ntmps46
    go_wp2_with (first
      | (go_at_call 51; refine (DO.out _ (HP.out _ (ba w _))).mono ?_; rintro e w1 ⟨B1, m1, d1, rfl, hm1, hO1, hb1⟩; have HM := Lib.hid (And.intro hm1 hO1); have HB1 := Lib.hid hb1; obtain ⟨p0, p1, p2⟩ := cell3 hb1; clear hm1 hO1 hb1)
      | (go_at_call 22; refine (DN.out _ (HP.out _ (bx HB1.out))).mono ?_; rintro e w2 ⟨B2, n2, d2, rfl, hn2, hs2, hb2⟩; have HS2 := Lib.hid (And.intro hn2 hs2); have HB2 := Lib.hid (bt HB1.out hb2); have HM2 := Lib.hid (HM.out.2.below hb2); clear hn2 hs2 hb2 p0 p1 p2))
    have HU : Hid (n2 = U.length) := HS2.out.1
    have HUS : Hid (Sl w2 w2.heap.size 5 B2 n2 d2 (ntC U)) := HS2.out.2
    have hub : n2 ≤ 5600 := by have := HU.out; have := HNL.out; omega
    have henm : (en : Int) < (m1 : Int) := by have := HM.out.1; have := HOL2.out; have := HQ.out; omega
    obtain ⟨bO, oO, rfl, hbO, hcO⟩ := HM2.out.2.2 (by omega)
    have HCO : Hid (∀ w', Below w2.heap.size w2 w' → w'.cell? ⟨bO, oO + en, none⟩ = some (.int .i64 (onAt O en))) := fun w' hb => cell_same (hb.block bO hbO) (hcO _ _ (intC_at O en (by have := HM.out.1; omega)))
    have HBO := Lib.hid hbO
    clear hcO hbO
    generalize onAt O en = tv at *
    go_loopw [11, 10] (fun i l wr => ∃ (k : Nat) (acc : List Nt) (A3 : Option Addr) (c3 : Nat), k ≤ n2 ∧ i = .int .i64 k ∧ l = .slice A3 acc.length c3 ∧ Own1 w2 wr 74 5 A3 acc.length c3 (ntC acc) ∧ Z = acc ++ (U.drop k).filter (rgB tv) ∧ acc.length ≤ k) (fun i _ _ => n2 - (intOf i).toNat)
    case atStart => exact ⟨0, [], none, 0, by omega, rfl, rfl, Own1.start (Below.refl _ _) _ _, HLE.out, by simp⟩
    case round =>
      obtain ⟨k, acc, A3, c3, hk, rfl, rfl, hO, hV, hlen⟩ := hrel
      have HO := Lib.hid hO
      have HV := Lib.hid hV
      have t0 := HCO.out _ hO.low
      have hbOr : bO < wr.heap.size := Nat.lt_of_lt_of_le HBO.out hO.low.size
      clear hO hV
      by_cases hlt : k < n2
      · have hkn : (k : Int) < (n2 : Int) := by omega
        obtain ⟨b, off, rfl, hb, hc⟩ := (HUS.out.below HO.out.low).2.2 (by omega)
        have hkU : k < U.length := by have := HU.out; omega
        obtain ⟨j0, j1, j2, j3, j4⟩ := ntC_at U k hkU
        have a0 := hc _ _ j0
        have a1 := hc _ _ j1
        have a2 := hc _ _ j2
        have a3 := hc _ _ j3
        have a4 := hc _ _ j4
        rw [← Nat.add_assoc] at a1 a2 a3 a4
        have HYES := Lib.hid (fl_yes HV.out hkU)
        have HNO := Lib.hid (fl_no HV.out hkU)
        clear hc j0 j1 j2 j3 j4 hkU
        generalize U.getD k zNt = x at *
        obtain ⟨xe, xc, xp, xf, xt⟩ := x
        dsimp only at a0 a1 a2 a3 a4 HYES HNO
        have HR : Hid (rgB tv ⟨xe, xc, xp, xf, xt⟩ = (decide (xf < tv) && decide (tv < xt))) := rfl
        by_cases hf : xf < tv
        · have hfd : decide (xf < tv) = true := by simpa using hf
          by_cases ht : tv < xt
          · have htd : decide (tv < xt) = true := by simpa using ht
            have HX := Lib.hid (HYES.out (by rw [HR.out, hfd, htd]; rfl))
            go_wp2_with (fail)
            go_quiet (fail)
            have hbq := bd (Below.refl wr.heap.size wr) nq
            have HA4 : Hid (∀ w', Below wr.heap.size wr w' → w'.cell? ⟨b, off + k * 5, none⟩ = some (.int .i64 xe) ∧ w'.cell? ⟨b, off + k * 5 + 1, none⟩ = some (.int .i64 xc) ∧ w'.cell? ⟨b, off + k * 5 + 2, none⟩ = some (.int .i64 xp) ∧ w'.cell? ⟨b, off + k * 5 + 3, none⟩ = some (.int .i64 xf) ∧ w'.cell? ⟨b, off + k * 5 + 4, none⟩ = some (.int .i64 xt)) := fun w' h => ⟨cell_same (h.block b hb) a0, cell_same (h.block b hb) a1, cell_same (h.block b hb) a2, cell_same (h.block b hb) a3, cell_same (h.block b hb) a4⟩
            have HO6 := Lib.hid (HO.out.below hbq)
            obtain ⟨z0, z1, z2, z3, z4⟩ := HA4.out _ hbq
            clear a0 a1 a2 a3 a4 t0 hbq
            generalize wr.drewN nq = wd at *
            have D1 := World.news_of_block (heap_alloc_new wd (.cells #[.int .i64 xe, .int .i64 xc, .int .i64 xp, .int .i64 xf, .int .i64 xt] 74))
            have D := Lib.hid (And.intro D1 (one5 xe xc xp xf xt))
            clear D1
            have hml : acc.length + 1 ≤ maxLen := Nat.le_trans (show acc.length + 1 ≤ 100000 by omega) (by decide)
            have hzz : w2.heap.size ≤ wd.heap.size := HO6.out.low.size
            go_wp2_with (at_builtin; go_loud (refine wpList_append_own _ rfl _ _ 43 rfl w2.heap.size 74 i0 _ 5 40 Try.underlying43 ii1 ii2 ii3 ii4 rfl (by decide) (.slice A3 acc.length c3) acc.length _ rfl (HO6.out.own.alloc _) ⟨wd.heap.size, 0, none⟩ 1 1 [.int .i64 xe, .int .i64 xc, .int .i64 xp, .int .i64 xf, .int .i64 xt] rfl rfl D.out.1 D.out.2 hml (by omega) (by simp; omega) ?_))
            intro v' w3 hown' hgrow _
            obtain ⟨A4, c4, rfl, hO3, _⟩ := Own1.step HO6.out (Below.refl _ _) rfl hown' hgrow
            have HO4 : Hid (Own1 w2 w3 74 5 A4 (acc ++ [(⟨xe, xc, xp, xf, xt⟩ : Nt)]).length c4 (ntC (acc ++ [(⟨xe, xc, xp, xf, xt⟩ : Nt)]))) := by
              unfold Hid
              rw [ntC_snoc, List.length_append]
              exact hO3
            clear hown' hgrow hO3
            go_wp2_with (fail)
            go_roundw
            case rel => exact ⟨k + 1, _, A4, c4, by omega, by first | rfl | go_num, by simp, HO4.out, HX.out, by simp; omega⟩
            case measure => simp [intOf]; omega
          · have htd : decide (tv < xt) = false := by simpa using ht
            have HX := Lib.hid (HNO.out (by rw [HR.out, htd]; simp))
            go_wp2_with (fail)
            go_quiet (fail)
            have hbq := bd (Below.refl wr.heap.size wr) nq
            have HA4 : Hid (∀ w', Below wr.heap.size wr w' → w'.cell? ⟨b, off + k * 5, none⟩ = some (.int .i64 xe) ∧ w'.cell? ⟨b, off + k * 5 + 1, none⟩ = some (.int .i64 xc) ∧ w'.cell? ⟨b, off + k * 5 + 2, none⟩ = some (.int .i64 xp) ∧ w'.cell? ⟨b, off + k * 5 + 3, none⟩ = some (.int .i64 xf) ∧ w'.cell? ⟨b, off + k * 5 + 4, none⟩ = some (.int .i64 xt)) := fun w' h => ⟨cell_same (h.block b hb) a0, cell_same (h.block b hb) a1, cell_same (h.block b hb) a2, cell_same (h.block b hb) a3, cell_same (h.block b hb) a4⟩
            have HO6 := Lib.hid (HO.out.below hbq)
            obtain ⟨z0, z1, z2, z3, z4⟩ := HA4.out _ hbq
            clear a0 a1 a2 a3 a4 t0 hbq
            generalize wr.drewN nq = wd at *
            go_wp2_with (fail)
            go_roundw
            case rel => exact ⟨k + 1, acc, A3, c3, by omega, by first | rfl | go_num, rfl, HO6.out, HX.out, by omega⟩
            case measure => simp [intOf]; omega
        · have hfd : decide (xf < tv) = false := by simpa using hf
          have HX := Lib.hid (HNO.out (by rw [HR.out, hfd]; rfl))
          go_wp2_with (fail)
          go_quiet (fail)
          have hbq := bd (Below.refl wr.heap.size wr) nq
          have HA4 : Hid (∀ w', Below wr.heap.size wr w' → w'.cell? ⟨b, off + k * 5, none⟩ = some (.int .i64 xe) ∧ w'.cell? ⟨b, off + k * 5 + 1, none⟩ = some (.int .i64 xc) ∧ w'.cell? ⟨b, off + k * 5 + 2, none⟩ = some (.int .i64 xp) ∧ w'.cell? ⟨b, off + k * 5 + 3, none⟩ = some (.int .i64 xf) ∧ w'.cell? ⟨b, off + k * 5 + 4, none⟩ = some (.int .i64 xt)) := fun w' h => ⟨cell_same (h.block b hb) a0, cell_same (h.block b hb) a1, cell_same (h.block b hb) a2, cell_same (h.block b hb) a3, cell_same (h.block b hb) a4⟩
          have HO6 := Lib.hid (HO.out.below hbq)
          obtain ⟨z0, z1, z2, z3, z4⟩ := HA4.out _ hbq
          clear a0 a1 a2 a3 a4 t0 hbq
          generalize wr.drewN nq = wd at *
          go_wp2_with (fail)
          go_roundw
          case rel => exact ⟨k + 1, acc, A3, c3, by omega, by first | rfl | go_num, rfl, HO6.out, HX.out, by omega⟩
          case measure => simp [intOf]; omega
      · have hkn : ¬ ((k : Int) < (n2 : Int)) := by omega
        have HVZ : Hid (Z = acc) := by
          unfold Hid
          rw [HV.out, List.drop_of_length_le (by have := HU.out; omega)]
          simp
        go_wp2_with (fail)
        go_ret2
        exact ⟨A3, _, c3, by rw [HEE.out]; rfl, by rw [HVZ.out], by rw [HVZ.out]; exact HO.out.sl, bx (bt HB2.out HO.out.low)⟩
  · have hXb : (X != 0) = true := by simpa using hX
    have HEE : Hid (er = X) := by unfold Hid; rw [HE.out, if_pos hX]
    have HLE : Hid (Z = []) := by unfold Hid; rw [HL.out, if_neg (by rw [HEE.out]; exact hX)]
    clear hX HE HL HOL
    go_enter Try.func46, Try.ntmps46
    go_wp2_with (go_at_call 51; refine (DO.out _ (HP.out _ (ba w _))).mono ?_; rintro e w1 ⟨B1, m1, d1, rfl, hm1, hO1, hb1⟩; have HM := Lib.hid (And.intro hm1 hO1); have HB1 := Lib.hid hb1; obtain ⟨p0, p1, p2⟩ := cell3 hb1; clear hm1 hO1 hb1)
    go_ret2
    exact ⟨none, 0, 0, by rw [HEE.out]; rfl, by rw [HLE.out]; rfl, by rw [HLE.out]; exact Sl.none_ _ _ _, bx HB1.out⟩

end Go.Proofs.Ytcebpgcmmdfccaa
