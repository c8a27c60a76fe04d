/- Sound: Presses, for any piece. -/
import Derived.Test.YtcebpgcmmdfccaaSndRG
import Derived.Test.YtcebpgcmmdfccaaWorks5
import Derived.Test.YtcebpgcmmdfccaaSndRP
import Derived.Test.YtcebpgcmmdfccaaPcBig
import Derived.Test.YtcebpgcmmdfccaaPcCopy
import Derived.Test.YtcebpgcmmdfccaaPcSameM
namespace Go.Proofs.Ytcebpgcmmdfccaa
open Go Go.RowKit

theorem pr_yes {T acc : List Nt} {L : List Py} {k : Nat} (h : T = acc ++ (L.drop k).flatMap gPr) (hk : k < L.length) (hf : 0 < (L.getD k zPy).f) :
    T = (acc ++ [⟨(L.getD k zPy).t.ev, (L.getD k zPy).t.c, (L.getD k zPy).f, (L.getD k zPy).t.fm, (L.getD k zPy).t.to⟩]) ++ (L.drop (k + 1)).flatMap gPr := by
  have e : L.drop k = L.getD k zPy :: L.drop (k + 1) := by rw [List.drop_eq_getElem_cons hk]; simp [List.getElem?_eq_getElem hk]
  rw [h, e, List.flatMap_cons, gPr, if_pos hf]
  simp
theorem pr_no {T acc : List Nt} {L : List Py} {k : Nat} (h : T = acc ++ (L.drop k).flatMap gPr) (hk : k < L.length) (hf : ¬ 0 < (L.getD k zPy).f) : T = acc ++ (L.drop (k + 1)).flatMap gPr := by
  have e : L.drop k = L.getD k zPy :: L.drop (k + 1) := by rw [List.drop_eq_getElem_cons hk]; simp [List.getElem?_eq_getElem hk]
  rw [h, e, List.flatMap_cons, gPr, if_neg hf]
  simp

set_option maxRecDepth 100000 in
set_option maxHeartbeats 8000000 in
theorem presses_any (A : Option Addr) (n c : Nat) (A' : Option Addr) (m c' : Nat) (A2 : Option Addr) (q cq : Nat) (C : List Cr) (S : List Int) (P : List EvP) (w : World) (hP : PcIn w A n c A' m c' A2 q cq C S P) (hnb : n ≤ 1000000) (hmb : m ≤ 1000000) (hq : q ≤ 65536) (hst : ∀ y ∈ P, y.L.length ≤ 1000000) :
    Calls Try.prog 18 #[pcV A n c A' m c' A2 q cq] w (NtPost (prL C S P) (pcErr C S P) w) := by
  have HPY := Lib.hid (play_any A n c A' m c' A2 q cq C S P _ (hP.below (ba w (pcO A n c A' m c' A2 q cq))) hnb hmb hq hst)
  unfold PyPost at HPY
  unfold NtPost
  have HLL := Lib.hid (pyL_len C S P)
  have HE : Hid (prL C S P = (pyL C S P).flatMap gPr) := rfl
  have HZ : Hid (pcErr C S P ≠ 0 → pyL C S P = []) := pyL_none
  obtain ⟨i0, ii1, ii2, ii3, ii4⟩ := info_parts (show (Try.prog.info? 41).map (fun i => (i.zero, i.size, i.bytes)) = some (some (.agg #[.int .i64 0, .int .i64 0, .int .i64 0, .int .i64 0, .int .i64 0]), 5, 40) by kernel_rfl)
  clear hP hst
  generalize pyL C S P = U at *
  generalize prL C S P = V at *
  generalize pcErr C S P = X at *
  by_cases hX : X = 0
  · subst hX
    clear HZ
    go_enter Try.func18, Try.ntmps18
    go_wp2_with (go_at_call 50; refine HPY.out.mono ?_; rintro e w2 ⟨B2, n1, d2, B1, m1, d1, rfl, hn1, hm1, hs2, hB1, hb2⟩; have HN1 := Lib.hid hn1; have HS2 := Lib.hid hs2; have HB2 := Lib.hid hb2; clear hn1 hm1 hs2 hB1 hb2)
    have hn1b : n1 ≤ 5600 := by have := HN1.out; have := HLL.out; omega
    go_loopw [21, 7] (fun i l wr => ∃ (k : Nat) (acc : List Nt) (A3 : Option Addr) (c3 : Nat), k ≤ n1 ∧ i = .int .i64 k ∧ l = .slice A3 acc.length c3 ∧ Own1 w2 wr 41 5 A3 acc.length c3 (ntC acc) ∧ V = acc ++ (U.drop k).flatMap gPr ∧ acc.length ≤ k) (fun i _ _ => n1 - (intOf i).toNat)
    case atStart => exact ⟨0, [], none, 0, by omega, rfl, rfl, Own1.start (Below.refl _ _) _ _, HE.out, by simp⟩
    case round =>
      obtain ⟨k, acc, A3, c3, hk, rfl, rfl, hO, hV, hlen⟩ := hrel
      have HO := Lib.hid hO
      have HV := Lib.hid hV
      have HW : Hid (Below w.heap.size w wr) := bx (bt HB2.out hO.low)
      clear hO hV
      by_cases hlt : k < n1
      · have hkn : (k : Int) < (n1 : Int) := by omega
        obtain ⟨b, off, rfl, hb, hc⟩ := (HS2.out.below HO.out.low).2.2 (by omega)
        have hkU : k < U.length := by have := HN1.out; omega
        obtain ⟨j0, j1, j2, j3, j4, j5, j6⟩ := pyC_at U k hkU
        have a0 := hc _ _ j0
        have a1 := hc _ _ j1
        have a2 := hc _ _ j2
        have a3 := hc _ _ j3
        have a4 := hc _ _ j4
        have a5 := hc _ _ j5
        have a6 := hc _ _ j6
        rw [← Nat.add_assoc] at a1 a2 a3 a4 a5 a6
        have HYES := Lib.hid (pr_yes HV.out hkU)
        have HNO := Lib.hid (pr_no HV.out hkU)
        clear hc j0 j1 j2 j3 j4 j5 j6 hb hkU
        generalize U.getD k zPy = x at *
        obtain ⟨xf, xu, ⟨t0, t1, t2, t3, t4⟩⟩ := x
        dsimp only at a0 a1 a2 a3 a4 a5 a6 HYES HNO
        by_cases hf : 0 < xf
        · have HX := Lib.hid (HYES.out hf)
          have D1 := World.news_of_block (heap_alloc_new (wr.alloc (.cells #[.int .i64 xf, .int .i64 xu, .int .i64 t0, .int .i64 t1, .int .i64 t2, .int .i64 t3, .int .i64 t4] 84)) (.cells #[.int .i64 t0, .int .i64 t1, .int .i64 xf, .int .i64 t3, .int .i64 t4] 41))
          rw [World.size_alloc] at D1
          have D := Lib.hid (And.intro D1 (one5 t0 t1 xf t3 t4))
          clear D1
          have hml : acc.length + 1 ≤ maxLen := Nat.le_trans (show acc.length + 1 ≤ 100000 by omega) (by decide)
          go_wp2_with (at_builtin; go_loud (refine wpList_append_own _ rfl _ _ 32 rfl w2.heap.size 41 i0 _ 5 40 Try.underlying32 ii1 ii2 ii3 ii4 rfl (by decide) (.slice A3 acc.length c3) acc.length _ rfl ((HO.out.own.alloc _).alloc _) ⟨wr.heap.size + 1, 0, none⟩ 1 1 [.int .i64 t0, .int .i64 t1, .int .i64 xf, .int .i64 t3, .int .i64 t4] rfl rfl D.out.1 D.out.2 hml (by omega) (by have := HO.out.low.size; simp; omega) ?_))
          intro v' w3 hown' hgrow _
          obtain ⟨A4, c4, rfl, hO3, _⟩ := Own1.step HO.out (ba wr _) rfl hown' hgrow
          have HO4 : Hid (Own1 w2 w3 41 5 A4 (acc ++ [(⟨t0, t1, xf, t3, t4⟩ : Nt)]).length c4 (ntC (acc ++ [(⟨t0, t1, xf, t3, t4⟩ : Nt)]))) := by
            unfold Hid
            rw [ntC_snoc, List.length_append]
            exact hO3
          clear hown' hgrow hO3 a0 a1 a2 a3 a4 a5 a6
          go_wp2_with (fail)
          go_roundw
          case rel => exact ⟨k + 1, _, A4, c4, by omega, by first | rfl | go_num, by simp, HO4.out, HX.out, by simp; omega⟩
          case measure => simp [intOf]; omega
        · have HX := Lib.hid (HNO.out hf)
          go_wp2_with (fail)
          go_roundw
          case rel => exact ⟨k + 1, acc, A3, c3, by omega, by first | rfl | go_num, rfl, HO.out.below (ba _ _), HX.out, by omega⟩
          case measure => simp [intOf]; omega
      · have hkn : ¬ ((k : Int) < (n1 : Int)) := by omega
        have HVZ : Hid (V = acc) := by
          unfold Hid
          rw [HV.out, List.drop_of_length_le (by have := HN1.out; omega)]
          simp
        go_wp2_with (fail)
        go_ret2
        exact ⟨A3, _, c3, rfl, by rw [HVZ.out], by rw [HVZ.out]; exact HO.out.sl, HW.out⟩
  · have hXb : (X != 0) = true := by simpa using hX
    have HV0 : Hid (V = []) := by unfold Hid; rw [HE.out, HZ.out hX]; rfl
    clear hX HZ
    go_enter Try.func18, Try.ntmps18
    go_wp2_with (go_at_call 50; refine HPY.out.mono ?_; rintro e w1 ⟨A1, n1, c1, B1, m1, d1, rfl, hn1, hm1, hA1, hB1, hb1⟩; clear hn1 hm1 hA1 hB1)
    go_ret2
    exact ⟨none, 0, 0, rfl, by rw [HV0.out]; rfl, by rw [HV0.out]; exact Sl.none_ _ _ _, bx hb1⟩

end Go.Proofs.Ytcebpgcmmdfccaa

/- The law SoundPresses returns true for every piece. -/
namespace Go.Proofs.Ytcebpgcmmdfccaa
open Go Go.RowKit

set_option maxRecDepth 100000 in
set_option maxHeartbeats 16000000 in
theorem law_spresses (A : Option Addr) (n c : Nat) (A' : Option Addr) (m c' : Nat) (A2 : Option Addr) (q cq : Nat) (C : List Cr) (S : List Int) (P : List EvP) (w : World) (hP : PcIn w A n c A' m c' A2 q cq C S P) :
    Calls Try.prog 3 #[pcV A n c A' m c' A2 q cq] w fun e w' => e = .returned (.bool true) ∧ Below w.heap.size w w' := by
  have HE : Hid (∀ w', Below (w.alloc (pcO A n c A' m c' A2 q cq)).heap.size (w.alloc (pcO A n c A' m c' A2 q cq)) w' → PcIn w' A n c A' m c' A2 q cq C S P) :=
    fun w' h => (hP.below (ba _ _)).below h
  have hql := hP.es.hq
  have HI := Lib.hid (HE.out _ (Below.refl _ _))
  clear hP
  cases hbg : pbigB n m P with
  | true =>
    have HB := Lib.hid hbg
    clear hbg hql
    go_enter Try.func3, Try.ntmps3
    go_wp2_with (first | (go_at_call 15; refine (pbig_any A n c A' m c' A2 q cq P _ HI.out.es).mono ?_; rintro e w1 ⟨rfl, hb1⟩; rw [HB.out]) | (go_at_call 16; refine (works5 _).mono ?_; rintro e w2 ⟨rfl, hb2⟩))
    go_ret
    exact ⟨rfl, bx (bt hb1 hb2)⟩
  | false =>
    have HB := Lib.hid hbg
    obtain ⟨l1, l2, l3, l4⟩ := pbigB_no hbg
    have b1 : n ≤ 65536 := by omega
    have b2 : m ≤ 65536 := by omega
    have b3 : q ≤ 65536 := by omega
    have b4 : q ≤ 1000000 := by omega
    have HST : Hid (∀ y ∈ P, y.L.length ≤ 65536) := fun y hy => Nat.le_trans (l4 y hy) (by omega)
    have HSU : Hid (∀ y ∈ P, y.L.length ≤ 1000000) := fun y hy => Nat.le_trans (l4 y hy) (by omega)
    have d1 : n ≤ 1000000 := by omega
    have d2 : m ≤ 1000000 := by omega
    have HNL := Lib.hid (prL_len C S P)
    clear hbg hql l1 l2 l3 l4
    have CN := Lib.hid (fun w' (h : PcIn w' A n c A' m c' A2 q cq C S P) => rpresses_any A n c A' m c' A2 q cq C S P w' h d1 d2 b3 HSU.out)
    have DN : Hid (∀ (B : Option Addr) (e : Nat) (B' : Option Addr) (e' : Nat) (B2 : Option Addr) (e2 : Nat) w' (_ : PcIn w' B n e B' m e' B2 q e2 C S P), Calls Try.prog 18 #[pcV B n e B' m e' B2 q e2] w' (NtPost (prL C S P) (pcErr C S P) w')) := fun B e B' e' B2 e2 w' h => presses_any B n e B' m e' B2 q e2 C S P w' h d1 d2 b3 HSU.out
    unfold NtPost at CN DN
    generalize pcErr C S P = X at *
    generalize prL C S P = V at *
    go_enter Try.func3, Try.ntmps3
    go_wp2_with (first
      | (go_at_call 15; refine (pbig_any A n c A' m c' A2 q cq P _ HI.out.es).mono ?_; rintro e w1 ⟨rfl, hb1⟩; rw [HB.out]; have T := hb1; clear hb1; obtain ⟨x0, x1, x2⟩ := cell3 T)
      | (go_at_call 17; refine (pcopy_any A n c A' m c' A2 q cq C S P _ (HE.out _ T) b1 b2 b3 HST.out).mono ?_; rintro e wc ⟨B, d, B', d', B2, d2', rfl, hPc, hbc⟩; replace T := bt (bt T hbc) (ba wc (pcO B n d B' m d' B2 q d2')); have HPc := Lib.hid (hPc.below (ba wc (pcO B n d B' m d' B2 q d2'))); clear hPc hbc x0 x1 x2)
      | (go_at_call 18; refine (DN.out _ _ _ _ _ _ _ HPc.out).mono ?_; rintro e wk ⟨Ba, na, da, rfl, hna, hsa, hbk⟩; replace T := bt T hbk; have G := hbk; have HSA := Lib.hid (And.intro hna hsa); clear hna hsa hbk; obtain ⟨x0, x1, x2⟩ := cell3 T; obtain ⟨y0, y1, y2⟩ := cell3 G)
      | (go_at_call 19; refine (CN.out _ (HE.out _ T)).mono ?_; rintro e wr ⟨Bb, nb, db, rfl, hnb, hsb, hbr⟩; replace T := bt T hbr; replace G := bt G hbr; obtain rfl : na = nb := HSA.out.1.trans hnb.symm; have HSS := Lib.hid (And.intro (HSA.out.2.below hbr) hsb); have HNN := Lib.hid HSA.out.1; clear hnb hsb hbr x0 x1 x2 y0 y1 y2 HSA; obtain ⟨x0, x1, x2⟩ := cell3 T; obtain ⟨y0, y1, y2⟩ := cell3 G)
      | (go_at_call 20; refine (rSamePc_eq _ _ _ _ _ _ _ _ _ _ _ _ _ _ _ _ _ _ C S P _ (HPc.out.below G) (HE.out _ T) b1 b2 b4 HSU.out).mono ?_; rintro e ws ⟨rfl, hbs⟩; replace T := bt T hbs; have HS2 := Lib.hid (And.intro (HSS.out.1.below hbs) (HSS.out.2.below hbs)); clear hbs x0 x1 x2 y0 y1 y2))
    have hnl : na ≤ 5600 := by have := HNN.out; have := HNL.out; omega
    have TT := Lib.hid T
    clear T G
    go_loopw [8] (fun i wr => ∃ k : Nat, k ≤ na ∧ i = .int .i64 k ∧ Below ws.heap.size ws wr) (fun i _ => na - (intOf i).toNat)
    case atStart => exact ⟨0, by omega, rfl, Below.refl _ _⟩
    case round =>
      obtain ⟨k, hk, rfl, hbw⟩ := hrel
      have HW := Lib.hid hbw
      clear hbw
      by_cases hlt : k < na
      · have hkn : (k : Int) < (na : Int) := by omega
        obtain ⟨b1', o1, rfl, hB1, hc1⟩ := (HS2.out.1.below HW.out).2.2 (by omega)
        obtain ⟨b2', o2, rfl, hB2, hc2⟩ := (HS2.out.2.below HW.out).2.2 (by omega)
        obtain ⟨j0, j1, j2, j3, j4⟩ := ntC_at V k (by have := HNN.out; omega)
        have a0 := hc1 _ _ j0
        have a1 := hc1 _ _ j1
        have a2 := hc1 _ _ j2
        have a3 := hc1 _ _ j3
        have a4 := hc1 _ _ j4
        have e0 := hc2 _ _ j0
        have e1 := hc2 _ _ j1
        have e2 := hc2 _ _ j2
        have e3 := hc2 _ _ j3
        have e4 := hc2 _ _ j4
        rw [← Nat.add_assoc] at a1 a2 a3 a4 e1 e2 e3 e4
        clear hc1 hc2 j0 j1 j2 j3 j4
        generalize V.getD k zNt = s at *
        obtain ⟨s0, s1, s2, s3, s4⟩ := s
        dsimp only at a0 a1 a2 a3 a4 e0 e1 e2 e3 e4
        go_wp2_with (fail)
        go_quiet (fail)
        go_wp2_with (fail)
        go_roundw
        case rel => exact ⟨k + 1, by omega, by first | rfl | go_num, bd HW.out _⟩
        case measure => simp [intOf]; omega
      · have hkn : ¬ ((k : Int) < (na : Int)) := by omega
        go_wp2_with (go_at_call 16; refine (works5 _).mono ?_; rintro e wz ⟨rfl, hbz⟩)
        go_ret
        exact ⟨rfl, bx (bt (bt TT.out HW.out) hbz)⟩

end Go.Proofs.Ytcebpgcmmdfccaa
