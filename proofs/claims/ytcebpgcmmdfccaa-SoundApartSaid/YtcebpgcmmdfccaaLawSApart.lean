/- The law SoundApart returns true for every piece. -/
import Derived.Test.YtcebpgcmmdfccaaApart
import Derived.Test.YtcebpgcmmdfccaaWorks5
import Derived.Test.YtcebpgcmmdfccaaSndRP
import Derived.Test.YtcebpgcmmdfccaaPcBig
import Derived.Test.YtcebpgcmmdfccaaPcCopy
import Derived.Test.YtcebpgcmmdfccaaSameI2
namespace Go.Proofs.Ytcebpgcmmdfccaa
open Go Go.RowKit

theorem pr_yes {T acc : List Nt} {L : List Py} {k : Nat} (h : T = acc ++ (L.drop k).flatMap gPr) (hk : k < L.length) (hf : 0 < (L.getD k zPy).f) :
    T = (acc ++ [⟨(L.getD k zPy).t.ev, (L.getD k zPy).t.c, (L.getD k zPy).f, (L.getD k zPy).t.fm, (L.getD k zPy).t.to⟩]) ++ (L.drop (k + 1)).flatMap gPr := by
  have e : L.drop k = L.getD k zPy :: L.drop (k + 1) := by rw [List.drop_eq_getElem_cons hk]; simp [List.getElem?_eq_getElem hk]
  rw [h, e, List.flatMap_cons, gPr, if_pos hf]
  simp
theorem pr_no {T acc : List Nt} {L : List Py} {k : Nat} (h : T = acc ++ (L.drop k).flatMap gPr) (hk : k < L.length) (hf : ¬ 0 < (L.getD k zPy).f) : T = acc ++ (L.drop (k + 1)).flatMap gPr := by
  have e : L.drop k = L.getD k zPy :: L.drop (k + 1) := by rw [List.drop_eq_getElem_cons hk]; simp [List.getElem?_eq_getElem hk]
  rw [h, e, List.flatMap_cons, gPr, if_neg hf]
  simp

set_option maxRecDepth 100000 in
set_option maxHeartbeats 8000000 in
theorem presses_any (A : Option Addr) (n c : Nat) (A' : Option Addr) (m c' : Nat) (A2 : Option Addr) (q cq : Nat) (C : List Cr) (S : List Int) (P : List EvP) (w : World) (hP : PcIn w A n c A' m c' A2 q cq C S P) (hnb : n ≤ 1000000) (hmb : m ≤ 1000000) (hq : q ≤ 65536) (hst : ∀ y ∈ P, y.L.length ≤ 1000000) :
    Calls Try.prog 18 #[pcV A n c A' m c' A2 q cq] w (NtPost (prL C S P) (pcErr C S P) w) := by
  have HPY := Lib.hid (play_any A n c A' m c' A2 q cq C S P _ (hP.below (ba w (pcO A n c A' m c' A2 q cq))) hnb hmb hq hst)
  unfold PyPost at HPY
  unfold NtPost
  have HLL := Lib.hid (pyL_len C S P)
  have HE : Hid (prL C S P = (pyL C S P).flatMap gPr) := rfl
  have HZ : Hid (pcErr C S P ≠ 0 → pyL C S P = []) := pyL_none
  obtain ⟨i0, ii1, ii2, ii3, ii4⟩ := info_parts (show (Try.prog.info? 41).map (fun i => (i.zero, i.size, i.bytes)) = some (some (.agg #[.int .i64 0, .int .i64 0, .int .i64 0, .int .i64 0, .int .i64 0]), 5, 40) by kernel_rfl)
  clear hP hst
  generalize pyL C S P = U at *
  generalize prL C S P = V at *
  generalize pcErr C S P = X at *
  by_cases hX : X = 0
  · subst hX
    clear HZ
    go_enter Try.func18, Try.ntmps18
    go_wp2_with (go_at_call 50; refine HPY.out.mono ?_; rintro e w2 ⟨B2, n1, d2, B1, m1, d1, rfl, hn1, hm1, hs2, hB1, hb2⟩; have HN1 := Lib.hid hn1; have HS2 := Lib.hid hs2; have HB2 := Lib.hid hb2; clear hn1 hm1 hs2 hB1 hb2)
    have hn1b : n1 ≤ 5600 := by have := HN1.out; have := HLL.out; omega
    go_loopw [21, 7] (fun i l wr => ∃ (k : Nat) (acc : List Nt) (A3 : Option Addr) (c3 : Nat), k ≤ n1 ∧ i = .int .i64 k ∧ l = .slice A3 acc.length c3 ∧ Own1 w2 wr 41 5 A3 acc.length c3 (ntC acc) ∧ V = acc ++ (U.drop k).flatMap gPr ∧ acc.length ≤ k) (fun i _ _ => n1 - (intOf i).toNat)
    case atStart => exact ⟨0, [], none, 0, by omega, rfl, rfl, Own1.start (Below.refl _ _) _ _, HE.out, by simp⟩
    case round =>
      obtain ⟨k, acc, A3, c3, hk, rfl, rfl, hO, hV, hlen⟩ := hrel
      have HO := Lib.hid hO
      have HV := Lib.hid hV
      have HW : Hid (Below w.heap.size w wr) := bx (bt HB2.out hO.low)
      clear hO hV
      by_cases hlt : k < n1
      · have hkn : (k : Int) < (n1 : Int) := by omega
        obtain ⟨b, off, rfl, hb, hc⟩ := (HS2.out.below HO.out.low).2.2 (by omega)
        have hkU : k < U.length := by have := HN1.out; omega
        obtain ⟨j0, j1, j2, j3, j4, j5, j6⟩ := pyC_at U k hkU
        have a0 := hc _ _ j0
        have a1 := hc _ _ j1
        have a2 := hc _ _ j2
        have a3 := hc _ _ j3
        have a4 := hc _ _ j4
        have a5 := hc _ _ j5
        have a6 := hc _ _ j6
        rw [← Nat.add_assoc] at a1 a2 a3 a4 a5 a6
        have HYES := Lib.hid (pr_yes HV.out hkU)
        have HNO := Lib.hid (pr_no HV.out hkU)
        clear hc j0 j1 j2 j3 j4 j5 j6 hb hkU
        generalize U.getD k zPy = x at *
        obtain ⟨xf, xu, ⟨t0, t1, t2, t3, t4⟩⟩ := x
        dsimp only at a0 a1 a2 a3 a4 a5 a6 HYES HNO
        by_cases hf : 0 < xf
        · have HX := Lib.hid (HYES.out hf)
          have D1 := World.news_of_block (heap_alloc_new (wr.alloc (.cells #[.int .i64 xf, .int .i64 xu, .int .i64 t0, .int .i64 t1, .int .i64 t2, .int .i64 t3, .int .i64 t4] 84)) (.cells #[.int .i64 t0, .int .i64 t1, .int .i64 xf, .int .i64 t3, .int .i64 t4] 41))
          rw [World.size_alloc] at D1
          have D := Lib.hid (And.intro D1 (one5 t0 t1 xf t3 t4))
          clear D1
          have hml : acc.length + 1 ≤ maxLen := Nat.le_trans (show acc.length + 1 ≤ 100000 by omega) (by decide)
          go_wp2_with (at_builtin; go_loud (refine wpList_append_own _ rfl _ _ 32 rfl w2.heap.size 41 i0 _ 5 40 Try.underlying32 ii1 ii2 ii3 ii4 rfl (by decide) (.slice A3 acc.length c3) acc.length _ rfl ((HO.out.own.alloc _).alloc _) ⟨wr.heap.size + 1, 0, none⟩ 1 1 [.int .i64 t0, .int .i64 t1, .int .i64 xf, .int .i64 t3, .int .i64 t4] rfl rfl D.out.1 D.out.2 hml (by omega) (by have := HO.out.low.size; simp; omega) ?_))
          intro v' w3 hown' hgrow _
          obtain ⟨A4, c4, rfl, hO3, _⟩ := Own1.step HO.out (ba wr _) rfl hown' hgrow
          have HO4 : Hid (Own1 w2 w3 41 5 A4 (acc ++ [(⟨t0, t1, xf, t3, t4⟩ : Nt)]).length c4 (ntC (acc ++ [(⟨t0, t1, xf, t3, t4⟩ : Nt)]))) := by
            unfold Hid
            rw [ntC_snoc, List.length_append]
            exact hO3
          clear hown' hgrow hO3 a0 a1 a2 a3 a4 a5 a6
          go_wp2_with (fail)
          go_roundw
          case rel => exact ⟨k + 1, _, A4, c4, by omega, by first | rfl | go_num, by simp, HO4.out, HX.out, by simp; omega⟩
          case measure => simp [intOf]; omega
        · have HX := Lib.hid (HNO.out hf)
          go_wp2_with (fail)
          go_roundw
          case rel => exact ⟨k + 1, acc, A3, c3, by omega, by first | rfl | go_num, rfl, HO.out.below (ba _ _), HX.out, by omega⟩
          case measure => simp [intOf]; omega
      · have hkn : ¬ ((k : Int) < (n1 : Int)) := by omega
        have HVZ : Hid (V = acc) := by
          unfold Hid
          rw [HV.out, List.drop_of_length_le (by have := HN1.out; omega)]
          simp
        go_wp2_with (fail)
        go_ret2
        exact ⟨A3, _, c3, rfl, by rw [HVZ.out], by rw [HVZ.out]; exact HO.out.sl, HW.out⟩
  · have hXb : (X != 0) = true := by simpa using hX
    have HV0 : Hid (V = []) := by unfold Hid; rw [HE.out, HZ.out hX]; rfl
    clear hX HZ
    go_enter Try.func18, Try.ntmps18
    go_wp2_with (go_at_call 50; refine HPY.out.mono ?_; rintro e w1 ⟨A1, n1, c1, B1, m1, d1, rfl, hn1, hm1, hA1, hB1, hb1⟩; clear hn1 hm1 hA1 hB1)
    go_ret2
    exact ⟨none, 0, 0, rfl, by rw [HV0.out]; rfl, by rw [HV0.out]; exact Sl.none_ _ _ _, bx hb1⟩


theorem sl5_at {w : World} {A : Option Addr} {n c : Nat} {L : List Nt} (h : Sl w w.heap.size 5 A n c (ntC L)) (hn : n = L.length) {k : Nat} (hk : k < n) :
    ∃ b off, A = some ⟨b, off, none⟩ ∧ b < w.heap.size ∧ (∀ j, j < n → w.cell? ⟨b, off + j * 5, none⟩ = some (.int .i64 (L.getD j zNt).ev) ∧ w.cell? ⟨b, off + j * 5 + 1, none⟩ = some (.int .i64 (L.getD j zNt).c) ∧ w.cell? ⟨b, off + j * 5 + 2, none⟩ = some (.int .i64 (L.getD j zNt).p) ∧ w.cell? ⟨b, off + j * 5 + 3, none⟩ = some (.int .i64 (L.getD j zNt).fm) ∧ w.cell? ⟨b, off + j * 5 + 4, none⟩ = some (.int .i64 (L.getD j zNt).to)) := by
  obtain ⟨b, off, hA, hb, hc⟩ := h.2.2 (by omega)
  refine ⟨b, off, hA, hb, fun j hj => ?_⟩
  obtain ⟨j0, j1, j2, j3, j4⟩ := ntC_at L j (by omega)
  refine ⟨hc _ _ j0, ?_, ?_, ?_, ?_⟩
  · have := hc _ _ j1; rwa [← Nat.add_assoc] at this
  · have := hc _ _ j2; rwa [← Nat.add_assoc] at this
  · have := hc _ _ j3; rwa [← Nat.add_assoc] at this
  · have := hc _ _ j4; rwa [← Nat.add_assoc] at this

set_option maxRecDepth 100000 in
set_option maxHeartbeats 16000000 in
theorem law_sapart (A : Option Addr) (n c : Nat) (A' : Option Addr) (m c' : Nat) (A2 : Option Addr) (q cq : Nat) (C : List Cr) (S : List Int) (P : List EvP) (w : World) (hP : PcIn w A n c A' m c' A2 q cq C S P) :
    Calls Try.prog 13 #[pcV A n c A' m c' A2 q cq] w fun e w' => e = .returned (.bool true) ∧ Below w.heap.size w w' := by
  have HE : Hid (∀ w', Below (w.alloc (pcO A n c A' m c' A2 q cq)).heap.size (w.alloc (pcO A n c A' m c' A2 q cq)) w' → PcIn w' A n c A' m c' A2 q cq C S P) :=
    fun w' h => (hP.below (ba _ _)).below h
  have hql := hP.es.hq
  have HI := Lib.hid (HE.out _ (Below.refl _ _))
  clear hP
  cases hbg : plongB n m P with
  | true =>
    have HB := Lib.hid hbg
    clear hbg hql
    go_enter Try.func13, Try.ntmps13
    go_wp2_with (first | (go_at_call 29; refine (plong_any A n c A' m c' A2 q cq P _ HI.out.es).mono ?_; rintro e w1 ⟨rfl, hb1⟩; rw [HB.out]) | (go_at_call 16; refine (works5 _).mono ?_; rintro e w2 ⟨rfl, hb2⟩))
    go_ret
    exact ⟨rfl, bx (bt hb1 hb2)⟩
  | false =>
    have HB := Lib.hid hbg
    obtain ⟨l1, l2, l3, l4⟩ := pbigB_no (plongB_no hbg).1
    have l5 := (plongB_no hbg).2
    have b1 : n ≤ 65536 := by omega
    have b2 : m ≤ 65536 := by omega
    have b3 : q ≤ 65536 := by omega
    have b4 : q ≤ 1000000 := by omega
    have b5 : q ≤ 60 := by omega
    have HST : Hid (∀ y ∈ P, y.L.length ≤ 65536) := fun y hy => Nat.le_trans (l4 y hy) (by omega)
    have HSU : Hid (∀ y ∈ P, y.L.length ≤ 1000000) := fun y hy => Nat.le_trans (l4 y hy) (by omega)
    have d1 : n ≤ 1000000 := by omega
    have d2 : m ≤ 1000000 := by omega
    have HQL := Lib.hid hql
    have CK := Lib.hid (fun w' (h : PcIn w' A n c A' m c' A2 q cq C S P) => rpcheck_any A n c A' m c' A2 q cq C S P w' h d1 d2 b4 HSU.out)
    by_cases hX : pcErr C S P = 0
    · have CN : Hid (∀ (B : Option Addr) (e : Nat) (B' : Option Addr) (e' : Nat) (B2 : Option Addr) (e2 : Nat) w' (_ : PcIn w' B n e B' m e' B2 q e2 C S P), Calls Try.prog 21 #[pcV B n e B' m e' B2 q e2] w' (NtPost (ntL C S P) (pcErr C S P) w')) := fun B e B' e' B2 e2 w' h => notes_any B n e B' m e' B2 q e2 C S P w' h d1 d2 b3 HSU.out
      have DN : Hid (∀ (B : Option Addr) (e : Nat) (B' : Option Addr) (e' : Nat) (B2 : Option Addr) (e2 : Nat) w' (_ : PcIn w' B n e B' m e' B2 q e2 C S P), Calls Try.prog 18 #[pcV B n e B' m e' B2 q e2] w' (NtPost (prL C S P) (pcErr C S P) w')) := fun B e B' e' B2 e2 w' h => presses_any B n e B' m e' B2 q e2 C S P w' h d1 d2 b3 HSU.out
      unfold NtPost at CN DN
      have HAP : Hid (∀ {i k : Nat} (_ : k < i) (_ : i < (ntL C S P).length), ((ntL C S P).getD i zNt).fm < ((ntL C S P).getD i zNt).to ∧ (((ntL C S P).getD i zNt).c = ((ntL C S P).getD k zNt).c → ¬ ((ntL C S P).getD i zNt).fm < ((ntL C S P).getD k zNt).to)) := fun hk hi => apart_at hX hk hi
      have HPN : Hid (∀ x ∈ prL C S P, 1 ≤ x.p ∧ ∃ k, k < (ntL C S P).length ∧ ((ntL C S P).getD k zNt).ev = x.ev ∧ ((ntL C S P).getD k zNt).c = x.c ∧ ((ntL C S P).getD k zNt).fm = x.fm ∧ ((ntL C S P).getD k zNt).to = x.to) := fun x hx => press_note hx
      have HCT : Hid ((ntL C S P).length = cntS P ∧ (prL C S P).length = cntF P) := cnt_all hX
      have H14 : Hid (∀ {i : Nat} {y : EvP}, P[i]? = some y → y.L.length ≤ 14) := fun hy => ev_len hX hy
      have HNL := Lib.hid (ntL_len C S P)
      have HPL := Lib.hid (prL_len C S P)
      rw [hX] at CN DN CK
      clear hbg hql l1 l2 l3 l4 l5 hX
      generalize prL C S P = V at *
      generalize ntL C S P = U at *
      go_enter Try.func13, Try.ntmps13
      go_wp2_with (first
        | (go_at_call 29; refine (plong_any A n c A' m c' A2 q cq P _ HI.out.es).mono ?_; rintro e w1 ⟨rfl, hb1⟩; rw [HB.out]; have T := hb1; clear hb1; obtain ⟨x0, x1, x2⟩ := cell3 T)
        | (go_at_call 47; refine (CK.out _ (HE.out _ T)).mono ?_; rintro e wr ⟨rfl, hbr⟩; replace T := bt T hbr; clear hbr x0 x1 x2; obtain ⟨x0, x1, x2⟩ := cell3 T)
        | (go_at_call 17; refine (pcopy_any A n c A' m c' A2 q cq C S P _ (HE.out _ T) b1 b2 b3 HST.out).mono ?_; rintro e wc ⟨B, d, B', d', B2, d2', rfl, hPc, hbc⟩; replace T := bt T hbc; have HPc := Lib.hid hPc; (try have HSA := Lib.hid (HSA.out.below hbc)); clear hPc hbc x0 x1 x2; obtain ⟨x0, x1, x2⟩ := cell3 T)
        | (go_at_call 21; refine (CN.out _ _ _ _ _ _ _ HPc.out).mono ?_; rintro e wk ⟨Ba, na, da, rfl, hna, hsa, hbk⟩; replace T := bt T hbk; have HSA := Lib.hid hsa; have HNA := Lib.hid hna; clear hna hsa hbk x0 x1 x2; obtain ⟨x0, x1, x2⟩ := cell3 T)
        | (go_at_call 18; refine (DN.out _ _ _ _ _ _ _ HPc.out).mono ?_; rintro e wb ⟨Bb, nb, db, rfl, hnb, hsb, hbk⟩; replace T := bt T hbk; have HSB := Lib.hid hsb; have HNB := Lib.hid hnb; have HSA := Lib.hid (HSA.out.below hbk); clear hnb hsb hbk x0 x1 x2; obtain ⟨x0, x1, x2⟩ := cell3 T))
      have TT := Lib.hid T
      have hna : na ≤ 5600 := by have := HNA.out; have := HNL.out; omega
      have hnb : nb ≤ 5600 := by have := HNB.out; have := HPL.out; omega
      have HCN : Hid (na = cntS P ∧ nb = cntF P) := ⟨HNA.out.trans HCT.out.1, HNB.out.trans HCT.out.2⟩
      clear T
      go_loopw [9, 7, 8, 10] (fun i s f _ wr => ∃ (j a b : Nat), j ≤ q ∧ i = .int .i64 j ∧ s = .int .i64 a ∧ f = .int .i64 b ∧ a ≤ 14 * j ∧ b ≤ 14 * j ∧ Hid (a = cntS (P.take j) ∧ b = cntF (P.take j)) ∧ Below wb.heap.size wb wr) (fun i _ _ _ _ => q - (intOf i).toNat)
      case atStart => exact ⟨0, 0, 0, by omega, rfl, rfl, rfl, by omega, by omega, ⟨rfl, rfl⟩, Below.refl _ _⟩
      case round =>
        obtain ⟨j, a, b, hj, rfl, rfl, rfl, ha, hb, hab, hbw⟩ := hrel
        have HW := Lib.hid hbw
        clear hbw
        obtain ⟨x0, x1, x2⟩ := cell3 (bt TT.out HW.out)
        by_cases hlt : j < q
        · obtain ⟨bk, off, sa, sc', rfl, hbl, hPk, hd, ⟨e0, e1, e2, e3, e4, e5⟩, hS⟩ := (HE.out _ (bt TT.out HW.out)).es.at hlt
          have hkq : (j : Int) < (q : Int) := by omega
          have HCS := Lib.hid (cnt_succ (P := P) (k := j) (by have := HQL.out; omega))
          have hL14 : (P.getD j z6).L.length ≤ 14 := H14.out hPk
          have HS := Lib.hid hS
          have HE5 : Hid (∀ w', Below wr.heap.size wr w' → w'.cell? ⟨bk, off + j * 6 + 5, none⟩ = some (.slice sa (P.getD j z6).L.length sc')) := fun w' h => cell_same (h.block bk hbl) e5
          clear hS hd hPk e0 e1 e2 e3 e4
          generalize P.getD j z6 = y at *
          obtain ⟨bar, v, dt, tr, tie, L⟩ := y
          dsimp only at hL14 HS HE5 HCS e5
          obtain ⟨N, hN⟩ : ∃ N, L.length = N := ⟨_, rfl⟩
          have HLN := Lib.hid hN
          rw [hN] at HE5 hL14 HS HCS e5
          clear hN
          go_wp2_with (fail)
          obtain ⟨wo, rfl⟩ : ∃ wo : World, wo = wr := ⟨_, rfl⟩
          clear x0 x1 x2 e5
          go_loopw [10, 8] (fun kk f wr => ∃ (u b2 : Nat), u ≤ N ∧ kk = .int .i64 u ∧ f = .int .i64 b2 ∧ b2 ≤ b + u ∧ Hid (b2 = b + frN (L.take u)) ∧ Below wo.heap.size wo wr) (fun kk _ _ => N - (intOf kk).toNat)
          case atStart => exact ⟨0, b, by omega, rfl, rfl, by omega, rfl, Below.refl _ _⟩
          case round =>
            obtain ⟨u, b2, hu, rfl, rfl, hb2, hfr, hbw2⟩ := hrel
            have HW2 := Lib.hid hbw2
            have HFR := Lib.hid hfr.out
            clear hbw2 hfr
            obtain ⟨x0, x1, x2⟩ := cell3 (bt TT.out (bt HW.out HW2.out))
            have e5 := HE5.out _ HW2.out
            by_cases hlu : u < N
            · obtain ⟨sb, so, rfl, hsb, hsd, hsj, d0, d1, d2, d3, d4⟩ := st_at (HS.out.below HW2.out) HLN.out.symm hlu
              have huN : (u : Int) < (N : Int) := by omega
              have HFS := Lib.hid (frN_succ (L := L) (j := u) (by have := HLN.out; omega))
              clear hsd hsj
              generalize L.getD u z5 = s at *
              obtain ⟨sc, sf, sr, sg, sh⟩ := s
              dsimp only at d0 d1 d2 d3 d4 HFS
              by_cases hsf : 0 < sf
              · have HX : Hid (b2 + 1 = b + frN (L.take (u + 1))) := by
                  have h1 := HFS.out
                  have h2 := HFR.out
                  rw [if_pos hsf] at h1
                  unfold Hid
                  omega
                go_wp2_with (fail)
                go_roundw
                case rel => exact ⟨u + 1, b2 + 1, by omega, by first | rfl | go_num, by first | rfl | go_num, by omega, HX.out, HW2.out⟩
                case measure => simp [intOf]; omega
              · have HX : Hid (b2 = b + frN (L.take (u + 1))) := by
                  have h1 := HFS.out
                  have h2 := HFR.out
                  rw [if_neg hsf] at h1
                  unfold Hid
                  omega
                go_wp2_with (fail)
                go_roundw
                case rel => exact ⟨u + 1, b2, by omega, by first | rfl | go_num, rfl, by omega, HX.out, HW2.out⟩
                case measure => simp [intOf]; omega
            · have huN : ¬ ((u : Int) < (N : Int)) := by omega
              have HX : Hid (a + N = cntS (P.take (j + 1)) ∧ b2 = cntF (P.take (j + 1))) := by
                have h1 := HCS.out
                have h2 := HFR.out
                have h3 := hab.out
                rw [List.take_of_length_le (by have := HLN.out; omega)] at h2
                unfold Hid
                omega
              go_wp2_with (fail)
              go_roundw
              case rel => exact ⟨j + 1, a + N, b2, by omega, by first | rfl | go_num, by first | rfl | go_num, rfl, by omega, by omega, HX.out, bt HW.out HW2.out⟩
              case measure => simp [intOf]; omega
        · have hkq : ¬ ((j : Int) < (q : Int)) := by omega
          have hq2 : a = na ∧ b = nb := by
            have h1 := hab.out
            have h2 := HCN.out
            rw [List.take_of_length_le (by have := HQL.out; omega)] at h1
            omega
          obtain ⟨rfl, rfl⟩ := hq2
          clear hab HCN
          go_wp2_with (fail)
          obtain ⟨wo, rfl⟩ : ∃ wo : World, wo = wr := ⟨_, rfl⟩
          clear x0 x1 x2
          go_loopw [11, 12] (fun i _ wr => ∃ j2 : Nat, j2 ≤ a ∧ i = .int .i64 j2 ∧ Below wb.heap.size wb wr) (fun i _ _ => a - (intOf i).toNat)
          case atStart => exact ⟨0, by omega, rfl, HW.out⟩
          case round =>
            obtain ⟨j2, hj2, rfl, hbw⟩ := hrel
            have HW3 := Lib.hid hbw
            clear hbw
            by_cases hlt2 : j2 < a
            · have hkn : (j2 : Int) < (a : Int) := by omega
              go_wp2_with (fail)
              obtain ⟨wo2, rfl⟩ : ∃ wo : World, wo = wr := ⟨_, rfl⟩
              go_loopw [12] (fun kk wr => ∃ u : Nat, u ≤ j2 ∧ kk = .int .i64 u ∧ Below wb.heap.size wb wr) (fun kk _ => j2 - (intOf kk).toNat)
              case atStart => exact ⟨0, by omega, rfl, HW3.out⟩
              case round =>
                obtain ⟨u, hu, rfl, hbw⟩ := hrel
                have HW4 := Lib.hid hbw
                clear hbw
                by_cases hlu : u < j2
                · have hun : (u : Int) < (j2 : Int) := by omega
                  have hun2 : (u : Int) < (a : Int) := by omega
                  obtain ⟨bl, off, rfl, hbl, hcs⟩ := sl5_at (HSA.out.below HW4.out) HNA.out hlt2
                  obtain ⟨p0, p1, p2, p3, p4⟩ := hcs j2 hlt2
                  obtain ⟨q0, q1, q2, q3, q4⟩ := hcs u (by omega)
                  obtain ⟨hft, hcc⟩ := HAP.out hlu (by have := HNA.out; omega)
                  clear hcs p0 p2 q0 q2
                  generalize U.getD j2 zNt = s at *
                  generalize U.getD u zNt = z at *
                  obtain ⟨s0, s1, s2, s3, s4⟩ := s
                  obtain ⟨z0, z1, z2, z3, z4⟩ := z
                  dsimp only at p1 p3 p4 q1 q3 q4 hft hcc
                  have hge : decide (s3 ≥ s4) = false := by simp; omega
                  by_cases hce : s1 = z1
                  · subst hce
                    have hcd : decide (s3 < z4) = false := by simpa using hcc rfl
                    clear hcc
                    go_wp2_with (fail)
                    go_quiet (fail)
                    go_wp2_with (fail)
                    go_roundw
                    case rel => exact ⟨u + 1, by omega, by first | rfl | go_num, bd HW4.out _⟩
                    case measure => simp [intOf]; omega
                  · have hcd : (s1 == z1) = false := by simpa using hce
                    clear hcc
                    go_wp2_with (fail)
                    go_quiet (fail)
                    go_wp2_with (fail)
                    go_roundw
                    case rel => exact ⟨u + 1, by omega, by first | rfl | go_num, bd HW4.out _⟩
                    case measure => simp [intOf]; omega
                · have hun : ¬ ((u : Int) < (j2 : Int)) := by omega
                  go_wp2_with (fail)
                  go_roundw
                  case rel => exact ⟨j2 + 1, by omega, by first | rfl | go_num, HW4.out⟩
                  case measure => simp [intOf]; omega
            · have hkn : ¬ ((j2 : Int) < (a : Int)) := by omega
              go_wp2_with (fail)
              obtain ⟨wo3, rfl⟩ : ∃ wo : World, wo = wr := ⟨_, rfl⟩
              go_loopw [13, 14, 15] (fun i _ _ wr => ∃ j3 : Nat, j3 ≤ b ∧ i = .int .i64 j3 ∧ Below wb.heap.size wb wr) (fun i _ _ _ => b - (intOf i).toNat)
              case atStart => exact ⟨0, by omega, rfl, HW3.out⟩
              case round =>
                obtain ⟨j3, hj3, rfl, hbw⟩ := hrel
                have HW5 := Lib.hid hbw
                clear hbw
                by_cases hlt3 : j3 < b
                · have hkb : (j3 : Int) < (b : Int) := by omega
                  obtain ⟨bl, off, rfl, hbl, hcs⟩ := sl5_at (HSB.out.below HW5.out) HNB.out hlt3
                  obtain ⟨p0, p1, p2, p3, p4⟩ := hcs j3 hlt3
                  have hm : V.getD j3 zNt ∈ V := by
                    have h1 : j3 < V.length := by have := HNB.out; omega
                    rw [show V.getD j3 zNt = V[j3] by simp [List.getElem?_eq_getElem h1]]
                    exact List.getElem_mem h1
                  obtain ⟨hfr, k0, hk0, g0, g1, g3, g4⟩ := HPN.out _ hm
                  clear hcs hm
                  generalize V.getD j3 zNt = s at *
                  obtain ⟨s0, s1, s2, s3, s4⟩ := s
                  dsimp only at p0 p1 p2 p3 p4 hfr g0 g1 g3 g4
                  have HG := Lib.hid (And.intro g0 (And.intro g1 (And.intro g3 g4)))
                  have HK0 := Lib.hid (show k0 < a by have := HNA.out; omega)
                  have HPP : Hid (∀ w', Below wr.heap.size wr w' → w'.cell? ⟨bl, off + j3 * 5, none⟩ = some (.int .i64 s0) ∧ w'.cell? ⟨bl, off + j3 * 5 + 1, none⟩ = some (.int .i64 s1) ∧ w'.cell? ⟨bl, off + j3 * 5 + 2, none⟩ = some (.int .i64 s2) ∧ w'.cell? ⟨bl, off + j3 * 5 + 3, none⟩ = some (.int .i64 s3) ∧ w'.cell? ⟨bl, off + j3 * 5 + 4, none⟩ = some (.int .i64 s4)) := fun w' h => ⟨cell_same (h.block bl hbl) p0, cell_same (h.block bl hbl) p1, cell_same (h.block bl hbl) p2, cell_same (h.block bl hbl) p3, cell_same (h.block bl hbl) p4⟩
                  clear g0 g1 g3 g4 hk0 p0 p1 p2 p3 p4
                  go_wp2_with (fail)
                  obtain ⟨wo4, rfl⟩ : ∃ wo : World, wo = wr := ⟨_, rfl⟩
                  go_loopw [15, 14] (fun kk fd wr => ∃ (u : Nat) (f : Bool), u ≤ a ∧ kk = .int .i64 u ∧ fd = .bool f ∧ Hid (k0 < u → f = true) ∧ Below wo4.heap.size wo4 wr) (fun kk _ _ => a - (intOf kk).toNat)
                  case atStart => exact ⟨0, false, by omega, rfl, rfl, fun h => absurd h (by omega), Below.refl _ _⟩
                  case round =>
                    obtain ⟨u, f, hu, rfl, rfl, hfd, hbw⟩ := hrel
                    have HW6 := Lib.hid hbw
                    have HFD := Lib.hid hfd.out
                    clear hbw hfd
                    obtain ⟨p0, p1, p2, p3, p4⟩ := HPP.out _ HW6.out
                    by_cases hlu : u < a
                    · have hun : (u : Int) < (a : Int) := by omega
                      obtain ⟨bm, om, rfl, hbm, hcs⟩ := sl5_at (HSA.out.below (bt HW5.out HW6.out)) HNA.out hlu
                      obtain ⟨q0, q1, q2, q3, q4⟩ := hcs u hlu
                      have HM : Hid (u = k0 → (U.getD u zNt).ev = s0 ∧ (U.getD u zNt).c = s1 ∧ (U.getD u zNt).fm = s3 ∧ (U.getD u zNt).to = s4) := by rintro rfl; exact HG.out
                      clear hcs
                      generalize U.getD u zNt = z at *
                      obtain ⟨z0, z1, z2, z3, z4⟩ := z
                      dsimp only at q0 q1 q2 q3 q4 HM
                      clear q2
                      have harm : f = true ∨ (f = false ∧ (z0 == s0) = false) ∨ (f = false ∧ (z0 == s0) = true ∧ (z1 == s1) = false) ∨ (f = false ∧ (z0 == s0) = true ∧ (z1 == s1) = true ∧ (z3 == s3) = false) ∨ (f = false ∧ (z0 == s0) = true ∧ (z1 == s1) = true ∧ (z3 == s3) = true ∧ (z4 == s4) = false) ∨ (f = false ∧ (z0 == s0) = true ∧ (z1 == s1) = true ∧ (z3 == s3) = true ∧ (z4 == s4) = true) := by
                        cases f <;> cases (z0 == s0) <;> cases (z1 == s1) <;> cases (z3 == s3) <;> cases (z4 == s4) <;> simp
                      have hne : f = false → ((z0 == s0) && (z1 == s1) && (z3 == s3) && (z4 == s4)) = false → ¬ k0 < u + 1 := by
                        intro h1 h2 h3
                        rcases Nat.lt_or_ge k0 u with h4 | h4
                        · have := HFD.out h4
                          rw [h1] at this
                          cases this
                        · obtain ⟨r1, r2, r3, r4⟩ := HM.out (by omega)
                          rw [r1, r2, r3, r4] at h2
                          simp at h2
                      have HNE := Lib.hid hne
                      clear hne
                      rcases harm with rfl | ⟨rfl, t0⟩ | ⟨rfl, t0, t1⟩ | ⟨rfl, t0, t1, t2⟩ | ⟨rfl, t0, t1, t2, t3⟩ | ⟨rfl, t0, t1, t2, t3⟩
                      · go_wp2_with (fail)
                        go_quiet (fail)
                        go_wp2_with (fail)
                        go_roundw
                        case rel => exact ⟨u + 1, true, by omega, by first | rfl | go_num, rfl, fun _ => rfl, bd HW6.out _⟩
                        case measure => simp [intOf]; omega
                      · have HZ := Lib.hid (HNE.out rfl (by rw [t0]; rfl))
                        go_wp2_with (fail)
                        go_quiet (fail)
                        go_wp2_with (fail)
                        go_roundw
                        case rel => exact ⟨u + 1, false, by omega, by first | rfl | go_num, rfl, fun h => absurd h HZ.out, bd HW6.out _⟩
                        case measure => simp [intOf]; omega
                      · have HZ := Lib.hid (HNE.out rfl (by rw [t0, t1]; rfl))
                        go_wp2_with (fail)
                        go_quiet (fail)
                        go_wp2_with (fail)
                        go_roundw
                        case rel => exact ⟨u + 1, false, by omega, by first | rfl | go_num, rfl, fun h => absurd h HZ.out, bd HW6.out _⟩
                        case measure => simp [intOf]; omega
                      · have HZ := Lib.hid (HNE.out rfl (by rw [t0, t1, t2]; rfl))
                        go_wp2_with (fail)
                        go_quiet (fail)
                        go_wp2_with (fail)
                        go_roundw
                        case rel => exact ⟨u + 1, false, by omega, by first | rfl | go_num, rfl, fun h => absurd h HZ.out, bd HW6.out _⟩
                        case measure => simp [intOf]; omega
                      · have HZ := Lib.hid (HNE.out rfl (by rw [t0, t1, t2, t3]; rfl))
                        go_wp2_with (fail)
                        go_quiet (fail)
                        go_wp2_with (fail)
                        go_roundw
                        case rel => exact ⟨u + 1, false, by omega, by first | rfl | go_num, rfl, fun h => absurd h HZ.out, bd HW6.out _⟩
                        case measure => simp [intOf]; omega
                      · go_wp2_with (fail)
                        go_quiet (fail)
                        go_wp2_with (fail)
                        go_roundw
                        case rel => exact ⟨u + 1, true, by omega, by first | rfl | go_num, rfl, fun _ => rfl, bd HW6.out _⟩
                        case measure => simp [intOf]; omega
                    · have hun : ¬ ((u : Int) < (a : Int)) := by omega
                      have hft : f = true := HFD.out (by have := HK0.out; omega)
                      subst hft
                      have hs2 : decide (s2 < 1) = false := by simp; omega
                      go_wp2_with (fail)
                      go_roundw
                      case rel => exact ⟨j3 + 1, by omega, by first | rfl | go_num, bt HW5.out HW6.out⟩
                      case measure => simp [intOf]; omega
                · have hkb : ¬ ((j3 : Int) < (b : Int)) := by omega
                  go_wp2_with (go_at_call 16; refine (works5 _).mono ?_; rintro e wz ⟨rfl, hbz⟩)
                  go_ret
                  exact ⟨rfl, bx (bt (bt TT.out HW5.out) hbz)⟩
    · obtain ⟨X, hX2⟩ : ∃ X, pcErr C S P = X := ⟨_, rfl⟩
      rw [hX2] at hX CK
      have hXb : (X != 0) = true := by simpa using hX
      clear hbg hql l1 l2 l3 l4 l5 hX hX2
      go_enter Try.func13, Try.ntmps13
      go_wp2_with (first
        | (go_at_call 29; refine (plong_any A n c A' m c' A2 q cq P _ HI.out.es).mono ?_; rintro e w1 ⟨rfl, hb1⟩; rw [HB.out]; have T := hb1; clear hb1; obtain ⟨x0, x1, x2⟩ := cell3 T)
        | (go_at_call 47; refine (CK.out _ (HE.out _ T)).mono ?_; rintro e wr ⟨rfl, hbr⟩; replace T := bt T hbr)
        | (go_at_call 16; refine (works5 _).mono ?_; rintro e wz ⟨rfl, hbz⟩))
      go_ret
      exact ⟨rfl, bx (bt T hbz)⟩

end Go.Proofs.Ytcebpgcmmdfccaa
