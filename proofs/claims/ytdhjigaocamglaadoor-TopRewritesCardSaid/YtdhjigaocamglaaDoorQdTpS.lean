/- The strokes of a piece with a factor, as one law reckons them. -/
import Derived.Test.YtdhjigaocamglaaDoorQdVs
import Derived.Test.YtdhjigaocamglaaDoorQdTrnC
import Derived.Test.YtdhjigaocamglaaDoorQdInst
import Derived.Deep.RegionHeldLaw
import Derived.Deep.AppendLies
import Derived.OwnWalk
namespace Go.Proofs.YtdhjigaocamglaaDoor
open Go Go.RowKit

theorem tp_stsLen {C : List Cr} {P : List EvP} {k : Nat} : ∀ (L : List St) (bf : Int), bf ≤ C.length → stsErr C P k bf L = 0 → bf + L.length ≤ C.length
  | [], bf, h, _ => by simpa using h
  | x :: r, bf, h, h0 => by
    unfold stsErr at h0
    by_cases hx : stErr C P k bf x = 0
    · rw [if_pos hx] at h0
      obtain ⟨a1, _, a3, _⟩ := stErr_ok hx
      have := tp_stsLen r x.c (by omega) h0
      simp only [List.length_cons]
      push_cast
      omega
    · rw [if_neg hx] at h0; exact absurd h0 hx
theorem tp_evLen {C : List Cr} {S : List Int} {P : List EvP} (h : pcErr C S P = 0) : ∀ y ∈ P, y.L.length ≤ 14 := by
  intro y hy
  obtain ⟨i, hi⟩ := List.getElem?_of_mem hy
  obtain ⟨h1, _, h3⟩ := pcErr_ok h
  have := tp_stsLen y.L 0 (by omega) ((h3 i y hi).2.2)
  have := (chk_ok h1).1
  omega
def stkC (x : Stk) : List Int := x.1 :: (x.2.length : Int) :: x.2.flatMap fun p => [p.1, p.2]
def stP (f : Int) (P : List EvP) (k : Nat) : List Int := pre (fun j => (skE (onT P j * f) (P.getD j z6).L).flatMap stkC) k
def stL (f : Int) (P : List EvP) : List Int := stP f P P.length ++ [onT P P.length * f]
theorem pre_flat {α β : Type} {E : Nat → List α} (g : α → List β) : ∀ n, (pre E n).flatMap g = pre (fun k => (E k).flatMap g) n
  | 0 => rfl
  | n + 1 => by
    show (pre E n ++ E n).flatMap g = _
    rw [List.flatMap_append, pre_flat g n]
    rfl
theorem stL_sk (f : Int) (P : List EvP) : stL f P = ((skD P).map (scl f)).flatMap stkC ++ [onT P P.length * f] := by
  unfold stL stP skD
  rw [pre_map, pre_flat]
  congr 1
  refine pre_congr _ (fun j _ => ?_)
  rw [skE_map]
theorem stP_none {f : Int} {P : List EvP} {k : Nat} (h : (P.getD k z6).L.length = 0) : stP f P (k + 1) = stP f P k := by
  show stP f P k ++ (skE (onT P k * f) (P.getD k z6).L).flatMap stkC = _
  rw [List.length_eq_zero_iff.1 h]
  simp [skE]
theorem stP_some {f : Int} {P : List EvP} {k : Nat} (h : (P.getD k z6).L.length ≠ 0) :
    stP f P (k + 1) = (stP f P k ++ [onT P k * f, ((P.getD k z6).L.length : Int)]) ++ (P.getD k z6).L.flatMap fun s => [s.c, s.f] := by
  show stP f P k ++ (skE (onT P k * f) (P.getD k z6).L).flatMap stkC = _
  have h' : (P.getD k z6).L ≠ [] := fun e => h (by rw [e]; rfl)
  unfold skE
  rw [if_neg h']
  simp [stkC, plL5, List.flatMap_map]
theorem stTake {L : List St} {j : Nat} (h : j < L.length) : (L.take (j + 1)).flatMap (fun s => [s.c, s.f]) = (L.take j).flatMap (fun s => [s.c, s.f]) ++ [(L.getD j z5).c, (L.getD j z5).f] := by
  rw [List.take_add_one, List.flatMap_append]
  simp [List.getD_eq_getElem?_getD, List.getElem?_eq_getElem h]
theorem two_ints (a b : Int) : ∀ u ∈ [Value.int .i64 a, .int .i64 b], u.oneCell' = true := by
  intro u hu
  simp at hu
  rcases hu with rfl | rfl <;> rfl
theorem one_int (a : Int) : ∀ u ∈ [Value.int .i64 a], u.oneCell' = true := by
  intro u hu
  simp at hu
  subst hu
  rfl
theorem Own1.stepTp {W1 wr w2 w3 : World} {e : TypeId} {size m : Nat} {A : Option Addr} {k c : Nat} {xs news : List Value} {v' : Value} {O : Obj} {B : Nat} (h : Own1 W1 wr e size A k c xs) (hb : Below wr.heap.size wr w2) (hB : B = W1.heap.size)
    (hown : w3.ownsRow B e size v' (k + m) (xs ++ news)) (hg : (w2.alloc O).grownBy w3 (Value.slice A k c).ownBlock) :
    ∃ A' c', v' = .slice A' (k + m) c' ∧ Own1 W1 w3 e size A' (k + m) c' (xs ++ news) := by
  subst hB
  obtain ⟨A', c', rfl⟩ := own_slice hown
  have h2 := h.below hb
  refine ⟨A', c', rfl, ⟨hown, ?_⟩⟩
  refine Below.grown (h2.low.alloc h2.low.size O) hg (h2.low.alloc h2.low.size O).size (fun g hh => ?_)
  exact (h.own.lt g hh).1
theorem mul_bd {t f : Int} (h0 : 0 ≤ t) (h1 : t ≤ 230400) (f0 : 0 ≤ f) (f1 : f ≤ 65536) : 0 ≤ t * f ∧ t * f ≤ 15099494400 :=
  ⟨Int.mul_nonneg h0 f0, by have := Int.mul_le_mul h1 f1 f0 (by decide : (0 : Int) ≤ 230400); omega⟩

set_option maxRecDepth 100000 in
set_option maxHeartbeats 8000000 in
theorem strokes_any (A : Option Addr) (n c : Nat) (A' : Option Addr) (m c' : Nat) (A2 : Option Addr) (q cq : Nat) (C : List Cr) (S : List Int) (P : List EvP) (f : Int) (w : World) (hP : PcIn w A n c A' m c' A2 q cq C S P) (hq : q ≤ 400) (hst : ∀ y ∈ P, y.L.length ≤ 14) (hf0 : 0 ≤ f) (hf1 : f ≤ 65536) :
    Calls Tryd.prog 32 #[pcV A n c A' m c' A2 q cq, .int .i64 f] w fun e w' => ∃ B mo d, e = .returned (.slice B mo d) ∧ mo = (stL f P).length ∧ Sl w' w'.heap.size 1 B mo d (intC (stL f P)) ∧ Below w.heap.size w w' := by
  have HP : Hid (∀ w', Below w.heap.size w w' → PcIn w' A n c A' m c' A2 q cq C S P) := fun w' hb => hP.below hb
  have HL := Lib.hid hP.es.hq
  have HST : Hid (∀ k, k < q → P[k]? = some (P.getD k z6) → (P.getD k z6).L.length ≤ 14) := fun k _ h => hst _ (List.mem_of_getElem? h)
  have HOL : Hid ((0 :: sumL 0 (frcL s0g P)).length = q + 1) := by unfold Hid; simp [sumL_len, frcL_len, hP.es.hq]
  have HON : Hid (∀ k, (0 :: sumL 0 (frcL s0g P)).getD k 0 = onT P k) := fun _ => rfl
  have HOB : Hid (∀ k, k < q + 1 → 0 ≤ onT P k ∧ onT P k ≤ 230400) := fun k hk => by
    have := sumL_bd (frcL s0g P) 0 k (by omega) (by rw [frcL_len, ← hP.es.hq]; exact hk)
    have e : onT P k = (0 :: sumL 0 (frcL s0g P)).getD k 0 := rfl
    rw [e]
    omega
  have HRES : Hid (stL f P = stP f P q ++ [onT P q * f]) := by unfold Hid; rw [hP.es.hq]; rfl
  obtain ⟨i0, ii1, ii2, ii3, ii4⟩ := info_parts (show (Tryd.prog.info? 3).map (fun i => (i.zero, i.size, i.bytes)) = some (some (.int .i64 0), 1, 8) by kernel_rfl)
  clear hP hst
  go_enter Tryd.func32, Tryd.ntmps32
  go_wp2_with (go_at_call 53; refine (rTimes_any A n c A' m c' A2 q cq P _ (HP.out _ (ba w _)).es (by omega)).mono ?_; rintro e w1 ⟨B, d, rfl, hO, hb1⟩; obtain ⟨p0, p1, p2⟩ := cell3 hb1; have HB1 := Lib.hid hb1; have HO := Lib.hid hO.sl; clear hO hb1)
  generalize 0 :: sumL 0 (frcL s0g P) = O at *
  go_loopw [7, 6, 8] (fun i l _ wr => ∃ (k : Nat) (acc : List Int) (A1 : Option Addr) (c1 : Nat), k ≤ q ∧ i = .int .i64 k ∧ l = .slice A1 acc.length c1 ∧ Own1 w1 wr 3 1 A1 acc.length c1 (intC acc) ∧ acc = stP f P k ∧ acc.length ≤ 30 * k) (fun i _ _ _ => q - (intOf i).toNat)
  case atStart => exact ⟨0, [], none, 0, by omega, rfl, rfl, Own1.start (Below.refl _ _) _ _, rfl, by simp⟩
  case round =>
    obtain ⟨k, acc, A1, c1, hk, rfl, rfl, hOw, hT, hlen⟩ := hrel
    have HOw := Lib.hid hOw
    have HTk := Lib.hid hT
    have HW : Hid (Below w.heap.size w wr) := bx (bt HB1.out hOw.low)
    obtain ⟨p0, p1, p2⟩ := cell3 (bt HB1.out hOw.low)
    clear hOw hT
    by_cases hlt : k < q
    · obtain ⟨b, off, sa, sc', rfl, hbl, hPk, hd, ⟨e0, e1, e2, e3, e4, e5⟩, hS⟩ := (HP.out _ (Below.refl _ _)).es.at hlt
      have hkq : (k : Int) < (q : Int) := by omega
      have hkq1 : (k : Int) < (q : Int) + 1 := by omega
      have HS := Lib.hid hS
      have hL14 : (P.getD k z6).L.length ≤ 14 := HST.out k hlt hPk
      have HN0 := Lib.hid (stP_none (f := f) (P := P) (k := k))
      have HN1 := Lib.hid (stP_some (f := f) (P := P) (k := k))
      obtain ⟨t0, t1⟩ := HOB.out k (by omega)
      have HTX := Lib.hid (HON.out k)
      have HE5 : Hid (∀ w', Below w.heap.size w w' → w'.cell? ⟨b, off + k * 6 + 5, none⟩ = some (.slice sa (P.getD k z6).L.length sc')) := fun w' h => cell_same (h.block b hbl) e5
      clear hS hd hPk e0 e1 e2 e3 e4 e5
      generalize (P.getD k z6).L = L at *
      generalize onT P k = t at *
      obtain ⟨N, hN⟩ : ∃ N, L.length = N := ⟨_, rfl⟩
      have HLN := Lib.hid hN
      rw [hN] at HE5 hL14 HN0 HN1 HS
      clear hN
      have e5 := HE5.out _ HW.out
      by_cases hN0 : N = 0
      · subst hN0
        have HZ := Lib.hid (HN0.out rfl)
        go_wp2_with (fail)
        go_roundw
        case rel => exact ⟨k + 1, acc, A1, c1, by omega, by first | rfl | go_num, rfl, HOw.out, by rw [HTk.out, HZ.out], by omega⟩
        case measure => simp [intOf]; omega
      · have HZ := Lib.hid (HN1.out hN0)
        have hN0' : ((N : Int) == 0) = false := by simpa using hN0
        obtain ⟨bO, oO, rfl, hbO, hcO⟩ := HO.out.2.2 (by omega)
        have HCO : Hid (∀ w', Below w1.heap.size w1 w' → w'.cell? ⟨bO, oO + k, none⟩ = some (.int .i64 t)) := fun w' hb => by
          rw [← HTX.out]
          exact cell_same (hb.block bO hbO) (hcO _ _ (intC_at O k (by have := HOL.out; omega)))
        clear hcO hbO
        obtain ⟨m0, m1⟩ := mul_bd t0 t1 hf0 hf1
        generalize hx : t * f = x at *
        have w64 : IntKind.i64.wrap (t * f) = x := by rw [hx]; exact IntWalk.i64_in _ ⟨by omega, by omega⟩
        have HXT := Lib.hid hx
        clear hx
        have hml : acc.length + 2 ≤ maxLen := Nat.le_trans (show acc.length + 2 ≤ 100000 by omega) (by decide)
        have SH : Hid (∀ w', Below w1.heap.size w1 w' → (w'.cell? ⟨w.heap.size, 0, none⟩ = some (.slice A n c) ∧ w'.cell? ⟨w.heap.size, 1, none⟩ = some (.slice A' m c') ∧ w'.cell? ⟨w.heap.size, 2, none⟩ = some (.slice (some ⟨b, off, none⟩) q cq)) ∧ w'.cell? ⟨bO, oO + k, none⟩ = some (.int .i64 t) ∧ w'.cell? ⟨b, off + k * 6 + 5, none⟩ = some (.slice sa N sc')) := fun w' hb =>
          ⟨cell3 (bt HB1.out hb), HCO.out _ hb, HE5.out _ (bx (bt HB1.out hb))⟩
        go_wp2_with (fail)
        go_region_held_law (fun w' => (w'.cell? ⟨w.heap.size, 0, none⟩ = some (.slice A n c) ∧ w'.cell? ⟨w.heap.size, 1, none⟩ = some (.slice A' m c') ∧ w'.cell? ⟨w.heap.size, 2, none⟩ = some (.slice (some ⟨b, off, none⟩) q cq)) ∧ w'.cell? ⟨bO, oO + k, none⟩ = some (.int .i64 t) ∧ w'.cell? ⟨b, off + k * 6 + 5, none⟩ = some (.slice sa N sc'))
          (first | exact SH.out _ hO7.low | exact SH.out _ (HOw.out.low.drew.alloc HOw.out.low.drew.size _) | exact SH.out _ HOw.out.low.drew)
          (first | (refine step_append_lies _ (by rfl) _ _ _ (by rfl) w1.heap.size 3 i0 _ 1 8 Tryd.underlying23 ii1 ii2 ii3 ii4 rfl (by decide) (.slice A1 acc.length c1) acc.length (intC acc) (by rfl) ((own_below HOw.out.own (Below.refl _ _).drew).alloc (.cells #[.int .i64 x, .int .i64 N] 3)) ⟨wr.drew.heap.size, 0, none⟩ 2 2 [.int .i64 x, .int .i64 N] (by rfl) rfl (World.news_of_block (cs := #[.int .i64 x, .int .i64 N]) (t := 3) (fr := (0, 0)) (heap_alloc_new wr.drew _)) (two_ints _ _) (by decide) hml (by omega) (by have h1 := HOw.out.low.drew.size; simp at h1 ⊢; omega) (wr.drew.heap.size + 1) (by simp) ?_; intro g cap w7 hown7 hgrow hat hlt7; obtain ⟨_, _, hsl, hO7⟩ := Own1.stepTp HOw.out (Below.refl _ _).drew rfl hown7 hgrow; cases hsl))
        all_goals (
          have HO7 : Hid (Own1 w1 w7 3 1 (some ⟨g, 0, none⟩) (acc ++ [x, (N : Int)]).length cap (intC (acc ++ [x, (N : Int)]))) := by
            unfold Hid
            rw [List.length_append]
            unfold intC
            rw [List.map_append]
            exact hO7
          have hlg : (acc ++ [x, (N : Int)]).length = acc.length + 2 := by simp
          have HLG := Lib.hid hlg
          clear hO7 hown7 hgrow hat hlg
          go_wp2_with (fail)
          clear p0 p1 p2 e5
          go_loopw [8, 6] (fun s v wr => ∃ (j : Nat) (acc2 : List Int) (A3 : Option Addr) (c3 : Nat), j ≤ N ∧ s = .int .i64 j ∧ v = .slice A3 acc2.length c3 ∧ Own1 w1 wr 3 1 A3 acc2.length c3 (intC acc2) ∧ acc2 = (acc ++ [x, (N : Int)]) ++ (L.take j).flatMap (fun s => [s.c, s.f]) ∧ acc2.length ≤ 30 * k + 2 + 2 * j) (fun s _ _ => N - (intOf s).toNat)
          case atStart => exact ⟨0, acc ++ [x, (N : Int)], _, _, by omega, rfl, by rw [HLG.out], HO7.out, by simp, by rw [HLG.out]; omega⟩
          case round =>
            obtain ⟨j, acc2, A3, c3, hj, rfl, rfl, hO2, hT2, hlen2⟩ := hrel
            have HO2 := Lib.hid hO2
            have HT2 := Lib.hid hT2
            have HW2 : Hid (Below w.heap.size w wr) := bx (bt HB1.out hO2.low)
            obtain ⟨p0, p1, p2⟩ := cell3 (bt HB1.out hO2.low)
            have e5 := HE5.out _ HW2.out
            clear hO2 hT2
            by_cases hlj : j < N
            · obtain ⟨sb, so, rfl, hsb, hsd, hsj, d0, d1, d2, d3, d4⟩ := st_at HS.out HLN.out.symm hlj
              have hjN : (j : Int) < (N : Int) := by omega
              have HTJ := Lib.hid (stTake (L := L) (j := j) (by have := HLN.out; omega))
              generalize L.getD j z5 = s at *
              obtain ⟨sc, sf, sr, sg, sh⟩ := s
              dsimp only at d0 d1 HTJ
              have HD0 : Hid (∀ w', Below w.heap.size w w' → w'.cell? ⟨sb, so + j * 5, none⟩ = some (.int .i64 sc) ∧ w'.cell? ⟨sb, so + j * 5 + 1, none⟩ = some (.int .i64 sf)) := fun w' h => ⟨cell_same (h.block sb hsb) d0, cell_same (h.block sb hsb) d1⟩
              clear d0 d1 d2 d3 d4 hsd hsj hsb
              have hml2 : acc2.length + 2 ≤ maxLen := Nat.le_trans (show acc2.length + 2 ≤ 100000 by omega) (by decide)
              have SH2 : Hid (∀ w', Below w1.heap.size w1 w' → (w'.cell? ⟨w.heap.size, 0, none⟩ = some (.slice A n c) ∧ w'.cell? ⟨w.heap.size, 1, none⟩ = some (.slice A' m c') ∧ w'.cell? ⟨w.heap.size, 2, none⟩ = some (.slice (some ⟨b, off, none⟩) q cq)) ∧ w'.cell? ⟨b, off + k * 6 + 5, none⟩ = some (.slice (some ⟨sb, so, none⟩) N sc') ∧ (w'.cell? ⟨sb, so + j * 5, none⟩ = some (.int .i64 sc) ∧ w'.cell? ⟨sb, so + j * 5 + 1, none⟩ = some (.int .i64 sf))) := fun w' hb =>
                ⟨cell3 (bt HB1.out hb), HE5.out _ (bx (bt HB1.out hb)), HD0.out _ (bx (bt HB1.out hb))⟩
              go_wp2_with (fail)
              go_region_held_law (fun w' => (w'.cell? ⟨w.heap.size, 0, none⟩ = some (.slice A n c) ∧ w'.cell? ⟨w.heap.size, 1, none⟩ = some (.slice A' m c') ∧ w'.cell? ⟨w.heap.size, 2, none⟩ = some (.slice (some ⟨b, off, none⟩) q cq)) ∧ w'.cell? ⟨b, off + k * 6 + 5, none⟩ = some (.slice (some ⟨sb, so, none⟩) N sc') ∧ (w'.cell? ⟨sb, so + j * 5, none⟩ = some (.int .i64 sc) ∧ w'.cell? ⟨sb, so + j * 5 + 1, none⟩ = some (.int .i64 sf)))
                (first | exact SH2.out _ hO9.low | exact SH2.out _ (HO2.out.low.drew.alloc HO2.out.low.drew.size _) | exact SH2.out _ HO2.out.low.drew)
                (first | (refine step_append_lies _ (by rfl) _ _ _ (by rfl) w1.heap.size 3 i0 _ 1 8 Tryd.underlying23 ii1 ii2 ii3 ii4 rfl (by decide) (.slice A3 acc2.length c3) acc2.length (intC acc2) (by rfl) ((own_below HO2.out.own (Below.refl _ _).drew).alloc (.cells #[.int .i64 sc, .int .i64 sf] 3)) ⟨wr.drew.heap.size, 0, none⟩ 2 2 [.int .i64 sc, .int .i64 sf] (by rfl) rfl (World.news_of_block (cs := #[.int .i64 sc, .int .i64 sf]) (t := 3) (fr := (0, 0)) (heap_alloc_new wr.drew _)) (two_ints _ _) (by decide) hml2 (by omega) (by have h1 := HO2.out.low.drew.size; simp at h1 ⊢; omega) (wr.drew.heap.size + 1) (by simp) ?_; intro g9 cap9 w9 hown9 hgrow9 hat9 hlt9; obtain ⟨_, _, hsl9, hO9⟩ := Own1.stepTp HO2.out (Below.refl _ _).drew rfl hown9 hgrow9; cases hsl9))
              all_goals (
                have HO9 : Hid (Own1 w1 w9 3 1 (some ⟨g9, 0, none⟩) (acc2 ++ [sc, sf]).length cap9 (intC (acc2 ++ [sc, sf]))) := by
                  unfold Hid
                  rw [List.length_append]
                  unfold intC
                  rw [List.map_append]
                  exact hO9
                have hlg9 : (acc2 ++ [sc, sf]).length = acc2.length + 2 := by simp
                have HLG9 := Lib.hid hlg9
                clear hO9 hown9 hgrow9 hat9 hlg9
                go_wp2_with (fail)
                go_roundw
                case rel => exact ⟨j + 1, acc2 ++ [sc, sf], _, cap9, by omega, by first | rfl | go_num, by rw [HLG9.out], HO9.out, by rw [HTJ.out, HT2.out, List.append_assoc], by rw [HLG9.out]; omega⟩
                case measure => simp [intOf]; omega)
            · have hjN : ¬ ((j : Int) < (N : Int)) := by omega
              go_wp2_with (fail)
              go_roundw
              case rel => exact ⟨k + 1, acc2, A3, c3, by omega, by first | rfl | go_num, rfl, HO2.out, by rw [HT2.out, HZ.out, HTk.out, List.take_of_length_le (by have := HLN.out; omega)], by omega⟩
              case measure => simp [intOf]; omega)
    · obtain rfl : k = q := by omega
      have hkq : ¬ ((k : Int) < (k : Int)) := by omega
      obtain ⟨t0, t1⟩ := HOB.out k (by omega)
      have HTX := Lib.hid (HON.out k)
      obtain ⟨bO, oO, rfl, hbO, hcO⟩ := HO.out.2.2 (by omega)
      have HCO : Hid (∀ w', Below w1.heap.size w1 w' → w'.cell? ⟨bO, oO + k, none⟩ = some (.int .i64 (onT P k))) := fun w' hb => by
        rw [← HTX.out]
        exact cell_same (hb.block bO hbO) (hcO _ _ (intC_at O k (by have := HOL.out; omega)))
      clear hcO hbO
      generalize onT P k = t at *
      obtain ⟨m0, m1⟩ := mul_bd t0 t1 hf0 hf1
      generalize hx : t * f = x at *
      have w64 : IntKind.i64.wrap (t * f) = x := by rw [hx]; exact IntWalk.i64_in _ ⟨by omega, by omega⟩
      have HXT := Lib.hid hx
      clear hx
      have hml : acc.length + 1 ≤ maxLen := Nat.le_trans (show acc.length + 1 ≤ 100000 by omega) (by decide)
      have l0 := HCO.out _ HOw.out.low
      have hkk : (k : Int) < (k : Int) + 1 := by omega
      go_wp2_with (at_builtin; go_loud (refine wpList_append_own _ rfl _ _ 23 rfl w1.heap.size 3 i0 _ 1 8 Tryd.underlying23 ii1 ii2 ii3 ii4 rfl (by decide) (.slice A1 acc.length c1) acc.length _ rfl (HOw.out.own.alloc _) ⟨wr.heap.size, 0, none⟩ 1 1 [.int .i64 x] rfl rfl (World.news_of_block (heap_alloc_new wr (.cells #[.int .i64 x] 3))) (one_int _) hml (by omega) (by have := HOw.out.low.size; simp; omega) ?_))
      intro v' w3 hown' hgrow _
      obtain ⟨A4, c4, rfl, hO3⟩ := Own1.stepTp HOw.out (Below.refl _ _) rfl hown' hgrow
      have HO4 : Hid (Own1 w1 w3 3 1 A4 (stL f P).length c4 (intC (stL f P))) := by
        unfold Hid
        rw [HRES.out, ← HTk.out, List.length_append]
        unfold intC
        rw [List.map_append]
        exact hO3
      have HLR : Hid ((stL f P).length = acc.length + 1) := by
        unfold Hid
        rw [HRES.out, ← HTk.out]
        simp
      clear hown' hgrow hO3
      go_wp2_with (fail)
      go_ret
      exact ⟨A4, acc.length + 1, c4, rfl, HLR.out.symm, by rw [← HLR.out]; exact HO4.out.sl, bx (bt HB1.out HO4.out.low)⟩
end Go.Proofs.YtdhjigaocamglaaDoor
