/- Sound: the strings of a piece (strung, Strings), for any piece. -/
import Derived.Test.YtpcehgifpajmbaaGreatSndFn
import Derived.Test.YtpcehgifpajmbaaGreatShelf
import Derived.Maps.OwnOps
import Derived.Maps.OwnSet
import Derived.Maps.RangeWalk
import Derived.Sort.OwnSortedInts
import Derived.Shelf.Slices.In.SortNone
namespace Go.Proofs.YtpcehgifpajmbaaGreat
open Go Go.RowKit

/-- A call hands back strings, the end and an error. -/
def SgPost (T : List Nt) (en er : Int) (w : World) (e : Ending) (w' : World) : Prop :=
  ∃ B n d, e = .returned (.tuple #[.slice B n d, .int .i64 en, .int .i64 er]) ∧ n = T.length ∧ Sl w' w'.heap.size 5 B n d (ntC T) ∧ Below w.heap.size w w'

set_option maxRecDepth 100000 in
set_option maxHeartbeats 8000000 in
theorem strung_any (A : Option Addr) (n c : Nat) (A' : Option Addr) (m c' : Nat) (A2 : Option Addr) (q cq : Nat) (C : List Cr) (S : List Int) (P : List EvP) (w : World) (hP : PcIn w A n c A' m c' A2 q cq C S P) (hnb : n ≤ 1000000) (hmb : m ≤ 1000000) (hq : q ≤ 65536) (hst : ∀ y ∈ P, y.L.length ≤ 1000000) :
    Calls Tryz.prog 20 #[pcV A n c A' m c' A2 q cq] w (SgPost (stL C S P) (endT C S P) (pcErr C S P) w) := by
  have HPY := Lib.hid (play_any A n c A' m c' A2 q cq C S P _ (hP.below (ba w (pcO A n c A' m c' A2 q cq))) hnb hmb hq hst)
  unfold PyPost at HPY
  unfold SgPost
  have HCR : Hid (∀ w', Below w.heap.size w w' → Sl w' w'.heap.size 3 A n c (crC C)) := fun w' hb => hP.crs.below hb
  have HN := Lib.hid hP.hn
  have HLL := Lib.hid (pyL_len C S P)
  have HE : Hid (ntL C S P = (pyL C S P).map fun x => x.t) := rfl
  have HSL : Hid (stL C S P = (ntL C S P).flatMap (stOf C)) := rfl
  have HOK := Lib.hid (ntL_ok C S P)
  have HLN := Lib.hid (ntL_len C S P)
  have HZ : Hid (pcErr C S P ≠ 0 → ntL C S P = []) := ntL_none
  have HEN : Hid (endT C S P = if pcErr C S P = 0 then onAt (onsL C S P) ((onsL C S P).length - 1) else 0) := rfl
  have HOL : Hid (pcErr C S P = 0 → 0 < (onsL C S P).length ∧ (onsL C S P).length ≤ 100000) := fun h => by
    unfold onsL
    rw [if_pos h]
    have := (pcErr_ok h).2.1
    simp [sumL_len, frcL_len]
    omega
  obtain ⟨i0, ii1, ii2, ii3, ii4⟩ := info_parts (show (Tryz.prog.info? 52).map (fun i => (i.zero, i.size, i.bytes)) = some (some (.agg #[.int .i64 0, .int .i64 0, .int .i64 0, .int .i64 0, .int .i64 0]), 5, 40) by kernel_rfl)
  clear hP hst
  generalize pyL C S P = T at *
  generalize stL C S P = V at *
  generalize ntL C S P = U at *
  generalize endT C S P = en at *
  generalize onsL C S P = O at *
  generalize pcErr C S P = X at *
  by_cases hX : X = 0
  · subst hX
    have HEN2 : Hid (en = onAt O (O.length - 1)) := by unfold Hid; rw [HEN.out, if_pos rfl]
    have HOL2 := Lib.hid (HOL.out rfl)
    clear HEN HOL HZ
    go_enter Tryz.func20, Tryz.ntmps20
    go_wp2_with (first
      | (go_at_call 18; refine HPY.out.mono ?_; rintro e w1 ⟨A1, n1, c1, B1, m1, d1, rfl, hn1, hm1, hA1, hB1, hb1⟩; have HNA := Lib.hid (And.intro hn1 hA1); have HMB := Lib.hid (And.intro hm1 hB1); have HB1 := Lib.hid hb1; clear hn1 hm1 hA1 hB1 hb1)
      | (go_at_call 19; refine (notesOf_any A1 n1 c1 T _ HNA.out.2 HNA.out.1 (by have := HNA.out.1; have := HLL.out; omega)).mono ?_; rintro e w2 ⟨B2, d2, rfl, hs2, hb2⟩))
    have HS2 := Lib.hid hs2
    have HB2 := Lib.hid (bt HB1.out hb2)
    have HO2 := Lib.hid (HMB.out.2.below hb2)
    have HN1 : Hid (n1 = U.length) := by unfold Hid; rw [HE.out, List.length_map]; exact HNA.out.1
    have hn1b : n1 ≤ 5600 := by have := HN1.out; have := HLN.out; omega
    have HM1 := Lib.hid HMB.out.1
    rw [← HE.out] at HS2
    clear hs2 hb2 HNA HMB HLL HB1
    go_loopw [21, 2] (fun i l wr => ∃ (k : Nat) (acc : List Nt) (A3 : Option Addr) (c3 : Nat), k ≤ n1 ∧ i = .int .i64 k ∧ l = .slice A3 acc.length c3 ∧ Own1 w2 wr 52 5 A3 acc.length c3 (ntC acc) ∧ V = acc ++ (U.drop k).flatMap (stOf C) ∧ acc.length ≤ 2 * k) (fun i _ _ => n1 - (intOf i).toNat)
    case atStart => exact ⟨0, [], none, 0, by omega, rfl, rfl, Own1.start (Below.refl _ _) _ _, HSL.out, by simp⟩
    case round =>
      obtain ⟨k, acc, A3, c3, hk, rfl, rfl, hO, hV, hlen⟩ := hrel
      have HO := Lib.hid hO
      have HV := Lib.hid hV
      have HW : Hid (Below (w.alloc (pcO A n c A' m c' A2 q cq)).heap.size (w.alloc (pcO A n c A' m c' A2 q cq)) wr) := bt HB2.out hO.low
      obtain ⟨p0, p1, p2⟩ := cell3 HW.out
      have hzw : w.heap.size < wr.heap.size := by have := HW.out.size; simp at this; omega
      clear hO hV p1 p2
      by_cases hlt : k < n1
      · have hkn : (k : Int) < (n1 : Int) := by omega
        obtain ⟨b, off, rfl, hb, hc⟩ := (HS2.out.below HO.out.low).2.2 (by omega)
        obtain ⟨j0, j1, j2, j3, j4⟩ := ntC_at U k (by have := HN1.out; omega)
        have a0 := hc _ _ j0
        have a1 := hc _ _ j1
        have a2 := hc _ _ j2
        have a3 := hc _ _ j3
        have a4 := hc _ _ j4
        rw [← Nat.add_assoc] at a1 a2 a3 a4
        have hkU : k < U.length := by have := HN1.out; omega
        have hxo : NtOk C (U.getD k zNt) := HOK.out _ (by have e : U.getD k zNt = U[k] := by simp [List.getElem?_eq_getElem hkU]
                                                          rw [e]; exact List.getElem_mem hkU)
        have HONE := Lib.hid (st_one HV.out hkU)
        have HTWO := Lib.hid (st_two HV.out hkU)
        clear hc j0 j1 j2 j3 j4 hb hkU
        generalize U.getD k zNt = x at *
        obtain ⟨xe, xc, xp, xf, xt⟩ := x
        obtain ⟨y1, y2, y3, y4, y5⟩ := hxo
        dsimp only at a0 a1 a2 a3 a4 y1 y2 y3 y4 y5
        have HY5 := Lib.hid y5
        clear y5
        obtain ⟨cn, rfl⟩ : ∃ cn : Nat, xc = (cn : Int) + 1 := ⟨(xc - 1).toNat, by omega⟩
        have hcn : cn < C.length := by omega
        have hcn2 : (cn : Int) < (n : Int) := by have := HN.out; omega
        have HT : Hid (((cn : Int) + 1 - 1).toNat = cn) := by unfold Hid; omega
        obtain ⟨cb, co, rfl, hcb, hcc⟩ := (HCR.out w (Below.refl _ _)).2.2 (by have := HN.out; omega)
        obtain ⟨_, _, l2⟩ := crC_at C cn hcn
        have hoc := hcc _ _ l2
        rw [← Nat.add_assoc] at hoc
        have HOC : Hid (∀ w', Below w.heap.size w w' → w'.cell? ⟨cb, co + cn * 3 + 2, none⟩ = some (.bool (C.getD cn z0).o)) := fun w' h => cell_same (h.block cb hcb) hoc
        clear hcc l2 hoc hcn y1 y2
        have D1 := World.news_of_block (heap_alloc_new (wr.alloc (.cells #[.int .i64 xe, .int .i64 ((cn : Int) + 1), .int .i64 xp, .int .i64 xf, .int .i64 xt] 52)) (.cells #[.int .i64 xe, .int .i64 ((cn : Int) + 1), .int .i64 xp, .int .i64 xf, .int .i64 xt] 52))
        rw [World.size_alloc] at D1
        have D := Lib.hid (And.intro D1 (one5 xe ((cn : Int) + 1) xp xf xt))
        clear D1
        have hml : acc.length + 1 ≤ maxLen := Nat.le_trans (show acc.length + 1 ≤ 100000 by omega) (by decide)
        have HTOK : Hid True := trivial
        go_wp2_with (at_builtin; refine wpList_append_own_at _ rfl _ _ 46 rfl w2.heap.size 52 i0 _ 5 40 Tryz.underlying46 ii1 ii2 ii3 ii4 rfl (by decide) (.slice A3 acc.length c3) acc.length _ rfl ((HO.out.own.alloc _).alloc _) ⟨wr.heap.size + 1, 0, none⟩ 1 1 [.int .i64 xe, .int .i64 ((cn : Int) + 1), .int .i64 xp, .int .i64 xf, .int .i64 xt] rfl rfl D.out.1 D.out.2 hml (by omega) (by have := HO.out.low.size; simp; omega) ?_)
        intro v' w3 hown' hgrow _ hloc
        obtain ⟨A4, c4, rfl, hO3, _⟩ := Own1.step HO.out (ba wr _) rfl hown' hgrow
        have hgl : ∀ g, (Value.slice A3 acc.length c3).ownBlock = some g → g < wr.heap.size := fun g h => (HO.out.own.lt g h).2
        have hk3 : Blk w3 wr.heap.size 52 #[.int .i64 xe, .int .i64 ((cn : Int) + 1), .int .i64 xp, .int .i64 xf, .int .i64 xt] := Blk.grown (Blk.below (show Blk (wr.alloc (.cells #[.int .i64 xe, .int .i64 ((cn : Int) + 1), .int .i64 xp, .int .i64 xf, .int .i64 xt] 52)) wr.heap.size 52 #[.int .i64 xe, .int .i64 ((cn : Int) + 1), .int .i64 xp, .int .i64 xf, .int .i64 xt] from heap_alloc_new wr _) (ba _ _)) hgrow (fun e => by have := hgl _ e.symm; omega)
        have hne4 : ∀ g, (Value.slice A4 (acc.length + 1) c4).ownBlock = some g → g ≠ wr.heap.size := by
          intro g hg
          rcases hloc with h | h
          · rw [h] at hg
            have := hgl g hg
            omega
          · rw [h] at hg
            simp at hg
            omega
        have HO3 := Lib.hid hO3
        have HK3 := Lib.hid hk3
        have HNE := Lib.hid hne4
        have HW3 : Hid (Below (w.alloc (pcO (some ⟨cb, co, none⟩) n c A' m c' A2 q cq)).heap.size (w.alloc (pcO (some ⟨cb, co, none⟩) n c A' m c' A2 q cq)) w3) := bt HB2.out hO3.low
        have hzr : w2.heap.size ≤ wr.heap.size := HO.out.low.size
        have z1 := hk3.cell 1
        have z2 := hk3.cell 2
        have f2 := hk3.frozen 2
        have hz3 := hk3.lt
        simp at z1 z2
        have o3 := HOC.out w3 (bx HW3.out)
        clear hown' hgrow hloc hO3 hk3 hgl hne4 p0 a0 a1 a2 a3 a4
        obtain ⟨p0, _, _⟩ := cell3 HW3.out
        cases ho : (C.getD cn z0).o with
        | false =>
          rw [ho] at o3
          have HX := Lib.hid (HONE.out (by show (C.getD ((cn : Int) + 1 - 1).toNat z0).o = _; rw [HT.out]; exact ho))
          clear ho
          have HO4 : Hid (Own1 w2 w3 52 5 A4 (acc ++ [(⟨xe, (cn : Int) + 1, xp, xf, xt⟩ : Nt)]).length c4 (ntC (acc ++ [(⟨xe, (cn : Int) + 1, xp, xf, xt⟩ : Nt)]))) := by
            unfold Hid
            rw [ntC_snoc, List.length_append]
            exact HO3.out
          go_wp2_with (fail)
          go_roundw
          case rel => exact ⟨k + 1, _, A4, c4, by omega, by first | rfl | go_num, by simp, HO4.out, HX.out, by simp; omega⟩
          case measure => simp [intOf]; omega
        | true =>
          rw [ho] at o3
          have hp12 : xp + 12 ≤ 127 := HY5.out (by rw [HT.out]; exact ho)
          have HX := Lib.hid (HTWO.out (by show (C.getD ((cn : Int) + 1 - 1).toNat z0).o = _; rw [HT.out]; exact ho))
          have hw12 : IntKind.i64.wrap (xp + 12) = xp + 12 := IntWalk.i64_in _ ⟨by omega, by omega⟩
          clear ho
          have HO5 : Hid (Own1 w2 (w3.setCell ⟨wr.heap.size, 2, none⟩ (.int .i64 (xp + 12))) 52 5 A4 (acc.length + 1) c4 (ntC acc ++ [.int .i64 xe, .int .i64 ((cn : Int) + 1), .int .i64 xp, .int .i64 xf, .int .i64 xt])) :=
            ⟨ownsRow_heap HO3.out.own (fun g hg => set_other _ _ _ _ _ (HNE.out g hg)), HO3.out.low.setCell hzr _⟩
          have HK5 := Lib.hid (HK3.out.set_ 2 (.int .i64 (xp + 12)))
          have y0 := HK5.out.cell 0
          have y1 := HK5.out.cell 1
          have y2 := HK5.out.cell 2
          have y3 := HK5.out.cell 3
          have y4 := HK5.out.cell 4
          simp at y0 y1 y2 y3 y4
          have hze : (w3.setCell ⟨wr.heap.size, 2, none⟩ (.int .i64 (xp + 12))).heap.size = w3.heap.size := by simp
          have D1 := World.news_of_block (heap_alloc_new (w3.setCell ⟨wr.heap.size, 2, none⟩ (.int .i64 (xp + 12))) (.cells #[.int .i64 xe, .int .i64 ((cn : Int) + 1), .int .i64 (xp + 12), .int .i64 xf, .int .i64 xt] 52))
          rw [hze] at D1
          have D3 := Lib.hid (And.intro D1 (one5 xe ((cn : Int) + 1) (xp + 12) xf xt))
          clear D1 hze
          have hml2 : acc.length + 1 + 1 ≤ maxLen := Nat.le_trans (show acc.length + 1 + 1 ≤ 100000 by omega) (by decide)
          go_wp2_with (at_builtin; refine wpList_append_own _ rfl _ _ 46 rfl w2.heap.size 52 i0 _ 5 40 Tryz.underlying46 ii1 ii2 ii3 ii4 rfl (by decide) (.slice A4 (acc.length + 1) c4) (acc.length + 1) _ rfl (HO5.out.own.alloc _) ⟨w3.heap.size, 0, none⟩ 1 1 [.int .i64 xe, .int .i64 ((cn : Int) + 1), .int .i64 (xp + 12), .int .i64 xf, .int .i64 xt] rfl rfl D3.out.1 D3.out.2 hml2 (by omega) (by have := HO5.out.low.size; simp at this ⊢; omega) ?_)
          intro v' w6 hown' hgrow _
          obtain ⟨A6, c6, rfl, hO6, _⟩ := Own1.step (news := [.int .i64 xe, .int .i64 ((cn : Int) + 1), .int .i64 (xp + 12), .int .i64 xf, .int .i64 xt]) HO5.out (Below.refl _ _) rfl (by rw [List.append_assoc]; exact hown') hgrow
          have HO6 : Hid (Own1 w2 w6 52 5 A6 (acc ++ [(⟨xe, (cn : Int) + 1, xp, xf, xt⟩ : Nt)] ++ [(⟨xe, (cn : Int) + 1, xp + 12, xf, xt⟩ : Nt)]).length c6 (ntC (acc ++ [(⟨xe, (cn : Int) + 1, xp, xf, xt⟩ : Nt)] ++ [(⟨xe, (cn : Int) + 1, xp + 12, xf, xt⟩ : Nt)]))) := by
            unfold Hid
            rw [ntC_snoc, ntC_snoc, List.length_append, List.length_append]
            exact hO6
          clear hown' hgrow hO6 y0 y1 y2 y3 y4 z1 z2 f2 o3
          go_wp2_with (fail)
          go_roundw
          case rel => exact ⟨k + 1, _, A6, c6, by omega, by first | rfl | go_num, by simp, HO6.out, HX.out, by simp; omega⟩
          case measure => simp [intOf]; omega
      · have hkn : ¬ ((k : Int) < (n1 : Int)) := by omega
        have HVZ : Hid (V = acc) := by
          unfold Hid
          rw [HV.out, List.drop_of_length_le (by have := HN1.out; omega)]
          simp
        have hm1 : 0 < m1 := by have := HM1.out; have := HOL2.out; omega
        have hm1b : m1 ≤ 100000 := by have := HM1.out; have := HOL2.out; omega
        obtain ⟨ob, oo, rfl, hob, hoc⟩ := (HO2.out.below HO.out.low).2.2 (by omega)
        have o0 := hoc _ _ (intC_at O (m1 - 1) (by have := HM1.out; omega))
        have HEQ : Hid (O.getD (m1 - 1) 0 = en) := by unfold Hid; rw [HEN2.out, HM1.out]; rfl
        rw [HEQ.out] at o0
        have hmi : (m1 : Int) - 1 = ((m1 - 1 : Nat) : Int) := by omega
        have hmw : IntKind.i64.wrap ((m1 : Int) - 1) = ((m1 - 1 : Nat) : Int) := by rw [hmi]; exact IntWalk.i64_in _ ⟨by omega, by omega⟩
        have hlast : ((m1 - 1 : Nat) : Int) < (m1 : Int) := by omega
        clear hoc hob hmi
        go_wp2_with (fail)
        go_quiet (fail)
        go_wp2_with (fail)
        go_ret3
        exact ⟨A3, _, c3, rfl, by rw [HVZ.out], by rw [HVZ.out]; exact HO.out.sl, bd (bx HW.out) _⟩
  · have hXb : (X != 0) = true := by simpa using hX
    have HV0 : Hid (V = []) := by unfold Hid; rw [HSL.out, HZ.out hX]; rfl
    have HE0 : Hid (en = 0) := by unfold Hid; rw [HEN.out, if_neg hX]
    clear hX HZ HEN
    go_enter Tryz.func20, Tryz.ntmps20
    go_wp2_with (go_at_call 18; refine HPY.out.mono ?_; rintro e w1 ⟨A1, n1, c1, B1, m1, d1, rfl, hn1, hm1, hA1, hB1, hb1⟩; clear hn1 hm1 hA1 hB1)
    go_ret3
    exact ⟨none, 0, 0, by rw [HE0.out]; rfl, by rw [HV0.out]; rfl, by rw [HV0.out]; exact Sl.none_ _ _ _, bx hb1⟩

end Go.Proofs.YtpcehgifpajmbaaGreat

/- Sound: the pitches that sound at a time (sounds, pitchesAt, At), for any piece. -/
namespace Go.Proofs.YtpcehgifpajmbaaGreat
open Go Go.RowKit Go.Maps Go.Sort

def sndB (x : Nt) (t : Int) : Bool := decide (x.fm ≤ t) && decide (t < x.to)
/-- The different pitches that sound at a time, ascending. -/
def psL (T : List Nt) (t : Int) : List Int := ((List.range 128).map fun (k : Nat) => (k : Int)).filter fun p => T.any fun x => sndB x t && decide (x.p = p)
abbrev ntV (x : Nt) : Value := .agg #[.int .i64 x.ev, .int .i64 x.c, .int .i64 x.p, .int .i64 x.fm, .int .i64 x.to]
set_option maxHeartbeats 1600000 in
theorem sounds_any (xe xc xp xf xt : Int) (t : Int) (w : World) : Calls Tryz.prog 36 #[.agg #[.int .i64 xe, .int .i64 xc, .int .i64 xp, .int .i64 xf, .int .i64 xt], .int .i64 t] w fun e w' => e = .returned (.bool (sndB ⟨xe, xc, xp, xf, xt⟩ t)) ∧ Below w.heap.size w w' := by
  have HS : Hid (sndB ⟨xe, xc, xp, xf, xt⟩ t = (decide (xf ≤ t) && decide (t < xt))) := rfl
  by_cases h : xf ≤ t
  · go_enter Tryz.func36, Tryz.ntmps36
    go_wp2_with (fail)
    go_ret
    exact ⟨ret_b (by rw [HS.out]; simp; omega), ba _ _⟩
  · go_enter Tryz.func36, Tryz.ntmps36
    go_wp2_with (fail)
    go_ret
    exact ⟨ret_b (by rw [HS.out]; simp; omega), ba _ _⟩

/-- The numbers met so far, of a map keyed by numbers. -/
def ColI {H : Type} (D0 : DataW H) (left : Lit → Bool) (ss : List Int) : Prop := ss.Nodup ∧ ∀ x, x ∈ ss ↔ (has D0 (.int .i64 x) = true ∧ left (.int .i64 x) = false)
theorem ColI.start {H : Type} (D0 : DataW H) : ColI D0 (has D0) [] := ⟨List.nodup_nil, fun x => by cases has D0 (.int .i64 x) <;> simp⟩
theorem ColI.step {H : Type} {D0 : DataW H} {left : Lit → Bool} {ss : List Int} (h : ColI D0 left ss) {x : Int} {y : DataW H} (hlk : left (.int .i64 x) = true) (hat : ∀ zd, D0.atKey (.int .i64 x) zd = y) : ColI D0 (fun z => left z && !z.sameKey (.int .i64 x)) (ss ++ [x]) := by
  have hhas : has D0 (.int .i64 x) = true := has_true_of_atKey hat
  have hnew : x ∉ ss := fun hx => by have := ((h.2 x).1 hx).2; rw [hlk] at this; cases this
  refine ⟨List.nodup_append.2 ⟨h.1, by simp, fun a ha b hb => by simp at hb; subst hb; exact fun e => hnew (e ▸ ha)⟩, fun y => ?_⟩
  by_cases hy : y = x
  · subst hy; simp [hhas, Lit.sameKey]
  · simp [h.2 y, hy, Lit.sameKey]
theorem plainElem_bool_inv {H : Type} {P : Program} {e : TypeId} (he : P.underlying e = some .bool) {v : Value} {z : DataW H × List MemPlace} (h : plainElem P e v = some z) : ∃ c, v = .bool c := by
  cases v <;> simp [plainElem, he] at h
  exact ⟨_, rfl⟩
def kyL (T : List Nt) (t : Int) : List Lit := (T.filter fun x => sndB x t).map fun x => .int .i64 x.p
theorem kyL_succ (T : List Nt) (t : Int) {k : Nat} (h : k < T.length) : kyL (T.take (k + 1)) t = if sndB (T.getD k zNt) t then kyL (T.take k) t ++ [.int .i64 (T.getD k zNt).p] else kyL (T.take k) t := by
  have e : T.take (k + 1) = T.take k ++ [T.getD k zNt] := by rw [List.take_add_one]; simp [List.getElem?_eq_getElem h]
  rw [e, kyL, kyL, List.filter_append]
  generalize T.getD k zNt = z
  by_cases hs : sndB z t
  · rw [if_pos hs]; simp [hs]
  · rw [if_neg hs]; simp [hs]
theorem kyL_has (T : List Nt) (t : Int) (u : DataW Unit) (x : Int) : has (setOf u (kyL T t)) (.int .i64 x) = T.any fun s => sndB s t && decide (s.p = x) := by
  rw [has_setOf]
  · unfold kyL
    rw [List.any_map, List.any_filter]
    congr 1
    funext s
    simp [Lit.sameKey]
  · intro l hl
    obtain ⟨s, hs, rfl⟩ := List.mem_map.1 hl
    trivial
theorem psL_of {T : List Nt} {t : Int} (hT : ∀ x ∈ T, 0 ≤ x.p ∧ x.p ≤ 127) {ss : List Int} (h1 : ss.Nodup) (h2 : ∀ x, x ∈ ss ↔ (T.any fun s => sndB s t && decide (s.p = x)) = true) : ss.mergeSort (fun x y => decide (x ≤ y)) = psL T t := by
  have tr : ∀ a b c : Int, decide (a ≤ b) = true → decide (b ≤ c) = true → decide (a ≤ c) = true := fun a b c h1 h2 => by simp at *; omega
  have to : ∀ a b : Int, (decide (a ≤ b) || decide (b ≤ a)) = true := fun a b => by simp; omega
  have hp : (psL T t).Pairwise (fun a b => a < b) := by
    unfold psL
    refine List.Pairwise.filter _ (List.pairwise_map.2 ?_)
    exact (List.pairwise_lt_range (n := 128)).imp (by intro a b h; omega)
  refine List.Perm.eq_of_pairwise (le := fun a b => decide (a ≤ b) = true) (fun a b _ _ h1 h2 => by simp at *; omega) (List.pairwise_mergeSort tr to ss) (hp.imp (by intro a b h; simp; omega)) ?_
  refine (List.mergeSort_perm ss _).trans ((List.perm_ext_iff_of_nodup h1 (hp.imp (by intro a b h; omega))).2 fun x => ?_)
  rw [h2 x]
  unfold psL
  rw [List.mem_filter]
  refine ⟨fun h => ⟨?_, h⟩, fun h => h.2⟩
  obtain ⟨s, hs, hx⟩ := List.any_eq_true.1 h
  simp at hx
  have := hT s hs
  rw [List.mem_map]
  exact ⟨x.toNat, by rw [List.mem_range]; omega, by omega⟩

theorem getD_memN {T : List Nt} {k : Nat} (h : k < T.length) : T.getD k zNt ∈ T := by
  have e : T.getD k zNt = T[k] := by simp [List.getElem?_eq_getElem h]
  rw [e]
  exact List.getElem_mem h
theorem ownsMap_below {H : Type} {P : Program} {k : TypeId} {R : Value → Option (DataW H × List MemPlace)} {w w' : World} {b n : Nat} {D : DataW H} (h : w.ownsMap P k R b n D) (hb : Below w.heap.size w w') : w'.ownsMap P k R b n D := by
  have hl := h.lt
  obtain ⟨es, clock, h1, h2⟩ := h
  exact ⟨es, clock, (hb.block b hl).trans h1, h2⟩
theorem Tryz.keyed3 : Keyed Tryz.prog 3 := int_keyed Tryz.underlying3
theorem intC_eq (S : List Int) : intC S = S.map (Value.int .i64) := rfl

set_option maxRecDepth 100000 in
set_option maxHeartbeats 4000000 in
theorem pitchesAt_own (A : Option Addr) (n c : Nat) (T : List Nt) (t : Int) (w : World) (hA : Sl w w.heap.size 5 A n c (ntC T)) (hn : n = T.length) (hlim : n ≤ 100000) (hT : ∀ x ∈ T, 0 ≤ x.p ∧ x.p ≤ 127) :
    Calls Tryz.prog 21 #[.slice A n c, .int .i64 t] w fun e w' => ∃ B m d, e = .returned (.slice B m d) ∧ m = (psL T t).length ∧ Ow w' w.heap.size 3 1 B m d (intC (psL T t)) ∧ Below w.heap.size w w' := by
  have HA : Hid (∀ w', Below w.heap.size w w' → Sl w' w'.heap.size 5 A n c (ntC T)) := fun w' hb => hA.below hb
  have HN := Lib.hid hn
  have HT := Lib.hid hT
  have HTK : Hid (T.take n = T) := by unfold Hid; rw [hn]; exact List.take_length
  have hmm := @run_makeMap Tryz.prog
  obtain ⟨i0, ii1, ii2, ii3, ii4⟩ := info_parts Tryz.info3'
  clear hA hn hT
  go_enter Tryz.func21, Tryz.ntmps21
  go_wp2_with (fail)
  go_loopw [13] (fun i wr => ∃ k : Nat, k ≤ n ∧ i = .int .i64 k ∧ wr.ownsMap Tryz.prog 3 (plainElem (H := Unit) Tryz.prog 4) w.heap.size k (setOf (.lit (.bool true)) (kyL (T.take k) t)) ∧ Below w.heap.size w wr) (fun i _ => n - (intOf i).toNat)
  case atStart => exact ⟨0, by omega, rfl, World.ownsMap_made _ _ _ _, ba _ _⟩
  case round =>
    obtain ⟨k, hk, rfl, hown, hbw⟩ := hrel
    have HOW := Lib.hid hown
    have HB := Lib.hid hbw
    have hgl := hown.lt
    clear hown hbw
    by_cases hlt : k < n
    · have hkn : (k : Int) < (n : Int) := by omega
      obtain ⟨b, off, rfl, hb, hc⟩ := (HA.out _ HB.out).2.2 (by omega)
      obtain ⟨j0, j1, j2, j3, j4⟩ := ntC_at T k (by have := HN.out; omega)
      have a0 := hc _ _ j0
      have a1 := hc _ _ j1
      have a2 := hc _ _ j2
      have a3 := hc _ _ j3
      have a4 := hc _ _ j4
      rw [← Nat.add_assoc] at a1 a2 a3 a4
      have hkT : k < T.length := by have := HN.out; omega
      have HKY := Lib.hid (kyL_succ T t hkT)
      have hpb : 0 ≤ (T.getD k zNt).p ∧ (T.getD k zNt).p ≤ 127 := HT.out _ (getD_memN hkT)
      clear hc j0 j1 j2 j3 j4 hb hkT
      generalize T.getD k zNt = x at *
      obtain ⟨xe, xc, xp, xf, xt⟩ := x
      dsimp only at a0 a1 a2 a3 a4 hpb
      have hkey : keyOf Tryz.prog 3 (.int .i64 xp) = some (.int .i64 xp) := keyOf_int_mk Tryz.underlying3 (by refine WalkArith.wf_i64 ?_; omega)
      have HKEY := Lib.hid hkey
      clear hkey
      cases hs : sndB ⟨xe, xc, xp, xf, xt⟩ t with
      | true =>
        have HS := Lib.hid hs
        clear hs
        go_wp2_with (first
          | (go_at_call 36; refine (sounds_any xe xc xp xf xt t _).mono ?_; rintro e w2 ⟨rfl, hb2⟩; rw [HS.out]; obtain ⟨x0, x1, x2, x3, x4⟩ := cell5 hb2; have HB2 := Lib.hid (bx hb2); have HOW2 := Lib.hid (ownsMap_below HOW.out (bx hb2)); clear hb2)
          | (at_mapUpdate; refine wpList_mapUpdate_own _ rfl _ _ _ 83 rfl 3 4 Tryz.keyed3 Tryz.underlying83 _ w.heap.size k _ rfl HOW2.out (by unfold maxLen; omega) _ _ _ rfl rfl HKEY.out _ [] (plainElem_bool Tryz.underlying4 true) ?_; intro w3 hown3 hgrow3))
        have HO3 : Hid (w3.ownsMap Tryz.prog 3 (plainElem (H := Unit) Tryz.prog 4) w.heap.size (k + 1) (setOf (.lit (.bool true)) (kyL (T.take (k + 1)) t))) := by
          unfold Hid
          rw [HKY.out, if_pos HS.out, setOf_snoc]
          exact hown3
        have HB3 : Hid (Below w.heap.size w w3) := Below.grown (bt HB.out HB2.out) hgrow3 (bt HB.out HB2.out).size (fun j hj => by cases hj; exact Nat.le_refl _)
        clear hown3 hgrow3
        go_wp2_with (fail)
        go_roundw
        case rel => exact ⟨k + 1, by omega, by first | rfl | go_num, HO3.out, HB3.out⟩
        case measure => simp [intOf]; omega
      | false =>
        have HS := Lib.hid hs
        clear hs
        go_wp2_with (go_at_call 36; refine (sounds_any xe xc xp xf xt t _).mono ?_; rintro e w2 ⟨rfl, hb2⟩; rw [HS.out]; have HB2 := Lib.hid (bx hb2); clear hb2)
        have HO3 : Hid (w2.ownsMap Tryz.prog 3 (plainElem (H := Unit) Tryz.prog 4) w.heap.size (k + 1) (setOf (.lit (.bool true)) (kyL (T.take (k + 1)) t))) := by
          unfold Hid
          rw [HKY.out, if_neg (by rw [HS.out]; simp)]
          exact (ownsMap_below HOW.out HB2.out).mono (by omega)
        go_roundw
        case rel => exact ⟨k + 1, by omega, by first | rfl | go_num, HO3.out, bt HB.out HB2.out⟩
        case measure => simp [intOf]; omega
    · obtain rfl : k = n := by omega
      have HOWN : Hid (wr.ownsMap Tryz.prog 3 (plainElem (H := Unit) Tryz.prog 4) w.heap.size k (setOf (.lit (.bool true)) (kyL T t))) := by have := HOW.out; rwa [HTK.out] at this
      have HHAS := Lib.hid (kyL_has T t (.lit (.bool true)))
      have HSZ := Lib.hid HOWN.out.size_le
      clear HA HTK HOW
      generalize setOf (.lit (.bool true)) (kyL T t) = D at *
      go_wp2_with (at_range; refine wpList_range_own _ rfl _ 83 rfl 3 4 Tryz.keyed3 Tryz.underlying83 _ w.heap.size k _ rfl HOWN.out ?_; intro w0 hrg0 hg0 hs0)
      go_frame
      have HRG0 := Lib.hid hrg0
      have HB0 : Hid (Below w.heap.size w w0) := Below.grown HB.out hg0 HB.out.size (fun j hj => by cases hj)
      clear hrg0 hg0 hs0
      obtain ⟨wo, rfl⟩ : ∃ wo : World, wo = wr := ⟨_, rfl⟩
      go_loopw [8, 9] (fun v _ wr2 => ∃ (left : Lit → Bool) (cnt : Nat) (ss : List Int), wr2.ranges Tryz.prog 3 (plainElem (H := Unit) Tryz.prog 4) w.heap.size wo.heap.size k D left cnt ∧ ss.length + cnt ≤ Maps.size D ∧ wr2.ownsRow (w.heap.size + 1) 3 1 v ss.length (ss.map (Value.int .i64)) ∧ ColI D left ss ∧ Below w.heap.size w wr2) (fun _ _ wr2 => wr2.rangeLeft w.heap.size wo.heap.size)
      case atStart => exact ⟨_, _, [], HRG0.out, by simp, World.ownsRow_nil _ _ _ _, ColI.start D, HB0.out⟩
      case round =>
        obtain ⟨left, cnt, ss, hrg, hcs, hrow, hC, hbw⟩ := hrel
        have HRG := Lib.hid hrg
        have HROW := Lib.hid hrow
        have HC := Lib.hid hC
        have HBW := Lib.hid hbw
        have hcs2 : ss.length + cnt ≤ 100000 := by have := HSZ.out; omega
        have HCS := Lib.hid hcs
        clear hrg hrow hC hbw hcs
        go_wp2_with (at_next; go_loud (refine wpList_next_ranges _ rfl _ rfl 3 Tryz.keyed3 (plainElem (H := Unit) Tryz.prog 4) (Value.int .i64) Value.bool (fun key kl hk => by obtain ⟨x, hx, _⟩ := Maps.keyOf_int_inv Tryz.underlying3 hk; exact ⟨x, hx⟩) (fun u y hv => plainElem_bool_inv Tryz.underlying4 hv) w.heap.size wo.heap.size k _ _ _ rfl HRG.out ?_ ?_))
        · intro _ hl0
          have hss : ∀ x, x ∈ ss ↔ (T.any fun s => sndB s t && decide (s.p = x)) = true := fun x => by rw [HC.out.2 x, hl0, HHAS.out x]; simp
          have HPS := Lib.hid (psL_of HT.out HC.out.1 hss)
          have HPL : Hid ((psL T t).length = ss.length) := by unfold Hid; rw [← HPS.out, List.length_mergeSort]
          rcases HROW.out.2 with ⟨hnil, h0⟩ | ⟨g, cap, cur, hv, hbase, hb, h1, h2, h3, h4⟩
          · subst hnil
            obtain rfl : ss = [] := List.length_eq_zero_iff.1 h0
            go_wp2_with (go_at_call 37; refine (Any.slices_Sort_int_none Tryz.lays189 none 0 _).mono ?_; rintro e w' ⟨rfl, rfl⟩)
            go_ret
            refine ⟨none, 0, 0, rfl, HPL.out.symm, ?_, HBW.out⟩
            rw [List.length_eq_zero_iff.1 HPL.out]
            exact ⟨Nat.le_refl _, rfl, fun h => absurd h (by omega)⟩
          · subst hv
            have hH : Holds (Value.int .i64) wr g 0 ss.toArray := holds_of_blockI hb (by simpa using h4)
            have hgl : g < wr.heap.size := (Array.getElem?_eq_some_iff.1 hb).1
            have HSORT := Lib.hid (Tryz.slices_Sort_int g 0 cap ss wr hH hgl (by omega))
            have HQ := Lib.hid (And.intro hb (And.intro h1 (And.intro h2 (And.intro h3 hbase))))
            clear hb h1 h2 h3 h4 hH hbase
            go_wp2_with (go_at_call 37; refine HSORT.out.mono ?_; rintro e w' ⟨rfl, nn, os, rfl⟩)
            go_ret
            obtain ⟨hb, h1, h2, h3, hbase⟩ := HQ.out
            refine ⟨some ⟨g, 0, none⟩, ss.length, cap, rfl, HPL.out.symm, ?_, Below.grown HBW.out (grownBy_sortedI _) HBW.out.size (fun j hj => by cases hj; omega)⟩
            have hs := (Ow.of_own (ownsRow_sortedI (os := os) (n := nn) (ts := ss.mergeSort fun x y => decide (x ≤ y)) (by simp) hbase hb h1 h2 h3)).more (B' := w.heap.size) (by omega)
            rw [intC_eq, ← HPS.out]
            exact hs
        · intro x
          refine ⟨?_, ?_⟩
          all_goals (
            intro kl yd yp w2 cnt2 hkey hlk hv hat hrg2 hltc hg2 hs2 hen
            obtain ⟨_, ex, rfl, _⟩ := Maps.keyOf_int_inv Tryz.underlying3 hkey
            cases ex
            have hrow2 := HROW.out.kept hg2 (Or.inr (row_ne_iter HROW.out HRG.out).symm)
            have HR2 := Lib.hid (And.intro hrow2 hrg2)
            have HSTEP := Lib.hid (HC.out.step hlk hat)
            have HB2 : Hid (Below w.heap.size w w2) := Below.grown HBW.out hg2 HBW.out.size (fun j hj => by cases hj; exact HB.out.size)
            have hw2 : w.heap.size + 1 ≤ w2.heap.size := by
              have := HBW.out.size
              have := HRG.out.lt
              rw [hs2]
              omega
            have hml : ss.length + 1 ≤ maxLen := Nat.le_trans (show ss.length + 1 ≤ 100001 by omega) (by decide)
            have HLT := Lib.hid hltc
            clear hs2 hkey hlk hv hat hrg2 hrow2 hg2 hltc
            go_wp2_with (at_builtin; go_loud (refine wpList_append_own _ rfl _ _ 23 rfl (w.heap.size + 1) 3 i0 (.int .i64 0) 1 8 Tryz.underlying23 ii1 ii2 ii3 ii4 rfl (by decide) _ _ _ rfl (HR2.out.1.alloc _) ⟨w2.heap.size, 0, none⟩ 1 1 [.int .i64 x] rfl rfl (cell_one_new _ _ _) (by simp [Value.oneCell']) hml (by omega) (by simp; omega) ?_))
            intro v' w3 hown' hg3 _
            have hrg3 := (HR2.out.2.alloc _).kept hg3 (row_ne_low HR2.out.1 (Nat.lt_succ_self _)) (row_ne_iter HR2.out.1 HR2.out.2)
            have HB3 : Hid (Below w.heap.size w w3) := Below.grown (HB2.out.alloc HB2.out.size _) hg3 (HB2.out.alloc HB2.out.size _).size (fun j hj => by have := (HR2.out.1.lt j hj).1; omega)
            have HX3 := Lib.hid (And.intro hown' hrg3)
            clear hown' hg3 hrg3
            go_wp2_with (fail)
            go_roundw
            case rel => exact ⟨_, cnt2, ss ++ [x], HX3.out.2, by have := HCS.out; have := HLT.out; simp; omega, by have := HX3.out.1; simpa using this, HSTEP.out, HB3.out⟩
            case measure => rw [HX3.out.2.left_eq, HRG.out.left_eq]; exact HLT.out)

theorem pitchesAt_any (A : Option Addr) (n c : Nat) (T : List Nt) (t : Int) (w : World) (hA : Sl w w.heap.size 5 A n c (ntC T)) (hn : n = T.length) (hlim : n ≤ 100000) (hT : ∀ x ∈ T, 0 ≤ x.p ∧ x.p ≤ 127) :
    Calls Tryz.prog 21 #[.slice A n c, .int .i64 t] w fun e w' => ∃ B m d, e = .returned (.slice B m d) ∧ m = (psL T t).length ∧ Sl w' w'.heap.size 1 B m d (intC (psL T t)) ∧ Below w.heap.size w w' :=
  (pitchesAt_own A n c T t w hA hn hlim hT).mono fun _ _ ⟨B, m, d, h1, h2, h3, h4⟩ => ⟨B, m, d, h1, h2, h3.sl, h4⟩

end Go.Proofs.YtpcehgifpajmbaaGreat

/- Sound: At, for any piece and time. -/
namespace Go.Proofs.YtpcehgifpajmbaaGreat
open Go Go.RowKit

/-- A call hands back numbers and an error. -/
def NmPost (L : List Int) (er : Int) (w : World) (e : Ending) (w' : World) : Prop :=
  ∃ B n d, e = .returned (.tuple #[.slice B n d, .int .i64 er]) ∧ n = L.length ∧ Sl w' w'.heap.size 1 B n d (intC L) ∧ Below w.heap.size w w'
theorem nm_nil {er : Int} {w w' : World} (h : Below w.heap.size w w') : NmPost [] er w (.returned (.tuple #[.slice none 0 0, .int .i64 er])) w' := ⟨none, 0, 0, rfl, rfl, Sl.none_ _ _ _, h⟩
def atEr (C : List Cr) (S : List Int) (P : List EvP) (t : Int) : Int := if pcErr C S P ≠ 0 then pcErr C S P else if t < 0 ∨ endT C S P ≤ t then 1 else 0
def atLs (C : List Cr) (S : List Int) (P : List EvP) (t : Int) : List Int := if atEr C S P t = 0 then psL (stL C S P) t else []
theorem stL_ok (C : List Cr) (S : List Int) (P : List EvP) : ∀ x ∈ stL C S P, 0 ≤ x.p ∧ x.p ≤ 127 := by
  intro x hx
  obtain ⟨y, hy, hxy⟩ := List.mem_flatMap.1 hx
  obtain ⟨_, _, h1, h2, h3⟩ := ntL_ok C S P y hy
  unfold stOf at hxy
  split at hxy
  · rename_i ho
    have := h3 ho
    rcases List.mem_cons.1 hxy with rfl | hxy
    · exact ⟨h1, h2⟩
    · rcases List.mem_cons.1 hxy with rfl | hxy
      · dsimp only
        omega
      · cases hxy
  · rcases List.mem_cons.1 hxy with rfl | hxy
    · exact ⟨h1, h2⟩
    · cases hxy

set_option maxRecDepth 100000 in
set_option maxHeartbeats 1600000 in
theorem atS_any (A : Option Addr) (n c : Nat) (A' : Option Addr) (m c' : Nat) (A2 : Option Addr) (q cq : Nat) (C : List Cr) (S : List Int) (P : List EvP) (t : Int) (w : World) (hP : PcIn w A n c A' m c' A2 q cq C S P) (hnb : n ≤ 1000000) (hmb : m ≤ 1000000) (hq : q ≤ 65536) (hst : ∀ y ∈ P, y.L.length ≤ 1000000) :
    Calls Tryz.prog 12 #[pcV A n c A' m c' A2 q cq, .int .i64 t] w (NmPost (atLs C S P t) (atEr C S P t) w) := by
  have HSG := Lib.hid (strung_any A n c A' m c' A2 q cq C S P _ (hP.below (ba w (pcO A n c A' m c' A2 q cq))) hnb hmb hq hst)
  unfold SgPost at HSG
  unfold NmPost
  have HSO := Lib.hid (stL_ok C S P)
  have HSL := Lib.hid (stL_len C S P)
  have HE : Hid (atEr C S P t = if pcErr C S P ≠ 0 then pcErr C S P else if t < 0 ∨ endT C S P ≤ t then 1 else 0) := rfl
  have HL : Hid (atLs C S P t = if atEr C S P t = 0 then psL (stL C S P) t else []) := rfl
  clear hP hst
  generalize atEr C S P t = er at *
  generalize atLs C S P t = Z at *
  generalize stL C S P = T at *
  generalize endT C S P = en at *
  generalize pcErr C S P = X at *
  by_cases hX : X = 0
  · subst hX
    by_cases h0 : t < 0
    · have HEE : Hid (er = 1) := by unfold Hid; rw [HE.out, if_neg (by simp), if_pos (.inl h0)]
      have HLE : Hid (Z = []) := by unfold Hid; rw [HL.out, if_neg (by rw [HEE.out]; decide)]
      clear HE HL
      go_enter Tryz.func12, Tryz.ntmps12
      go_wp2_with (go_at_call 20; refine HSG.out.mono ?_; rintro e w1 ⟨B, n1, d, rfl, hn1, hs1, hb1⟩; clear hn1 hs1)
      go_ret2
      rw [HEE.out, HLE.out]
      exact nm_nil (bx hb1)
    · by_cases h1 : en ≤ t
      · have HEE : Hid (er = 1) := by unfold Hid; rw [HE.out, if_neg (by simp), if_pos (.inr h1)]
        have HLE : Hid (Z = []) := by unfold Hid; rw [HL.out, if_neg (by rw [HEE.out]; decide)]
        clear HE HL
        go_enter Tryz.func12, Tryz.ntmps12
        go_wp2_with (go_at_call 20; refine HSG.out.mono ?_; rintro e w1 ⟨B, n1, d, rfl, hn1, hs1, hb1⟩; clear hn1 hs1)
        go_ret2
        rw [HEE.out, HLE.out]
        exact nm_nil (bx hb1)
      · have HEE : Hid (er = 0) := by unfold Hid; rw [HE.out, if_neg (by simp), if_neg (by omega)]
        have HLE : Hid (Z = psL T t) := by unfold Hid; rw [HL.out, if_pos HEE.out]
        clear HE HL
        go_enter Tryz.func12, Tryz.ntmps12
        go_wp2_with (first
          | (go_at_call 20; refine HSG.out.mono ?_; rintro e w1 ⟨B, n1, d, rfl, hn1, hs1, hb1⟩; have HS1 := Lib.hid (And.intro hn1 hs1); clear hn1 hs1)
          | (go_at_call 21; refine (pitchesAt_any B n1 d T t _ HS1.out.2 HS1.out.1 (by have := HS1.out.1; have := HSL.out; omega) HSO.out).mono ?_; rintro e w2 ⟨B2, n2, d2, rfl, hn2, hs2, hb2⟩; have HS2 := Lib.hid (And.intro hn2 hs2); clear hn2 hs2))
        go_ret2
        exact ⟨B2, n2, d2, by rw [HEE.out]; rfl, by rw [HLE.out]; exact HS2.out.1, by rw [HLE.out]; exact HS2.out.2, bx (bt hb1 hb2)⟩
  · have hXb : (X != 0) = true := by simpa using hX
    have HEE : Hid (er = X) := by unfold Hid; rw [HE.out, if_pos hX]
    have HLE : Hid (Z = []) := by unfold Hid; rw [HL.out, if_neg (by rw [HEE.out]; exact hX)]
    clear hX HE HL
    go_enter Tryz.func12, Tryz.ntmps12
    go_wp2_with (go_at_call 20; refine HSG.out.mono ?_; rintro e w1 ⟨B, n1, d, rfl, hn1, hs1, hb1⟩; clear hn1 hs1)
    go_ret2
    rw [HEE.out, HLE.out]
    exact nm_nil (bx hb1)

end Go.Proofs.YtpcehgifpajmbaaGreat
