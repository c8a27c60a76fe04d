/- Sound: Strings, for any piece. -/
import Derived.Test.YtpcehgifpajmbaaSndAt2
import Derived.Test.YtpcehgifpajmbaaSndRP
namespace Go.Proofs.Ytpcehgifpajmbaa
open Go Go.RowKit

theorem stL_none {C : List Cr} {S : List Int} {P : List EvP} (h : pcErr C S P ≠ 0) : stL C S P = [] := by unfold stL; rw [ntL_none h]; rfl
end Go.Proofs.Ytpcehgifpajmbaa

/- Sound, the reference: Strings; two lists of notes that are equal. -/
namespace Go.Proofs.Ytpcehgifpajmbaa
open Go Go.RowKit

set_option maxRecDepth 100000 in
set_option maxHeartbeats 8000000 in
theorem rstrings_any (A : Option Addr) (n c : Nat) (A' : Option Addr) (m c' : Nat) (A2 : Option Addr) (q cq : Nat) (C : List Cr) (S : List Int) (P : List EvP) (w : World) (hP : PcIn w A n c A' m c' A2 q cq C S P) (hnb : n ≤ 1000000) (hmb : m ≤ 1000000) (hq : q ≤ 65536) (hst : ∀ y ∈ P, y.L.length ≤ 1000000) :
    Calls Try.prog 32 #[pcV A n c A' m c' A2 q cq] w (NtPost (stL C S P) (pcErr C S P) w) := by
  have HPY := Lib.hid (rnotes_any A n c A' m c' A2 q cq C S P _ (hP.below (ba w (pcO A n c A' m c' A2 q cq))) hnb hmb hq hst)
  unfold NtPost at HPY ⊢
  have HCR : Hid (∀ w', Below w.heap.size w w' → Sl w' w'.heap.size 3 A n c (crC C)) := fun w' hb => hP.crs.below hb
  have HN := Lib.hid hP.hn
  have HSL : Hid (stL C S P = (ntL C S P).flatMap (stOf C)) := rfl
  have HOK := Lib.hid (ntL_ok C S P)
  have HLN := Lib.hid (ntL_len C S P)
  have HZ : Hid (pcErr C S P ≠ 0 → ntL C S P = []) := ntL_none
  obtain ⟨i0, ii1, ii2, ii3, ii4⟩ := info_parts (show (Try.prog.info? 64).map (fun i => (i.zero, i.size, i.bytes)) = some (some (.agg #[.int .i64 0, .int .i64 0, .int .i64 0, .int .i64 0, .int .i64 0]), 5, 40) by kernel_rfl)
  clear hP hst
  generalize stL C S P = V at *
  generalize ntL C S P = U at *
  generalize pcErr C S P = X at *
  by_cases hX : X = 0
  · subst hX
    clear HZ
    go_enter Try.func32, Try.ntmps32
    go_wp2_with (go_at_call 28; refine HPY.out.mono ?_; rintro e w2 ⟨B2, n1, d2, rfl, hn1, hs2, hb2⟩; have HN1 := Lib.hid hn1; clear hn1)
    have HS2 := Lib.hid hs2
    have HB2 := Lib.hid hb2
    have hn1b : n1 ≤ 5600 := by have := HN1.out; have := HLN.out; omega
    clear hs2 hb2
    go_loopw [7, 6] (fun i l wr => ∃ (k : Nat) (acc : List Nt) (A3 : Option Addr) (c3 : Nat), k ≤ n1 ∧ i = .int .i64 k ∧ l = .slice A3 acc.length c3 ∧ Own1 w2 wr 64 5 A3 acc.length c3 (ntC acc) ∧ V = acc ++ (U.drop k).flatMap (stOf C) ∧ acc.length ≤ 2 * k) (fun i _ _ => n1 - (intOf i).toNat)
    case atStart => exact ⟨0, [], none, 0, by omega, rfl, rfl, Own1.start (Below.refl _ _) _ _, HSL.out, by simp⟩
    case round =>
      obtain ⟨k, acc, A3, c3, hk, rfl, rfl, hO, hV, hlen⟩ := hrel
      have HO := Lib.hid hO
      have HV := Lib.hid hV
      have HW : Hid (Below (w.alloc (pcO A n c A' m c' A2 q cq)).heap.size (w.alloc (pcO A n c A' m c' A2 q cq)) wr) := bt HB2.out hO.low
      obtain ⟨p0, p1, p2⟩ := cell3 HW.out
      have hzw : w.heap.size < wr.heap.size := by have := HW.out.size; simp at this; omega
      clear hO hV p1 p2
      by_cases hlt : k < n1
      · have hkn : (k : Int) < (n1 : Int) := by omega
        obtain ⟨b, off, rfl, hb, hc⟩ := (HS2.out.below HO.out.low).2.2 (by omega)
        obtain ⟨j0, j1, j2, j3, j4⟩ := ntC_at U k (by have := HN1.out; omega)
        have a0 := hc _ _ j0
        have a1 := hc _ _ j1
        have a2 := hc _ _ j2
        have a3 := hc _ _ j3
        have a4 := hc _ _ j4
        rw [← Nat.add_assoc] at a1 a2 a3 a4
        have hkU : k < U.length := by have := HN1.out; omega
        have hxo : NtOk C (U.getD k zNt) := HOK.out _ (by have e : U.getD k zNt = U[k] := by simp [List.getElem?_eq_getElem hkU]
                                                          rw [e]; exact List.getElem_mem hkU)
        have HONE := Lib.hid (st_one HV.out hkU)
        have HTWO := Lib.hid (st_two HV.out hkU)
        clear hc j0 j1 j2 j3 j4 hb hkU
        generalize U.getD k zNt = x at *
        obtain ⟨xe, xc, xp, xf, xt⟩ := x
        obtain ⟨y1, y2, y3, y4, y5⟩ := hxo
        dsimp only at a0 a1 a2 a3 a4 y1 y2 y3 y4 y5
        have HY5 := Lib.hid y5
        clear y5
        obtain ⟨cn, rfl⟩ : ∃ cn : Nat, xc = (cn : Int) + 1 := ⟨(xc - 1).toNat, by omega⟩
        have hcn : cn < C.length := by omega
        have hcn2 : (cn : Int) < (n : Int) := by have := HN.out; omega
        have HT : Hid (((cn : Int) + 1 - 1).toNat = cn) := by unfold Hid; omega
        obtain ⟨cb, co, rfl, hcb, hcc⟩ := (HCR.out w (Below.refl _ _)).2.2 (by have := HN.out; omega)
        obtain ⟨_, _, l2⟩ := crC_at C cn hcn
        have hoc := hcc _ _ l2
        rw [← Nat.add_assoc] at hoc
        have HOC : Hid (∀ w', Below w.heap.size w w' → w'.cell? ⟨cb, co + cn * 3 + 2, none⟩ = some (.bool (C.getD cn z0).o)) := fun w' h => cell_same (h.block cb hcb) hoc
        clear hcc l2 hoc hcn y1 y2
        have D1 := World.news_of_block (heap_alloc_new (wr.alloc (.cells #[.int .i64 xe, .int .i64 ((cn : Int) + 1), .int .i64 xp, .int .i64 xf, .int .i64 xt] 64)) (.cells #[.int .i64 xe, .int .i64 ((cn : Int) + 1), .int .i64 xp, .int .i64 xf, .int .i64 xt] 64))
        rw [World.size_alloc] at D1
        have D := Lib.hid (And.intro D1 (one5 xe ((cn : Int) + 1) xp xf xt))
        clear D1
        have hml : acc.length + 1 ≤ maxLen := Nat.le_trans (show acc.length + 1 ≤ 100000 by omega) (by decide)
        have HTOK : Hid True := trivial
        go_wp2_with (at_builtin; refine wpList_append_own_at _ rfl _ _ 60 rfl w2.heap.size 64 i0 _ 5 40 Try.underlying60 ii1 ii2 ii3 ii4 rfl (by decide) (.slice A3 acc.length c3) acc.length _ rfl ((HO.out.own.alloc _).alloc _) ⟨wr.heap.size + 1, 0, none⟩ 1 1 [.int .i64 xe, .int .i64 ((cn : Int) + 1), .int .i64 xp, .int .i64 xf, .int .i64 xt] rfl rfl D.out.1 D.out.2 hml (by omega) (by have := HO.out.low.size; simp; omega) ?_)
        intro v' w3 hown' hgrow _ hloc
        obtain ⟨A4, c4, rfl, hO3, _⟩ := Own1.step HO.out (ba wr _) rfl hown' hgrow
        have hgl : ∀ g, (Value.slice A3 acc.length c3).ownBlock = some g → g < wr.heap.size := fun g h => (HO.out.own.lt g h).2
        have hk3 : Blk w3 wr.heap.size 64 #[.int .i64 xe, .int .i64 ((cn : Int) + 1), .int .i64 xp, .int .i64 xf, .int .i64 xt] := Blk.grown (Blk.below (show Blk (wr.alloc (.cells #[.int .i64 xe, .int .i64 ((cn : Int) + 1), .int .i64 xp, .int .i64 xf, .int .i64 xt] 64)) wr.heap.size 64 #[.int .i64 xe, .int .i64 ((cn : Int) + 1), .int .i64 xp, .int .i64 xf, .int .i64 xt] from heap_alloc_new wr _) (ba _ _)) hgrow (fun e => by have := hgl _ e.symm; omega)
        have hne4 : ∀ g, (Value.slice A4 (acc.length + 1) c4).ownBlock = some g → g ≠ wr.heap.size := by
          intro g hg
          rcases hloc with h | h
          · rw [h] at hg
            have := hgl g hg
            omega
          · rw [h] at hg
            simp at hg
            omega
        have HO3 := Lib.hid hO3
        have HK3 := Lib.hid hk3
        have HNE := Lib.hid hne4
        have HW3 : Hid (Below (w.alloc (pcO (some ⟨cb, co, none⟩) n c A' m c' A2 q cq)).heap.size (w.alloc (pcO (some ⟨cb, co, none⟩) n c A' m c' A2 q cq)) w3) := bt HB2.out hO3.low
        have hzr : w2.heap.size ≤ wr.heap.size := HO.out.low.size
        have z1 := hk3.cell 1
        have z2 := hk3.cell 2
        have f2 := hk3.frozen 2
        have hz3 := hk3.lt
        simp at z1 z2
        have o3 := HOC.out w3 (bx HW3.out)
        clear hown' hgrow hloc hO3 hk3 hgl hne4 p0 a0 a1 a2 a3 a4
        obtain ⟨p0, _, _⟩ := cell3 HW3.out
        cases ho : (C.getD cn z0).o with
        | false =>
          rw [ho] at o3
          have HX := Lib.hid (HONE.out (by show (C.getD ((cn : Int) + 1 - 1).toNat z0).o = _; rw [HT.out]; exact ho))
          clear ho
          have HO4 : Hid (Own1 w2 w3 64 5 A4 (acc ++ [(⟨xe, (cn : Int) + 1, xp, xf, xt⟩ : Nt)]).length c4 (ntC (acc ++ [(⟨xe, (cn : Int) + 1, xp, xf, xt⟩ : Nt)]))) := by
            unfold Hid
            rw [ntC_snoc, List.length_append]
            exact HO3.out
          go_wp2_with (fail)
          go_roundw
          case rel => exact ⟨k + 1, _, A4, c4, by omega, by first | rfl | go_num, by simp, HO4.out, HX.out, by simp; omega⟩
          case measure => simp [intOf]; omega
        | true =>
          rw [ho] at o3
          have hp12 : xp + 12 ≤ 127 := HY5.out (by rw [HT.out]; exact ho)
          have HX := Lib.hid (HTWO.out (by show (C.getD ((cn : Int) + 1 - 1).toNat z0).o = _; rw [HT.out]; exact ho))
          have hw12 : IntKind.i64.wrap (xp + 12) = xp + 12 := IntWalk.i64_in _ ⟨by omega, by omega⟩
          clear ho
          have HO5 : Hid (Own1 w2 (w3.setCell ⟨wr.heap.size, 2, none⟩ (.int .i64 (xp + 12))) 64 5 A4 (acc.length + 1) c4 (ntC acc ++ [.int .i64 xe, .int .i64 ((cn : Int) + 1), .int .i64 xp, .int .i64 xf, .int .i64 xt])) :=
            ⟨ownsRow_heap HO3.out.own (fun g hg => set_other _ _ _ _ _ (HNE.out g hg)), HO3.out.low.setCell hzr _⟩
          have HK5 := Lib.hid (HK3.out.set_ 2 (.int .i64 (xp + 12)))
          have y0 := HK5.out.cell 0
          have y1 := HK5.out.cell 1
          have y2 := HK5.out.cell 2
          have y3 := HK5.out.cell 3
          have y4 := HK5.out.cell 4
          simp at y0 y1 y2 y3 y4
          have hze : (w3.setCell ⟨wr.heap.size, 2, none⟩ (.int .i64 (xp + 12))).heap.size = w3.heap.size := by simp
          have D1 := World.news_of_block (heap_alloc_new (w3.setCell ⟨wr.heap.size, 2, none⟩ (.int .i64 (xp + 12))) (.cells #[.int .i64 xe, .int .i64 ((cn : Int) + 1), .int .i64 (xp + 12), .int .i64 xf, .int .i64 xt] 64))
          rw [hze] at D1
          have D3 := Lib.hid (And.intro D1 (one5 xe ((cn : Int) + 1) (xp + 12) xf xt))
          clear D1 hze
          have hml2 : acc.length + 1 + 1 ≤ maxLen := Nat.le_trans (show acc.length + 1 + 1 ≤ 100000 by omega) (by decide)
          go_wp2_with (at_builtin; refine wpList_append_own _ rfl _ _ 60 rfl w2.heap.size 64 i0 _ 5 40 Try.underlying60 ii1 ii2 ii3 ii4 rfl (by decide) (.slice A4 (acc.length + 1) c4) (acc.length + 1) _ rfl (HO5.out.own.alloc _) ⟨w3.heap.size, 0, none⟩ 1 1 [.int .i64 xe, .int .i64 ((cn : Int) + 1), .int .i64 (xp + 12), .int .i64 xf, .int .i64 xt] rfl rfl D3.out.1 D3.out.2 hml2 (by omega) (by have := HO5.out.low.size; simp at this ⊢; omega) ?_)
          intro v' w6 hown' hgrow _
          obtain ⟨A6, c6, rfl, hO6, _⟩ := Own1.step (news := [.int .i64 xe, .int .i64 ((cn : Int) + 1), .int .i64 (xp + 12), .int .i64 xf, .int .i64 xt]) HO5.out (Below.refl _ _) rfl (by rw [List.append_assoc]; exact hown') hgrow
          have HO6 : Hid (Own1 w2 w6 64 5 A6 (acc ++ [(⟨xe, (cn : Int) + 1, xp, xf, xt⟩ : Nt)] ++ [(⟨xe, (cn : Int) + 1, xp + 12, xf, xt⟩ : Nt)]).length c6 (ntC (acc ++ [(⟨xe, (cn : Int) + 1, xp, xf, xt⟩ : Nt)] ++ [(⟨xe, (cn : Int) + 1, xp + 12, xf, xt⟩ : Nt)]))) := by
            unfold Hid
            rw [ntC_snoc, ntC_snoc, List.length_append, List.length_append]
            exact hO6
          clear hown' hgrow hO6 y0 y1 y2 y3 y4 z1 z2 f2 o3
          go_wp2_with (fail)
          go_roundw
          case rel => exact ⟨k + 1, _, A6, c6, by omega, by first | rfl | go_num, by simp, HO6.out, HX.out, by simp; omega⟩
          case measure => simp [intOf]; omega
      · have hkn : ¬ ((k : Int) < (n1 : Int)) := by omega
        have HVZ : Hid (V = acc) := by
          unfold Hid
          rw [HV.out, List.drop_of_length_le (by have := HN1.out; omega)]
          simp
        go_wp2_with (fail)
        go_ret2
        exact ⟨A3, _, c3, rfl, by rw [HVZ.out], by rw [HVZ.out]; exact HO.out.sl, bx HW.out⟩
  · have hXb : (X != 0) = true := by simpa using hX
    have HV0 : Hid (V = []) := by unfold Hid; rw [HSL.out, HZ.out hX]; rfl
    clear hX HZ
    go_enter Try.func32, Try.ntmps32
    go_wp2_with (go_at_call 28; refine HPY.out.mono ?_; rintro e w1 ⟨A1, n1, c1, rfl, hn1, hA1, hb1⟩; clear hn1 hA1)
    go_ret2
    exact ⟨none, 0, 0, rfl, by rw [HV0.out]; rfl, by rw [HV0.out]; exact Sl.none_ _ _ _, bx hb1⟩

end Go.Proofs.Ytpcehgifpajmbaa

/- Sound, the reference: the pitches that sound at a time (sounding, At), for any piece. -/
namespace Go.Proofs.Ytpcehgifpajmbaa
open Go Go.RowKit

theorem intC_snocA (S : List Int) (x : Int) : intC (S ++ [x]) = intC S ++ [.int .i64 x] := by simp [intC]
def psF (T : List Nt) (t : Int) (p : Int) : Bool := T.any fun x => sndB x t && decide (x.p = p)
def psK (T : List Nt) (t : Int) (k : Nat) : List Int := ((List.range k).map fun (k : Nat) => (k : Int)).filter (psF T t)
theorem psK_succ (T : List Nt) (t : Int) (k : Nat) : psK T t (k + 1) = if psF T t k then psK T t k ++ [(k : Int)] else psK T t k := by
  unfold psK
  rw [List.range_succ, List.map_append, List.filter_append]
  split
  · rename_i h; simp [h]
  · rename_i h; simp [h]
theorem psK_len (T : List Nt) (t : Int) (k : Nat) : (psK T t k).length ≤ k := by
  unfold psK
  refine Nat.le_trans (List.length_filter_le _ _) ?_
  simp
theorem psF_hit {T : List Nt} {t : Int} {k j : Nat} (hj : j < T.length) (h : (sndB (T.getD j zNt) t && decide ((T.getD j zNt).p = k)) = true) : psF T t k = true := by
  unfold psF
  rw [List.any_eq_true]
  exact ⟨_, getD_memN hj, h⟩
theorem psF_step {T : List Nt} {t : Int} {k j : Nat} (hj : j < T.length) (h0 : psF (T.take j) t k = false) (h : (sndB (T.getD j zNt) t && decide ((T.getD j zNt).p = k)) = false) : psF (T.take (j + 1)) t k = false := by
  have e : T.take (j + 1) = T.take j ++ [T.getD j zNt] := by rw [List.take_add_one]; simp [List.getElem?_eq_getElem hj]
  unfold psF at *
  rw [e, List.any_append, h0]
  simp only [List.any_cons, List.any_nil, Bool.or_false, Bool.false_or]
  exact h

set_option maxRecDepth 100000 in
set_option maxHeartbeats 4000000 in
theorem rpitches_own (A : Option Addr) (n c : Nat) (T : List Nt) (t : Int) (w : World) (hA : Sl w w.heap.size 5 A n c (ntC T)) (hn : n = T.length) (hlim : n ≤ 100000) :
    Calls Try.prog 33 #[.slice A n c, .int .i64 t] w fun e w' => ∃ B m d, e = .returned (.slice B m d) ∧ m = (psL T t).length ∧ Ow w' w.heap.size 3 1 B m d (intC (psL T t)) ∧ Below w.heap.size w w' := by
  have HA : Hid (∀ w', Below w.heap.size w w' → Sl w' w'.heap.size 5 A n c (ntC T)) := fun w' hb => hA.below hb
  have HN := Lib.hid hn
  have HPS : Hid (psL T t = psK T t 128) := rfl
  have HTK : Hid (T.take n = T) := by unfold Hid; rw [hn]; exact List.take_length
  obtain ⟨i0, ii1, ii2, ii3, ii4⟩ := info_parts Try.info3'
  clear hA hn
  go_enter Try.func33, Try.ntmps33
  go_wp2_with (fail)
  go_loopw [6, 5, 7] (fun p l _ wr => ∃ (k : Nat) (A1 : Option Addr) (c1 : Nat), k ≤ 128 ∧ p = .int .i64 k ∧ l = .slice A1 (psK T t k).length c1 ∧ Own1 w wr 3 1 A1 (psK T t k).length c1 (intC (psK T t k))) (fun p _ _ _ => 128 - (intOf p).toNat)
  case atStart => exact ⟨0, none, 0, by omega, rfl, rfl, Own1.start (Below.refl _ _) _ _⟩
  case round =>
    obtain ⟨k, A1, c1, hk, rfl, rfl, hO⟩ := hrel
    have HO := Lib.hid hO
    clear hO
    by_cases hlt : k < 128
    · have hk127 : (k : Int) ≤ 127 := by omega
      have HSU := Lib.hid (psK_succ T t k)
      have hkl := psK_len T t k
      generalize psK T t k = L at *
      go_wp2_with (fail)
      go_loop [7, 5] (fun i l => ∃ j : Nat, j ≤ n ∧ i = .int .i64 j ∧ l = .slice A1 L.length c1 ∧ Hid (psF (T.take j) t k = false)) (fun i _ => n - (intOf i).toNat)
      case atStart => exact ⟨0, by omega, rfl, rfl, rfl⟩
      case round =>
        obtain ⟨j, hj, rfl, rfl, HF⟩ := hrel
        by_cases hjn : j < n
        · have hjn' : (j : Int) < (n : Int) := by omega
          obtain ⟨b, off, rfl, hb, hc⟩ := (HA.out _ HO.out.low).2.2 (by omega)
          have hjT : j < T.length := by have := HN.out; omega
          obtain ⟨_, _, j2, j3, j4⟩ := ntC_at T j hjT
          have a2 := hc _ _ j2
          have a3 := hc _ _ j3
          have a4 := hc _ _ j4
          rw [← Nat.add_assoc] at a2 a3 a4
          have HHIT := Lib.hid (psF_hit (t := t) (k := k) hjT)
          have HMISS := Lib.hid (psF_step (t := t) (k := k) hjT HF.out)
          clear hc j2 j3 j4 hb hjT
          generalize T.getD j zNt = x at *
          obtain ⟨xe, xc, xp, xf, xt⟩ := x
          dsimp only at a2 a3 a4 HHIT HMISS
          have HS : Hid (sndB ⟨xe, xc, xp, xf, xt⟩ t = (decide (xf ≤ t) && decide (t < xt))) := rfl
          by_cases hp : xp = k
          · subst hp
            by_cases hf : xf ≤ t
            · by_cases ht : t < xt
              · have HX : Hid (psF T t k = true) := HHIT.out (by rw [HS.out]; simp [hf, ht])
                have hml : L.length + 1 ≤ maxLen := Nat.le_trans (show L.length + 1 ≤ 1000 by omega) (by decide)
                go_wp2_with (at_builtin; go_loud (refine wpList_append_own _ rfl _ _ 23 rfl w.heap.size 3 i0 _ 1 8 Try.underlying23 ii1 ii2 ii3 ii4 rfl (by decide) (.slice A1 L.length c1) L.length _ rfl (HO.out.own.alloc _) ⟨wr.heap.size, 0, none⟩ 1 1 [.int .i64 k] rfl rfl (cell_one_new _ _ _) (by simp [Value.oneCell']) hml (by omega) (by have := HO.out.low.size; simp; omega) ?_))
                intro v' w3 hown' hgrow _
                obtain ⟨A4, c4, rfl, hO3, _⟩ := Own1.step HO.out (Below.refl _ _) rfl hown' hgrow
                have HO4 : Hid (Own1 w w3 3 1 A4 (psK T t (k + 1)).length c4 (intC (psK T t (k + 1)))) := by
                  unfold Hid
                  rw [HSU.out, if_pos HX.out, List.length_append, intC_snocA]
                  exact hO3
                have HL4 : Hid ((psK T t (k + 1)).length = L.length + 1) := by unfold Hid; rw [HSU.out, if_pos HX.out]; simp
                clear hown' hgrow hO3
                go_wp2_with (fail)
                go_roundw
                case rel => exact ⟨k + 1, A4, c4, by omega, by first | rfl | go_num, by rw [HL4.out], HO4.out⟩
                case measure => simp [intOf]; omega
              · have HX : Hid (psF (T.take (j + 1)) t k = false) := HMISS.out (by rw [HS.out]; simp [ht])
                go_wp2_with (fail)
                go_round
                case rel => exact ⟨j + 1, by omega, by first | rfl | go_num, rfl, HX⟩
                case measure => simp [intOf]; omega
            · have HX : Hid (psF (T.take (j + 1)) t k = false) := HMISS.out (by rw [HS.out]; simp [hf])
              go_wp2_with (fail)
              go_round
              case rel => exact ⟨j + 1, by omega, by first | rfl | go_num, rfl, HX⟩
              case measure => simp [intOf]; omega
          · have HX : Hid (psF (T.take (j + 1)) t k = false) := HMISS.out (by simp [hp])
            have hpb : (xp == (k : Int)) = false := by simpa using hp
            go_wp2_with (fail)
            go_round
            case rel => exact ⟨j + 1, by omega, by first | rfl | go_num, rfl, HX⟩
            case measure => simp [intOf]; omega
        · obtain rfl : j = n := by omega
          have HX : Hid (psK T t (k + 1) = L) := by
            have := HF.out
            rw [HTK.out] at this
            unfold Hid
            rw [HSU.out, if_neg (by rw [this]; simp)]
          have HO4 : Hid (Own1 w wr 3 1 A1 (psK T t (k + 1)).length c1 (intC (psK T t (k + 1)))) := by unfold Hid; rw [HX.out]; exact HO.out
          go_wp2_with (fail)
          go_roundw
          case rel => exact ⟨k + 1, A1, c1, by omega, by first | rfl | go_num, by rw [HX.out], HO4.out⟩
          case measure => simp [intOf]; omega
    · obtain rfl : k = 128 := by omega
      go_wp2_with (fail)
      go_ret
      exact ⟨A1, _, c1, rfl, by rw [HPS.out], by rw [HPS.out]; exact Ow.of_own HO.out.own, HO.out.low⟩

theorem rpitches_any (A : Option Addr) (n c : Nat) (T : List Nt) (t : Int) (w : World) (hA : Sl w w.heap.size 5 A n c (ntC T)) (hn : n = T.length) (hlim : n ≤ 100000) :
    Calls Try.prog 33 #[.slice A n c, .int .i64 t] w fun e w' => ∃ B m d, e = .returned (.slice B m d) ∧ m = (psL T t).length ∧ Sl w' w'.heap.size 1 B m d (intC (psL T t)) ∧ Below w.heap.size w w' :=
  (rpitches_own A n c T t w hA hn hlim).mono fun _ _ ⟨B, m, d, h1, h2, h3, h4⟩ => ⟨B, m, d, h1, h2, h3.sl, h4⟩

end Go.Proofs.Ytpcehgifpajmbaa
