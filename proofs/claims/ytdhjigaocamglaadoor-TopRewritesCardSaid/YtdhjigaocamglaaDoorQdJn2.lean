/- Pieces: Join of the program. -/
import Derived.Test.YtdhjigaocamglaaDoorQdJn1
namespace Go.Proofs.YtdhjigaocamglaaDoor
open Go Go.RowKit

attribute [local go_sem] Oper.semAt_some

/-- What Join hands back. -/
def jnRes (P : List EvP) : List EvP := mvL (jnAll (tpL P)).bc P P.length (jnAll (tpL P)).ev
set_option maxRecDepth 100000 in
set_option maxHeartbeats 3200000 in
theorem join_fine (A : Option Addr) (n c : Nat) (A' : Option Addr) (m c' : Nat) (A2 : Option Addr) (q cq : Nat) (C : List Cr) (S : List Int) (P : List EvP) (w : World) (hP : PcIn w A n c A' m c' A2 q cq C S P) (hT : SgT w) (h0 : pcErr C S P = 0) (hnb : n ≤ 1000000) (hmb : m ≤ 1000000) (hqb : q ≤ 65536) (hst : ∀ y ∈ P, y.L.length ≤ 1000000) :
    Calls Tryd.prog 18 #[pcV A n c A' m c' A2 q cq] w (PcRes 0 C S (jnRes P) w) := by
  obtain ⟨E, ⟨hE1, hE2⟩, hE3⟩ := hP.es.evs
  have HPI : Hid (∀ w', Below w.heap.size w w' → PcIn w' A n c A' m c' A2 q cq C S P) := fun w' hb => hP.below hb
  have HQ := Lib.hid hP.es.hq
  have hE : q = E.length := by rw [hP.es.hq, hE1]
  have HE := Lib.hid hE
  have HTM := Lib.hid (tm_pl w E P 0 0 false false 0 hE1 hE2)
  have HE3 := Lib.hid hE3
  have HST := Lib.hid hst
  have HSG : Hid (∀ w', Below w.heap.size w w' → SgT w') := fun w' h => hT.below h
  have HV := Lib.hid h0
  have HBX := Lib.hid (pbox w A n c A' m c' A2 q cq)
  clear hE hE2 hE3 hst hP hE1 hT h0
  refine (callsIn_wide (n := 3)).1 ?_
  refine callsIn_of_wp_marks Tryd.func18 rfl trivial ?_ rfl
  simp only [Tryd.ntmps18, List.size_toArray, List.length_cons, List.length_nil, Nat.reduceAdd, Nat.reduceSub, Array.replicate_succ, Array.replicate_zero, List.push_toArray, List.append_toArray, List.nil_append, List.cons_append]
  gi_wp2_with (first
    | (refine ⟨trivial, ?_⟩; gi_at_call 35; refine (callsIn_wide.2 (pcheck_any A n c A' m c' A2 q cq C S P _ (HPI.out _ HBX.out.2.2.1) hnb hmb (by omega) HST.out)).mono ?_; rintro e w0 ⟨rfl, hb0⟩; rw [HV.out]; have hP0 := HBX.out.1.below hb0; have k0 := hP0.cell 0; have k1 := hP0.cell 1; have k2 := hP0.cell 2; simp at k0 k1 k2; have HB0 := Lib.hid hb0; clear hP0 hb0)
    | (refine ⟨trivial, ?_⟩; gi_at_call 44; refine (callsIn_wide.2 (cloneInst_any A A' n c m c' C S _ (HPI.out _ (bt HBX.out.2.2.1 HB0.out)).crs (HPI.out _ (bt HBX.out.2.2.1 HB0.out)).stp hnb hmb)).mono ?_; rintro e w1 ⟨B, d, B', d', rfl, ho1, ho2, hb1⟩; have hP1 := (((HBX.out.1.below HB0.out).below hb1).below (ba w1 (pcO B n d B' m d' none 0 0))).below (bt (ba _ (.cells #[.slice none 0 0] 23)) (ba _ (.cells #[.int .i64 0] 3))); clear k0 k1 k2; have k0 := hP1.cell 0; have k1 := hP1.cell 1; have k2 := hP1.cell 2; simp at k0 k1 k2; have HO1 := Lib.hid ho1; have HO2 := Lib.hid ho2; have HB1 := Lib.hid (bt HB0.out hb1); have hz01 := hb1.size; clear hP1 ho1 ho2 hb1)
    | (refine ⟨trivial, ?_⟩; gi_at_call 45; refine (callsIn_wide.2 (withTimes_any _ _ _ _ _ _ _ _ _ _)).mono ?_; rintro e w2 ⟨rfl, rfl⟩))
  have bQ : Blk ((((w1.alloc (pcO B n d B' m d' none 0 0)).alloc (.cells #[.slice none 0 0] 23)).alloc (.cells #[.int .i64 0] 3)).alloc (pcO A n c A' m c' A2 q cq)) w1.heap.size 28 #[.slice B n d, .slice B' m d', .slice none 0 0] := Blk.below (heap_alloc_new w1 _) (bt (ba _ _) (bt (ba _ _) (ba _ _)))
  have bR : Blk ((((w1.alloc (pcO B n d B' m d' none 0 0)).alloc (.cells #[.slice none 0 0] 23)).alloc (.cells #[.int .i64 0] 3)).alloc (pcO A n c A' m c' A2 q cq)) (w1.heap.size + 1) 23 #[.slice none 0 0] := by
    have := heap_alloc_new (w1.alloc (pcO B n d B' m d' none 0 0)) (.cells #[.slice none 0 0] 23)
    rw [World.size_alloc] at this
    exact Blk.below this (bt (ba _ _) (ba _ _))
  have bC : Blk ((((w1.alloc (pcO B n d B' m d' none 0 0)).alloc (.cells #[.slice none 0 0] 23)).alloc (.cells #[.int .i64 0] 3)).alloc (pcO A n c A' m c' A2 q cq)) (w1.heap.size + 2) 3 #[.int .i64 0] := by
    have := heap_alloc_new ((w1.alloc (pcO B n d B' m d' none 0 0)).alloc (.cells #[.slice none 0 0] 23)) (.cells #[.int .i64 0] 3)
    rw [World.size_alloc, World.size_alloc] at this
    exact Blk.below this (ba _ _)
  have bB : Blk ((((w1.alloc (pcO B n d B' m d' none 0 0)).alloc (.cells #[.slice none 0 0] 23)).alloc (.cells #[.int .i64 0] 3)).alloc (pcO A n c A' m c' A2 q cq)) (w1.heap.size + 3) 28 #[.slice A n c, .slice A' m c', .slice A2 q cq] := by
    have := heap_alloc_new (((w1.alloc (pcO B n d B' m d' none 0 0)).alloc (.cells #[.slice none 0 0] 23)).alloc (.cells #[.int .i64 0] 3)) (pcO A n c A' m c' A2 q cq)
    rwa [World.size_alloc, World.size_alloc, World.size_alloc] at this
  have hW1 : Below w1.heap.size w1 ((((w1.alloc (pcO B n d B' m d' none 0 0)).alloc (.cells #[.slice none 0 0] 23)).alloc (.cells #[.int .i64 0] 3)).alloc (pcO A n c A' m c' A2 q cq)) := bt (ba _ _) (bt (ba _ _) (bt (ba _ _) (ba _ _)))
  have hz1 : w.heap.size + 2 ≤ w1.heap.size := by have := HB1.out.size; have := HBX.out.2.2.2; omega
  have hz5 : ((((w1.alloc (pcO B n d B' m d' none 0 0)).alloc (.cells #[.slice none 0 0] 23)).alloc (.cells #[.int .i64 0] 3)).alloc (pcO A n c A' m c' A2 q cq)).heap.size = w1.heap.size + 4 := by simp
  have low5 : Below w.heap.size w ((((w1.alloc (pcO B n d B' m d' none 0 0)).alloc (.cells #[.slice none 0 0] 23)).alloc (.cells #[.int .i64 0] 3)).alloc (pcO A n c A' m c' A2 q cq)) := bt HBX.out.2.2.1 (bt HB1.out hW1)
  have bP : Blk ((((w1.alloc (pcO B n d B' m d' none 0 0)).alloc (.cells #[.slice none 0 0] 23)).alloc (.cells #[.int .i64 0] 3)).alloc (pcO A n c A' m c' A2 q cq)) w.heap.size 28 #[.slice A n c, .slice A' m c', .slice A2 q cq] := (HBX.out.1.below HB1.out).below hW1
  have bS : Blk ((((w1.alloc (pcO B n d B' m d' none 0 0)).alloc (.cells #[.slice none 0 0] 23)).alloc (.cells #[.int .i64 0] 3)).alloc (pcO A n c A' m c' A2 q cq)) (w.heap.size + 1) 28 #[.slice none 0 0, .slice none 0 0, .slice none 0 0] := (HBX.out.2.1.below HB1.out).below hW1
  have oC := (HO1.out.below hW1).more (show w.heap.size ≤ _ by have := HB0.out.size; have := HBX.out.2.2.2; omega)
  have oS := (HO2.out.below hW1).more (show w.heap.size ≤ _ by have := HB0.out.size; have := HBX.out.2.2.2; omega)
  obtain ⟨W5, hW5⟩ : ∃ W5, ((((w1.alloc (pcO B n d B' m d' none 0 0)).alloc (.cells #[.slice none 0 0] 23)).alloc (.cells #[.int .i64 0] 3)).alloc (pcO A n c A' m c' A2 q cq)) = W5 := ⟨_, rfl⟩
  rw [hW5] at bQ bR bC bB hW1 hz5 low5 bP bS oC oS ⊢
  clear hW5 k0 k1 k2 hz01
  have HOC := Lib.hid oC
  have HOS := Lib.hid oS
  have HBP := Lib.hid bP
  have HBS := Lib.hid bS
  clear oC oS bP bS
  obtain ⟨i0, hi, hi0, hi1, hi2⟩ := info_parts Tryd.infoEv
  obtain ⟨j0, hj, hj0, hj1, hj2⟩ := info_parts Tryd.info3'
  have hlenE : (tmL E 0 0 false false 0).length = q := (tmL_len _ _ _ _ _ _).trans HE.out.symm
  refine rfBox (F := Fence.wide) (n := 3) rfl (by omega) (gf := 68) (lb := #[.pointer (some ⟨w1.heap.size + 3, 0, none⟩)]) rfl trivial (enters_of Tryd.func68 (by kernel_rfl) rfl)
    (encs := fun x : Tm => #[tmV x]) (keep := fun k => k < w1.heap.size ∨ k = w1.heap.size + 3 ∨ k = W5.heap.size + 2) (T := 48) (tmL E 0 0 false false 0)
    (times_any _ (by omega) (w1.heap.size + 3) A2 q cq E HE.out (by omega) _ W5 (by omega) (.inr (.inl rfl)) (W5.heap.size + 2) (by omega) (.inr (.inr rfl)) (by have := bB.cell 2; simpa using this) (fun h0 => by
      obtain ⟨eb, off, e1, e2, e3⟩ := HE3.out.2.2 h0
      refine ⟨eb, off, e1, Nat.lt_of_lt_of_le e2 low5.size, .inl (by omega), fun k x hk => ?_⟩
      have hs : W5.heap[eb]? = w.heap[eb]? := low5.block eb e2
      obtain ⟨i0, i1, i2, i3, i4, i5⟩ := evC_at E k x hk
      exact EvAt.same hs ⟨e3 _ _ i0, by have := e3 _ _ i1; rwa [← Nat.add_assoc] at this, by have := e3 _ _ i2; rwa [← Nat.add_assoc] at this, by have := e3 _ _ i3; rwa [← Nat.add_assoc] at this, by have := e3 _ _ i4; rwa [← Nat.add_assoc] at this, by have := e3 _ _ i5; rwa [← Nat.add_assoc] at this⟩))
    (by omega) (fun _ => rfl) (JnI W5 w1.heap.size (w1.heap.size + 1) (w1.heap.size + 2) (W5.heap.size + 2) (.slice B n d) (.slice B' m d') (tpL P)) (jnI_bx (by omega) (by omega) (by omega) (by omega)) (fun s W l o o' h hl ho hw => jnI_put s W l o o' h hl ho hw)
    ⟨.slice none 0 0, .slice none 0 0, bQ, World.ownsRow_nil _ _ _ _, bR, World.ownsRow_nil _ _ _ _, bC, by simp [Value.ownBlock], by simp [Value.ownBlock], Kx.refl _ _ _⟩
    (fun x a' W => ∃ bq, a' = { tmps := #[pcV A n c A' m c' A2 q cq, .pointer (some ⟨w.heap.size, 0, none⟩), .pointer (some ⟨w.heap.size + 1, 0, none⟩), .int .i64 0, .int .i64 0, .pointer (some ⟨w1.heap.size, 0, none⟩), .pointer (some ⟨w1.heap.size + 1, 0, none⟩), .pointer (some ⟨w1.heap.size + 1 + 1, 0, none⟩), .pointer (some ⟨bq, 0, none⟩), undef, undef, undef, pcV A n c A' m c' A2 q cq, .int .i64 0, .int .i64 0, .bool false, undef, undef, .pointer (some ⟨w.heap.size, 0, none⟩), .agg #[.slice A n c, .slice A' m c'], .agg #[.slice B n d, .slice B' m d'], .agg #[.slice B n d, .slice B' m d', .slice none 0 0], pcV A n c A' m c' A2 q cq, .func (.func 68) #[] #[.pointer (some ⟨w1.heap.size + 3, 0, none⟩)], tmV x, undef, undef, undef, undef, undef, undef, undef, undef, undef, undef, undef, undef, undef, undef, undef, undef, undef, undef, undef, undef, undef, undef, undef, undef, undef, undef, undef, undef, undef, undef, undef, undef, undef, undef, undef, undef, undef, undef, undef, undef, undef, undef, undef, undef, undef, undef, undef, undef, undef, undef, undef, undef, undef, undef, undef, undef, undef, undef, undef, undef, undef, undef, undef, undef], defers := [] } ∧ Blk W bq 75 (tmA x) ∧ W.heap.size = bq + 1)
    (fun x a' W l o o' ⟨bq, h, hq, hz⟩ hl ho => ⟨bq, h, blk_put hq hl ho, by simpa using hz⟩) ?assign ?body ?done
  case assign =>
    intro l x W K hK
    gi_wp2
    exact hK _ _ (ba W _) ⟨W.heap.size, rfl, heap_alloc_new W _, by simp⟩
  case body =>
    rintro l pre xt a' W ⟨v, bv, HJ⟩ ⟨bq, rfl, hq, hzW⟩ ⟨post, hpost⟩ ⟨cs2, f2, hsb⟩
    obtain ⟨p, hTP, e1, e2, e3, e4, e5, e6, ⟨g1, g2, g3, g4, g5, g6⟩, _⟩ := HTM.out pre.length xt (by rw [hpost]; simp)
    have hpl : pre.length < q := by
      have := congrArg List.length hpost
      simp [hlenE] at this
      omega
    have hqP := HQ.out
    obtain ⟨_, hPy, d1, d2⟩ := tmPL_bd P 0 0 false false 0 pre.length p hTP
    have hOK := jn_take HV.out pre.length (by omega)
    have htk : (tpL P).take (pre.length + 1) = (tpL P).take pre.length ++ [p] := by rw [List.take_add_one, hTP]; rfl
    have hST : jnAll ((tpL P).take (pre.length + 1)) = jnStep (jnAll ((tpL P).take pre.length)) p := by rw [htk, jnAll_snoc]
    have h0t : pre.length = 0 → p.y.tie = false := fun h => by
      rw [h] at hPy
      have := ((pcErr_ok HV.out).2.2 0 _ hPy).2.1
      unfold tieB at this
      simpa using this
    obtain ⟨a, ha⟩ : ∃ a, jnAll ((tpL P).take pre.length) = a := ⟨_, rfl⟩
    rw [ha] at HJ hOK hST
    obtain ⟨ev, bc, cur⟩ := a
    dsimp only at HJ
    have o1 := hOK.bl
    have o2 := hOK.el
    have o3 := hOK.e0
    have o4 := hOK.c0
    have o5 := hOK.c1
    dsimp only at o1 o2 o3 o4 o5
    have hsz := (Array.getElem?_eq_some_iff.1 hsb).1
    have hbq5 : W5.heap.size ≤ bq := by omega
    have hsq5 : W5.heap.size + 2 ≠ bq := fun e => by
      rw [e] at hsb
      have h2 := hq
      unfold Blk at h2
      rw [hsb] at h2
      injection h2 with h2
      injection h2 with _ h2
      revert h2
      decide
    have hs5 : W5.heap.size ≤ W5.heap.size + 2 := by omega
    have hq5 : w1.heap.size < W5.heap.size := by omega
    have hr5 : w1.heap.size + 1 < W5.heap.size := by omega
    have hc5 : w1.heap.size + 2 < W5.heap.size := by omega
    have hBW : Below w.heap.size w W := low5.trans (HJ.kx.belowB low5.size (fun k h => by have := low5.size; omega))
    have HSW := Lib.hid (HSG.out _ hBW)
    have HJ0 := Lib.hid HJ
    have y10 := hq.cell 10
    have y11 := hq.cell 11
    have c0 := HJ.c.cell 0
    have cl0 := HJ.c.lt
    unfold tmA at hq y10 y11
    simp [e1, e2, e3, e4, e5, e6, g1, g2, g3, g4, g5] at hq y10 y11 c0
    obtain ⟨D0, hD0⟩ : ∃ D0, p.to - p.fm = D0 := ⟨_, rfl⟩
    rw [hD0] at d1 d2
    have w64 : IntKind.i64.wrap (p.to - p.fm) = D0 := by rw [hD0]; exact IntWalk.i64_in _ ⟨by omega, by omega⟩
    have w65 : IntKind.i64.wrap (cur + D0) = cur + D0 := IntWalk.i64_in _ ⟨by omega, by omega⟩
    have HST := Lib.hid hST
    have HD0 := Lib.hid hD0
    have HO1 := Lib.hid o1
    have le5 : W5.heap.size ≤ w1.heap.size + 4 := by omega
    have ge5 : w1.heap.size + 4 ≤ W5.heap.size := by omega
    have leW : bq < W.heap.size := by omega
    have lbc : bc.length ≤ 65536 := by omega
    have lev : ev.length ≤ 65536 := by omega
    have lcu : cur ≤ 576 * 65536 := by omega
    have HZW := Lib.hid hzW
    have lsW : W5.heap.size ≤ W.heap.size := HJ.kx.size
    clear HJ hOK hST htk hPy hTP hpost ha hBW hD0 o1 hz5 hzW hqP e1 e2 e3 e4 e5 e6 g1 g2 g3 g4 g5 g6 hlenE
    cases hso : soOf (cur + D0) with
    | none =>
      have HSO : Hid (soRet (soOf (cur + D0)) = .tuple #[.agg #[.int .i64 0, .bool false, .bool false], .bool false]) := by unfold Hid; rw [hso]; rfl
      have HSS : Hid (jnAll ((tpL P).take (pre.length + 1)) = ⟨ev ++ [⟨p.y.bar, p.v, p.d, p.t, p.y.tie, []⟩], bc ++ [(ev.length : Int)], D0⟩) := by
        unfold Hid
        rw [HST.out]
        unfold jnStep
        dsimp only
        rw [HD0.out]
        rw [hso]; unfold jnNew; rw [HD0.out]
      gi_wp2_with (first
        | (refine ⟨trivial, ?_⟩; gi_at_call 46; refine (callsIn_wide.2 (signOf_any (cur + D0) W HSW.out)).mono ?_; rintro e W1 ⟨rfl, hb1⟩; rw [HSO.out]; have hb2 := bt hb1 (ba W1 (.cells #[.int .i64 0, .bool false, .bool false] 48)); have hq2 := hq.below hb2; have y1 := hq2.cell 1; have y2 := hq2.cell 2; have y3 := hq2.cell 3; have y4 := hq2.cell 4; have y5 := hq2.cell 5; have y6 := hq2.cell 6; have y7 := hq2.cell 7; have y8 := hq2.cell 8; have y9 := hq2.cell 9; have z2 := hq2.frozen 2; have z3 := hq2.frozen 3; have z4 := hq2.frozen 4; have z6 := hq2.frozen 6; have zl := hq2.lt; have HJ2 := HJ0.out.below hb2 hs5 hq5 hr5 hc5; have q2 := HJ2.q.cell 2; have qf2 := HJ2.q.frozen 2; have ql2 := HJ2.q.lt; have r2 := HJ2.r.cell 0; have rl2 := HJ2.r.lt; have c2 := HJ2.c.cell 0; have cf2 := HJ2.c.frozen 0; have cl2 := HJ2.c.lt; simp at y1 y2 y3 y4 y5 y6 y7 y8 y9 q2 r2 c2; have hs2 := (hb2.block _ (Array.getElem?_eq_some_iff.1 hsb).1).trans hsb; have HJ2 := Lib.hid HJ2; have HQ2 := Lib.hid hq2; have HS2 := Lib.hid hs2; have K2 := Lib.hid (Kx.of_below (x := (JnX w1.heap.size (w1.heap.size + 1) (w1.heap.size + 2) bq v bv)) hb2); clear hq2 hs2 hb2)
        | (gi_at_builtin; obtain ⟨hJ3, hK3, hs3⟩ := jn_tbox HQ2.out HJ2.out K2.out HS2.out (.int .i64 p.v) (.bool p.d) (.bool p.t) (.slice none 0 0) hbq5 hsq5 hq5 hr5 hc5; obtain ⟨W3, hW3⟩ : ∃ W3, (((((W1.alloc (.cells #[.int .i64 0, .bool false, .bool false] 48)).setCell ⟨bq, 2, none⟩ (.int .i64 p.v)).setCell ⟨bq, 3, none⟩ (.bool p.d)).setCell ⟨bq, 4, none⟩ (.bool p.t)).setCell ⟨bq, 6, none⟩ (.slice none 0 0)) = W3 := ⟨_, rfl⟩; have hsz3 : W3.heap.size = W1.heap.size + 1 := (by rw [← hW3]; simp); rw [hW3] at hJ3 hK3 hs3 ⊢; clear hW3; have HJ3 := Lib.hid hJ3; have HK3 := Lib.hid hK3; have HS3 := Lib.hid hs3; have hz3 := hJ3.kx.size; have D1 := Lib.hid (World.news_of_block (heap_alloc_new W3 (.cells #[.bool p.y.bar, .int .i64 p.v, .bool p.d, .bool p.t, .bool p.y.tie, .slice none 0 0] 51))); clear hJ3 hK3 hs3; rw [hsz3] at D1; have ls3 : W5.heap.size ≤ W1.heap.size + 1 := (by omega); have HZ3 := Lib.hid hsz3; clear hsz3; go_loud (refine wpListIn_append_own _ rfl _ _ 26 rfl W5.heap.size 51 i0 _ 6 56 Tryd.underlying26 hi hi0 hi1 hi2 rfl (by decide) v ev.length (evC (ev.map zT)) rfl (HJ3.out.row.alloc _) ⟨W1.heap.size + 1, 0, none⟩ 1 1 [.bool p.y.bar, .int .i64 p.v, .bool p.d, .bool p.t, .bool p.y.tie, .slice none 0 0] rfl rfl D1.out (by simp [Value.oneCell']) (by unfold maxLen; omega) (by omega) (by simp; omega) ?_)))
      intro v' w6 hown6 hgrow6 _
      obtain ⟨A6, c6, rfl⟩ := own_slice hown6
      obtain ⟨hq6, hc6, hr6, hk6, HJ6⟩ := HJ3.out.event ⟨p.y.bar, p.v, p.d, p.t, p.y.tie, []⟩ rfl hown6 hgrow6 HS3.out hq5 (by omega) (by omega)
      have hJ7 := HJ6.cur D0 (by omega) (by omega) hc5
      have K7a : Kx (JnX w1.heap.size (w1.heap.size + 1) (w1.heap.size + 2) bq v bv) W.heap.size W ((w6.setCell ⟨w1.heap.size, 2, none⟩ (.slice A6 (ev.length + 1) c6)).setCell ⟨w1.heap.size + 2, 0, none⟩ (.int .i64 D0)) :=
        (((HK3.out.trans ((Kx.of_below (x := (JnX w1.heap.size (w1.heap.size + 1) (w1.heap.size + 2) bq v bv)) (ba W3 (.cells #[.bool p.y.bar, .int .i64 p.v, .bool p.d, .bool p.t, .bool p.y.tie, .slice none 0 0] 51))).mono HK3.out.size (fun _ _ h => h))).grownX hgrow6 (by have := HK3.out.size; simp; omega) (fun k hk => .inr (.inr (.inr (.inr (.inr (.inl hk)))))) (fun k hk => by
          obtain ⟨cs, T, f, h3⟩ := row_cells HJ3.out.row k hk
          exact ⟨cs, T, f, ((ba W3 _).block k (Array.getElem?_eq_some_iff.1 h3).1).trans h3⟩)).setBlk (.inr (.inl rfl)) hq6 _ _).setBlk (.inr (.inr (.inr (.inl rfl)))) HJ6.c _ _
      have hsb7 : ((w6.setCell ⟨w1.heap.size, 2, none⟩ (.slice A6 (ev.length + 1) c6)).setCell ⟨w1.heap.size + 2, 0, none⟩ (.int .i64 D0)).heap[W5.heap.size + 2]? = some (.cells cs2 48 f2) := by
        rw [set_other _ _ _ _ _ (by omega), set_other _ _ _ _ _ (by omega)]
        exact (hgrow6.block _ (by have := (Array.getElem?_eq_some_iff.1 HS3.out).1; simp; omega) (fun e => HJ3.out.ns e.symm)).trans (((ba W3 _).block _ (Array.getElem?_eq_some_iff.1 HS3.out).1).trans HS3.out)
      have q6 := hq6.cell 2
      have qf6 := hq6.frozen 2
      have ql6 := hq6.lt
      have c6' := hc6.cell 0
      have cf6 := hc6.frozen 0
      have cl6 := hc6.lt
      simp at q6 c6'
      have HJ7 := Lib.hid hJ7
      have K7 := Lib.hid K7a
      have HS7 := Lib.hid hsb7
      have r6 := hr6.cell 0
      have rl6 := hr6.lt
      have rf6 := hr6.frozen 0
      simp at r6
      clear hown6 hgrow6 hq6 hc6 hr6 hk6 HJ6 hJ7 K7a hsb7
      gi_wp2_with (gi_at_builtin; obtain ⟨W7, hW7⟩ : ∃ W7, ((w6.setCell ⟨w1.heap.size, 2, none⟩ (.slice A6 (ev.length + 1) c6)).setCell ⟨w1.heap.size + 1 + 1, 0, none⟩ (.int .i64 D0)) = W7 := ⟨_, rfl⟩; (have HJ7 : Hid (JnO W5 w1.heap.size (w1.heap.size + 1) (w1.heap.size + 2) (W5.heap.size + 2) (.slice B n d) (.slice B' m d') (.slice A6 (ev.length + 1) c6) bv (ev ++ [⟨p.y.bar, p.v, p.d, p.t, p.y.tie, []⟩]) bc D0 W7) := (by rw [← hW7]; exact HJ7.out)); (have K7 : Hid (Kx (JnX w1.heap.size (w1.heap.size + 1) (w1.heap.size + 2) bq v bv) W.heap.size W W7) := (by rw [← hW7]; exact K7.out)); (have HS7 : Hid (W7.heap[W5.heap.size + 2]? = some (.cells cs2 48 f2)) := (by rw [← hW7]; exact HS7.out)); have hsz7 : W7.heap.size = w6.heap.size := (by rw [← hW7]; simp); rw [hW7] at ⊢; clear hW7; have hz7 := HJ7.out.kx.size; have D := Lib.hid (World.news_of_block (heap_alloc_new W7 (.cells #[.int .i64 (ev.length : Int)] 3))); rw [hsz7] at D; have HZ7 := Lib.hid hsz7; have lz7 : W5.heap.size ≤ w6.heap.size := (by omega); clear hsz7; go_loud (refine wpListIn_append_own _ rfl _ _ 23 rfl W5.heap.size 3 j0 _ 1 8 Tryd.underlying23 hj hj0 hj1 hj2 rfl (by decide) bv bc.length (intC bc) rfl (HJ7.out.brow.alloc _) _ 1 1 [.int .i64 (ev.length : Int)] rfl rfl D.out (by simp [Value.oneCell']) (by unfold maxLen; omega) (by omega) (by simp; omega) ?_))
      intro bv' w8 hown8 hgrow8 _
      obtain ⟨Ab8, c8, rfl⟩ := own_slice hown8
      obtain ⟨hr8, hs8, HJ8⟩ := HJ7.out.bec hown8 hgrow8 HS7.out hq5 hr5 hc5 (by omega) (by omega)
      have K8 : Kx (JnX w1.heap.size (w1.heap.size + 1) (w1.heap.size + 2) bq v bv) W.heap.size W (w8.setCell ⟨w1.heap.size + 1, 0, none⟩ (.slice Ab8 (bc.length + 1) c8)) :=
        ((K7.out.trans ((Kx.of_below (x := (JnX w1.heap.size (w1.heap.size + 1) (w1.heap.size + 2) bq v bv)) (ba W7 (.cells #[.int .i64 (ev.length : Int)] 3))).mono K7.out.size (fun _ _ h => h))).grownX hgrow8 (by have := K7.out.size; simp; omega) (fun k hk => .inr (.inr (.inr (.inr (.inr (.inr hk)))))) (fun k hk => by
          obtain ⟨cs, T, f, h3⟩ := row_cells HJ7.out.brow k hk
          exact ⟨cs, T, f, ((ba W7 _).block k (Array.getElem?_eq_some_iff.1 h3).1).trans h3⟩)).setBlk (.inr (.inr (.inl rfl))) hr8 _ _
      have HCL := Lib.hid (jn_close (xt := xt) HJ0.out HJ8 K8 HSS.out (b1 := w1.heap.size) (Bp := w1.heap.size + 3) (by omega) (by omega) (by omega) (by omega) (by omega) (by omega) (by omega) hbq5 hsq5 (by omega) hq5 hr5 hc5)
      have r8 := hr8.cell 0
      have rf8 := hr8.frozen 0
      have rl8 := hr8.lt
      simp at r8
      clear hown8 hgrow8 hr8 hs8 HJ8 K8
      gi_wp2
      exact HCL.out _
    | some s =>
      obtain ⟨sv, sd, st⟩ := s
      have HSO : Hid (soRet (soOf (cur + D0)) = .tuple #[.agg #[.int .i64 sv, .bool sd, .bool st], .bool true]) := by unfold Hid; rw [hso]; rfl
      cases ht : p.y.tie with
      | false =>
        rw [ht] at hq
        have HSS : Hid (jnAll ((tpL P).take (pre.length + 1)) = ⟨ev ++ [⟨p.y.bar, p.v, p.d, p.t, false, []⟩], bc ++ [(ev.length : Int)], D0⟩) := by
          unfold Hid
          rw [HST.out]
          unfold jnStep
          dsimp only
          rw [HD0.out]
          rw [hso]; dsimp only; rw [if_neg (by rw [ht]; simp)]; unfold jnNew; rw [HD0.out, ht]
        gi_wp2_with (first
          | (refine ⟨trivial, ?_⟩; gi_at_call 46; refine (callsIn_wide.2 (signOf_any (cur + D0) W HSW.out)).mono ?_; rintro e W1 ⟨rfl, hb1⟩; rw [HSO.out]; have hb2 := bt hb1 (ba W1 (.cells #[.int .i64 sv, .bool sd, .bool st] 48)); have hq2 := hq.below hb2; have y1 := hq2.cell 1; have y2 := hq2.cell 2; have y3 := hq2.cell 3; have y4 := hq2.cell 4; have y5 := hq2.cell 5; have y6 := hq2.cell 6; have y7 := hq2.cell 7; have y8 := hq2.cell 8; have y9 := hq2.cell 9; have z2 := hq2.frozen 2; have z3 := hq2.frozen 3; have z4 := hq2.frozen 4; have z6 := hq2.frozen 6; have zl := hq2.lt; have HJ2 := HJ0.out.below hb2 hs5 hq5 hr5 hc5; have q2 := HJ2.q.cell 2; have qf2 := HJ2.q.frozen 2; have ql2 := HJ2.q.lt; have r2 := HJ2.r.cell 0; have rl2 := HJ2.r.lt; have c2 := HJ2.c.cell 0; have cf2 := HJ2.c.frozen 0; have cl2 := HJ2.c.lt; simp at y1 y2 y3 y4 y5 y6 y7 y8 y9 q2 r2 c2; have hs2 := (hb2.block _ (Array.getElem?_eq_some_iff.1 hsb).1).trans hsb; have HJ2 := Lib.hid HJ2; have HQ2 := Lib.hid hq2; have HS2 := Lib.hid hs2; have K2 := Lib.hid (Kx.of_below (x := (JnX w1.heap.size (w1.heap.size + 1) (w1.heap.size + 2) bq v bv)) hb2); clear hq2 hs2 hb2)
          | (gi_at_builtin; obtain ⟨hJ3, hK3, hs3⟩ := jn_tbox HQ2.out HJ2.out K2.out HS2.out (.int .i64 p.v) (.bool p.d) (.bool p.t) (.slice none 0 0) hbq5 hsq5 hq5 hr5 hc5; obtain ⟨W3, hW3⟩ : ∃ W3, (((((W1.alloc (.cells #[.int .i64 sv, .bool sd, .bool st] 48)).setCell ⟨bq, 2, none⟩ (.int .i64 p.v)).setCell ⟨bq, 3, none⟩ (.bool p.d)).setCell ⟨bq, 4, none⟩ (.bool p.t)).setCell ⟨bq, 6, none⟩ (.slice none 0 0)) = W3 := ⟨_, rfl⟩; have hsz3 : W3.heap.size = W1.heap.size + 1 := (by rw [← hW3]; simp); rw [hW3] at hJ3 hK3 hs3 ⊢; clear hW3; have HJ3 := Lib.hid hJ3; have HK3 := Lib.hid hK3; have HS3 := Lib.hid hs3; have hz3 := hJ3.kx.size; have D1 := Lib.hid (World.news_of_block (heap_alloc_new W3 (.cells #[.bool p.y.bar, .int .i64 p.v, .bool p.d, .bool p.t, .bool false, .slice none 0 0] 51))); clear hJ3 hK3 hs3; rw [hsz3] at D1; have ls3 : W5.heap.size ≤ W1.heap.size + 1 := (by omega); have HZ3 := Lib.hid hsz3; clear hsz3; go_loud (refine wpListIn_append_own _ rfl _ _ 26 rfl W5.heap.size 51 i0 _ 6 56 Tryd.underlying26 hi hi0 hi1 hi2 rfl (by decide) v ev.length (evC (ev.map zT)) rfl (HJ3.out.row.alloc _) ⟨W1.heap.size + 1, 0, none⟩ 1 1 [.bool p.y.bar, .int .i64 p.v, .bool p.d, .bool p.t, .bool false, .slice none 0 0] rfl rfl D1.out (by simp [Value.oneCell']) (by unfold maxLen; omega) (by omega) (by simp; omega) ?_)))
        intro v' w6 hown6 hgrow6 _
        obtain ⟨A6, c6, rfl⟩ := own_slice hown6
        obtain ⟨hq6, hc6, hr6, hk6, HJ6⟩ := HJ3.out.event ⟨p.y.bar, p.v, p.d, p.t, false, []⟩ rfl hown6 hgrow6 HS3.out hq5 (by omega) (by omega)
        have hJ7 := HJ6.cur D0 (by omega) (by omega) hc5
        have K7a : Kx (JnX w1.heap.size (w1.heap.size + 1) (w1.heap.size + 2) bq v bv) W.heap.size W ((w6.setCell ⟨w1.heap.size, 2, none⟩ (.slice A6 (ev.length + 1) c6)).setCell ⟨w1.heap.size + 2, 0, none⟩ (.int .i64 D0)) :=
          (((HK3.out.trans ((Kx.of_below (x := (JnX w1.heap.size (w1.heap.size + 1) (w1.heap.size + 2) bq v bv)) (ba W3 (.cells #[.bool p.y.bar, .int .i64 p.v, .bool p.d, .bool p.t, .bool false, .slice none 0 0] 51))).mono HK3.out.size (fun _ _ h => h))).grownX hgrow6 (by have := HK3.out.size; simp; omega) (fun k hk => .inr (.inr (.inr (.inr (.inr (.inl hk)))))) (fun k hk => by
            obtain ⟨cs, T, f, h3⟩ := row_cells HJ3.out.row k hk
            exact ⟨cs, T, f, ((ba W3 _).block k (Array.getElem?_eq_some_iff.1 h3).1).trans h3⟩)).setBlk (.inr (.inl rfl)) hq6 _ _).setBlk (.inr (.inr (.inr (.inl rfl)))) HJ6.c _ _
        have hsb7 : ((w6.setCell ⟨w1.heap.size, 2, none⟩ (.slice A6 (ev.length + 1) c6)).setCell ⟨w1.heap.size + 2, 0, none⟩ (.int .i64 D0)).heap[W5.heap.size + 2]? = some (.cells cs2 48 f2) := by
          rw [set_other _ _ _ _ _ (by omega), set_other _ _ _ _ _ (by omega)]
          exact (hgrow6.block _ (by have := (Array.getElem?_eq_some_iff.1 HS3.out).1; simp; omega) (fun e => HJ3.out.ns e.symm)).trans (((ba W3 _).block _ (Array.getElem?_eq_some_iff.1 HS3.out).1).trans HS3.out)
        have q6 := hq6.cell 2
        have qf6 := hq6.frozen 2
        have ql6 := hq6.lt
        have c6' := hc6.cell 0
        have cf6 := hc6.frozen 0
        have cl6 := hc6.lt
        simp at q6 c6'
        have HJ7 := Lib.hid hJ7
        have K7 := Lib.hid K7a
        have HS7 := Lib.hid hsb7
        have r6 := hr6.cell 0
        have rl6 := hr6.lt
        have rf6 := hr6.frozen 0
        simp at r6
        clear hown6 hgrow6 hq6 hc6 hr6 hk6 HJ6 hJ7 K7a hsb7
        gi_wp2_with (gi_at_builtin; obtain ⟨W7, hW7⟩ : ∃ W7, ((w6.setCell ⟨w1.heap.size, 2, none⟩ (.slice A6 (ev.length + 1) c6)).setCell ⟨w1.heap.size + 1 + 1, 0, none⟩ (.int .i64 D0)) = W7 := ⟨_, rfl⟩; (have HJ7 : Hid (JnO W5 w1.heap.size (w1.heap.size + 1) (w1.heap.size + 2) (W5.heap.size + 2) (.slice B n d) (.slice B' m d') (.slice A6 (ev.length + 1) c6) bv (ev ++ [⟨p.y.bar, p.v, p.d, p.t, false, []⟩]) bc D0 W7) := (by rw [← hW7]; exact HJ7.out)); (have K7 : Hid (Kx (JnX w1.heap.size (w1.heap.size + 1) (w1.heap.size + 2) bq v bv) W.heap.size W W7) := (by rw [← hW7]; exact K7.out)); (have HS7 : Hid (W7.heap[W5.heap.size + 2]? = some (.cells cs2 48 f2)) := (by rw [← hW7]; exact HS7.out)); have hsz7 : W7.heap.size = w6.heap.size := (by rw [← hW7]; simp); rw [hW7] at ⊢; clear hW7; have hz7 := HJ7.out.kx.size; have D := Lib.hid (World.news_of_block (heap_alloc_new W7 (.cells #[.int .i64 (ev.length : Int)] 3))); rw [hsz7] at D; have HZ7 := Lib.hid hsz7; have lz7 : W5.heap.size ≤ w6.heap.size := (by omega); clear hsz7; go_loud (refine wpListIn_append_own _ rfl _ _ 23 rfl W5.heap.size 3 j0 _ 1 8 Tryd.underlying23 hj hj0 hj1 hj2 rfl (by decide) bv bc.length (intC bc) rfl (HJ7.out.brow.alloc _) _ 1 1 [.int .i64 (ev.length : Int)] rfl rfl D.out (by simp [Value.oneCell']) (by unfold maxLen; omega) (by omega) (by simp; omega) ?_))
        intro bv' w8 hown8 hgrow8 _
        obtain ⟨Ab8, c8, rfl⟩ := own_slice hown8
        obtain ⟨hr8, hs8, HJ8⟩ := HJ7.out.bec hown8 hgrow8 HS7.out hq5 hr5 hc5 (by omega) (by omega)
        have K8 : Kx (JnX w1.heap.size (w1.heap.size + 1) (w1.heap.size + 2) bq v bv) W.heap.size W (w8.setCell ⟨w1.heap.size + 1, 0, none⟩ (.slice Ab8 (bc.length + 1) c8)) :=
          ((K7.out.trans ((Kx.of_below (x := (JnX w1.heap.size (w1.heap.size + 1) (w1.heap.size + 2) bq v bv)) (ba W7 (.cells #[.int .i64 (ev.length : Int)] 3))).mono K7.out.size (fun _ _ h => h))).grownX hgrow8 (by have := K7.out.size; simp; omega) (fun k hk => .inr (.inr (.inr (.inr (.inr (.inr hk)))))) (fun k hk => by
            obtain ⟨cs, T, f, h3⟩ := row_cells HJ7.out.brow k hk
            exact ⟨cs, T, f, ((ba W7 _).block k (Array.getElem?_eq_some_iff.1 h3).1).trans h3⟩)).setBlk (.inr (.inr (.inl rfl))) hr8 _ _
        have HCL := Lib.hid (jn_close (xt := xt) HJ0.out HJ8 K8 HSS.out (b1 := w1.heap.size) (Bp := w1.heap.size + 3) (by omega) (by omega) (by omega) (by omega) (by omega) (by omega) (by omega) hbq5 hsq5 (by omega) hq5 hr5 hc5)
        have r8 := hr8.cell 0
        have rf8 := hr8.frozen 0
        have rl8 := hr8.lt
        simp at r8
        clear hown8 hgrow8 hr8 hs8 HJ8 K8
        gi_wp2
        exact HCL.out _

      | true =>
        rw [ht] at hq
        cases hb : p.y.bar with
        | true =>
          rw [hb] at hq
          have HSS : Hid (jnAll ((tpL P).take (pre.length + 1)) = ⟨ev ++ [⟨true, p.v, p.d, p.t, true, []⟩], bc ++ [(ev.length : Int)], D0⟩) := by
            unfold Hid
            rw [HST.out]
            unfold jnStep
            dsimp only
            rw [HD0.out]
            rw [hso]; dsimp only; rw [if_neg (by rw [ht, hb]; simp)]; unfold jnNew; rw [HD0.out, ht, hb]
          gi_wp2_with (first
            | (refine ⟨trivial, ?_⟩; gi_at_call 46; refine (callsIn_wide.2 (signOf_any (cur + D0) W HSW.out)).mono ?_; rintro e W1 ⟨rfl, hb1⟩; rw [HSO.out]; have hb2 := bt hb1 (ba W1 (.cells #[.int .i64 sv, .bool sd, .bool st] 48)); have hq2 := hq.below hb2; have y1 := hq2.cell 1; have y2 := hq2.cell 2; have y3 := hq2.cell 3; have y4 := hq2.cell 4; have y5 := hq2.cell 5; have y6 := hq2.cell 6; have y7 := hq2.cell 7; have y8 := hq2.cell 8; have y9 := hq2.cell 9; have z2 := hq2.frozen 2; have z3 := hq2.frozen 3; have z4 := hq2.frozen 4; have z6 := hq2.frozen 6; have zl := hq2.lt; have HJ2 := HJ0.out.below hb2 hs5 hq5 hr5 hc5; have q2 := HJ2.q.cell 2; have qf2 := HJ2.q.frozen 2; have ql2 := HJ2.q.lt; have r2 := HJ2.r.cell 0; have rl2 := HJ2.r.lt; have c2 := HJ2.c.cell 0; have cf2 := HJ2.c.frozen 0; have cl2 := HJ2.c.lt; simp at y1 y2 y3 y4 y5 y6 y7 y8 y9 q2 r2 c2; have hs2 := (hb2.block _ (Array.getElem?_eq_some_iff.1 hsb).1).trans hsb; have HJ2 := Lib.hid HJ2; have HQ2 := Lib.hid hq2; have HS2 := Lib.hid hs2; have K2 := Lib.hid (Kx.of_below (x := (JnX w1.heap.size (w1.heap.size + 1) (w1.heap.size + 2) bq v bv)) hb2); clear hq2 hs2 hb2)
            | (gi_at_builtin; obtain ⟨hJ3, hK3, hs3⟩ := jn_tbox HQ2.out HJ2.out K2.out HS2.out (.int .i64 p.v) (.bool p.d) (.bool p.t) (.slice none 0 0) hbq5 hsq5 hq5 hr5 hc5; obtain ⟨W3, hW3⟩ : ∃ W3, (((((W1.alloc (.cells #[.int .i64 sv, .bool sd, .bool st] 48)).setCell ⟨bq, 2, none⟩ (.int .i64 p.v)).setCell ⟨bq, 3, none⟩ (.bool p.d)).setCell ⟨bq, 4, none⟩ (.bool p.t)).setCell ⟨bq, 6, none⟩ (.slice none 0 0)) = W3 := ⟨_, rfl⟩; have hsz3 : W3.heap.size = W1.heap.size + 1 := (by rw [← hW3]; simp); rw [hW3] at hJ3 hK3 hs3 ⊢; clear hW3; have HJ3 := Lib.hid hJ3; have HK3 := Lib.hid hK3; have HS3 := Lib.hid hs3; have hz3 := hJ3.kx.size; have D1 := Lib.hid (World.news_of_block (heap_alloc_new W3 (.cells #[.bool true, .int .i64 p.v, .bool p.d, .bool p.t, .bool true, .slice none 0 0] 51))); clear hJ3 hK3 hs3; rw [hsz3] at D1; have ls3 : W5.heap.size ≤ W1.heap.size + 1 := (by omega); have HZ3 := Lib.hid hsz3; clear hsz3; go_loud (refine wpListIn_append_own _ rfl _ _ 26 rfl W5.heap.size 51 i0 _ 6 56 Tryd.underlying26 hi hi0 hi1 hi2 rfl (by decide) v ev.length (evC (ev.map zT)) rfl (HJ3.out.row.alloc _) ⟨W1.heap.size + 1, 0, none⟩ 1 1 [.bool true, .int .i64 p.v, .bool p.d, .bool p.t, .bool true, .slice none 0 0] rfl rfl D1.out (by simp [Value.oneCell']) (by unfold maxLen; omega) (by omega) (by simp; omega) ?_)))
          intro v' w6 hown6 hgrow6 _
          obtain ⟨A6, c6, rfl⟩ := own_slice hown6
          obtain ⟨hq6, hc6, hr6, hk6, HJ6⟩ := HJ3.out.event ⟨true, p.v, p.d, p.t, true, []⟩ rfl hown6 hgrow6 HS3.out hq5 (by omega) (by omega)
          have hJ7 := HJ6.cur D0 (by omega) (by omega) hc5
          have K7a : Kx (JnX w1.heap.size (w1.heap.size + 1) (w1.heap.size + 2) bq v bv) W.heap.size W ((w6.setCell ⟨w1.heap.size, 2, none⟩ (.slice A6 (ev.length + 1) c6)).setCell ⟨w1.heap.size + 2, 0, none⟩ (.int .i64 D0)) :=
            (((HK3.out.trans ((Kx.of_below (x := (JnX w1.heap.size (w1.heap.size + 1) (w1.heap.size + 2) bq v bv)) (ba W3 (.cells #[.bool true, .int .i64 p.v, .bool p.d, .bool p.t, .bool true, .slice none 0 0] 51))).mono HK3.out.size (fun _ _ h => h))).grownX hgrow6 (by have := HK3.out.size; simp; omega) (fun k hk => .inr (.inr (.inr (.inr (.inr (.inl hk)))))) (fun k hk => by
              obtain ⟨cs, T, f, h3⟩ := row_cells HJ3.out.row k hk
              exact ⟨cs, T, f, ((ba W3 _).block k (Array.getElem?_eq_some_iff.1 h3).1).trans h3⟩)).setBlk (.inr (.inl rfl)) hq6 _ _).setBlk (.inr (.inr (.inr (.inl rfl)))) HJ6.c _ _
          have hsb7 : ((w6.setCell ⟨w1.heap.size, 2, none⟩ (.slice A6 (ev.length + 1) c6)).setCell ⟨w1.heap.size + 2, 0, none⟩ (.int .i64 D0)).heap[W5.heap.size + 2]? = some (.cells cs2 48 f2) := by
            rw [set_other _ _ _ _ _ (by omega), set_other _ _ _ _ _ (by omega)]
            exact (hgrow6.block _ (by have := (Array.getElem?_eq_some_iff.1 HS3.out).1; simp; omega) (fun e => HJ3.out.ns e.symm)).trans (((ba W3 _).block _ (Array.getElem?_eq_some_iff.1 HS3.out).1).trans HS3.out)
          have q6 := hq6.cell 2
          have qf6 := hq6.frozen 2
          have ql6 := hq6.lt
          have c6' := hc6.cell 0
          have cf6 := hc6.frozen 0
          have cl6 := hc6.lt
          simp at q6 c6'
          have HJ7 := Lib.hid hJ7
          have K7 := Lib.hid K7a
          have HS7 := Lib.hid hsb7
          have r6 := hr6.cell 0
          have rl6 := hr6.lt
          have rf6 := hr6.frozen 0
          simp at r6
          clear hown6 hgrow6 hq6 hc6 hr6 hk6 HJ6 hJ7 K7a hsb7
          gi_wp2_with (gi_at_builtin; obtain ⟨W7, hW7⟩ : ∃ W7, ((w6.setCell ⟨w1.heap.size, 2, none⟩ (.slice A6 (ev.length + 1) c6)).setCell ⟨w1.heap.size + 1 + 1, 0, none⟩ (.int .i64 D0)) = W7 := ⟨_, rfl⟩; (have HJ7 : Hid (JnO W5 w1.heap.size (w1.heap.size + 1) (w1.heap.size + 2) (W5.heap.size + 2) (.slice B n d) (.slice B' m d') (.slice A6 (ev.length + 1) c6) bv (ev ++ [⟨true, p.v, p.d, p.t, true, []⟩]) bc D0 W7) := (by rw [← hW7]; exact HJ7.out)); (have K7 : Hid (Kx (JnX w1.heap.size (w1.heap.size + 1) (w1.heap.size + 2) bq v bv) W.heap.size W W7) := (by rw [← hW7]; exact K7.out)); (have HS7 : Hid (W7.heap[W5.heap.size + 2]? = some (.cells cs2 48 f2)) := (by rw [← hW7]; exact HS7.out)); have hsz7 : W7.heap.size = w6.heap.size := (by rw [← hW7]; simp); rw [hW7] at ⊢; clear hW7; have hz7 := HJ7.out.kx.size; have D := Lib.hid (World.news_of_block (heap_alloc_new W7 (.cells #[.int .i64 (ev.length : Int)] 3))); rw [hsz7] at D; have HZ7 := Lib.hid hsz7; have lz7 : W5.heap.size ≤ w6.heap.size := (by omega); clear hsz7; go_loud (refine wpListIn_append_own _ rfl _ _ 23 rfl W5.heap.size 3 j0 _ 1 8 Tryd.underlying23 hj hj0 hj1 hj2 rfl (by decide) bv bc.length (intC bc) rfl (HJ7.out.brow.alloc _) _ 1 1 [.int .i64 (ev.length : Int)] rfl rfl D.out (by simp [Value.oneCell']) (by unfold maxLen; omega) (by omega) (by simp; omega) ?_))
          intro bv' w8 hown8 hgrow8 _
          obtain ⟨Ab8, c8, rfl⟩ := own_slice hown8
          obtain ⟨hr8, hs8, HJ8⟩ := HJ7.out.bec hown8 hgrow8 HS7.out hq5 hr5 hc5 (by omega) (by omega)
          have K8 : Kx (JnX w1.heap.size (w1.heap.size + 1) (w1.heap.size + 2) bq v bv) W.heap.size W (w8.setCell ⟨w1.heap.size + 1, 0, none⟩ (.slice Ab8 (bc.length + 1) c8)) :=
            ((K7.out.trans ((Kx.of_below (x := (JnX w1.heap.size (w1.heap.size + 1) (w1.heap.size + 2) bq v bv)) (ba W7 (.cells #[.int .i64 (ev.length : Int)] 3))).mono K7.out.size (fun _ _ h => h))).grownX hgrow8 (by have := K7.out.size; simp; omega) (fun k hk => .inr (.inr (.inr (.inr (.inr (.inr hk)))))) (fun k hk => by
              obtain ⟨cs, T, f, h3⟩ := row_cells HJ7.out.brow k hk
              exact ⟨cs, T, f, ((ba W7 _).block k (Array.getElem?_eq_some_iff.1 h3).1).trans h3⟩)).setBlk (.inr (.inr (.inl rfl))) hr8 _ _
          have HCL := Lib.hid (jn_close (xt := xt) HJ0.out HJ8 K8 HSS.out (b1 := w1.heap.size) (Bp := w1.heap.size + 3) (by omega) (by omega) (by omega) (by omega) (by omega) (by omega) (by omega) hbq5 hsq5 (by omega) hq5 hr5 hc5)
          have r8 := hr8.cell 0
          have rf8 := hr8.frozen 0
          have rl8 := hr8.lt
          simp at r8
          clear hown8 hgrow8 hr8 hs8 HJ8 K8
          gi_wp2
          exact HCL.out _

        | false =>
          rw [hb] at hq
          have hk0 : 0 < pre.length := by
            rcases Nat.eq_zero_or_pos pre.length with h | h
            · rw [h0t h] at ht
              cases ht
            · exact h
          have hev : 0 < ev.length := o3 hk0
          obtain ⟨L, hL⟩ : ∃ L, ev.length = L + 1 := ⟨ev.length - 1, by omega⟩
          have hLi : (L : Int) < (L : Int) + 1 := by omega
          have lL : L ≤ 65536 := by omega
          have hLw : IntKind.i64.wrap ((L : Int) + 1 - 1) = (L : Int) := by rw [show (L : Int) + 1 - 1 = (L : Int) by omega]; exact IntWalk.i64_in _ ⟨by omega, by omega⟩
          have HSS : Hid (jnAll ((tpL P).take (pre.length + 1)) = ⟨setLast ev ⟨sv, sd, st⟩, bc ++ [(L : Int)], cur + D0⟩) := by
            unfold Hid
            rw [HST.out]
            unfold jnStep
            dsimp only
            rw [HD0.out, hso]
            dsimp only
            rw [if_pos (by rw [ht, hb]; rfl), show (ev.length : Int) - 1 = (L : Int) by omega]
          have HL := Lib.hid hL
          clear hL
          gi_wp2_with (first
            | (refine ⟨trivial, ?_⟩; gi_at_call 46; refine (callsIn_wide.2 (signOf_any (cur + D0) W HSW.out)).mono ?_; rintro e W1 ⟨rfl, hb1⟩; rw [HSO.out]; have hb2 := bt hb1 (ba W1 (.cells #[.int .i64 sv, .bool sd, .bool st] 48)); have hq2 := hq.below hb2; have y1 := hq2.cell 1; have y2 := hq2.cell 2; have y3 := hq2.cell 3; have y4 := hq2.cell 4; have y5 := hq2.cell 5; have y6 := hq2.cell 6; have y7 := hq2.cell 7; have y8 := hq2.cell 8; have y9 := hq2.cell 9; have z2 := hq2.frozen 2; have z3 := hq2.frozen 3; have z4 := hq2.frozen 4; have z6 := hq2.frozen 6; have zl := hq2.lt; have HJ2 := HJ0.out.below hb2 hs5 hq5 hr5 hc5; have q2 := HJ2.q.cell 2; have qf2 := HJ2.q.frozen 2; have ql2 := HJ2.q.lt; have r2 := HJ2.r.cell 0; have rl2 := HJ2.r.lt; have c2 := HJ2.c.cell 0; have cf2 := HJ2.c.frozen 0; have cl2 := HJ2.c.lt; simp at y1 y2 y3 y4 y5 y6 y7 y8 y9 q2 r2 c2; have hs2 := (hb2.block _ (Array.getElem?_eq_some_iff.1 hsb).1).trans hsb; have HJ2 := Lib.hid HJ2; have HQ2 := Lib.hid hq2; have HS2 := Lib.hid hs2; have K2 := Lib.hid (Kx.of_below (x := (JnX w1.heap.size (w1.heap.size + 1) (w1.heap.size + 2) bq v bv)) hb2); clear hq2 hs2 hb2; obtain ⟨g, cap, y, hvg, hg1, hg2, ⟨csg, hBg⟩, _, ⟨l1, l2, l3⟩, hfz, hnx⟩ := HJ2.out.last hev hq5 hr5 hc5; subst hvg; have hns := HJ2.out.ns; have hgs : W5.heap.size + 2 ≠ g := (fun e => hns (by rw [e]; rfl)); have hJ6 := hnx ⟨sv, sd, st⟩; rw [HL.out, Nat.add_sub_cancel] at l1 l2 l3 hJ6; rw [HL.out] at q2; have HJ7 := Lib.hid (hJ6.cur (cur + D0) (by omega) (by omega) hc5); have z1 := hfz (L * 6 + 1); have zz2 := hfz (L * 6 + 2); have zz3 := hfz (L * 6 + 3); have hgb1 : w1.heap.size ≠ g := (by omega); have hgb2 : w1.heap.size + 1 ≠ g := (by omega); have hgb3 : w1.heap.size + 1 + 1 ≠ g := (by omega); have K7 := Lib.hid ((((K2.out.setBlk (.inr (.inr (.inr (.inr (.inr (.inl rfl)))))) hBg (L * 6 + 1) (.int .i64 sv)).setBlk (.inr (.inr (.inr (.inr (.inr (.inl rfl)))))) (hBg.set_ _ _) (L * 6 + 2) (.bool sd)).setBlk (.inr (.inr (.inr (.inr (.inr (.inl rfl)))))) ((hBg.set_ _ _).set_ _ _) (L * 6 + 3) (.bool st)).setBlk (.inr (.inr (.inr (.inl rfl)))) hJ6.c 0 (.int .i64 (cur + D0))); have hs7 := HS2.out; have HS7 := Lib.hid (jn_sb4 hgs (show W5.heap.size + 2 ≠ w1.heap.size + 2 by omega) hs7 (L * 6 + 1) (L * 6 + 2) (L * 6 + 3) 0 (.int .i64 sv) (.bool sd) (.bool st) (.int .i64 (cur + D0))); have HNS := Lib.hid hns; clear hns hJ6 hnx hfz hBg hs7)
            | (gi_at_builtin; obtain ⟨W7, hW7⟩ : ∃ W7, (((((W1.alloc (.cells #[.int .i64 sv, .bool sd, .bool st] 48)).setCell ⟨g, L * 6 + 1, none⟩ (.int .i64 sv)).setCell ⟨g, L * 6 + 2, none⟩ (.bool sd)).setCell ⟨g, L * 6 + 3, none⟩ (.bool st)).setCell ⟨w1.heap.size + 1 + 1, 0, none⟩ (.int .i64 (cur + D0))) = W7 := ⟨_, rfl⟩; (have HJ7 : Hid (JnO W5 w1.heap.size (w1.heap.size + 1) (w1.heap.size + 2) (W5.heap.size + 2) (.slice B n d) (.slice B' m d') (.slice (some ⟨g, 0, none⟩) (L + 1) cap) bv (setLast ev ⟨sv, sd, st⟩) bc (cur + D0) W7) := (by rw [← hW7]; exact HJ7.out)); (have K7 : Hid (Kx (JnX w1.heap.size (w1.heap.size + 1) (w1.heap.size + 2) bq (.slice (some ⟨g, 0, none⟩) ev.length cap) bv) W.heap.size W W7) := (by rw [← hW7]; exact K7.out)); (have HS7 : Hid (W7.heap[W5.heap.size + 2]? = some (.cells cs2 48 f2)) := (by rw [← hW7]; exact HS7.out)); have hsz7 : W7.heap.size = W1.heap.size + 1 := (by rw [← hW7]; simp); rw [hW7] at ⊢; clear hW7; have hz7 := HJ7.out.kx.size; have D := Lib.hid (World.news_of_block (heap_alloc_new W7 (.cells #[.int .i64 (L : Int)] 3))); rw [hsz7] at D; have HZ7 := Lib.hid hsz7; have lz7 : W5.heap.size ≤ W1.heap.size + 1 := (by omega); clear hsz7; go_loud (refine wpListIn_append_own _ rfl _ _ 23 rfl W5.heap.size 3 j0 _ 1 8 Tryd.underlying23 hj hj0 hj1 hj2 rfl (by decide) bv bc.length (intC bc) rfl (HJ7.out.brow.alloc _) _ 1 1 [.int .i64 (L : Int)] rfl rfl D.out (by simp [Value.oneCell']) (by unfold maxLen; omega) (by omega) (by simp; omega) ?_)))
          intro bv' w8 hown8 hgrow8 _
          obtain ⟨Ab8, c8, rfl⟩ := own_slice hown8
          obtain ⟨hr8, hs8, HJ8⟩ := HJ7.out.bec hown8 hgrow8 HS7.out hq5 hr5 hc5 (by omega) (by omega)
          have K8 : Kx (JnX w1.heap.size (w1.heap.size + 1) (w1.heap.size + 2) bq (.slice (some ⟨g, 0, none⟩) ev.length cap) bv) W.heap.size W (w8.setCell ⟨w1.heap.size + 1, 0, none⟩ (.slice Ab8 (bc.length + 1) c8)) :=
            ((K7.out.trans ((Kx.of_below (x := (JnX w1.heap.size (w1.heap.size + 1) (w1.heap.size + 2) bq (.slice (some ⟨g, 0, none⟩) ev.length cap) bv)) (ba W7 (.cells #[.int .i64 (L : Int)] 3))).mono K7.out.size (fun _ _ h => h))).grownX hgrow8 (by have := K7.out.size; simp; omega) (fun k hk => .inr (.inr (.inr (.inr (.inr (.inr hk)))))) (fun k hk => by
              obtain ⟨cs, T, f, h3⟩ := row_cells HJ7.out.brow k hk
              exact ⟨cs, T, f, ((ba W7 _).block k (Array.getElem?_eq_some_iff.1 h3).1).trans h3⟩)).setBlk (.inr (.inr (.inl rfl))) hr8 _ _
          have HCL := Lib.hid (jn_close (xt := xt) HJ0.out HJ8 K8 HSS.out (b1 := w1.heap.size) (Bp := w1.heap.size + 3) (by omega) (by omega) (by omega) (by omega) (by omega) (by omega) (by omega) hbq5 hsq5 (by omega) hq5 hr5 hc5)
          have r8 := hr8.cell 0
          have rf8 := hr8.frozen 0
          have rl8 := hr8.lt
          simp at r8
          clear hown8 hgrow8 hr8 hs8 HJ8 K8
          gi_wp2
          exact HCL.out _

  case done =>
    rintro D W hD ⟨v, bv, HJ⟩ hK
    have hTP : (tpL P).take (tmL E 0 0 false false 0).length = tpL P := List.take_of_length_le (by rw [tmPL_len, hlenE, HQ.out]; exact Nat.le_refl _)
    rw [hTP] at HJ
    have hOK := jn_take HV.out P.length (Nat.le_refl _)
    rw [show (tpL P).take P.length = tpL P from List.take_of_length_le (by rw [tmPL_len]; exact Nat.le_refl _)] at hOK
    obtain ⟨a, ha⟩ : ∃ a, jnAll (tpL P) = a := ⟨_, rfl⟩
    have hRS : jnRes P = mvL a.bc P P.length a.ev := by unfold jnRes; rw [ha]
    rw [ha] at HJ hOK
    clear ha hTP
    obtain ⟨ev, bc, cur⟩ := a
    dsimp only at HJ hRS
    have hqP := HQ.out
    have o1 := hOK.bl
    have o2 := hOK.el
    have o3 := hOK.e0
    have o4 := hOK.bm
    have o5 := hOK.be
    have o6 := hOK.eL
    dsimp only at o1 o2 o3 o4 o5 o6
    obtain ⟨Ae, cE, rfl⟩ := own_slice HJ.row
    obtain ⟨Ab, cb', rfl⟩ := own_slice HJ.brow
    have hbl : bc.length = q := by omega
    have l5 := low5.size
    have hBW : Below w.heap.size w W := low5.trans (HJ.kx.belowB l5 (fun k h => by omega))
    have hkW : ∀ (g : Nat) (T : TypeId) (cs : Array Value), g < w1.heap.size → Blk W5 g T cs → Blk W g T cs := fun g T cs hg hb => (HJ.kx.block g hb.lt (fun h => by omega)).trans hb
    have hPB := hkW _ _ _ (by omega) HBP.out
    have hSB := hkW _ _ _ (by omega) HBS.out
    have MV : Hid (Calls Tryd.prog 47 #[.slice A2 q cq, .slice Ae ev.length cE, .slice Ab q cb'] W fun e w' => (∃ v, e = .returned v) ∧ ∃ E', Kx (fun k => W5.heap.size ≤ k) W.heap.size W w' ∧ Kx (fun k => Ae = some ⟨k, 0, none⟩) W.heap.size W w' ∧ Ow w' W5.heap.size 51 6 Ae ev.length cE (evC E') ∧ CpE w' W5.heap.size E' (mvL bc P q ev) ∧ E'.length = (mvL bc P q ev).length) := by
      by_cases hq0 : q = 0
      · subst hq0
        have hev : ev = [] := List.length_eq_zero_iff.1 (by omega)
        subst hev
        refine (moveHolds_nil A2 cq _ Ab 0 cb' W).mono ?_
        rintro e w' ⟨h1, hb⟩
        exact ⟨h1, [], (Kx.of_below hb).mono (Nat.le_refl _) (fun _ _ h => h), Kx.of_below hb, (Ow.of_own HJ.row).below hb, fun j x y hx _ => by simp at hx, rfl⟩
      · have hpe : 0 < ev.length := o3 (by omega)
        have hrow := HJ.row
        rcases hrow.2 with ⟨_, e0⟩ | ⟨ge, cap, cu, e1, e2, e3, e4, e5, e6, e7⟩
        · omega
        injection e1 with e1 e8 e9
        subst e1 e9
        have hBg : Blk W ge 51 cu := e3
        obtain ⟨eb, off, f1, f2, _⟩ := HE3.out.2.2 (by omega)
        refine (moveHolds_any A2 q cq P W5.heap.size ge ev.length cE (ev.map zT) ev Ab cb' bc W ⟨Ow.of_own HJ.row, cpe_zT _ _ o6, by simp, Kx.refl _ _ _⟩ (by simp) HJ.kx.size hBg.lt (fun W' hx => ⟨(HPI.out W' (hBW.trans (hx.belowB hBW.size (fun k h => by omega)))).es, ?_⟩) (fun b o hb => by rw [f1] at hb; injection hb with hb; injection hb with hb; omega) (fun b o hb => ?_) (by omega) hqb HST.out (fun x hx => by have := o4 x hx; omega) (fun i hi hne => ⟨?_, ?_⟩)).mono ?_
        · have := HJ.brow
          rw [hbl] at this
          exact Sl_own (ownsRow_heap this (fun g hg => hx.block g (by have := (HJ.brow.lt g (by rw [hbl]; exact hg)).2; exact this) (fun e => by
            refine blk_apart hBg this (by decide) ?_
            rw [← e]
            exact hg.symm)))
        · intro e
          refine blk_apart hBg HJ.brow (by decide) ?_
          rw [hb, ← e]
          rfl
        · have hib : i < bc.length := by omega
          have hm : bc.getD i 0 ∈ bc := by
            rw [List.getD_eq_getElem?_getD, List.getElem?_eq_getElem hib]
            exact List.getElem_mem hib
          have h1 := o5 _ hm
          have h2 := o4 _ hm
          omega
        · intro s hs
          have := hold_in HV.out (show i < P.length by omega) s hs
          omega
        · rintro e w' ⟨h1, E', h2⟩
          exact ⟨h1, E', h2.kx.mono (Nat.le_refl _) (fun k _ h => by omega), h2.kx.mono (Nat.le_refl _) (fun k _ h => by rw [h]), h2.row, h2.cp, h2.len⟩
    have HQB := Lib.hid HJ.q
    have HKX := Lib.hid HJ.kx
    have HSB := Lib.hid hSB
    have HK := Lib.hid hK
    have HRS := Lib.hid hRS
    have HBL := Lib.hid hbl
    have p2 := hPB.cell 2
    have q0 := HJ.q.cell 0
    have q1 := HJ.q.cell 1
    have q2 := HJ.q.cell 2
    have r0 := HJ.r.cell 0
    simp at p2 q0 q1 q2 r0
    rw [hbl] at r0
    clear HJ hOK o1 o2 o3 o4 o5 o6 hRS hPB hSB hkW hbl hqP hlenE hK
    gi_wp2_with (fail)
    refine ⟨trivial, ?_⟩
    gi_at_call 47
    refine (callsIn_wide.2 MV.out).mono ?_
    rintro e w2 ⟨⟨v2, rfl⟩, E', hKa, hKb, hO2, hC2, hl2⟩
    have hb2 : ∀ (g : Nat) (T : TypeId) (cs : Array Value), g < W5.heap.size → Blk W g T cs → Blk w2 g T cs := fun g T cs hg hb => (hKa.block g hb.lt (fun h => by omega)).trans hb
    have hQ2 := hb2 _ _ _ (by omega) HQB.out
    have hS2 := hb2 _ _ _ (by omega) HSB.out
    have hD2k := hKa.oth D _ HK.out rfl
    clear q0 q1 q2 p2 r0
    have q0 := hQ2.cell 0
    have q1 := hQ2.cell 1
    have q2 := hQ2.cell 2
    have s0 := hS2.cell 0
    have s1 := hS2.cell 1
    have s2 := hS2.cell 2
    have g0 := hS2.frozen 0
    have g1 := hS2.frozen 1
    have g2 := hS2.frozen 2
    have gl := hS2.lt
    simp at q0 q1 q2 s0 s1 s2
    have HD2 := Lib.hid hD2k
    have HS2 := Lib.hid hS2
    have HM := Lib.hid (And.intro hKa (And.intro hKb (And.intro hO2 (And.intro hC2 hl2))))
    have HB2 := Lib.hid hb2
    have hDq : D ≠ w.heap.size + 1 := by omega
    clear hD2k hS2 hQ2 hb2 hKa hKb hO2 hC2 hl2
    gi_wp2
    have hS2 := HS2.out
    obtain ⟨hKa, hKb, hO2, hC2, hl2⟩ := HM.out
    have hK' : (((w2.setCell ⟨w.heap.size + 1, 0, none⟩ (.slice B n d)).setCell ⟨w.heap.size + 1, 1, none⟩ (.slice B' m d')).setCell ⟨w.heap.size + 1, 2, none⟩ (.slice Ae ev.length cE)).heap[D]? = some (.deferred (some [])) := by
      rw [Below.heap_setCell _ _ _ _ hDq, Below.heap_setCell _ _ _ _ hDq, Below.heap_setCell _ _ _ _ hDq]
      exact HD2.out
    refine ⟨by simp, .inl ⟨_, _, rfl, run_takeDeferred hK', ?_⟩⟩
    have hR3 := blk_put (l := D) (o' := .deferred none) (((hS2.set_ 0 (.slice B n d)).set_ 1 (.slice B' m d')).set_ 2 (.slice Ae ev.length cE)) hK' rfl
    have z0 := hR3.cell 0
    have z1 := hR3.cell 1
    have z2 := hR3.cell 2
    simp at z0 z1 z2
    have hl2' : w.heap.size + 1 < w2.heap.size := hS2.lt
    have hlow : Below w.heap.size w2 ((((w2.setCell ⟨w.heap.size + 1, 0, none⟩ (.slice B n d)).setCell ⟨w.heap.size + 1, 1, none⟩ (.slice B' m d')).setCell ⟨w.heap.size + 1, 2, none⟩ (.slice Ae ev.length cE)).putObj D (.deferred none)) := by
      have hb := (((Below.refl w.heap.size w2).setCell (p := ⟨w.heap.size + 1, 0, none⟩) (by simp) (.slice B n d)).setCell (p := ⟨w.heap.size + 1, 1, none⟩) (by simp) (.slice B' m d')).setCell (p := ⟨w.heap.size + 1, 2, none⟩) (by simp) (.slice Ae ev.length cE)
      exact hb.grown (grownBy_putObj' _ D _) (by simp; omega) (fun k e => by cases e; omega)
    have hfin : ∀ (g : Nat) (T : TypeId) (cs : Array Value), g ≠ w.heap.size + 1 → Blk w2 g T cs → Blk ((((w2.setCell ⟨w.heap.size + 1, 0, none⟩ (.slice B n d)).setCell ⟨w.heap.size + 1, 1, none⟩ (.slice B' m d')).setCell ⟨w.heap.size + 1, 2, none⟩ (.slice Ae ev.length cE)).putObj D (.deferred none)) g T cs := fun g T cs hg hb =>
      blk_put (((hb.setOther hg _ _).setOther hg _ _).setOther hg _ _) hK' rfl
    have hkO : ∀ (g : Nat) (T : TypeId) (cs : Array Value), T ≠ 28 → Blk w1 g T cs → Blk ((((w2.setCell ⟨w.heap.size + 1, 0, none⟩ (.slice B n d)).setCell ⟨w.heap.size + 1, 1, none⟩ (.slice B' m d')).setCell ⟨w.heap.size + 1, 2, none⟩ (.slice Ae ev.length cE)).putObj D (.deferred none)) g T cs := fun g T cs hT hb => by
      have hg := hb.lt
      have h5 : Blk W5 g T cs := hb.below hW1
      have hW : Blk W g T cs := (HKX.out.block g (by omega) (fun h => by omega)).trans h5
      exact hfin g T cs (hb.ne (HBX.out.2.1.below HB1.out) hT) (HB2.out g T cs (by omega) hW)
    refine ⟨.tuple #[pcV B n d B' m d' Ae ev.length cE, .int .i64 0], ?_, ?_⟩
    · simp [results, Tryd.results18, go_sem, z0, z1, z2]
    · have hP0 := HPI.out w (Below.refl _ _)
      have hw0 : w.heap.size ≤ w0.heap.size := by have := HB0.out.size; have := HBX.out.2.2.2; omega
      rw [HRS.out]
      refine ⟨B, n, d, B', m, d', Ae, ev.length, cE, rfl, ⟨?_, ?_, hP0.hn, hP0.hm, ?_, E', ?_, ?_, ?_⟩, ?_⟩
      · exact (HO1.out.blkB (fun g cs hg hb => hkO g _ _ (by decide) hb)).more hw0
      · exact (HO2.out.blkB (fun g cs hg hb => hkO g _ _ (by decide) hb)).more hw0
      · rw [oC_ok, mvL_len]
      · rw [oC_ok, ← HQ.out]
        exact hl2
      · rw [oC_ok, ← HQ.out]
        exact (hC2.blkB (fun g cs hg hb => hfin g _ _ (by omega) hb)).more l5
      · exact (hO2.blkB (fun g cs hg hb => hfin g _ _ (by omega) hb)).more l5
      · exact (hBW.trans (hKa.belowB hBW.size (fun k h => by omega))).trans hlow

end Go.Proofs.YtdhjigaocamglaaDoor
