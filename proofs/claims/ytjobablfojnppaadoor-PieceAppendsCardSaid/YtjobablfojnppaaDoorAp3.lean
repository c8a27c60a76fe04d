/- Pieces: Append of the reference. -/
import Derived.Test.YtjobablfojnppaaDoorAp2
import Derived.Deep.RegionLaw
namespace Go.Proofs.YtjobablfojnppaaDoor
open Go Go.RowKit

theorem field_pc (A : Option Addr) (n c : Nat) (A' : Option Addr) (m c' : Nat) (A2 : Option Addr) (q cq : Nat) (W : World) : (Instr.field 28 (pcV A n c A' m c' A2 q cq) 1).run Tryd.prog W = .ok (.slice A2 q cq) W := by
  kernel_rfl
theorem row_more {w : World} {base b : Nat} {e : TypeId} {size : Nat} {v : Value} {n : Nat} {xs : List Value} (h : w.ownsRow base e size v n xs) (hb : b ≤ base) : w.ownsRow b e size v n xs := by
  refine ⟨h.1, ?_⟩
  rcases h.2 with h2 | ⟨g, cap, cur, h1, h2, h3⟩
  · exact .inl h2
  · exact .inr ⟨g, cap, cur, h1, by omega, h3⟩
theorem cpe_append {w : World} {b : Nat} {E F : List EvT} {P Q : List EvP} (h1 : CpE w b E P) (h2 : CpE w b F Q) (hl : E.length = P.length) : CpE w b (E ++ F) (P ++ Q) := fun j x y hx hy => by
  by_cases hj : j < E.length
  · rw [List.getElem?_append_left hj] at hx
    rw [List.getElem?_append_left (by omega)] at hy
    exact h1 j x y hx hy
  · rw [List.getElem?_append_right (by omega)] at hx hy
    rw [← hl] at hy
    exact h2 _ x y hx hy
theorem rapp_fin {w W0 W5 w6 w7 : World} {b3 gb : Nat} {Ba Ba' Ba2 Bb Bb' Bb2 R : Option Addr} {n na m na' q na2 n2 nb m2 nb' q2 nb2 k7 : Nat} {C : List Cr} {S : List Int} {P : List EvP} {Ea : List EvT} {D : List Cr} {U : List Int} {Q : List EvP} {Eb : List EvT}
    (hw : Below w.heap.size w W0) (T : Below W0.heap.size W0 w6) (TI : Below W5.heap.size W5 w6) (h3 : W0.heap.size ≤ b3) (ho : PcOE W5 b3 Ba n na Ba' m na' Ba2 q na2 C S P Ea) (hr : W5.ownsRow b3 41 6 (.slice Ba2 q na2) q (evC Ea))
    (hg : Blk W5 gb 28 #[.slice Ba n na, .slice Ba' m na', .slice Ba2 q na2]) (hob : PcOE w6 w.heap.size Bb n2 nb Bb' m2 nb' Bb2 q2 nb2 D U Q Eb)
    (hown : w7.ownsRow b3 41 6 (.slice R (q + q2) k7) (q + q2) (evC Ea ++ evC Eb)) (hgrow : w6.grownBy w7 (Value.slice Ba2 q na2).ownBlock) :
    Below W0.heap.size W0 w7 ∧ Blk w7 gb 28 #[.slice Ba n na, .slice Ba' m na', .slice Ba2 q na2] ∧ PcOw w7 w.heap.size Ba n na Ba' m na' R (q + q2) k7 C S (P ++ Q) := by
  have hrow6 := own_below hr TI
  have hk : ∀ (g : Nat) (T : TypeId) (cs : Array Value), T ≠ 41 → Blk w6 g T cs → Blk w7 g T cs := fun g T cs hT h => h.grown hgrow (blk_apart h hrow6 hT)
  have o5 := ho.below TI
  have hwb : w.heap.size ≤ b3 := Nat.le_trans hw.size h3
  refine ⟨Below.grown T hgrow T.size (fun g hh => by have := (hrow6.lt g hh).1; omega), hk _ _ _ (by decide) (hg.below TI), (o5.o3.crs.blk (fun g cs h => hk g _ cs (by decide) h)).more hwb, (o5.o3.stp.blk (fun g cs h => hk g _ cs (by decide) h)).more hwb, o5.o3.hn, o5.o3.hm, by rw [List.length_append, ← o5.o3.hq, ← hob.o3.hq], Ea ++ Eb, by rw [List.length_append, List.length_append, o5.e1, hob.e1], cpe_append ((o5.e2.blk (fun g cs h => hk g _ cs (by decide) h)).more hwb) (hob.e2.blk (fun g cs h => hk g _ cs (by decide) h)) o5.e1, ?_⟩
  rw [evC_append]
  exact (Ow.of_own hown).more hwb
theorem step_append_sl {P : Program} {ops : Array Oper} {o : Oper} {a : Act} {w : World} {K : Act → World → Prop} {Q : Exit → Act → World → Prop} {E : Prop} (hgd : o.guard = none) (s x : Operand) (t : TypeId)
    (ho : o.op = .call { callee := .builtin .append, args := #[s, x], argTypes := #[t, t] })
    (base : Nat) (e : TypeId) (i : TypeInfo) (z : Value) (size bytes : Nat) (ht : P.underlying t = some (.slice e)) (hi : P.info? e = some i) (hz : i.zero = some z)
    (hsize : i.size = size) (hby : i.bytes = bytes) (hzs : z.cells.size = size) (hsz : 0 < size)
    (v : Value) (n : Nat) (xs : List Value) (hs : a.eval s = v) (hown : w.ownsRow base e size v n xs) {B : Nat}
    (A : Option Addr) (m c : Nat) (news : List Value) (hx : a.eval x = .slice A m c) (hS : Sl w B size A m c news) (h1 : ∀ u ∈ news, u.oneCell' = true)
    (h63 : n + m ≤ maxLen) (hbytes : (n + m) * bytes ≤ 140737488355328) (hbase : base ≤ w.heap.size)
    (h : ∀ v' w', w'.ownsRow base e size v' (n + m) (xs ++ news) → w.grownBy w' v.ownBlock → K (a.put o.dst v') w') :
    if Region.wanted o (yielded ops a.tmps) = true then Oper.wp P o a w K Q else E := by
  have hw : Region.wanted o (yielded ops a.tmps) = true := by simp [Region.wanted, hgd]
  rw [if_pos hw]
  obtain ⟨v', w', k1, k2, k3⟩ := run_append_sl (P := P) base t o.type e i z size bytes ht hi hz hsize hby hzs hsz v n xs hown hS h1 h63 hbytes hbase
  exact Lib.wp_append_run w s x t t ho v _ hs hx v' w' k1 (h v' w' k2 k3)

set_option maxRecDepth 100000 in
set_option maxHeartbeats 8000000 in
theorem pcopyR_any (A : Option Addr) (n c : Nat) (A' : Option Addr) (m c' : Nat) (A2 : Option Addr) (q cq : Nat) (C : List Cr) (S : List Int) (P : List EvP) (w : World) (hP : PcIn w A n c A' m c' A2 q cq C S P) (hnb : n ≤ 65536) (hmb : m ≤ 65536) (hq : q ≤ 65536) (hst : ∀ y ∈ P, y.L.length ≤ 65536) :
    Calls Tryd.prog 16 #[pcV A n c A' m c' A2 q cq] w fun e w' => ∃ B d B' d' B2 d2 E, e = .returned (pcV B n d B' m d' B2 q d2) ∧ PcOE w' w.heap.size B n d B' m d' B2 q d2 C S P E ∧ w'.ownsRow w.heap.size 41 6 (.slice B2 q d2) q (evC E) ∧ Below w.heap.size w w' := by
  have HP : Hid (∀ w', Below w.heap.size w w' → PcIn w' A n c A' m c' A2 q cq C S P) := fun w' hb => hP.below hb
  have HL := Lib.hid hP.es.hq
  have HST := Lib.hid hst
  obtain ⟨i0, ii1, ii2, ii3, ii4⟩ := info_parts Tryd.infoEv
  obtain ⟨j0, jj1, jj2, jj3, jj4⟩ := info_parts Tryd.infoSt
  clear hP hst
  go_enter Tryd.func16, Tryd.ntmps16
  go_wp2_with (go_at_call 51; refine (rcopy_any A A' n c m c' C S _ (HP.out _ (bt (ba w _) (ba _ _))).crs (HP.out _ (bt (ba w _) (ba _ _))).stp hnb hmb).mono ?_; rintro e w1 ⟨B, d, B', d', rfl, ho1, ho2, hb1⟩)
  have HA := Lib.hid (And.intro ho1 ho2)
  have HB1 := Lib.hid hb1
  have hz1 : w.heap.size + 1 < w1.heap.size := by have := hb1.size; simp at this; omega
  clear ho1 ho2 hb1
  go_loopw [4] (fun i wr => ∃ (k : Nat) (B2 : Option Addr) (d2 : Nat) (E : List EvT), k ≤ q ∧ i = .int .i64 k ∧ E.length = k ∧ Own1 w1 wr 41 6 B2 k d2 (evC E) ∧ CpE wr w1.heap.size E P ∧ Blk wr w1.heap.size 28 #[.slice B n d, .slice B' m d', .slice B2 k d2] ∧ DstE E) (fun i _ => q - (intOf i).toNat)
  case atStart => exact ⟨0, none, 0, [], by omega, rfl, rfl, Own1.start (ba w1 _) _ _, fun j x y hx _ => by simp at hx, heap_alloc_new _ _, fun i j x y _ hx => by simp at hx⟩
  case round =>
    obtain ⟨k, B2, d2, E, hk, rfl, hE, hO, hC, hQ, hD⟩ := hrel
    have HD := Lib.hid hD
    clear hD
    have HO := Lib.hid hO
    have HCp := Lib.hid hC
    have HQ := Lib.hid hQ
    have HEl := Lib.hid hE
    obtain ⟨p0, p1, p2⟩ := cell3 (bt (ba _ _) (bt HB1.out HO.out.low))
    have q0 := hQ.cell 0
    have q1 := hQ.cell 1
    have q2 := hQ.cell 2
    have f2 := hQ.frozen 2
    have hzr : w1.heap.size < wr.heap.size := hQ.lt
    have hz0 : w.heap.size < wr.heap.size := by omega
    have hne : w1.heap.size ≠ wr.heap.size := by omega
    have hne2 : wr.heap.size ≠ w1.heap.size := by omega
    have HWR : Hid (Below w.heap.size w wr) := bx (bx (bt HB1.out HO.out.low))
    clear hO hC hQ hE
    by_cases hlt : k < q
    · obtain ⟨b, off, sa, sc, rfl, hbl, hPk, _, ⟨c0, c1, c2, c3, c4, c5⟩, hS⟩ := (HP.out _ HWR.out).es.at hlt
      have HS := Lib.hid hS
      have HY := Lib.hid hPk
      have hL : (P.getD k z6).L.length ≤ 65536 := HST.out _ (List.mem_of_getElem? hPk)
      clear hS hPk
      generalize P.getD k z6 = y at *
      obtain ⟨bar, v, dt, tr, tie, L⟩ := y
      dsimp only at c0 c1 c2 c3 c4 c5 hL HS
      go_wp2_with (first
        | (at_builtin; (refine wpList_append_fresh _ rfl _ _ 39 rfl 65 j0 _ 5 40 Tryd.underlying39 jj1 jj2 jj3 jj4 rfl (by decide) _ rfl sa L.length sc (stC L) rfl (HS.out.below (bt (ba wr _) (ba _ _))) (by unfold maxLen; omega) (by omega) ?_); (intro A5 c5' w5 hown5 hb5); (have hT5 := bx (bx hb5); obtain ⟨x0, x1, x2, x3, x4, x5⟩ := cell6 (bt (ba _ _) hb5); have fx := (keepb (bt (ba _ _) hb5) 5).2; have r0 := cell_same (hT5.block w1.heap.size hzr) q0; have r1 := cell_same (hT5.block w1.heap.size hzr) q1; have r2 := cell_same (hT5.block w1.heap.size hzr) q2; have g2 := (frozen_same (hT5.block w1.heap.size hzr)).trans f2; have hT7 := hT5); (have hz5 : wr.heap.size + 1 < w5.heap.size := by (have := hb5.size; simp at this; omega)); (have hT6 : Below wr.heap.size wr (w5.setCell ⟨wr.heap.size, 5, none⟩ (.slice A5 L.length c5')) := hT5.setCell (Nat.le_refl _) _))
        | (at_builtin; (refine wpList_append_own _ rfl _ _ 26 rfl w1.heap.size 41 i0 _ 6 56 Tryd.underlying26 ii1 ii2 ii3 ii4 rfl (by decide) (.slice B2 k d2) k _ rfl ((own_below HO.out.own hT6).alloc _) ⟨w5.heap.size, 0, none⟩ 1 1 [.bool bar, .int .i64 v, .bool dt, .bool tr, .bool tie, .slice A5 L.length c5'] rfl rfl ?d1 ?d2 ?d3 ?d4 ?d5 ?_)))
      case d1 =>
        have := World.news_of_block (cs := #[.bool bar, .int .i64 v, .bool dt, .bool tr, .bool tie, .slice A5 L.length c5']) (t := 41) (fr := (0, 0)) (heap_alloc_new (w5.setCell ⟨wr.heap.size, 5, none⟩ (.slice A5 L.length c5')) _)
        simpa using this
      case d2 =>
        intro u hu
        simp at hu
        (repeat' (rcases hu with rfl | hu)) <;> first | rfl | (subst hu; rfl)
      case d3 => unfold maxLen; omega
      case d4 => omega
      case d5 => simp; omega
      intro v' w7 hown' hgrow _
      obtain ⟨_, _, _, _, hkeep⟩ := Own1.step (HO.out.below hT6) (Below.refl _ _) rfl hown' hgrow
      obtain ⟨B3, d3, rfl, hO3, _⟩ := Own1.step HO.out hT6 rfl hown' hgrow
      have hQ7 := hkeep _ _ _ (by decide) (HQ.out.below hT6)
      have s0 := hQ7.cell 0
      have s1 := hQ7.cell 1
      have s2 := hQ7.cell 2
      have t2 := hQ7.frozen 2
      have hO6 : Ow w7 w1.heap.size 65 5 A5 L.length c5' (stC L) := ((hown5.other (by simp; omega) 5 (.slice A5 L.length c5')).blk (fun g cs h => hkeep g _ cs (by decide) h)).more (by simp; omega)
      have hC7 : CpE w7 w1.heap.size E P := HCp.out.blk (fun g cs h => hkeep g _ cs (by decide) (h.below hT6))
      have hC8 : CpE (w7.setCell ⟨w1.heap.size, 2, none⟩ (.slice B3 (k + 1) d3)) w1.heap.size (E ++ [⟨bar, v, dt, tr, tie, A5, L.length, c5'⟩]) P := by
        refine CpE.snoc (y := ⟨bar, v, dt, tr, tie, L⟩) ?_ (by rw [HEl.out]; exact HY.out) ⟨rfl, rfl, rfl, rfl, rfl, rfl⟩ ?_
        · exact hC7.blk (fun g cs h => h.setOther (h.ne hQ7 (by decide)) _ _)
        · exact hO6.blk (fun g cs h => h.setOther (h.ne hQ7 (by decide)) _ _)
      have hO8 : Own1 w1 (w7.setCell ⟨w1.heap.size, 2, none⟩ (.slice B3 (k + 1) d3)) 41 6 B3 (k + 1) d3 (evC (E ++ [⟨bar, v, dt, tr, tie, A5, L.length, c5'⟩])) := by
        rw [evC_snoc]
        refine ⟨ownsRow_heap hO3.own (fun g hg => ?_), hO3.low.setCell (Nat.le_refl _) _⟩
        exact set_other _ _ _ _ _ (fun e => blk_apart hQ7 hO3.own (by decide) (by rw [← e]; exact hg.symm))
      have hQ8 : Blk (w7.setCell ⟨w1.heap.size, 2, none⟩ (.slice B3 (k + 1) d3)) w1.heap.size 28 #[.slice B n d, .slice B' m d', .slice B3 (k + 1) d3] := hQ7.set_ 2 _
      have hD8 : DstE (E ++ [⟨bar, v, dt, tr, tie, A5, L.length, c5'⟩]) := HD.out.snoc HCp.out (by rw [HEl.out]; exact Nat.le_of_lt (List.getElem?_eq_some_iff.1 HY.out).1) (hown5.more (show wr.heap.size ≤ _ by simp; omega))
      have HX8 := Lib.hid (And.intro hO8 (And.intro hC8 (And.intro hQ8 hD8)))
      clear hown' hgrow hkeep hO3 hO6 hC7 hC8 hO8 hQ8 hD8 hown5 hb5 hT5 hT6 x0 x1 x2 x3 x4 x5 fx r0 r1 r2 g2 q0 q1 q2 f2 p0 p1 p2
      go_wp2_with (fail)
      go_roundw
      case rel => exact ⟨k + 1, _, _, _, by omega, by first | rfl | go_num, by simp [HEl.out], HX8.out.1, HX8.out.2.1, HX8.out.2.2.1, HX8.out.2.2.2⟩
      case measure => simp [intOf]; omega
    · obtain rfl : k = q := by omega
      have hk0 : w1.heap.size ≠ w.heap.size + 1 := by omega
      have hk1 : w.heap.size + 1 ≠ w1.heap.size := by omega
      have hR : Blk wr (w.heap.size + 1) 28 #[.slice none 0 0, .slice none 0 0, .slice none 0 0] := by
        have h0 : Blk ((w.alloc (pcO A n c A' m c' A2 k cq)).alloc (pcO none 0 0 none 0 0 none 0 0)) (w.heap.size + 1) 28 #[.slice none 0 0, .slice none 0 0, .slice none 0 0] := by
          have := heap_alloc_new (w.alloc (pcO A n c A' m c' A2 k cq)) (pcO none 0 0 none 0 0 none 0 0)
          rwa [World.size_alloc] at this
        exact (h0.below HB1.out).below HO.out.low
      have u0 := hR.cell 0
      have u1 := hR.cell 1
      have u2 := hR.cell 2
      have v0 := hR.frozen 0
      have v1 := hR.frozen 1
      have v2 := hR.frozen 2
      have HR := Lib.hid hR
      clear hR p0 p1
      go_wp2_with (fail)
      have hR3 := ((HR.out.set_ 0 (.slice B n d)).set_ 1 (.slice B' m d')).set_ 2 (.slice B2 k d2)
      have z0 := hR3.cell 0
      have z1 := hR3.cell 1
      have z2 := hR3.cell 2
      refine bodyPost_ret (v := pcV B n d B' m d' B2 k d2) ?_ rfl ?_
      · simp at z0 z1 z2
        simp [results, Tryd.results16, go_sem, z0, z1, z2]
      · have hP := HP.out _ (Below.refl _ _)
        have hk3 : ∀ (t : TypeId) (g : Nat) (cs : Array Value), t ≠ 28 → Blk wr g t cs → Blk (((wr.setCell ⟨w.heap.size + 1, 0, none⟩ (.slice B n d)).setCell ⟨w.heap.size + 1, 1, none⟩ (.slice B' m d')).setCell ⟨w.heap.size + 1, 2, none⟩ (.slice B2 k d2)) g t cs := fun t g cs ht h => by
          have hne := h.ne HR.out ht
          exact ((h.setOther hne _ _).setOther hne _ _).setOther hne _ _
        refine ⟨B, d, B', d', B2, d2, E, rfl, ⟨⟨?_, ?_, hP.hn, hP.hm, hP.es.hq⟩, by rw [HEl.out]; exact hP.es.hq, ?_, ?_, HD.out⟩, ?_, ((HWR.out.setCell (by simp) _).setCell (by simp) _).setCell (by simp) _⟩
        · exact ((HA.out.1.below HO.out.low).blk (fun g cs h => hk3 _ g cs (by decide) h)).more (by simp; omega)
        · exact ((HA.out.2.below HO.out.low).blk (fun g cs h => hk3 _ g cs (by decide) h)).more (by simp; omega)
        · exact (HCp.out.blk (fun g cs h => hk3 _ g cs (by decide) h)).more (by omega)
        · exact ((Ow.of_own HO.out.own).blk (fun g cs h => hk3 _ g cs (by decide) h)).more (by omega)
        · exact row_more (ownsRow_heap HO.out.own (fun g hg => by
            have hne := blk_apart HR.out HO.out.own (by decide)
            have hg2 : g ≠ w.heap.size + 1 := fun e => hne (by rw [← e]; exact hg.symm)
            rw [set_other _ _ _ _ _ hg2, set_other _ _ _ _ _ hg2, set_other _ _ _ _ _ hg2])) (by omega)


set_option maxRecDepth 100000 in
set_option maxHeartbeats 6400000 in
theorem rappend_any (A : Option Addr) (n c : Nat) (A' : Option Addr) (m c' : Nat) (A2 : Option Addr) (q cq : Nat) (B : Option Addr) (n2 d : Nat) (B' : Option Addr) (m2 d' : Nat) (B2 : Option Addr) (q2 dq : Nat) (C : List Cr) (S : List Int) (P : List EvP) (D : List Cr) (U : List Int) (Q : List EvP) (w : World)
    (hP : PcIn w A n c A' m c' A2 q cq C S P) (hQ : PcIn w B n2 d B' m2 d' B2 q2 dq D U Q) (b1 : n ≤ 65536) (b2 : m ≤ 65536) (b3 : q ≤ 65536) (b4 : n2 ≤ 65536) (b5 : m2 ≤ 65536) (b6 : q2 ≤ 65536) (hsp : ∀ y ∈ P, y.L.length ≤ 65536) (hsq : ∀ y ∈ Q, y.L.length ≤ 65536) :
    Calls Tryd.prog 39 #[pcV A n c A' m c' A2 q cq, pcV B n2 d B' m2 d' B2 q2 dq] w (PcRes (appErr (pcErr C S P) (pcErr D U Q) (sameB C S D U) (q + q2)) C S (P ++ Q) w) := by
  have hsp1 : ∀ y ∈ P, y.L.length ≤ 1000000 := fun y hy => Nat.le_trans (hsp y hy) (by omega)
  have hsq1 : ∀ y ∈ Q, y.L.length ≤ 1000000 := fun y hy => Nat.le_trans (hsq y hy) (by omega)
  have HBX := Lib.hid (box3 w #[.slice A n c, .slice A' m c', .slice A2 q cq] #[.slice B n2 d, .slice B' m2 d', .slice B2 q2 dq] #[.slice none 0 0, .slice none 0 0, .slice none 0 0] 28 28 28)
  have HE : Hid (∀ w', Below (((w.alloc (pcO A n c A' m c' A2 q cq)).alloc (pcO B n2 d B' m2 d' B2 q2 dq)).alloc (pcO none 0 0 none 0 0 none 0 0)).heap.size (((w.alloc (pcO A n c A' m c' A2 q cq)).alloc (pcO B n2 d B' m2 d' B2 q2 dq)).alloc (pcO none 0 0 none 0 0 none 0 0)) w' → PcIn w' A n c A' m c' A2 q cq C S P ∧ PcIn w' B n2 d B' m2 d' B2 q2 dq D U Q) :=
    fun w' h => ⟨(hP.below HBX.out.2.2.2).below h, (hQ.below HBX.out.2.2.2).below h⟩
  have HC : Hid (∀ w', Below (((w.alloc (pcO A n c A' m c' A2 q cq)).alloc (pcO B n2 d B' m2 d' B2 q2 dq)).alloc (pcO none 0 0 none 0 0 none 0 0)).heap.size (((w.alloc (pcO A n c A' m c' A2 q cq)).alloc (pcO B n2 d B' m2 d' B2 q2 dq)).alloc (pcO none 0 0 none 0 0 none 0 0)) w' → (w'.cell? ⟨w.heap.size, 0, none⟩ = some (.slice A n c) ∧ w'.cell? ⟨w.heap.size, 1, none⟩ = some (.slice A' m c') ∧ w'.cell? ⟨w.heap.size, 2, none⟩ = some (.slice A2 q cq)) ∧ (w'.cell? ⟨w.heap.size + 1, 0, none⟩ = some (.slice B n2 d) ∧ w'.cell? ⟨w.heap.size + 1, 1, none⟩ = some (.slice B' m2 d') ∧ w'.cell? ⟨w.heap.size + 1, 2, none⟩ = some (.slice B2 q2 dq)) ∧ (w'.cell? ⟨w.heap.size + 2, 0, none⟩ = some (.slice none 0 0) ∧ w'.cell? ⟨w.heap.size + 2, 1, none⟩ = some (.slice none 0 0) ∧ w'.cell? ⟨w.heap.size + 2, 2, none⟩ = some (.slice none 0 0)) ∧ (w'.frozen? ⟨w.heap.size + 2, 0, none⟩ = false ∧ w'.frozen? ⟨w.heap.size + 2, 1, none⟩ = false ∧ w'.frozen? ⟨w.heap.size + 2, 2, none⟩ = false ∧ w.heap.size + 2 < w'.heap.size)) := fun w' hb => by
    have k1 := HBX.out.1.below hb
    have k2 := HBX.out.2.1.below hb
    have k3 := HBX.out.2.2.1.below hb
    exact ⟨ap_cells k1, ap_cells k2, ap_cells k3, k3.frozen 0, k3.frozen 1, k3.frozen 2, k3.lt⟩
  have OA := Lib.hid (fun w' (h : PcIn w' A n c A' m c' A2 q cq C S P) => rpcheck_any A n c A' m c' A2 q cq C S P w' h (by omega) (by omega) (by omega) hsp1)
  have OB := Lib.hid (fun w' (h : PcIn w' B n2 d B' m2 d' B2 q2 dq D U Q) => rpcheck_any B n2 d B' m2 d' B2 q2 dq D U Q w' h (by omega) (by omega) (by omega) hsq1)
  have CI := Lib.hid (fun w' (h : PcIn w' A n c A' m c' A2 q cq C S P ∧ PcIn w' B n2 d B' m2 d' B2 q2 dq D U Q) => rsame_any A n c A' m c' B n2 d B' m2 d' C S D U w' h.1.crs h.1.stp h.2.crs h.2.stp h.1.hn h.1.hm h.2.hn h.2.hm b1 b2 b4 b5)
  have HSP := Lib.hid (And.intro hsp hsp1)
  have HSQ := Lib.hid (And.intro hsq hsq1)
  have HQP := Lib.hid (And.intro hP.hn (And.intro hP.hm hP.es.hq))
  have HQQ := Lib.hid hQ.es.hq
  clear hP hQ hsp hsq hsp1 hsq1
  have CA := Lib.hid (fun w' (h : PcIn w' A n c A' m c' A2 q cq C S P) => pcopyR_any A n c A' m c' A2 q cq C S P w' h b1 b2 b3 HSP.out.1)
  have CB := Lib.hid (fun w' (h : PcIn w' B n2 d B' m2 d' B2 q2 dq D U Q) => pcopyO_any B n2 d B' m2 d' B2 q2 dq D U Q w' h b4 b5 b6 HSQ.out.1)
  obtain ⟨i0, ii1, ii2, ii3, ii4⟩ := info_parts Tryd.infoEv
  have T := Below.refl (((w.alloc (pcO A n c A' m c' A2 q cq)).alloc (pcO B n2 d B' m2 d' B2 q2 dq)).alloc (pcO none 0 0 none 0 0 none 0 0)).heap.size (((w.alloc (pcO A n c A' m c' A2 q cq)).alloc (pcO B n2 d B' m2 d' B2 q2 dq)).alloc (pcO none 0 0 none 0 0 none 0 0))
  obtain ⟨⟨x0, x1, x2⟩, ⟨y0, y1, y2⟩, ⟨r0, r1, r2⟩, f0, f1, f2, hz⟩ := HC.out _ T
  obtain ⟨X1, hX1⟩ : ∃ X, pcErr C S P = X := ⟨_, rfl⟩
  obtain ⟨X2, hX2⟩ : ∃ X, pcErr D U Q = X := ⟨_, rfl⟩
  rw [hX1] at OA ⊢
  rw [hX2] at OB ⊢
  clear hX1 hX2
  by_cases g1 : X1 = 0
  rotate_left
  · have hxc : (X1 != 0) = true := bne_iff_ne.2 g1
    rw [appErr1 g1]
    have HG := Lib.hid g1
    clear g1
    go_enter Tryd.func39, Tryd.ntmps39
    go_wp2_with (first
          | (go_at_call 26; (with_reducible refine (OA.out _ (HE.out _ T).1).mono ?_); rintro e w1 ⟨rfl, hb1⟩; replace T := bt T hb1; clear hb1; clear x0 x1 x2 y0 y1 y2 r0 r1 r2 f0 f1 f2 hz; obtain ⟨⟨x0, x1, x2⟩, ⟨y0, y1, y2⟩, ⟨r0, r1, r2⟩, f0, f1, f2, hz⟩ := HC.out _ T)
          | (go_at_call 26; (with_reducible refine (OB.out _ (HE.out _ T).2).mono ?_); rintro e w2 ⟨rfl, hb2⟩; replace T := bt T hb2; clear hb2; clear x0 x1 x2 y0 y1 y2 r0 r1 r2 f0 f1 f2 hz; obtain ⟨⟨x0, x1, x2⟩, ⟨y0, y1, y2⟩, ⟨r0, r1, r2⟩, f0, f1, f2, hz⟩ := HC.out _ T)
          | (go_at_call 45; (with_reducible refine (CI.out _ (HE.out _ T)).mono ?_); rintro e w3 ⟨rfl, hb3⟩; replace T := bt T hb3; clear hb3; clear x0 x1 x2 y0 y1 y2 r0 r1 r2 f0 f1 f2 hz; obtain ⟨⟨x0, x1, x2⟩, ⟨y0, y1, y2⟩, ⟨r0, r1, r2⟩, f0, f1, f2, hz⟩ := HC.out _ T))
    exact err_retR w _ _ (show w.heap.size ≤ w.heap.size + 2 by omega) X1 (bt HBX.out.2.2.2 T) HG.out (by simp [results, Tryd.results39, go_sem, World.cell?_setCell_same', World.cell?_setCell_other, r0, r1, r2])
  subst g1
  by_cases g2 : X2 = 0
  rotate_left
  · have hxc : (X2 != 0) = true := bne_iff_ne.2 g2
    rw [appErr2 g2]
    have HG := Lib.hid g2
    clear g2
    go_enter Tryd.func39, Tryd.ntmps39
    go_wp2_with (first
          | (go_at_call 26; (with_reducible refine (OA.out _ (HE.out _ T).1).mono ?_); rintro e w1 ⟨rfl, hb1⟩; replace T := bt T hb1; clear hb1; clear x0 x1 x2 y0 y1 y2 r0 r1 r2 f0 f1 f2 hz; obtain ⟨⟨x0, x1, x2⟩, ⟨y0, y1, y2⟩, ⟨r0, r1, r2⟩, f0, f1, f2, hz⟩ := HC.out _ T)
          | (go_at_call 26; (with_reducible refine (OB.out _ (HE.out _ T).2).mono ?_); rintro e w2 ⟨rfl, hb2⟩; replace T := bt T hb2; clear hb2; clear x0 x1 x2 y0 y1 y2 r0 r1 r2 f0 f1 f2 hz; obtain ⟨⟨x0, x1, x2⟩, ⟨y0, y1, y2⟩, ⟨r0, r1, r2⟩, f0, f1, f2, hz⟩ := HC.out _ T)
          | (go_at_call 45; (with_reducible refine (CI.out _ (HE.out _ T)).mono ?_); rintro e w3 ⟨rfl, hb3⟩; replace T := bt T hb3; clear hb3; clear x0 x1 x2 y0 y1 y2 r0 r1 r2 f0 f1 f2 hz; obtain ⟨⟨x0, x1, x2⟩, ⟨y0, y1, y2⟩, ⟨r0, r1, r2⟩, f0, f1, f2, hz⟩ := HC.out _ T))
    exact err_retR w _ _ (show w.heap.size ≤ w.heap.size + 2 by omega) X2 (bt HBX.out.2.2.2 T) HG.out (by simp [results, Tryd.results39, go_sem, World.cell?_setCell_same', World.cell?_setCell_other, r0, r1, r2])
  subst g2
  cases g3 : sameB C S D U with
  | false =>
    rw [g3] at CI
    rw [appErr3]
    clear g3
    go_enter Tryd.func39, Tryd.ntmps39
    go_wp2_with (first
          | (go_at_call 26; (with_reducible refine (OA.out _ (HE.out _ T).1).mono ?_); rintro e w1 ⟨rfl, hb1⟩; replace T := bt T hb1; clear hb1; clear x0 x1 x2 y0 y1 y2 r0 r1 r2 f0 f1 f2 hz; obtain ⟨⟨x0, x1, x2⟩, ⟨y0, y1, y2⟩, ⟨r0, r1, r2⟩, f0, f1, f2, hz⟩ := HC.out _ T)
          | (go_at_call 26; (with_reducible refine (OB.out _ (HE.out _ T).2).mono ?_); rintro e w2 ⟨rfl, hb2⟩; replace T := bt T hb2; clear hb2; clear x0 x1 x2 y0 y1 y2 r0 r1 r2 f0 f1 f2 hz; obtain ⟨⟨x0, x1, x2⟩, ⟨y0, y1, y2⟩, ⟨r0, r1, r2⟩, f0, f1, f2, hz⟩ := HC.out _ T)
          | (go_at_call 45; (with_reducible refine (CI.out _ (HE.out _ T)).mono ?_); rintro e w3 ⟨rfl, hb3⟩; replace T := bt T hb3; clear hb3; clear x0 x1 x2 y0 y1 y2 r0 r1 r2 f0 f1 f2 hz; obtain ⟨⟨x0, x1, x2⟩, ⟨y0, y1, y2⟩, ⟨r0, r1, r2⟩, f0, f1, f2, hz⟩ := HC.out _ T))
    exact err_retR w _ _ (show w.heap.size ≤ w.heap.size + 2 by omega) 11 (bt HBX.out.2.2.2 T) (by omega) (by simp [results, Tryd.results39, go_sem, World.cell?_setCell_same', World.cell?_setCell_other, r0, r1, r2])
  | true =>
    rw [g3] at CI
    clear g3
    by_cases g4 : 400 < q + q2
    · rw [appErr4 g4]
      have g5 : (400 : Int) < (q : Int) + (q2 : Int) := by omega
      clear g4
      go_enter Tryd.func39, Tryd.ntmps39
      go_wp2_with (first
            | (go_at_call 26; (with_reducible refine (OA.out _ (HE.out _ T).1).mono ?_); rintro e w1 ⟨rfl, hb1⟩; replace T := bt T hb1; clear hb1; clear x0 x1 x2 y0 y1 y2 r0 r1 r2 f0 f1 f2 hz; obtain ⟨⟨x0, x1, x2⟩, ⟨y0, y1, y2⟩, ⟨r0, r1, r2⟩, f0, f1, f2, hz⟩ := HC.out _ T)
            | (go_at_call 26; (with_reducible refine (OB.out _ (HE.out _ T).2).mono ?_); rintro e w2 ⟨rfl, hb2⟩; replace T := bt T hb2; clear hb2; clear x0 x1 x2 y0 y1 y2 r0 r1 r2 f0 f1 f2 hz; obtain ⟨⟨x0, x1, x2⟩, ⟨y0, y1, y2⟩, ⟨r0, r1, r2⟩, f0, f1, f2, hz⟩ := HC.out _ T)
            | (go_at_call 45; (with_reducible refine (CI.out _ (HE.out _ T)).mono ?_); rintro e w3 ⟨rfl, hb3⟩; replace T := bt T hb3; clear hb3; clear x0 x1 x2 y0 y1 y2 r0 r1 r2 f0 f1 f2 hz; obtain ⟨⟨x0, x1, x2⟩, ⟨y0, y1, y2⟩, ⟨r0, r1, r2⟩, f0, f1, f2, hz⟩ := HC.out _ T))
      exact err_retR w _ _ (show w.heap.size ≤ w.heap.size + 2 by omega) 2 (bt HBX.out.2.2.2 T) (by omega) (by simp [results, Tryd.results39, go_sem, World.cell?_setCell_same', World.cell?_setCell_other, r0, r1, r2])
    · rw [appErr5 g4]
      have g5 : ¬ ((400 : Int) < (q : Int) + (q2 : Int)) := by omega
      go_enter Tryd.func39, Tryd.ntmps39
      go_wp2_with (first
      | (go_at_call 26; (with_reducible refine (OA.out _ (HE.out _ T).1).mono ?_); rintro e w1 ⟨rfl, hb1⟩; replace T := bt T hb1; clear hb1; clear x0 x1 x2 y0 y1 y2 r0 r1 r2 f0 f1 f2 hz; obtain ⟨⟨x0, x1, x2⟩, ⟨y0, y1, y2⟩, ⟨r0, r1, r2⟩, f0, f1, f2, hz⟩ := HC.out _ T)
      | (go_at_call 26; (with_reducible refine (OB.out _ (HE.out _ T).2).mono ?_); rintro e w2 ⟨rfl, hb2⟩; replace T := bt T hb2; clear hb2; clear x0 x1 x2 y0 y1 y2 r0 r1 r2 f0 f1 f2 hz; obtain ⟨⟨x0, x1, x2⟩, ⟨y0, y1, y2⟩, ⟨r0, r1, r2⟩, f0, f1, f2, hz⟩ := HC.out _ T)
      | (go_at_call 45; (with_reducible refine (CI.out _ (HE.out _ T)).mono ?_); rintro e w3 ⟨rfl, hb3⟩; replace T := bt T hb3; clear hb3; clear x0 x1 x2 y0 y1 y2 r0 r1 r2 f0 f1 f2 hz; obtain ⟨⟨x0, x1, x2⟩, ⟨y0, y1, y2⟩, ⟨r0, r1, r2⟩, f0, f1, f2, hz⟩ := HC.out _ T)
      | (go_at_call 16; (with_reducible refine (CA.out _ (HE.out _ T).1).mono ?_); rintro e w4 ⟨Ba, na, Ba', na', Ba2, na2, Ea, rfl, hoa, hra, hb4⟩; have hs4 := (bt HBX.out.2.2.2 T).size; have HZ := Lib.hid (And.intro hs4 T.size); replace T := bt T (bt hb4 (ba w4 (pcO Ba n na Ba' m na' Ba2 q na2))); have HOA := Lib.hid (And.intro (hoa.below (ba w4 (pcO Ba n na Ba' m na' Ba2 q na2))) (And.intro (own_below hra (ba w4 (pcO Ba n na Ba' m na' Ba2 q na2))) (And.intro (heap_alloc_new w4 (pcO Ba n na Ba' m na' Ba2 q na2)) hb4.size))); clear hoa hra hb4 hs4; clear x0 x1 x2 y0 y1 y2 r0 r1 r2 f0 f1 f2 hz; obtain ⟨⟨x0, x1, x2⟩, ⟨y0, y1, y2⟩, ⟨r0, r1, r2⟩, f0, f1, f2, hz⟩ := HC.out _ T))
      obtain ⟨gb, hgb⟩ : ∃ g, w4.heap.size = g := ⟨_, rfl⟩
      obtain ⟨W5, hW5⟩ : ∃ W, w4.alloc (pcO Ba n na Ba' m na' Ba2 q na2) = W := ⟨_, rfl⟩
      rw [hW5, hgb] at HOA
      rw [hW5] at T ⊢
      rw [hgb] at ⊢
      clear hW5 hgb
      have HCG : Hid (∀ w', Below W5.heap.size W5 w' → (w'.cell? ⟨gb, 0, none⟩ = some (.slice Ba n na) ∧ w'.cell? ⟨gb, 1, none⟩ = some (.slice Ba' m na') ∧ w'.cell? ⟨gb, 2, none⟩ = some (.slice Ba2 q na2))) := fun w' h => ap_cells (Blk.below HOA.out.2.2.1 h)
      have TI := (Below.refl W5.heap.size W5).drew
      replace T := T.drew
      have hgB : w.heap.size + 3 ≤ gb := by have h1 := HOA.out.2.2.2; have h2 := HZ.out.2; simp at h2; omega
      have n2' : w.heap.size + 2 ≠ gb := by omega
      have HSZ : Hid (∀ w', Below (((w.alloc (pcO A n c A' m c' A2 q cq)).alloc (pcO B n2 d B' m2 d' B2 q2 dq)).alloc (pcO none 0 0 none 0 0 none 0 0)).heap.size (((w.alloc (pcO A n c A' m c' A2 q cq)).alloc (pcO B n2 d B' m2 d' B2 q2 dq)).alloc (pcO none 0 0 none 0 0 none 0 0)) w' → w.heap.size + 3 ≤ w'.heap.size) := fun w' h => by have := h.size; simpa using this
      obtain ⟨d0, d1, d2⟩ := HCG.out _ TI
      clear x0 x1 x2 y0 y1 y2 r0 r1 r2 f0 f1 f2 hz
      obtain ⟨_, ⟨y0, y1, y2⟩, _⟩ := HC.out _ T
      go_region_law
        (first
          | (go_simp; go_at_call 16; (with_reducible refine (CB.out _ (HE.out _ T).2).mono ?_); rintro e w6 ⟨Bb, nb, Bb', nb', Bb2, nb2, Eb, rfl, hob, hb6⟩; have hs6 := (bt HBX.out.2.2.2 T).size; replace T := bt T hb6; replace TI := bt TI hb6; have HOB := Lib.hid (hob.more hs6); have hfd := field_pc Bb n2 nb Bb' m2 nb' Bb2 q2 nb2; clear d0 d1 d2 y0 y1 y2 hob hb6 hs6; obtain ⟨d0, d1, d2⟩ := HCG.out _ TI; obtain ⟨_, ⟨y0, y1, y2⟩, _⟩ := HC.out _ T)
          | (refine step_append_sl rfl (.tmp 39) (.tmp 42) 26 rfl w3.heap.size 41 i0 _ 6 56 Tryd.underlying26 ii1 ii2 ii3 ii4 rfl (by decide) (.slice Ba2 q na2) q (evC Ea) rfl (own_below HOA.out.2.1 TI) Bb2 q2 nb2 (evC Eb) rfl (HOB.out.e3.sl) (evC_one Eb) (by unfold maxLen; omega) (by omega) (by have := TI.size; have := HOA.out.2.2.2; have := Blk.lt HOA.out.2.2.1; omega) ?_; intro v7 w7 hown7 hgrow7; obtain ⟨R, k7, rfl⟩ := own_slice hown7; have hF := rapp_fin HBX.out.2.2.2 T TI HZ.out.2 HOA.out.1 HOA.out.2.1 HOA.out.2.2.1 HOB.out hown7 hgrow7; replace T := hF.1; have HF := Lib.hid hF.2; clear d0 d1 d2 hown7 hgrow7 hF TI; obtain ⟨d0, d1, d2⟩ := ap_cells HF.out.1; have e2 := HF.out.1.frozen 2; obtain ⟨_, _, ⟨r0, r1, r2⟩, f0, f1, f2, hz⟩ := HC.out _ T))
      all_goals
        go_wp2_with (fail)
        have hG2 := HF.out.1.set_ 2 (.slice R (q + q2) k7)
        have hR := (HBX.out.2.2.1.below T).setOther n2' 2 (.slice R (q + q2) k7)
        have hR3 := ((hR.set_ 0 (.slice Ba n na)).set_ 1 (.slice Ba' m na')).set_ 2 (.slice R (q + q2) k7)
        have z0 := hR3.cell 0
        have z1 := hR3.cell 1
        have z2 := hR3.cell 2
        have HR := Lib.hid hR
        clear hR hR3 hG2
        refine bodyPost_ret (v := .tuple #[pcV Ba n na Ba' m na' R (q + q2) k7, .int .i64 0]) ?_ rfl ?_
        · simp at z0 z1 z2
          simp [results, Tryd.results39, go_sem, z0, z1, z2]
        · refine ⟨Ba, n, na, Ba', m, na', R, q + q2, k7, rfl, ?_, ((((bt HBX.out.2.2.2 T).setCell (p := ⟨gb, 2, none⟩) (by simp; omega) _).setCell (p := ⟨w.heap.size + 2, 0, none⟩) (by simp) _).setCell (p := ⟨w.heap.size + 2, 1, none⟩) (by simp) _).setCell (p := ⟨w.heap.size + 2, 2, none⟩) (by simp) _⟩
          rw [oC_ok, oC_ok, oC_ok]
          exact HF.out.2.blkB (fun g T cs _ hT h2 => by
            have h3 := h2.setOther (h2.ne HF.out.1 hT) 2 (.slice R (q + q2) k7)
            exact ((h3.setOther (h3.ne HR.out hT) _ _).setOther (h3.ne HR.out hT) _ _).setOther (h3.ne HR.out hT) _ _)

end Go.Proofs.YtjobablfojnppaaDoor
