/- append to an empty slice without room, in a walk; what lies in blocks of another type stays as a list grows. -/
import Derived.Test.YtdhjigaocamglaaDoorQdWorks2
import Derived.Test.YtdhjigaocamglaaDoorQdPcLeaf
namespace Go.Proofs.YtdhjigaocamglaaDoor
open Go Go.RowKit

/-- append to an empty slice without room: the elements lie in memory of their own. -/
theorem wpList_append_fresh {P : Program} (w : World) {ops : Array Oper} {rest : List Oper} {o : Oper} {a : Act} {Q : Exit → Act → World → Prop}
    (hg : o.guard = none) (s x : Operand) (t : TypeId) (hop : o.op = Op.call { callee := Callee.builtin Builtin.append, args := #[s, x], argTypes := #[t, t] })
    (e : TypeId) (i : TypeInfo) (z : Value) (size bytes : Nat) (h1 : P.underlying t = some (.slice e)) (h2 : P.info? e = some i) (h3 : i.zero = some z) (h4 : i.size = size) (h5 : i.bytes = bytes) (h6 : z.cells.size = size) (h7 : 0 < size)
    (ao : Addr) (hs : a.eval s = .slice (some ao) 0 0) (A : Option Addr) (n c : Nat) (news : List Value) (hx : a.eval x = .slice A n c) {B : Nat} (hsl : Sl w B size A n c news)
    (b1 : n ≤ maxLen) (b2 : n * bytes ≤ 140737488355328)
    (hK : ∀ A' c' w', Ow w' w.heap.size e size A' n c' news → Below w.heap.size w w' → wpList P ops Q rest (a.put o.dst (.slice A' n c')) w') :
    wpList P ops Q (o :: rest) a w := by
  refine wpList_plain hg fun K hK' => ?_
  by_cases hn : n = 0
  · subst hn
    have hrun : (Builtin.append_ #[t, t] o.type #[.slice (some ao) 0 0, .slice A 0 c]).run P w = .ok (.slice (some ao) 0 0) w := by
      cases A <;> simp [Builtin.append_, run_underlying h1, sizeOf, typeInfo, h2, Builtin.lenOf, Builtin.firstCells, storeCells, loadCells, loadCellsFrom]
    unfold Oper.wp
    simp [execOp, hop, resolve, invoke, builtin, hs, hx, hrun, Result.andThen]
    exact hK' _ _ (hK _ _ _ ⟨Nat.le_refl _, hsl.2.1, fun h => by omega⟩ (Below.refl _ _))
  · obtain ⟨b, off, rfl, _, hc⟩ := hsl.2.2 (by omega)
    obtain ⟨v', w', hrun, r1, r2⟩ := run_append_arg_grows (P := P) w t o.type e i z size bytes h1 h2 h3 h4 h5 h6 h7 ao 0 0 [] (by simp) (fun j u hu => by cases hu) ⟨b, off, none⟩ n c news hsl.2.1
      (fun j u hu => by rw [Go.WideShapes.add_plain]; exact hc j u hu) (by omega) (by omega) (by rw [Nat.zero_add]; exact b2)
    rw [Nat.zero_add, List.nil_append] at r1
    obtain ⟨A', c', rfl⟩ := own_slice r1
    unfold Oper.wp
    simp [execOp, hop, resolve, invoke, builtin, hs, hx, hrun, Result.andThen]
    exact hK' _ _ (hK _ _ _ (Ow.of_own r1) (Below.grown (Below.refl _ _) r2 (Nat.le_refl _) (fun g h => by cases h)))

/-- A slice of its own stays where its block stays. -/
theorem Ow.blk {w w' : World} {B : Nat} {t : TypeId} {size : Nat} {A : Option Addr} {n c : Nat} {xs : List Value} (h : Ow w B t size A n c xs) (hk : ∀ g cs, Blk w g t cs → Blk w' g t cs) : Ow w' B t size A n c xs :=
  ⟨h.1, h.2.1, fun hn => by
    obtain ⟨g, cur, h1, h2, h3, h4⟩ := h.2.2 hn
    exact ⟨g, cur, h1, h2, hk _ _ h3, h4⟩⟩
theorem Blk.ne {w : World} {g g' : Nat} {t t' : TypeId} {cs cs' : Array Value} (h : Blk w g t cs) (h' : Blk w g' t' cs') (hne : t ≠ t') : g ≠ g' := by
  intro e
  subst e
  unfold Blk at h h'
  rw [h] at h'
  injection h' with h'
  injection h' with _ he
  exact hne he
theorem Blk.setOther {w : World} {g g' : Nat} {t : TypeId} {cs : Array Value} (h : Blk w g t cs) (hne : g ≠ g') (i : Nat) (u : Value) : Blk (w.setCell ⟨g', i, none⟩ u) g t cs := by
  unfold Blk at h ⊢
  simp only [World.setCell, Array.getElem?_modify]
  rw [if_neg (fun e => hne e.symm)]
  exact h

end Go.Proofs.YtdhjigaocamglaaDoor

/- Pieces: what the reference's Copy returns: an equal piece in memory of its own. -/
namespace Go.Proofs.YtdhjigaocamglaaDoor
open Go Go.RowKit

theorem Tryd.infoEv : (Tryd.prog.info? 51).map (fun i => (i.zero, i.size, i.bytes)) = some (some (.agg #[.bool false, .int .i64 0, .bool false, .bool false, .bool false, .slice none 0 0]), 6, 56) := by kernel_rfl
theorem Tryd.infoSt : (Tryd.prog.info? 62).map (fun i => (i.zero, i.size, i.bytes)) = some (some (.agg #[.int .i64 0, .int .i64 0, .int .i64 0, .int .i64 0, .int .i64 0]), 5, 40) := by kernel_rfl

/-- The events gathered so far say what the piece's say; their stops lie in blocks of their own. -/
def CpE (w : World) (B : Nat) (E : List EvT) (P : List EvP) : Prop :=
  ∀ (j : Nat) (x : EvT) (y : EvP), E[j]? = some x → P[j]? = some y → (x.bar = y.bar ∧ x.v = y.v ∧ x.d = y.d ∧ x.t = y.t ∧ x.tie = y.tie ∧ x.sn = y.L.length) ∧ Ow w B 62 5 x.sa y.L.length x.sc (stC y.L)
theorem CpE.blk {w w' : World} {B : Nat} {E : List EvT} {P : List EvP} (h : CpE w B E P) (hk : ∀ g cs, Blk w g 62 cs → Blk w' g 62 cs) : CpE w' B E P :=
  fun j x y hx hy => ⟨(h j x y hx hy).1, (h j x y hx hy).2.blk hk⟩
theorem CpE.snoc {w : World} {B : Nat} {E : List EvT} {P : List EvP} {x : EvT} {y : EvP} (h : CpE w B E P) (hy : P[E.length]? = some y) (h1 : x.bar = y.bar ∧ x.v = y.v ∧ x.d = y.d ∧ x.t = y.t ∧ x.tie = y.tie ∧ x.sn = y.L.length)
    (h2 : Ow w B 62 5 x.sa y.L.length x.sc (stC y.L)) : CpE w B (E ++ [x]) P := fun j x' y' hx' hy' => by
  by_cases hj : j < E.length
  · rw [List.getElem?_append_left hj] at hx'
    exact h j x' y' hx' hy'
  · rw [List.getElem?_append_right (by omega)] at hx'
    by_cases hj2 : j = E.length
    · subst hj2
      simp at hx'
      subst hx'
      rw [hy] at hy'
      injection hy' with hy'
      subst hy'
      exact ⟨h1, h2⟩
    · rw [List.getElem?_eq_none (by simp; omega)] at hx'
      cases hx'
theorem evC_snoc (E : List EvT) (x : EvT) : evC (E ++ [x]) = evC E ++ [.bool x.bar, .int .i64 x.v, .bool x.d, .bool x.t, .bool x.tie, .slice x.sa x.sn x.sc] := by simp [evC]

set_option maxRecDepth 100000 in
set_option maxHeartbeats 8000000 in
theorem pcopy_any (A : Option Addr) (n c : Nat) (A' : Option Addr) (m c' : Nat) (A2 : Option Addr) (q cq : Nat) (C : List Cr) (S : List Int) (P : List EvP) (w : World) (hP : PcIn w A n c A' m c' A2 q cq C S P) (hnb : n ≤ 65536) (hmb : m ≤ 65536) (hq : q ≤ 65536) (hst : ∀ y ∈ P, y.L.length ≤ 65536) :
    Calls Tryd.prog 10 #[pcV A n c A' m c' A2 q cq] w fun e w' => ∃ B d B' d' B2 d2, e = .returned (pcV B n d B' m d' B2 q d2) ∧ PcIn w' B n d B' m d' B2 q d2 C S P ∧ Below w.heap.size w w' := by
  have HP : Hid (∀ w', Below w.heap.size w w' → PcIn w' A n c A' m c' A2 q cq C S P) := fun w' hb => hP.below hb
  have HL := Lib.hid hP.es.hq
  have HST := Lib.hid hst
  obtain ⟨i0, ii1, ii2, ii3, ii4⟩ := info_parts Tryd.infoEv
  obtain ⟨j0, jj1, jj2, jj3, jj4⟩ := info_parts Tryd.infoSt
  clear hP hst
  go_enter Tryd.func10, Tryd.ntmps10
  go_wp2_with (go_at_call 34; refine (rcopy_any A A' n c m c' C S _ (HP.out _ (bt (ba w _) (ba _ _))).crs (HP.out _ (bt (ba w _) (ba _ _))).stp hnb hmb).mono ?_; rintro e w1 ⟨B, d, B', d', rfl, ho1, ho2, hb1⟩)
  have HA := Lib.hid (And.intro ho1 ho2)
  have HB1 := Lib.hid hb1
  have hz1 : w.heap.size + 1 < w1.heap.size := by have := hb1.size; simp at this; omega
  clear ho1 ho2 hb1
  go_loopw [4] (fun i wr => ∃ (k : Nat) (B2 : Option Addr) (d2 : Nat) (E : List EvT), k ≤ q ∧ i = .int .i64 k ∧ E.length = k ∧ Own1 w1 wr 51 6 B2 k d2 (evC E) ∧ CpE wr w1.heap.size E P ∧ Blk wr w1.heap.size 28 #[.slice B n d, .slice B' m d', .slice B2 k d2]) (fun i _ => q - (intOf i).toNat)
  case atStart => exact ⟨0, none, 0, [], by omega, rfl, rfl, Own1.start (ba w1 _) _ _, fun j x y hx _ => by simp at hx, heap_alloc_new _ _⟩
  case round =>
    obtain ⟨k, B2, d2, E, hk, rfl, hE, hO, hC, hQ⟩ := hrel
    have HO := Lib.hid hO
    have HCp := Lib.hid hC
    have HQ := Lib.hid hQ
    have HEl := Lib.hid hE
    obtain ⟨p0, p1, p2⟩ := cell3 (bt (ba _ _) (bt HB1.out HO.out.low))
    have q0 := hQ.cell 0
    have q1 := hQ.cell 1
    have q2 := hQ.cell 2
    have f2 := hQ.frozen 2
    have hzr : w1.heap.size < wr.heap.size := hQ.lt
    have hz0 : w.heap.size < wr.heap.size := by omega
    have hne : w1.heap.size ≠ wr.heap.size := by omega
    have hne2 : wr.heap.size ≠ w1.heap.size := by omega
    have HWR : Hid (Below w.heap.size w wr) := bx (bx (bt HB1.out HO.out.low))
    clear hO hC hQ hE
    by_cases hlt : k < q
    · obtain ⟨b, off, sa, sc, rfl, hbl, hPk, _, ⟨c0, c1, c2, c3, c4, c5⟩, hS⟩ := (HP.out _ HWR.out).es.at hlt
      have HS := Lib.hid hS
      have HY := Lib.hid hPk
      have hL : (P.getD k z6).L.length ≤ 65536 := HST.out _ (List.mem_of_getElem? hPk)
      clear hS hPk
      generalize P.getD k z6 = y at *
      obtain ⟨bar, v, dt, tr, tie, L⟩ := y
      dsimp only at c0 c1 c2 c3 c4 c5 hL HS
      go_wp2_with (first
        | (at_builtin; (refine wpList_append_fresh _ rfl _ _ 49 rfl 62 j0 _ 5 40 Tryd.underlying49 jj1 jj2 jj3 jj4 rfl (by decide) _ rfl sa L.length sc (stC L) rfl (HS.out.below (bt (ba wr _) (ba _ _))) (by unfold maxLen; omega) (by omega) ?_); (intro A5 c5' w5 hown5 hb5); (have hT5 := bx (bx hb5); obtain ⟨x0, x1, x2, x3, x4, x5⟩ := cell6 (bt (ba _ _) hb5); have fx := (keepb (bt (ba _ _) hb5) 5).2; have r0 := cell_same (hT5.block w1.heap.size hzr) q0; have r1 := cell_same (hT5.block w1.heap.size hzr) q1; have r2 := cell_same (hT5.block w1.heap.size hzr) q2; have g2 := (frozen_same (hT5.block w1.heap.size hzr)).trans f2; have hT7 := hT5); (have hz5 : wr.heap.size + 1 < w5.heap.size := by (have := hb5.size; simp at this; omega)); (have hT6 : Below wr.heap.size wr (w5.setCell ⟨wr.heap.size, 5, none⟩ (.slice A5 L.length c5')) := hT5.setCell (Nat.le_refl _) _))
        | (at_builtin; (refine wpList_append_own _ rfl _ _ 26 rfl w1.heap.size 51 i0 _ 6 56 Tryd.underlying26 ii1 ii2 ii3 ii4 rfl (by decide) (.slice B2 k d2) k _ rfl ((own_below HO.out.own hT6).alloc _) ⟨w5.heap.size, 0, none⟩ 1 1 [.bool bar, .int .i64 v, .bool dt, .bool tr, .bool tie, .slice A5 L.length c5'] rfl rfl ?d1 ?d2 ?d3 ?d4 ?d5 ?_)))
      case d1 =>
        have := World.news_of_block (cs := #[.bool bar, .int .i64 v, .bool dt, .bool tr, .bool tie, .slice A5 L.length c5']) (t := 51) (fr := (0, 0)) (heap_alloc_new (w5.setCell ⟨wr.heap.size, 5, none⟩ (.slice A5 L.length c5')) _)
        simpa using this
      case d2 =>
        intro u hu
        simp at hu
        (repeat' (rcases hu with rfl | hu)) <;> first | rfl | (subst hu; rfl)
      case d3 => unfold maxLen; omega
      case d4 => omega
      case d5 => simp; omega
      intro v' w7 hown' hgrow _
      obtain ⟨_, _, _, _, hkeep⟩ := Own1.step (HO.out.below hT6) (Below.refl _ _) rfl hown' hgrow
      obtain ⟨B3, d3, rfl, hO3, _⟩ := Own1.step HO.out hT6 rfl hown' hgrow
      have hQ7 := hkeep _ _ _ (by decide) (HQ.out.below hT6)
      have s0 := hQ7.cell 0
      have s1 := hQ7.cell 1
      have s2 := hQ7.cell 2
      have t2 := hQ7.frozen 2
      have hO6 : Ow w7 w1.heap.size 62 5 A5 L.length c5' (stC L) := ((hown5.other (by simp; omega) 5 (.slice A5 L.length c5')).blk (fun g cs h => hkeep g _ cs (by decide) h)).more (by simp; omega)
      have hC7 : CpE w7 w1.heap.size E P := HCp.out.blk (fun g cs h => hkeep g _ cs (by decide) (h.below hT6))
      have hC8 : CpE (w7.setCell ⟨w1.heap.size, 2, none⟩ (.slice B3 (k + 1) d3)) w1.heap.size (E ++ [⟨bar, v, dt, tr, tie, A5, L.length, c5'⟩]) P := by
        refine CpE.snoc (y := ⟨bar, v, dt, tr, tie, L⟩) ?_ (by rw [HEl.out]; exact HY.out) ⟨rfl, rfl, rfl, rfl, rfl, rfl⟩ ?_
        · exact hC7.blk (fun g cs h => h.setOther (h.ne hQ7 (by decide)) _ _)
        · exact hO6.blk (fun g cs h => h.setOther (h.ne hQ7 (by decide)) _ _)
      have hO8 : Own1 w1 (w7.setCell ⟨w1.heap.size, 2, none⟩ (.slice B3 (k + 1) d3)) 51 6 B3 (k + 1) d3 (evC (E ++ [⟨bar, v, dt, tr, tie, A5, L.length, c5'⟩])) := by
        rw [evC_snoc]
        refine ⟨ownsRow_heap hO3.own (fun g hg => ?_), hO3.low.setCell (Nat.le_refl _) _⟩
        exact set_other _ _ _ _ _ (fun e => blk_apart hQ7 hO3.own (by decide) (by rw [← e]; exact hg.symm))
      have hQ8 : Blk (w7.setCell ⟨w1.heap.size, 2, none⟩ (.slice B3 (k + 1) d3)) w1.heap.size 28 #[.slice B n d, .slice B' m d', .slice B3 (k + 1) d3] := hQ7.set_ 2 _
      have HX8 := Lib.hid (And.intro hO8 (And.intro hC8 hQ8))
      clear hown' hgrow hkeep hO3 hO6 hC7 hC8 hO8 hQ8 hown5 hb5 hT5 hT6 x0 x1 x2 x3 x4 x5 fx r0 r1 r2 g2 q0 q1 q2 f2 p0 p1 p2
      go_wp2_with (fail)
      go_roundw
      case rel => exact ⟨k + 1, _, _, _, by omega, by first | rfl | go_num, by simp [HEl.out], HX8.out.1, HX8.out.2.1, HX8.out.2.2⟩
      case measure => simp [intOf]; omega
    · obtain rfl : k = q := by omega
      have hk0 : w1.heap.size ≠ w.heap.size + 1 := by omega
      have hk1 : w.heap.size + 1 ≠ w1.heap.size := by omega
      have hR : Blk wr (w.heap.size + 1) 28 #[.slice none 0 0, .slice none 0 0, .slice none 0 0] := by
        have h0 : Blk ((w.alloc (pcO A n c A' m c' A2 k cq)).alloc (pcO none 0 0 none 0 0 none 0 0)) (w.heap.size + 1) 28 #[.slice none 0 0, .slice none 0 0, .slice none 0 0] := by
          have := heap_alloc_new (w.alloc (pcO A n c A' m c' A2 k cq)) (pcO none 0 0 none 0 0 none 0 0)
          rwa [World.size_alloc] at this
        exact (h0.below HB1.out).below HO.out.low
      have u0 := hR.cell 0
      have u1 := hR.cell 1
      have u2 := hR.cell 2
      have v0 := hR.frozen 0
      have v1 := hR.frozen 1
      have v2 := hR.frozen 2
      have HR := Lib.hid hR
      clear hR p0 p1
      go_wp2_with (fail)
      have hR3 := ((HR.out.set_ 0 (.slice B n d)).set_ 1 (.slice B' m d')).set_ 2 (.slice B2 k d2)
      have z0 := hR3.cell 0
      have z1 := hR3.cell 1
      have z2 := hR3.cell 2
      refine bodyPost_ret (v := pcV B n d B' m d' B2 k d2) ?_ rfl ?_
      · simp at z0 z1 z2
        simp [results, Tryd.results10, go_sem, z0, z1, z2]
      · have hP := HP.out _ (Below.refl _ _)
        have hk3 : ∀ (t : TypeId) (g : Nat) (cs : Array Value), t ≠ 28 → Blk wr g t cs → Blk (((wr.setCell ⟨w.heap.size + 1, 0, none⟩ (.slice B n d)).setCell ⟨w.heap.size + 1, 1, none⟩ (.slice B' m d')).setCell ⟨w.heap.size + 1, 2, none⟩ (.slice B2 k d2)) g t cs := fun t g cs ht h => by
          have hne := h.ne HR.out ht
          exact ((h.setOther hne _ _).setOther hne _ _).setOther hne _ _
        refine ⟨B, d, B', d', B2, d2, rfl, ⟨?_, ?_, hP.hn, hP.hm, hP.es.hq, E, ⟨by rw [HEl.out]; exact hP.es.hq, fun j x y hx hy => ?_⟩, ?_⟩, ((HWR.out.setCell (by simp) _).setCell (by simp) _).setCell (by simp) _⟩
        · exact ((HA.out.1.below HO.out.low).blk (fun g cs h => hk3 _ g cs (by decide) h)).sl
        · exact ((HA.out.2.below HO.out.low).blk (fun g cs h => hk3 _ g cs (by decide) h)).sl
        · obtain ⟨h1, h2⟩ := HCp.out j x y hx hy
          have h3 := (h2.blk (fun g cs h => hk3 _ g cs (by decide) h)).sl
          exact ⟨h1, by rw [h1.2.2.2.2.2]; exact h3⟩
        · refine Sl_own (e := 51) (base := w1.heap.size) (ownsRow_heap HO.out.own (fun g hg => ?_))
          have hne : g ≠ w.heap.size + 1 := fun e => blk_apart HR.out HO.out.own (by decide) (by rw [← e]; exact hg.symm)
          rw [set_other _ _ _ _ _ hne, set_other _ _ _ _ _ hne, set_other _ _ _ _ _ hne]

end Go.Proofs.YtdhjigaocamglaaDoor
