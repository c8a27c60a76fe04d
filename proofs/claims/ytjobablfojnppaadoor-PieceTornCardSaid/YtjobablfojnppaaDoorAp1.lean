/- Pieces: slices.Grow and slices.Concat of events; changed with cloneEvent. -/
import Derived.Test.YtjobablfojnppaaDoorRr2
import Derived.Lib.AppendZeros
import Derived.Laws.OwnMore
namespace Go.Proofs.YtjobablfojnppaaDoor
open Go Go.RowKit

/-- append of a slice that lies anywhere onto an own row. -/
theorem run_append_sl {P : Program} {w : World} (base : Nat) (t ty e : TypeId) (i : TypeInfo) (z : Value) (size bytes : Nat) (ht : P.underlying t = some (.slice e)) (hi : P.info? e = some i) (hz : i.zero = some z)
    (hsize : i.size = size) (hby : i.bytes = bytes) (hzs : z.cells.size = size) (hsz : 0 < size)
    (v : Value) (n : Nat) (xs : List Value) (hown : w.ownsRow base e size v n xs) {B : Nat} {A : Option Addr} {m c : Nat} {news : List Value} (hS : Sl w B size A m c news) (h1 : ∀ u ∈ news, u.oneCell' = true)
    (h63 : n + m ≤ maxLen) (hbytes : (n + m) * bytes ≤ 140737488355328) (hbase : base ≤ w.heap.size) :
    ∃ v' w', (Builtin.append_ #[t, t] ty #[v, .slice A m c]).run P w = .ok v' w' ∧ w'.ownsRow base e size v' (n + m) (xs ++ news) ∧ w.grownBy w' v.ownBlock := by
  obtain ⟨hc, hl, hx⟩ := hS
  cases A with
  | some ad =>
    obtain ⟨v', w', k1, k2, k3, _⟩ := run_append_own (P := P) w base t ty e i z size bytes ht hi hz hsize hby hzs hsz v n xs hown ad m c news hl (fun j u hu => by
      by_cases hm : 0 < m
      · obtain ⟨b, off, e1, _, hcell⟩ := hx hm
        injection e1 with e1
        subst e1
        rw [Go.WideShapes.add_plain]
        exact hcell j u hu
      · have : news = [] := List.eq_nil_of_length_eq_zero (by rw [hl, show m = 0 by omega]; simp)
        subst this
        simp at hu) h1 h63 hbytes hbase
    exact ⟨v', w', k1, k2, k3⟩
  | none =>
    have hm : m = 0 := by
      rcases Nat.eq_zero_or_pos m with h | h
      · exact h
      · obtain ⟨b, off, e1, _⟩ := hx h
        cases e1
    subst hm
    have hn : news = [] := List.eq_nil_of_length_eq_zero (by rw [hl]; simp)
    subst hn
    refine ⟨v, w, ?_, by simpa using hown, ⟨rfl, rfl, rfl, Nat.le_refl _, fun _ _ _ => rfl⟩⟩
    rcases hown.2 with ⟨rfl, rfl⟩ | ⟨g, cap, cur, rfl, _, _, hnc, _⟩
    · simp [Builtin.append_, run_underlying ht, sizeOf, typeInfo, hi, Builtin.lenOf, Builtin.firstCells]
    · simp [Builtin.append_, run_underlying ht, sizeOf, typeInfo, hi, Builtin.lenOf, Builtin.firstCells, hnc, storeCells]
theorem wpList_append_sl {P : Program} {w : World} {ops : Array Oper} {rest : List Oper} {o : Oper} {a : Act} {Q : Exit → Act → World → Prop} (hgd : o.guard = none) (s x : Operand) (t : TypeId)
    (ho : o.op = .call { callee := .builtin .append, args := #[s, x], argTypes := #[t, t] })
    (base : Nat) (e : TypeId) (i : TypeInfo) (z : Value) (size bytes : Nat) (ht : P.underlying t = some (.slice e)) (hi : P.info? e = some i) (hz : i.zero = some z)
    (hsize : i.size = size) (hby : i.bytes = bytes) (hzs : z.cells.size = size) (hsz : 0 < size)
    (v : Value) (n : Nat) (xs : List Value) (hs : a.eval s = v) (hown : w.ownsRow base e size v n xs) {B : Nat}
    (A : Option Addr) (m c : Nat) (news : List Value) (hx : a.eval x = .slice A m c) (hS : Sl w B size A m c news) (h1 : ∀ u ∈ news, u.oneCell' = true)
    (h63 : n + m ≤ maxLen) (hbytes : (n + m) * bytes ≤ 140737488355328) (hbase : base ≤ w.heap.size)
    (h : ∀ v' w', w'.ownsRow base e size v' (n + m) (xs ++ news) → w.grownBy w' v.ownBlock → wpList P ops Q rest (a.put o.dst v') w') : wpList P ops Q (o :: rest) a w := by
  obtain ⟨v', w', k1, k2, k3⟩ := run_append_sl (P := P) base t o.type e i z size bytes ht hi hz hsize hby hzs hsz v n xs hown hS h1 h63 hbytes hbase
  exact Lib.wpList_append_run w hgd s x t t ho v _ hs hx v' w' k1 (h v' w' k2 k3)
theorem evC_append (E F : List EvT) : evC (E ++ F) = evC E ++ evC F := by simp [evC]
theorem evC_one (E : List EvT) : ∀ u ∈ evC E, u.oneCell' = true := fun u hu => by
  simp only [evC, List.mem_flatMap] at hu
  obtain ⟨x, _, hu⟩ := hu
  simp at hu
  (repeat' (rcases hu with rfl | hu)) <;> first | rfl | (subst hu; rfl)
theorem grown_below {W w w' : World} {base : Nat} {e : TypeId} {size n : Nat} {v : Value} {xs : List Value} (h : Below base W w) (hown : w.ownsRow base e size v n xs) (hg : w.grownBy w' v.ownBlock) (hb : base ≤ w.heap.size) : Below base W w' :=
  Below.grown h hg hb (fun g h => (hown.lt g h).1)

set_option maxRecDepth 100000 in
set_option maxHeartbeats 1600000 in
theorem growE_any (k : Nat) (w : World) (hk : k ≤ 200000) :
    Calls Tryd.prog 109 #[.slice none 0 0, .int .i64 k] w fun e w' => ∃ v, e = .returned v ∧ w'.ownsRow w.heap.size 41 6 v 0 [] ∧ Below w.heap.size w w' := by
  obtain ⟨i0, ii1, ii2, ii3, ii4⟩ := info_parts Tryd.infoEv
  by_cases h0 : k = 0
  · subst h0
    go_enter Tryd.func109, Tryd.ntmps109
    go_wp2_with (fail)
    go_ret
    exact ⟨_, rfl, ⟨rfl, .inl ⟨rfl, rfl⟩⟩, Below.refl _ _⟩
  · have h1 : (0 : Int) < (k : Int) := by omega
    have h2 : ¬ ((k : Int) < 0) := by omega
    have HR := Lib.hid (Lib.run_append_nil_zeros (P := Tryd.prog) w 26 3 26 41 i0 _ .i64 .i64 Tryd.underlying26 Tryd.underlying3 ii1 ii2 k (by omega) (by rw [ii3]; omega) (by omega) (by rw [ii4]; omega))
    have hge := grownCap_ge w k 0 41
    have hle := grownCap_le_maxLen w k 0 41 (by unfold maxLen; omega)
    unfold Hid at HR
    generalize hZ : (Builtin.zeroCells _ k ++ Builtin.zeroCells _ (grownCap w k 0 41 - k)) = Z at HR
    have hZs : Z.size = grownCap w k 0 41 * 6 := by
      rw [← hZ]
      simp [Builtin.zeroCells, Value.cells]
      omega
    have HZS := Lib.hid hZs
    have HR := Lib.hid HR
    clear hZ hZs
    go_enter Tryd.func109, Tryd.ntmps109
    go_wp2_with (at_builtin; refine Lib.wpList_append_run _ rfl _ _ 26 3 rfl (.slice none 0 0) (.int .i64 k) rfl rfl _ _ HR.out ?_)
    go_ret
    exact ⟨_, rfl, ⟨rfl, .inr ⟨w.heap.size, _, Z, rfl, Nat.le_refl _, heap_alloc_new w _, Nat.zero_le _, hle, HZS.out, rfl⟩⟩, (ba _ _).drew⟩

set_option maxRecDepth 100000 in
set_option maxHeartbeats 3200000 in
theorem concatE_any (g : Nat) (A : Option Addr) (n c : Nat) (B : Option Addr) (m d : Nat) (P Q : List EvP) (w : World) (hg : g < w.heap.size) (h0 : w.cell? ⟨g, 0, none⟩ = some (.slice A n c)) (h1 : w.cell? ⟨g, 1, none⟩ = some (.slice B m d)) (hP : EsIn w A n c P) (hQ : EsIn w B m d Q) (hn : n ≤ 65536) (hm : m ≤ 65536) :
    Calls Tryd.prog 84 #[.slice (some ⟨g, 0, none⟩) 2 2] w fun e w' => ∃ R k, e = .returned (.slice R (n + m) k) ∧ EsIn w' R (n + m) k (P ++ Q) ∧ Below w.heap.size w w' := by
  have HP : Hid (∀ w', Below w.heap.size w w' → EsIn w' A n c P ∧ EsIn w' B m d Q) := fun w' h => ⟨hP.below h, hQ.below h⟩
  have HC : Hid (∀ w', Below w.heap.size w w' → w'.cell? ⟨g, 0, none⟩ = some (.slice A n c) ∧ w'.cell? ⟨g, 1, none⟩ = some (.slice B m d) ∧ g < w'.heap.size) := fun w' h => ⟨cell_same (h.block g hg) h0, cell_same (h.block g hg) h1, by have := h.size; omega⟩
  obtain ⟨i0, ii1, ii2, ii3, ii4⟩ := info_parts Tryd.infoEv
  obtain ⟨hqP, E, ⟨hlE, hiE⟩, hsE⟩ := hP
  obtain ⟨hqQ, F, ⟨hlF, hiF⟩, hsF⟩ := hQ
  have HI : Hid (∀ w', Below w.heap.size w w' → ∀ (j : Nat) (x : EvT) (y : EvP), (E ++ F)[j]? = some x → (P ++ Q)[j]? = some y → EvIn w' x y) := fun w' hb j x y hx hy => by
    by_cases hj : j < E.length
    · rw [List.getElem?_append_left hj] at hx
      rw [List.getElem?_append_left (by omega)] at hy
      exact (hiE j x y hx hy).below hb
    · rw [List.getElem?_append_right (by omega)] at hx hy
      rw [← hlE] at hy
      exact (hiF _ x y hx hy).below hb
  have HL := Lib.hid (show n + m = (P ++ Q).length ∧ (E ++ F).length = (P ++ Q).length by rw [List.length_append, List.length_append]; omega)
  have HS : Hid (∀ w', Below w.heap.size w w' → Sl w' w'.heap.size 6 A n c (evC E) ∧ Sl w' w'.heap.size 6 B m d (evC F)) := fun w' h => ⟨hsE.below h, hsF.below h⟩
  clear hqP hqQ hsE hsF hlE hlF hiE hiF
  have GR : Hid (Calls Tryd.prog 109 #[.slice none 0 0, .int .i64 ((n : Int) + (m : Int))] w fun e w' => ∃ v, e = .returned v ∧ w'.ownsRow w.heap.size 41 6 v 0 [] ∧ Below w.heap.size w w') := by
    have := growE_any (n + m) w (by omega)
    rwa [Int.natCast_add] at this
  have hnm : ¬ ((n : Int) < 0) := by omega
  have hnm2 : ¬ ((n : Int) + (m : Int) < 0) := by omega
  go_enter Tryd.func84, Tryd.ntmps84
  go_wp2_with (fail)
  refine wp_loop_rounds 3 ?_
  rw [rounds_succ]
  go_wp2_with (fail)
  rw [rounds_succ]
  go_wp2_with (fail)
  rw [rounds_succ]
  go_wp2_with (go_at_call 109; (with_reducible refine GR.out.mono ?_); rintro e w1 ⟨v, rfl, hown, hb⟩; obtain ⟨c0, c1, hg1⟩ := HC.out _ hb; have HW1 := Lib.hid (And.intro hown hb); clear hown hb)
  refine wp_loop_rounds 3 ?_
  rw [rounds_succ]
  go_wp2_with (at_builtin; (refine wpList_append_sl rfl _ _ 26 rfl w.heap.size 41 i0 _ 6 56 Tryd.underlying26 ii1 ii2 ii3 ii4 rfl (by decide) v 0 [] rfl HW1.out.1 A n c (evC E) rfl (HS.out _ HW1.out.2).1 (evC_one E) (by unfold maxLen; omega) (by omega) HW1.out.2.size ?_))
  intro v2 w2 hown2 hgrow2
  have hb2 := grown_below HW1.out.2 HW1.out.1 hgrow2 HW1.out.2.size
  obtain ⟨c0, c1, hg1⟩ := HC.out _ hb2
  have HW2 := Lib.hid (And.intro hown2 hb2)
  clear hown2 hgrow2 hb2
  go_wp2_with (fail)
  rw [rounds_succ]
  go_wp2_with (at_builtin; (refine wpList_append_sl rfl _ _ 26 rfl w.heap.size 41 i0 _ 6 56 Tryd.underlying26 ii1 ii2 ii3 ii4 rfl (by decide) v2 n (evC E) rfl HW2.out.1 B m d (evC F) rfl (HS.out _ HW2.out.2).2 (evC_one F) (by unfold maxLen; omega) (by omega) HW2.out.2.size ?_))
  intro v3 w3 hown3 hgrow3
  have hb3 := grown_below HW2.out.2 HW2.out.1 hgrow3 HW2.out.2.size
  rw [← evC_append] at hown3
  have HW3 := Lib.hid (And.intro hown3 hb3)
  clear hown3 hgrow3 hb3
  go_wp2_with (fail)
  rw [rounds_succ]
  go_wp2_with (fail)
  go_ret
  obtain ⟨R, k, rfl⟩ := own_slice HW3.out.1
  exact ⟨R, k, rfl, ⟨HL.out.1, E ++ F, ⟨HL.out.2, HI.out _ HW3.out.2⟩, (Ow.of_own HW3.out.1).sl⟩, HW3.out.2⟩

/-- The block's first events are filled. -/
def EvR (w wr : World) (g n : Nat) (E : List EvT) (k : Nat) : Prop :=
  Below w.heap.size w wr ∧ E.length = k ∧ ∃ Z : List Value, Z.length = (n - k) * 6 ∧ Blk wr g 41 (evC E ++ Z).toArray
theorem set6 (pre : List Value) (z0 z1 z2 z3 z4 z5 a0 a1 a2 a3 a4 a5 : Value) (post : List Value) (l : Nat) (hl : pre.length = l) :
    ((((((pre ++ z0 :: z1 :: z2 :: z3 :: z4 :: z5 :: post).set l a0).set (l + 1) a1).set (l + 2) a2).set (l + 3) a3).set (l + 4) a4).set (l + 5) a5 = pre ++ a0 :: a1 :: a2 :: a3 :: a4 :: a5 :: post := by
  subst hl
  have e0 : ∀ (q : List Value) (j : Nat) (v : Value), (pre ++ q).set (pre.length + j) v = pre ++ q.set j v := fun q j v => by
    rw [List.set_append_right _ _ (by omega), Nat.add_sub_cancel_left]
  have e1 : ∀ (q : List Value) (v : Value), (pre ++ q).set pre.length v = pre ++ q.set 0 v := fun q v => e0 q 0 v
  rw [e1, e0, e0, e0, e0, e0]
  rfl
theorem set6_other {w wr : World} {g n : Nat} {E : List EvT} {k : Nat} (h : EvR w wr g n E k) {g2 : Nat} {cs : Array Value} {i0 i1 i2 i3 i4 i5 : Nat} {u0 u1 u2 u3 u4 u5 : Value} (h2 : Blk wr g2 65 cs) :
    Blk ((((((wr.setCell ⟨g, i0, none⟩ u0).setCell ⟨g, i1, none⟩ u1).setCell ⟨g, i2, none⟩ u2).setCell ⟨g, i3, none⟩ u3).setCell ⟨g, i4, none⟩ u4).setCell ⟨g, i5, none⟩ u5) g2 65 cs := by
  obtain ⟨_, _, Z, _, hB⟩ := h
  have hne := h2.ne hB (by decide)
  exact (((((h2.setOther hne _ _).setOther hne _ _).setOther hne _ _).setOther hne _ _).setOther hne _ _).setOther hne _ _
set_option maxHeartbeats 1600000 in
theorem EvR.step {w wr : World} {g n : Nat} {E : List EvT} {k : Nat} (x : EvT) (h : EvR w wr g n E k) (hg : w.heap.size ≤ g) (hk : k < n) :
    (∃ u, wr.cell? ⟨g, k * 6, none⟩ = some u) ∧ (∃ u, wr.cell? ⟨g, k * 6 + 1, none⟩ = some u) ∧ (∃ u, wr.cell? ⟨g, k * 6 + 2, none⟩ = some u) ∧ (∃ u, wr.cell? ⟨g, k * 6 + 3, none⟩ = some u) ∧ (∃ u, wr.cell? ⟨g, k * 6 + 4, none⟩ = some u) ∧ (∃ u, wr.cell? ⟨g, k * 6 + 5, none⟩ = some u) ∧ (∀ j, wr.frozen? ⟨g, j, none⟩ = false) ∧ g < wr.heap.size ∧
      EvR w ((((((wr.setCell ⟨g, k * 6, none⟩ (.bool x.bar)).setCell ⟨g, k * 6 + 1, none⟩ (.int .i64 x.v)).setCell ⟨g, k * 6 + 2, none⟩ (.bool x.d)).setCell ⟨g, k * 6 + 3, none⟩ (.bool x.t)).setCell ⟨g, k * 6 + 4, none⟩ (.bool x.tie)).setCell ⟨g, k * 6 + 5, none⟩ (.slice x.sa x.sn x.sc)) g n (E ++ [x]) (k + 1) := by
  obtain ⟨hb, hE, Z, hZ, hB⟩ := h
  have hpl : (evC E).length = k * 6 := by rw [evC_len, hE]
  obtain ⟨z0, z1, z2, z3, z4, z5, Z', rfl⟩ : ∃ z0 z1 z2 z3 z4 z5 Z', Z = z0 :: z1 :: z2 :: z3 :: z4 :: z5 :: Z' := by
    match Z, hZ with
    | [], hZ => simp at hZ; omega
    | [_], hZ => simp at hZ; omega
    | [_, _], hZ => simp at hZ; omega
    | [_, _, _], hZ => simp at hZ; omega
    | [_, _, _, _], hZ => simp at hZ; omega
    | [_, _, _, _, _], hZ => simp at hZ; omega
    | z0 :: z1 :: z2 :: z3 :: z4 :: z5 :: Z', _ => exact ⟨z0, z1, z2, z3, z4, z5, Z', rfl⟩
  have c : ∀ j, wr.cell? ⟨g, k * 6 + j, none⟩ = (z0 :: z1 :: z2 :: z3 :: z4 :: z5 :: Z')[j]? := fun j => by
    rw [hB.cell (k * 6 + j), List.getElem?_toArray, List.getElem?_append_right (by omega), hpl, Nat.add_sub_cancel_left]
  refine ⟨⟨z0, c 0⟩, ⟨z1, c 1⟩, ⟨z2, c 2⟩, ⟨z3, c 3⟩, ⟨z4, c 4⟩, ⟨z5, c 5⟩, fun j => hB.frozen j, hB.lt, (((((hb.setCell hg _).setCell hg _).setCell hg _).setCell hg _).setCell hg _).setCell hg _, by simp [hE], Z', by simp at hZ; omega, ?_⟩
  have h2 := (((((hB.set_ (k * 6) (.bool x.bar)).set_ (k * 6 + 1) (.int .i64 x.v)).set_ (k * 6 + 2) (.bool x.d)).set_ (k * 6 + 3) (.bool x.t)).set_ (k * 6 + 4) (.bool x.tie)).set_ (k * 6 + 5) (.slice x.sa x.sn x.sc)
  rw [List.setIfInBounds_toArray, List.setIfInBounds_toArray, List.setIfInBounds_toArray, List.setIfInBounds_toArray, List.setIfInBounds_toArray, List.setIfInBounds_toArray, set6 _ _ _ _ _ _ _ _ _ _ _ _ _ _ _ hpl] at h2
  rw [evC_snoc, List.append_assoc]
  exact h2

set_option maxRecDepth 100000 in
set_option maxHeartbeats 6400000 in
theorem changedE_any (A : Option Addr) (n c : Nat) (P : List EvP) (w : World) (hA : EsIn w A n c P) (hlim : n ≤ 200000) (hst : ∀ y ∈ P, y.L.length ≤ 1000000) :
    Calls Tryd.prog 83 #[.slice A n c, .func (.func 85) #[] #[]] w fun e w' => ∃ B d E, e = .returned (.slice B n d) ∧ E.length = P.length ∧ CpE w' w.heap.size E P ∧ Ow w' w.heap.size 41 6 B n d (evC E) ∧ Below w.heap.size w w' := by
  have HA : Hid (∀ w', RowKit.Below w.heap.size w w' → EsIn w' A n c P) := fun w' hb => hA.below hb
  have HN := Lib.hid hA.hq
  have HST := Lib.hid hst
  obtain ⟨i0, ii1, ii2, ii3, ii4⟩ := info_parts Tryd.infoEv
  clear hA hst
  go_enter Tryd.func83, Tryd.ntmps83
  go_wp2_with (at_make; refine wpList_make_full _ rfl _ _ 26 rfl w.heap.size 41 i0 _ 6 Tryd.underlying26 ii1 ii2 ii3 .i64 .i64 _ _ n rfl rfl rfl rfl (by rw [ii4]; omega) (by unfold maxLen; omega) (Nat.le_refl _) ?_)
  intro w2 hown hgrow
  have hb2 : RowKit.Below w.heap.size w w2 := RowKit.Below.grown (RowKit.Below.refl _ _) hgrow (Nat.le_refl _) (fun g h => by cases h)
  obtain ⟨cur, hbk, hcs⟩ : ∃ cur, w2.heap[w.heap.size]? = some (.cells cur 41 (0, 0)) ∧ cur.size = n * 6 := by
    rcases hown.2 with ⟨h1, _⟩ | ⟨g, cap, cur, h1, _, h3, _, _, h6, _⟩
    · cases h1
    · injection h1 with e1 e2 e3
      injection e1 with e1
      injection e1 with e1
      subst e1 e3
      exact ⟨cur, h3, h6⟩
  have HPL : Hid (EvR w w2 w.heap.size n [] 0 ∧ CpE w2 w.heap.size [] P) := ⟨⟨hb2, rfl, cur.toList, by simpa using hcs, hbk⟩, fun j x y hx _ => by simp at hx⟩
  clear hown hgrow hbk hcs hb2
  go_wp2_with (fail)
  go_loopw [13] (fun i wr => ∃ (k : Nat) (E : List EvT), k ≤ n ∧ i = .int .i64 k ∧ Hid (EvR w wr w.heap.size n E k ∧ CpE wr w.heap.size E P)) (fun i _ => n - (intOf i).toNat)
  case atStart => exact ⟨0, [], by omega, rfl, HPL.out⟩
  case round =>
    obtain ⟨k, E, hk, rfl, HR⟩ := hrel
    by_cases hlt : k < n
    · have hkn : (k : Int) < (n : Int) := by omega
      obtain ⟨b1, o1, sa, sc, rfl, hB1, hPk, _, ⟨c0, c1, c2, c3, c4, c5⟩, hS⟩ := (HA.out _ HR.out.1.1).at hlt
      have HS := Lib.hid hS
      have HY := Lib.hid hPk
      have hyl := HST.out _ (List.mem_of_getElem? hPk)
      clear hS hPk
      generalize P.getD k z6 = y at *
      obtain ⟨bar, v, dd, tt, tie, L⟩ := y
      dsimp only at c0 c1 c2 c3 c4 c5 HS hyl
      go_wp2_with (go_at_call 85; (refine (cloneEvent_any bar v dd tt tie sa L.length sc L _ (HS.out.below (ba wr _)) hyl).mono ?_); rintro e w3 ⟨A3, c3', rfl, ho, hb3⟩; have T := bx hb3; have HR3 : Hid (EvR w w3 w.heap.size n E k) := ⟨bt HR.out.1.1 T, HR.out.1.2.1, (by obtain ⟨Z, h1, h2⟩ := HR.out.1.2.2; exact ⟨Z, h1, h2.below T⟩)⟩; obtain ⟨⟨u0, v0⟩, ⟨u1, v1⟩, ⟨u2, v2⟩, ⟨u3, v3⟩, ⟨u4, v4⟩, ⟨u5, v5⟩, vf, vg, hR4⟩ := HR3.out.step ⟨bar, v, dd, tt, tie, A3, L.length, c3'⟩ (Nat.le_refl _) hlt; have hwr := HR.out.1.1.size; have HC4 : Hid (CpE ((((((w3.setCell ⟨w.heap.size, k * 6, none⟩ (.bool bar)).setCell ⟨w.heap.size, k * 6 + 1, none⟩ (.int .i64 v)).setCell ⟨w.heap.size, k * 6 + 2, none⟩ (.bool dd)).setCell ⟨w.heap.size, k * 6 + 3, none⟩ (.bool tt)).setCell ⟨w.heap.size, k * 6 + 4, none⟩ (.bool tie)).setCell ⟨w.heap.size, k * 6 + 5, none⟩ (.slice A3 L.length c3')) w.heap.size (E ++ [⟨bar, v, dd, tt, tie, A3, L.length, c3'⟩]) P) := (CpE.snoc (x := ⟨bar, v, dd, tt, tie, A3, L.length, c3'⟩) (y := ⟨bar, v, dd, tt, tie, L⟩) (HR.out.2.blk (fun g cs h => h.below T)) (by rw [HR.out.1.2.1]; exact HY.out) ⟨rfl, rfl, rfl, rfl, rfl, rfl⟩ (ho.more (by simp; omega))).blk (fun g cs h => set6_other HR3.out h); have HR4 := Lib.hid hR4; have f0 := vf (k * 6); have f1 := vf (k * 6 + 1); have f2 := vf (k * 6 + 2); have f3 := vf (k * 6 + 3); have f4 := vf (k * 6 + 4); have f5 := vf (k * 6 + 5); clear vf hR4 T hb3 ho)
      go_roundw
      case rel => exact ⟨k + 1, _, by omega, by first | rfl | go_num, HR4.out, HC4.out⟩
      case measure => simp [intOf]; omega
    · obtain rfl : k = n := by omega
      obtain ⟨_, hE, Z, hZ, hB⟩ := HR.out.1
      have HB := Lib.hid hB
      have HZ : Hid (Z = []) := List.length_eq_zero_iff.1 (by simpa using hZ)
      have HEL := Lib.hid hE
      clear hZ hB hE
      go_wp2_with (fail)
      go_ret
      have hlm : (evC E).length = k * 6 := by rw [evC_len, HEL.out]
      refine ⟨some ⟨w.heap.size, 0, none⟩, k, E, rfl, by rw [HEL.out]; exact HN.out, HR.out.2, ⟨Nat.le_refl _, hlm, fun _ => ⟨w.heap.size, _, rfl, Nat.le_refl _, HB.out, ?_, ?_⟩⟩, HR.out.1.1⟩
      · rw [HZ.out, List.append_nil]
        simpa using hlm
      · rw [HZ.out, List.append_nil]
        exact List.take_of_length_le (Nat.le_of_eq hlm)

end Go.Proofs.YtjobablfojnppaaDoor
