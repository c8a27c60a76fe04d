/- Pieces: the functions that Plain and Terse hand to rewrite. -/
import Derived.Test.YtdhjigaocamglaaDoorQdRw3
namespace Go.Proofs.YtdhjigaocamglaaDoor
open Go Go.RowKit

def plainSt (_ : Unit) (p : TmP) : Unit × EvP := ((), { p.y with v := p.v, d := p.d, t := p.t })
set_option maxRecDepth 100000 in
set_option maxHeartbeats 3200000 in
theorem plainFn (w : World) (TP : List TmP) : RwFn 37 #[] (fun _ => False) w TP plainSt (fun _ _ => True) := by
  intro s p sa sc B W _ _ _ _ _ hO
  obtain ⟨n, ⟨bar, v, d, t, tie, L⟩, sv, sd, stt, fm, to⟩ := p
  have HO := Lib.hid hO
  clear hO
  rw [show (#[tmPV ⟨n, ⟨bar, v, d, t, tie, L⟩, sv, sd, stt, fm, to⟩ sa sc] ++ #[] : Array Value) = #[tmPV ⟨n, ⟨bar, v, d, t, tie, L⟩, sv, sd, stt, fm, to⟩ sa sc] from rfl]
  go_enter Tryd.func37, Tryd.ntmps37
  go_wp2_with (fail)
  refine bodyPost_ret (v := evV bar sv sd stt tie sa L.length sc) (by simp [results, Tryd.results37, go_sem]) rfl ⟨sa, sc, rfl, HO.out.below (bt (ba _ _) (ba _ _)), Kx.of_below (bt (ba _ _) (ba _ _))⟩

def terseSt (s : Sg) (p : TmP) : Sg × EvP := (⟨p.v, p.d, p.t⟩, if p.v = s.v ∧ p.d = s.d ∧ p.t = s.t then { p.y with v := 0, d := false, t := false } else p.y)
def TrR (bb : Nat) (s : Sg) (W : World) : Prop := Blk W bb 48 #[.int .i64 s.v, .bool s.d, .bool s.t]
theorem ter_close {x : Nat → Prop} {bb : Nat} {W : World} {o1 o2 : Obj} {v0 v1 v2 : Value} {cs : Array Value} {T : TypeId} (hx : x bb) (h : Blk W bb T cs) (hc : ((cs.setIfInBounds 0 v0).setIfInBounds 1 v1).setIfInBounds 2 v2 = #[v0, v1, v2]) :
    Kx x W.heap.size W (((((W.setCell ⟨bb, 0, none⟩ v0).setCell ⟨bb, 1, none⟩ v1).setCell ⟨bb, 2, none⟩ v2).alloc o1).alloc o2) ∧ Blk (((((W.setCell ⟨bb, 0, none⟩ v0).setCell ⟨bb, 1, none⟩ v1).setCell ⟨bb, 2, none⟩ v2).alloc o1).alloc o2) bb T #[v0, v1, v2] := by
  have h3 := ((h.set_ 0 v0).set_ 1 v1).set_ 2 v2
  rw [hc] at h3
  have k : Kx x W.heap.size W (((W.setCell ⟨bb, 0, none⟩ v0).setCell ⟨bb, 1, none⟩ v1).setCell ⟨bb, 2, none⟩ v2) := (((Kx.refl _ _ _).setBlk (.inr hx) h _ _).setBlk (.inr hx) (h.set_ 0 _) _ _).setBlk (.inr hx) ((h.set_ 0 _).set_ 1 _) _ _
  exact ⟨k.trans ((Kx.of_below (bt (ba _ o1) (ba _ o2))).mono k.size (fun _ _ h => h)), (h3.below (ba _ _)).below (ba _ _)⟩
set_option maxRecDepth 100000 in
set_option maxHeartbeats 3200000 in
theorem terseFn (w : World) (TP : List TmP) (bb : Nat) (hbb : bb < w.heap.size) : RwFn 40 #[.pointer (some ⟨bb, 0, none⟩)] (fun k => k = bb) w TP terseSt (TrR bb) := by
  intro s p sa sc B W _ hR hK hB _ hO
  obtain ⟨n, ⟨bar, v, d, t, tie, L⟩, sv, sd, stt, fm, to⟩ := p
  have HB : Hid (∀ o1 o2 v0 v1 v2, Ow (((((W.setCell ⟨bb, 0, none⟩ v0).setCell ⟨bb, 1, none⟩ v1).setCell ⟨bb, 2, none⟩ v2).alloc o1).alloc o2) B 62 5 sa L.length sc (stC L)) := fun o1 o2 v0 v1 v2 =>
    ((((hO.other (by omega) _ _).other (by omega) _ _).other (by omega) _ _).below (bt (ba _ _) (ba _ _)))
  have hbw : bb < W.heap.size := Nat.lt_of_lt_of_le hbb hK.size
  have hb1 : bb ≠ W.heap.size := by omega
  have hb2 : bb ≠ W.heap.size + 1 := by omega
  have c0 := hR.cell 0
  have c1 := hR.cell 1
  have c2 := hR.cell 2
  have f0 := hR.frozen 0
  have f1 := hR.frozen 1
  have f2 := hR.frozen 2
  simp at c0 c1 c2
  obtain ⟨zv, zd, zt⟩ := s
  have HR := Lib.hid hR
  dsimp only at c0 c1 c2
  clear hO hK hR
  rw [show (#[tmPV ⟨n, ⟨bar, v, d, t, tie, L⟩, sv, sd, stt, fm, to⟩ sa sc] ++ #[.pointer (some ⟨bb, 0, none⟩)] : Array Value) = #[tmPV ⟨n, ⟨bar, v, d, t, tie, L⟩, sv, sd, stt, fm, to⟩ sa sc, .pointer (some ⟨bb, 0, none⟩)] from rfl]
  by_cases g1 : sv = zv
  rotate_left
  · have HE : Hid (terseSt ⟨zv, zd, zt⟩ ⟨n, ⟨bar, v, d, t, tie, L⟩, sv, sd, stt, fm, to⟩ = (⟨sv, sd, stt⟩, ⟨bar, v, d, t, tie, L⟩)) := by unfold Hid terseSt; rw [if_neg (fun h => g1 h.1)]
    rw [HE.out]
    have hxb : (sv == zv) = false := beq_eq_false_iff_ne.2 g1
    clear g1
    go_enter Tryd.func40, Tryd.ntmps40
    go_wp2_with (fail)
    refine bodyPost_ret (v := evV bar v d t tie sa L.length sc) (by simp [results, Tryd.results40, go_sem]) rfl ⟨sa, sc, rfl, HB.out _ _ _ _ _, ter_close rfl HR.out rfl⟩
  subst g1
  by_cases g2 : sd = zd
  rotate_left
  · have HE : Hid (terseSt ⟨sv, zd, zt⟩ ⟨n, ⟨bar, v, d, t, tie, L⟩, sv, sd, stt, fm, to⟩ = (⟨sv, sd, stt⟩, ⟨bar, v, d, t, tie, L⟩)) := by unfold Hid terseSt; rw [if_neg (fun h => g2 h.2.1)]
    rw [HE.out]
    have hxb : (sd == zd) = false := beq_eq_false_iff_ne.2 g2
    clear g2
    go_enter Tryd.func40, Tryd.ntmps40
    go_wp2_with (fail)
    refine bodyPost_ret (v := evV bar v d t tie sa L.length sc) (by simp [results, Tryd.results40, go_sem]) rfl ⟨sa, sc, rfl, HB.out _ _ _ _ _, ter_close rfl HR.out rfl⟩
  subst g2
  by_cases g3 : stt = zt
  rotate_left
  · have HE : Hid (terseSt ⟨sv, sd, zt⟩ ⟨n, ⟨bar, v, d, t, tie, L⟩, sv, sd, stt, fm, to⟩ = (⟨sv, sd, stt⟩, ⟨bar, v, d, t, tie, L⟩)) := by unfold Hid terseSt; rw [if_neg (fun h => g3 h.2.2)]
    rw [HE.out]
    have hxb : (stt == zt) = false := beq_eq_false_iff_ne.2 g3
    clear g3
    go_enter Tryd.func40, Tryd.ntmps40
    go_wp2_with (fail)
    refine bodyPost_ret (v := evV bar v d t tie sa L.length sc) (by simp [results, Tryd.results40, go_sem]) rfl ⟨sa, sc, rfl, HB.out _ _ _ _ _, ter_close rfl HR.out rfl⟩
  subst g3
  have HE : Hid (terseSt ⟨sv, sd, stt⟩ ⟨n, ⟨bar, v, d, t, tie, L⟩, sv, sd, stt, fm, to⟩ = (⟨sv, sd, stt⟩, ⟨bar, 0, false, false, tie, L⟩)) := by unfold Hid terseSt; rw [if_pos ⟨rfl, rfl, rfl⟩]
  rw [HE.out]
  go_enter Tryd.func40, Tryd.ntmps40
  go_wp2_with (fail)
  refine bodyPost_ret (v := evV bar 0 false false tie sa L.length sc) (by simp [results, Tryd.results40, go_sem]) rfl ⟨sa, sc, rfl, HB.out _ _ _ _ _, ter_close rfl HR.out rfl⟩

end Go.Proofs.YtdhjigaocamglaaDoor

/- Pieces: changed at stops, and the functions that Bare and Cut hand to rewrite. -/
namespace Go.Proofs.YtdhjigaocamglaaDoor
open Go Go.RowKit

theorem set5 (pre post : List Value) (a b c d e v0 v1 v2 v3 v4 : Value) (l : Nat) (hl : pre.length = l) : (((((pre ++ a :: b :: c :: d :: e :: post).set l v0).set (l + 1) v1).set (l + 2) v2).set (l + 3) v3).set (l + 4) v4 = pre ++ v0 :: v1 :: v2 :: v3 :: v4 :: post := by
  subst hl
  have e0 : ∀ (q : List Value) (j : Nat) (v : Value), (pre ++ q).set (pre.length + j) v = pre ++ q.set j v := fun q j v => by
    rw [List.set_append_right _ _ (by omega), Nat.add_sub_cancel_left]
  have e1 : ∀ (q : List Value) (v : Value), (pre ++ q).set pre.length v = pre ++ q.set 0 v := fun q v => e0 q 0 v
  rw [e1, e0, e0, e0, e0]
  rfl
theorem stC_snoc (L : List St) (s : St) : stC (L ++ [s]) = stC L ++ [.int .i64 s.c, .int .i64 s.f, .int .i64 s.r, .int .i64 s.g, .int .i64 s.h] := by simp [stC]
/-- The block's first k stops are filled. -/
def StR (w wr : World) (g n : Nat) (M : List St) (k : Nat) : Prop :=
  Below w.heap.size w wr ∧ ∃ Z : List Value, Z.length = (n - k) * 5 ∧ Blk wr g 62 (stC (M.take k) ++ Z).toArray
theorem StR.step {w wr : World} {g n : Nat} {M : List St} {k : Nat} {x : St} (h : StR w wr g n M k) (hg : w.heap.size ≤ g) (hk : k < n) (hM : k < M.length) (hx : M.getD k z5 = x) :
    (∃ u, wr.cell? ⟨g, k * 5, none⟩ = some u) ∧ (∃ u, wr.cell? ⟨g, k * 5 + 1, none⟩ = some u) ∧ (∃ u, wr.cell? ⟨g, k * 5 + 2, none⟩ = some u) ∧ (∃ u, wr.cell? ⟨g, k * 5 + 3, none⟩ = some u) ∧ (∃ u, wr.cell? ⟨g, k * 5 + 4, none⟩ = some u) ∧ (∀ j, wr.frozen? ⟨g, j, none⟩ = false) ∧ g < wr.heap.size ∧
      StR w (((((wr.setCell ⟨g, k * 5, none⟩ (.int .i64 x.c)).setCell ⟨g, k * 5 + 1, none⟩ (.int .i64 x.f)).setCell ⟨g, k * 5 + 2, none⟩ (.int .i64 x.r)).setCell ⟨g, k * 5 + 3, none⟩ (.int .i64 x.g)).setCell ⟨g, k * 5 + 4, none⟩ (.int .i64 x.h)) g n M (k + 1) := by
  obtain ⟨hb, Z, hZ, hB⟩ := h
  have hpl : (stC (M.take k)).length = k * 5 := by rw [stC_len, List.length_take, Nat.min_eq_left (by omega)]
  obtain ⟨z0, z1, z2, z3, z4, Z', rfl⟩ : ∃ z0 z1 z2 z3 z4 Z', Z = z0 :: z1 :: z2 :: z3 :: z4 :: Z' := by
    match Z, hZ with
    | [], hZ => simp at hZ; omega
    | [_], hZ => simp at hZ; omega
    | [_, _], hZ => simp at hZ; omega
    | [_, _, _], hZ => simp at hZ; omega
    | [_, _, _, _], hZ => simp at hZ; omega
    | z0 :: z1 :: z2 :: z3 :: z4 :: Z', _ => exact ⟨z0, z1, z2, z3, z4, Z', rfl⟩
  have c : ∀ j, wr.cell? ⟨g, k * 5 + j, none⟩ = (z0 :: z1 :: z2 :: z3 :: z4 :: Z')[j]? := fun j => by
    rw [hB.cell (k * 5 + j), List.getElem?_toArray, List.getElem?_append_right (by omega), hpl, Nat.add_sub_cancel_left]
  refine ⟨⟨z0, c 0⟩, ⟨z1, c 1⟩, ⟨z2, c 2⟩, ⟨z3, c 3⟩, ⟨z4, c 4⟩, fun j => hB.frozen j, hB.lt, ((((hb.setCell hg _).setCell hg _).setCell hg _).setCell hg _).setCell hg _, Z', by simp at hZ; omega, ?_⟩
  have h2 := ((((hB.set_ (k * 5) (.int .i64 x.c)).set_ (k * 5 + 1) (.int .i64 x.f)).set_ (k * 5 + 2) (.int .i64 x.r)).set_ (k * 5 + 3) (.int .i64 x.g)).set_ (k * 5 + 4) (.int .i64 x.h)
  rw [List.setIfInBounds_toArray, List.setIfInBounds_toArray, List.setIfInBounds_toArray, List.setIfInBounds_toArray, List.setIfInBounds_toArray, set5 _ _ _ _ _ _ _ _ _ _ _ _ _ hpl] at h2
  have e : M.take (k + 1) = M.take k ++ [x] := by
    rw [List.take_add_one, ← hx]
    simp [List.getElem?_eq_getElem hM]
  rw [e, stC_snoc, List.append_assoc]
  exact h2

def bareS (s : St) : St := ⟨s.c, s.f, 0, 0, 0⟩
set_option maxRecDepth 100000 in
set_option maxHeartbeats 1600000 in
theorem bareStop_any (s : St) (W : World) : Calls Tryd.prog 43 #[stV s] W fun e W' => e = .returned (stV (bareS s)) ∧ Below W.heap.size W W' := by
  obtain ⟨c, f, r, g, h⟩ := s
  go_enter Tryd.func43, Tryd.ntmps43
  go_wp2_with (fail)
  exact bodyPost_ret (v := stV (bareS ⟨c, f, r, g, h⟩)) (by simp [results, Tryd.results43, go_sem, bareS]) rfl ⟨rfl, bt (ba _ _) (ba _ _)⟩

set_option maxRecDepth 100000 in
set_option maxHeartbeats 6400000 in
theorem changedB_any (A : Option Addr) (n c : Nat) (L : List St) (h : St → St)  (w : World) (hA : Sl w w.heap.size 5 A n c (stC L)) (hn : n = L.length) (hlim : n ≤ 1000000)
    (hG : ∀ (s : St) (W : World), Below w.heap.size w W → Calls Tryd.prog 43 #[stV s] W fun e W' => e = .returned (stV (h s)) ∧ Below W.heap.size W W') :
    Calls Tryd.prog 42 #[.slice A n c, .func (.func 43) #[] #[]] w fun e w' => ∃ B d, e = .returned (.slice B n d) ∧ Ow w' w.heap.size 62 5 B n d (stC (L.map h)) ∧ Below w.heap.size w w' := by
  have HA : Hid (∀ w', RowKit.Below w.heap.size w w' → Sl w' w'.heap.size 5 A n c (stC L)) := fun w' hb => hA.below hb
  have HN := Lib.hid hn
  have HG := Lib.hid hG
  obtain ⟨i0, ii1, ii2, ii3, ii4⟩ := info_parts Tryd.infoSt
  clear hA hn hG
  go_enter Tryd.func42, Tryd.ntmps42
  go_wp2_with (at_make; refine wpList_make_full _ rfl _ _ 49 rfl w.heap.size 62 i0 _ 5 Tryd.underlying49 ii1 ii2 ii3 .i64 .i64 _ _ n rfl rfl rfl rfl (by rw [ii4]; omega) (by unfold maxLen; omega) (Nat.le_refl _) ?_)
  intro w2 hown hgrow
  have hb2 : RowKit.Below w.heap.size w w2 := RowKit.Below.grown (RowKit.Below.refl _ _) hgrow (Nat.le_refl _) (fun g h => by cases h)
  obtain ⟨cur, hbk, hcs⟩ : ∃ cur, w2.heap[w.heap.size]? = some (.cells cur 62 (0, 0)) ∧ cur.size = n * 5 := by
    rcases hown.2 with ⟨h1, _⟩ | ⟨g, cap, cur, h1, _, h3, _, _, h6, _⟩
    · cases h1
    · injection h1 with e1 e2 e3
      injection e1 with e1
      injection e1 with e1
      subst e1 e3
      exact ⟨cur, h3, h6⟩
  have HPL : Hid (StR w w2 w.heap.size n (L.map h) 0) := ⟨hb2, cur.toList, by simpa using hcs, by simp only [List.take_zero]; exact hbk⟩
  clear hown hgrow hbk hcs hb2
  go_wp2_with (fail)
  go_loopw [13] (fun i wr => ∃ k : Nat, k ≤ n ∧ i = .int .i64 k ∧ Hid (StR w wr w.heap.size n (L.map h) k)) (fun i _ => n - (intOf i).toNat)
  case atStart => exact ⟨0, by omega, rfl, HPL.out⟩
  case round =>
    obtain ⟨k, hk, rfl, HR⟩ := hrel
    by_cases hlt : k < n
    · have hkn : (k : Int) < (n : Int) := by omega
      obtain ⟨b1, o1, rfl, hB1, _, _, c0, c1, c2, c3, c4⟩ := st_at (HA.out _ HR.out.1) HN.out hlt
      have HX : Hid ((L.map h).getD k z5 = h (L.getD k z5)) := by
        have hkL : k < L.length := by have := HN.out; omega
        unfold Hid
        simp [List.getD_eq_getElem?_getD, List.getElem?_eq_getElem hkL]
      generalize L.getD k z5 = x at *
      have HGX := Lib.hid (HG.out x)
      obtain ⟨y, hy⟩ : ∃ y, h x = y := ⟨_, rfl⟩
      rw [hy] at HGX HX
      clear hy
      obtain ⟨cx, fx, rx, gx, hx⟩ := x
      obtain ⟨cy, fy, ry, gy, hy⟩ := y
      dsimp only at c0 c1 c2 c3 c4 HX HGX
      go_wp2_with (go_at_call 43; refine (HGX.out _ (bt HR.out.1 (ba _ _))).mono ?_; rintro e w3 ⟨rfl, hb3⟩; have T := bx hb3; have HR3 : Hid (StR w w3 w.heap.size n (L.map h) k) := ⟨bt HR.out.1 T, (by obtain ⟨Z, h1, h2⟩ := HR.out.2; exact ⟨Z, h1, h2.below T⟩)⟩; obtain ⟨⟨u0, v0⟩, ⟨u1, v1⟩, ⟨u2, v2⟩, ⟨u3, v3⟩, ⟨u4, v4⟩, vf, vg, hR4⟩ := HR3.out.step (Nat.le_refl _) hlt (by rw [List.length_map]; have := HN.out; omega) HX.out; have HR4 := Lib.hid hR4; have f0 := vf (k * 5); have f1 := vf (k * 5 + 1); have f2 := vf (k * 5 + 2); have f3 := vf (k * 5 + 3); have f4 := vf (k * 5 + 4); clear vf hR4 T hb3)
      go_roundw
      case rel => exact ⟨k + 1, by omega, by first | rfl | go_num, HR4.out⟩
      case measure => simp [intOf]; omega
    · obtain rfl : k = n := by omega
      obtain ⟨Z, hZ, hB⟩ := HR.out.2
      have HB := Lib.hid hB
      have HZ : Hid (Z = []) := List.length_eq_zero_iff.1 (by simpa using hZ)
      clear hZ hB
      go_wp2_with (fail)
      go_ret
      have hlm : (stC (L.map h)).length = k * 5 := by rw [stC_len, List.length_map, ← HN.out]
      have htk : (L.map h).take k = L.map h := List.take_of_length_le (by rw [List.length_map]; have := HN.out; omega)
      refine ⟨some ⟨w.heap.size, 0, none⟩, k, rfl, ⟨Nat.le_refl _, hlm, fun _ => ⟨w.heap.size, _, rfl, Nat.le_refl _, HB.out, ?_, ?_⟩⟩, HR.out.1⟩
      · rw [HZ.out, List.append_nil, htk]
        simpa using hlm
      · rw [HZ.out, List.append_nil, htk]
        exact List.take_of_length_le (Nat.le_of_eq hlm)

theorem box2 (W : World) (c1 c2 : Array Value) (T1 T2 : TypeId) : Blk ((W.alloc (.cells c1 T1)).alloc (.cells c2 T2)) W.heap.size T1 c1 ∧ Blk ((W.alloc (.cells c1 T1)).alloc (.cells c2 T2)) (W.heap.size + 1) T2 c2 := by
  have h1 : Blk (W.alloc (.cells c1 T1)) W.heap.size T1 c1 := heap_alloc_new W _
  have h2 := heap_alloc_new (W.alloc (.cells c1 T1)) (.cells c2 T2)
  rw [World.size_alloc] at h2
  exact ⟨h1.below (ba _ _), h2⟩
abbrev tmO (n : Nat) (bar : Bool) (v : Int) (d t tie : Bool) (sa : Option Addr) (nl sc : Nat) (sv : Int) (sd stt : Bool) (fm to : Int) : Obj := .cells #[.int .i64 n, .bool bar, .int .i64 v, .bool d, .bool t, .bool tie, .slice sa nl sc, .int .i64 sv, .bool sd, .bool stt, .int .i64 fm, .int .i64 to] 75
def bareSt (_ : Unit) (p : TmP) : Unit × EvP := ((), { p.y with L := p.y.L.map bareS })
set_option maxRecDepth 100000 in
set_option maxHeartbeats 3200000 in
theorem bareFn (w : World) (TP : List TmP) (hl : ∀ p ∈ TP, p.y.L.length ≤ 1000000) : RwFn 41 #[] (fun _ => False) w TP bareSt (fun _ _ => True) := by
  intro s p sa sc B W hp _ hK hB hBW hO
  have hlp := hl p hp
  obtain ⟨n, ⟨bar, v, d, t, tie, L⟩, sv, sd, stt, fm, to⟩ := p
  dsimp only at hlp hO
  have HSL : Hid (∀ o1 o2, Sl ((W.alloc o1).alloc o2) ((W.alloc o1).alloc o2).heap.size 5 sa L.length sc (stC L)) := fun o1 o2 => (hO.sl.below (ba _ _)).below (ba _ _)
  have HBX := Lib.hid (box2 W #[.int .i64 n, .bool bar, .int .i64 v, .bool d, .bool t, .bool tie, .slice sa L.length sc, .int .i64 sv, .bool sd, .bool stt, .int .i64 fm, .int .i64 to] #[.bool false, .int .i64 0, .bool false, .bool false, .bool false, .slice none 0 0] 75 51)
  have HBB : Hid (Below W.heap.size W ((W.alloc (tmO n bar v d t tie sa L.length sc sv sd stt fm to)).alloc zEvO)) := bt (ba _ _) (ba _ _)
  have HLT : Hid (W.heap.size < ((W.alloc (tmO n bar v d t tie sa L.length sc sv sd stt fm to)).alloc zEvO).heap.size ∧ W.heap.size + 1 < ((W.alloc (tmO n bar v d t tie sa L.length sc sv sd stt fm to)).alloc zEvO).heap.size) := by unfold Hid; simp; omega
  clear hO hK
  rw [show (#[tmPV ⟨n, ⟨bar, v, d, t, tie, L⟩, sv, sd, stt, fm, to⟩ sa sc] ++ #[] : Array Value) = #[tmPV ⟨n, ⟨bar, v, d, t, tie, L⟩, sv, sd, stt, fm, to⟩ sa sc] from rfl]
  have HE : Hid (bareSt s ⟨n, ⟨bar, v, d, t, tie, L⟩, sv, sd, stt, fm, to⟩ = ((), ⟨bar, v, d, t, tie, L.map bareS⟩)) := rfl
  rw [HE.out]
  go_enter Tryd.func41, Tryd.ntmps41
  go_wp2_with (go_at_call 42; refine (changedB_any sa L.length sc L bareS _ (HSL.out _ _) rfl hlp (fun s W _ => bareStop_any s W)).mono ?_; rintro e W1 ⟨A1, c1, rfl, hown, hb1⟩; have hP1 := HBX.out.1.below hb1; have hR1 := HBX.out.2.below hb1; have p1 := hP1.cell 1; have p2 := hP1.cell 2; have p3 := hP1.cell 3; have p4 := hP1.cell 4; have p5 := hP1.cell 5; have p6 := hP1.cell 6; have gp6 := hP1.frozen 6; have r0 := hR1.cell 0; have f0 := hR1.frozen 0; have r1 := hR1.cell 1; have f1 := hR1.frozen 1; have r2 := hR1.cell 2; have f2 := hR1.frozen 2; have r3 := hR1.cell 3; have f3 := hR1.frozen 3; have r4 := hR1.cell 4; have f4 := hR1.frozen 4; have r5 := hR1.cell 5; have f5 := hR1.frozen 5; simp at p1 p2 p3 p4 p5 p6 r0 r1 r2 r3 r4 r5; have HPR := Lib.hid (And.intro hP1 (And.intro hR1 (And.intro hown hb1))); clear hP1 hR1 hown hb1)
  have hne : W.heap.size + 1 ≠ W.heap.size := by omega
  have hR3 := (((((((HPR.out.2.1.setOther hne 6 (.slice A1 L.length c1)).set_ 0 (.bool bar)).set_ 1 (.int .i64 v)).set_ 2 (.bool d)).set_ 3 (.bool t)).set_ 4 (.bool tie)).set_ 5 (.slice A1 L.length c1))
  have z0 := hR3.cell 0
  have z1 := hR3.cell 1
  have z2 := hR3.cell 2
  have z3 := hR3.cell 3
  have z4 := hR3.cell 4
  have z5 := hR3.cell 5
  have hbw := HBB.out
  refine bodyPost_ret (v := evV bar v d t tie A1 L.length c1) ?_ rfl ?_
  · simp at z0 z1 z2 z3 z4 z5
    simp [results, Tryd.results41, go_sem, z0, z1, z2, z3, z4, z5]
  · have ho := (((((((HPR.out.2.2.1.other (g := W.heap.size) HLT.out.1 6 (.slice A1 L.length c1)).other (g := W.heap.size + 1) HLT.out.2 0 (.bool bar)).other (g := W.heap.size + 1) HLT.out.2 1 (.int .i64 v)).other (g := W.heap.size + 1) HLT.out.2 2 (.bool d)).other (g := W.heap.size + 1) HLT.out.2 3 (.bool t)).other (g := W.heap.size + 1) HLT.out.2 4 (.bool tie)).other (g := W.heap.size + 1) HLT.out.2 5 (.slice A1 L.length c1))
    have hb := (((((((bt hbw HPR.out.2.2.2).setCell (p := ⟨W.heap.size, 6, none⟩) (by simp) (.slice A1 L.length c1)).setCell (p := ⟨W.heap.size + 1, 0, none⟩) (by simp) (.bool bar)).setCell (p := ⟨W.heap.size + 1, 1, none⟩) (by simp) (.int .i64 v)).setCell (p := ⟨W.heap.size + 1, 2, none⟩) (by simp) (.bool d)).setCell (p := ⟨W.heap.size + 1, 3, none⟩) (by simp) (.bool t)).setCell (p := ⟨W.heap.size + 1, 4, none⟩) (by simp) (.bool tie)).setCell (p := ⟨W.heap.size + 1, 5, none⟩) (by simp) (.slice A1 L.length c1)
    exact ⟨A1, c1, by rw [List.length_map], by rw [List.length_map]; exact ho.more (Nat.le_trans hBW (Nat.le_of_lt HLT.out.1)), Kx.of_below hb, trivial⟩

end Go.Proofs.YtdhjigaocamglaaDoor

/- Pieces: Plain, Bare and Terse, for any piece. -/
namespace Go.Proofs.YtdhjigaocamglaaDoor
open Go Go.RowKit

/-- A list where there is no error. -/
def oC {α : Type} (er : Int) (L : List α) : List α := if er = 0 then L else []
theorem oC_ok {α : Type} (L : List α) : oC 0 L = L := rfl
theorem oC_no {α : Type} {er : Int} (h : er ≠ 0) (L : List α) : oC er L = [] := if_neg h
/-- A call hands back a piece of its own and an error; with an error the piece is empty. -/
def PcRes (er : Int) (C : List Cr) (S : List Int) (P : List EvP) (w : World) (e : Ending) (w' : World) : Prop :=
  ∃ B n d B' m d' B2 q d2, e = .returned (.tuple #[pcV B n d B' m d' B2 q d2, .int .i64 er]) ∧ PcOw w' w.heap.size B n d B' m d' B2 q d2 (oC er C) (oC er S) (oC er P) ∧ Below w.heap.size w w'
theorem pbox (w : World) (A : Option Addr) (n c : Nat) (A' : Option Addr) (m c' : Nat) (A2 : Option Addr) (q cq : Nat) :
    Blk ((w.alloc (pcO A n c A' m c' A2 q cq)).alloc zPcO) w.heap.size 28 #[.slice A n c, .slice A' m c', .slice A2 q cq] ∧ Blk ((w.alloc (pcO A n c A' m c' A2 q cq)).alloc zPcO) (w.heap.size + 1) 28 #[.slice none 0 0, .slice none 0 0, .slice none 0 0] ∧
      Below w.heap.size w ((w.alloc (pcO A n c A' m c' A2 q cq)).alloc zPcO) ∧ ((w.alloc (pcO A n c A' m c' A2 q cq)).alloc zPcO).heap.size = w.heap.size + 2 :=
  ⟨(box2 w _ _ _ _).1, (box2 w _ _ _ _).2, bt (ba _ _) (ba _ _), by simp⟩
theorem err_ret {fn : Func} {a : Act} (w W1 : World) (X : Int) {C : List Cr} {S : List Int} {P : List EvP} (hb : Below w.heap.size w W1) (hX : X ≠ 0)
    (hr : (results fn a.tmps).run Tryd.prog (((W1.setCell ⟨w.heap.size + 1, 0, none⟩ (.slice none 0 0)).setCell ⟨w.heap.size + 1, 1, none⟩ (.slice none 0 0)).setCell ⟨w.heap.size + 1, 2, none⟩ (.slice none 0 0)) = .ok (.tuple #[pcV none 0 0 none 0 0 none 0 0, .int .i64 X]) (((W1.setCell ⟨w.heap.size + 1, 0, none⟩ (.slice none 0 0)).setCell ⟨w.heap.size + 1, 1, none⟩ (.slice none 0 0)).setCell ⟨w.heap.size + 1, 2, none⟩ (.slice none 0 0))) (hd : a.defers = [] := by rfl) :
    bodyPost Tryd.prog fn (PcRes X C S P w) .ret a (((W1.setCell ⟨w.heap.size + 1, 0, none⟩ (.slice none 0 0)).setCell ⟨w.heap.size + 1, 1, none⟩ (.slice none 0 0)).setCell ⟨w.heap.size + 1, 2, none⟩ (.slice none 0 0)) := by
  refine bodyPost_ret hr hd ⟨none, 0, 0, none, 0, 0, none, 0, 0, rfl, ?_, ((hb.setCell (p := ⟨w.heap.size + 1, 0, none⟩) (by simp) _).setCell (p := ⟨w.heap.size + 1, 1, none⟩) (by simp) _).setCell (p := ⟨w.heap.size + 1, 2, none⟩) (by simp) _⟩
  rw [oC_no hX, oC_no hX, oC_no hX]
  exact PcOw.nil_ _ _

set_option maxRecDepth 100000 in
set_option maxHeartbeats 3200000 in
theorem plain_any (A : Option Addr) (n c : Nat) (A' : Option Addr) (m c' : Nat) (A2 : Option Addr) (q cq : Nat) (C : List Cr) (S : List Int) (P : List EvP) (w : World) (hP : PcIn w A n c A' m c' A2 q cq C S P) (hnb : n ≤ 1000000) (hmb : m ≤ 1000000) (hqb : q ≤ 65536) (hst : ∀ y ∈ P, y.L.length ≤ 1000000) :
    Calls Tryd.prog 11 #[pcV A n c A' m c' A2 q cq] w (PcRes (pcErr C S P) C S (rwO plainSt () (tpL P)).1 w) := by
  have HP : Hid (∀ w', Below w.heap.size w w' → PcIn w' A n c A' m c' A2 q cq C S P) := fun w' hb => hP.below hb
  have HP0 := Lib.hid hP
  have HST := Lib.hid hst
  have HBX := Lib.hid (pbox w A n c A' m c' A2 q cq)
  obtain ⟨X, hX⟩ : ∃ X, pcErr C S P = X := ⟨_, rfl⟩
  have HX := Lib.hid hX
  rw [hX]
  clear hX hP hst
  by_cases hX0 : X = 0
  · subst hX0
    go_enter Tryd.func11, Tryd.ntmps11
    go_wp2_with (first
      | (go_at_call 35; refine (pcheck_any A n c A' m c' A2 q cq C S P _ (HP.out _ HBX.out.2.2.1) hnb hmb (by omega) HST.out).mono ?_; rintro e W1 ⟨rfl, hb1⟩; rw [HX.out]; have hP1 := HBX.out.1.below hb1; have hR1 := HBX.out.2.1.below hb1; have p0 := hP1.cell 0; have p1 := hP1.cell 1; have p2 := hP1.cell 2; have r0 := hR1.cell 0; have r1 := hR1.cell 1; have r2 := hR1.cell 2; have f0 := hR1.frozen 0; have f1 := hR1.frozen 1; have f2 := hR1.frozen 2; simp at p0 p1 p2 r0 r1 r2; have hl0 := hP1.lt; have hl1 := hR1.lt; have HB1 := Lib.hid (And.intro hP1 (And.intro hR1 hb1)); clear hP1 hR1 hb1)
      | (go_at_call 36; refine (rewrite_any A n c A' m c' A2 q cq C S P w W1 (bt HBX.out.2.2.1 HB1.out.2.2) HP0.out hnb hmb hqb HST.out (fun _ => False) (fun _ h => h.elim) 37 #[] (enters_of Tryd.func37 (by kernel_rfl) rfl) () plainSt (fun _ _ => True) (fun _ _ _ h _ => h) trivial (plainFn _ _)).mono ?_; rintro e W2 ⟨B, d, B', d', B2, d2, rfl, hO, _, hK⟩; have hb2 : Below W1.heap.size W1 W2 := hK.below (fun _ _ h => h); have hR2 := HB1.out.2.1.below hb2; have HR2 := Lib.hid (And.intro hO (And.intro (bt (bt HBX.out.2.2.1 HB1.out.2.2) hb2) (And.intro hR2 (And.intro HB1.out.2.1.lt (show w.heap.size ≤ W1.heap.size by have := HB1.out.2.1.lt; omega))))); have r0 := hR2.cell 0; have r1 := hR2.cell 1; have r2 := hR2.cell 2; have f0 := hR2.frozen 0; have f1 := hR2.frozen 1; have f2 := hR2.frozen 2; simp at r0 r1 r2; clear hO hK hb2 hR2))
    have hR3 := ((HR2.out.2.2.1.set_ 0 (.slice B n d)).set_ 1 (.slice B' m d')).set_ 2 (.slice B2 q d2)
    have z0 := hR3.cell 0
    have z1 := hR3.cell 1
    have z2 := hR3.cell 2
    refine bodyPost_ret (v := .tuple #[pcV B n d B' m d' B2 q d2, .int .i64 0]) ?_ rfl ?_
    · simp at z0 z1 z2
      simp [results, Tryd.results11, go_sem, z0, z1, z2]
    · have hlt := HR2.out.2.2.2
      refine ⟨B, n, d, B', m, d', B2, q, d2, rfl, ?_, ((HR2.out.2.1.setCell (p := ⟨w.heap.size + 1, 0, none⟩) (by simp) _).setCell (p := ⟨w.heap.size + 1, 1, none⟩) (by simp) _).setCell (p := ⟨w.heap.size + 1, 2, none⟩) (by simp) _⟩
      rw [oC_ok, oC_ok, oC_ok]
      exact (((HR2.out.1.other hlt.1 _ _).other hlt.1 _ _).other hlt.1 _ _).more hlt.2
  · have hXb : (X != 0) = true := by simpa using hX0
    have HX0 := Lib.hid hX0
    clear hX0
    go_enter Tryd.func11, Tryd.ntmps11
    go_wp2_with (go_at_call 35; refine (pcheck_any A n c A' m c' A2 q cq C S P _ (HP.out _ HBX.out.2.2.1) hnb hmb (by omega) HST.out).mono ?_; rintro e W1 ⟨rfl, hb1⟩; rw [HX.out]; have hP1 := HBX.out.1.below hb1; have hR1 := HBX.out.2.1.below hb1; have p0 := hP1.cell 0; have p1 := hP1.cell 1; have p2 := hP1.cell 2; have r0 := hR1.cell 0; have r1 := hR1.cell 1; have r2 := hR1.cell 2; have f0 := hR1.frozen 0; have f1 := hR1.frozen 1; have f2 := hR1.frozen 2; simp at p0 p1 p2 r0 r1 r2; have hl0 := hP1.lt; have hl1 := hR1.lt; have HB1 := Lib.hid (And.intro hP1 (And.intro hR1 hb1)); clear hP1 hR1 hb1)
    exact err_ret w W1 X (bt HBX.out.2.2.1 HB1.out.2.2) HX0.out (by simp [results, Tryd.results11, go_sem, World.cell?_setCell_same', World.cell?_setCell_other, r0, r1, r2])

set_option maxRecDepth 100000 in
set_option maxHeartbeats 3200000 in
theorem bare_any (A : Option Addr) (n c : Nat) (A' : Option Addr) (m c' : Nat) (A2 : Option Addr) (q cq : Nat) (C : List Cr) (S : List Int) (P : List EvP) (w : World) (hP : PcIn w A n c A' m c' A2 q cq C S P) (hnb : n ≤ 1000000) (hmb : m ≤ 1000000) (hqb : q ≤ 65536) (hst : ∀ y ∈ P, y.L.length ≤ 1000000) :
    Calls Tryd.prog 16 #[pcV A n c A' m c' A2 q cq] w (PcRes (pcErr C S P) C S (rwO bareSt () (tpL P)).1 w) := by
  have HP : Hid (∀ w', Below w.heap.size w w' → PcIn w' A n c A' m c' A2 q cq C S P) := fun w' hb => hP.below hb
  have HP0 := Lib.hid hP
  have HST := Lib.hid hst
  have HBX := Lib.hid (pbox w A n c A' m c' A2 q cq)
  obtain ⟨X, hX⟩ : ∃ X, pcErr C S P = X := ⟨_, rfl⟩
  have HX := Lib.hid hX
  rw [hX]
  clear hX hP hst
  by_cases hX0 : X = 0
  · subst hX0
    go_enter Tryd.func16, Tryd.ntmps16
    go_wp2_with (first
      | (go_at_call 35; refine (pcheck_any A n c A' m c' A2 q cq C S P _ (HP.out _ HBX.out.2.2.1) hnb hmb (by omega) HST.out).mono ?_; rintro e W1 ⟨rfl, hb1⟩; rw [HX.out]; have hP1 := HBX.out.1.below hb1; have hR1 := HBX.out.2.1.below hb1; have p0 := hP1.cell 0; have p1 := hP1.cell 1; have p2 := hP1.cell 2; have r0 := hR1.cell 0; have r1 := hR1.cell 1; have r2 := hR1.cell 2; have f0 := hR1.frozen 0; have f1 := hR1.frozen 1; have f2 := hR1.frozen 2; simp at p0 p1 p2 r0 r1 r2; have hl0 := hP1.lt; have hl1 := hR1.lt; have HB1 := Lib.hid (And.intro hP1 (And.intro hR1 hb1)); clear hP1 hR1 hb1)
      | (go_at_call 36; refine (rewrite_any A n c A' m c' A2 q cq C S P w W1 (bt HBX.out.2.2.1 HB1.out.2.2) HP0.out hnb hmb hqb HST.out (fun _ => False) (fun _ h => h.elim) 41 #[] (enters_of Tryd.func41 (by kernel_rfl) rfl) () bareSt (fun _ _ => True) (fun _ _ _ h _ => h) trivial (bareFn _ _ (fun p hp => HST.out _ (tmPL_y P 0 0 false false 0 p hp)))).mono ?_; rintro e W2 ⟨B, d, B', d', B2, d2, rfl, hO, _, hK⟩; have hb2 : Below W1.heap.size W1 W2 := hK.below (fun _ _ h => h); have hR2 := HB1.out.2.1.below hb2; have HR2 := Lib.hid (And.intro hO (And.intro (bt (bt HBX.out.2.2.1 HB1.out.2.2) hb2) (And.intro hR2 (And.intro HB1.out.2.1.lt (show w.heap.size ≤ W1.heap.size by have := HB1.out.2.1.lt; omega))))); have r0 := hR2.cell 0; have r1 := hR2.cell 1; have r2 := hR2.cell 2; have f0 := hR2.frozen 0; have f1 := hR2.frozen 1; have f2 := hR2.frozen 2; simp at r0 r1 r2; clear hO hK hb2 hR2))
    have hR3 := ((HR2.out.2.2.1.set_ 0 (.slice B n d)).set_ 1 (.slice B' m d')).set_ 2 (.slice B2 q d2)
    have z0 := hR3.cell 0
    have z1 := hR3.cell 1
    have z2 := hR3.cell 2
    refine bodyPost_ret (v := .tuple #[pcV B n d B' m d' B2 q d2, .int .i64 0]) ?_ rfl ?_
    · simp at z0 z1 z2
      simp [results, Tryd.results16, go_sem, z0, z1, z2]
    · have hlt := HR2.out.2.2.2
      refine ⟨B, n, d, B', m, d', B2, q, d2, rfl, ?_, ((HR2.out.2.1.setCell (p := ⟨w.heap.size + 1, 0, none⟩) (by simp) _).setCell (p := ⟨w.heap.size + 1, 1, none⟩) (by simp) _).setCell (p := ⟨w.heap.size + 1, 2, none⟩) (by simp) _⟩
      rw [oC_ok, oC_ok, oC_ok]
      exact (((HR2.out.1.other hlt.1 _ _).other hlt.1 _ _).other hlt.1 _ _).more hlt.2
  · have hXb : (X != 0) = true := by simpa using hX0
    have HX0 := Lib.hid hX0
    clear hX0
    go_enter Tryd.func16, Tryd.ntmps16
    go_wp2_with (go_at_call 35; refine (pcheck_any A n c A' m c' A2 q cq C S P _ (HP.out _ HBX.out.2.2.1) hnb hmb (by omega) HST.out).mono ?_; rintro e W1 ⟨rfl, hb1⟩; rw [HX.out]; have hP1 := HBX.out.1.below hb1; have hR1 := HBX.out.2.1.below hb1; have p0 := hP1.cell 0; have p1 := hP1.cell 1; have p2 := hP1.cell 2; have r0 := hR1.cell 0; have r1 := hR1.cell 1; have r2 := hR1.cell 2; have f0 := hR1.frozen 0; have f1 := hR1.frozen 1; have f2 := hR1.frozen 2; simp at p0 p1 p2 r0 r1 r2; have hl0 := hP1.lt; have hl1 := hR1.lt; have HB1 := Lib.hid (And.intro hP1 (And.intro hR1 hb1)); clear hP1 hR1 hb1)
    exact err_ret w W1 X (bt HBX.out.2.2.1 HB1.out.2.2) HX0.out (by simp [results, Tryd.results16, go_sem, World.cell?_setCell_same', World.cell?_setCell_other, r0, r1, r2])

set_option maxRecDepth 100000 in
set_option maxHeartbeats 3200000 in
theorem terse_any (A : Option Addr) (n c : Nat) (A' : Option Addr) (m c' : Nat) (A2 : Option Addr) (q cq : Nat) (C : List Cr) (S : List Int) (P : List EvP) (w : World) (hP : PcIn w A n c A' m c' A2 q cq C S P) (hnb : n ≤ 1000000) (hmb : m ≤ 1000000) (hqb : q ≤ 65536) (hst : ∀ y ∈ P, y.L.length ≤ 1000000) :
    Calls Tryd.prog 14 #[pcV A n c A' m c' A2 q cq] w (PcRes (pcErr C S P) C S (rwO terseSt s0g (tpL P)).1 w) := by
  have HP : Hid (∀ w', Below w.heap.size w w' → PcIn w' A n c A' m c' A2 q cq C S P) := fun w' hb => hP.below hb
  have HP0 := Lib.hid hP
  have HST := Lib.hid hst
  have HBX := Lib.hid (pbox w A n c A' m c' A2 q cq)
  obtain ⟨X, hX⟩ : ∃ X, pcErr C S P = X := ⟨_, rfl⟩
  have HX := Lib.hid hX
  rw [hX]
  clear hX hP hst
  by_cases hX0 : X = 0
  · subst hX0
    go_enter Tryd.func14, Tryd.ntmps14
    go_wp2_with (first
      | (go_at_call 35; refine (pcheck_any A n c A' m c' A2 q cq C S P _ (HP.out _ HBX.out.2.2.1) hnb hmb (by omega) HST.out).mono ?_; rintro e W1 ⟨rfl, hb1⟩; rw [HX.out]; have hP1 := HBX.out.1.below hb1; have hR1 := HBX.out.2.1.below hb1; have p0 := hP1.cell 0; have p1 := hP1.cell 1; have p2 := hP1.cell 2; have r0 := hR1.cell 0; have r1 := hR1.cell 1; have r2 := hR1.cell 2; have f0 := hR1.frozen 0; have f1 := hR1.frozen 1; have f2 := hR1.frozen 2; simp at p0 p1 p2 r0 r1 r2; have hl0 := hP1.lt; have hl1 := hR1.lt; have HB1 := Lib.hid (And.intro hP1 (And.intro hR1 hb1)); clear hP1 hR1 hb1)
      | (go_at_call 36; refine (rewrite_any A n c A' m c' A2 q cq C S P w _ (bt HBX.out.2.2.1 (bt HB1.out.2.2 (ba _ _))) HP0.out hnb hmb hqb HST.out (fun k => k = W1.heap.size) (fun k h => ⟨by have := HBX.out.2.2.1.size; have := HB1.out.2.2.size; omega, by simp; omega⟩) 40 #[.pointer (some ⟨W1.heap.size, 0, none⟩)] (enters_of Tryd.func40 (by kernel_rfl) rfl) s0g terseSt (TrR W1.heap.size) (fun s W W' h hb => (hb.block _ (by simp)).trans h) (heap_alloc_new W1 _) (terseFn _ _ _ (by simp))).mono ?_; rintro e W2 ⟨B, d, B', d', B2, d2, rfl, hO, _, hK⟩; have hb2 : Below W1.heap.size (W1.alloc (.cells #[.int .i64 0, .bool false, .bool false] 48)) W2 := hK.belowB (by simp) (fun k h => Nat.le_of_eq h.symm); have hR2 : Blk W2 (w.heap.size + 1) 28 #[.slice none 0 0, .slice none 0 0, .slice none 0 0] := (hb2.block _ HB1.out.2.1.lt).trans (HB1.out.2.1.below (ba _ _)); have HR2 := Lib.hid (And.intro hO (And.intro (bt (bt HBX.out.2.2.1 HB1.out.2.2) ((ba W1 _).trans hb2)) (And.intro hR2 (And.intro (show w.heap.size + 1 < (W1.alloc (.cells #[.int .i64 0, .bool false, .bool false] 48)).heap.size by have := HB1.out.2.1.lt; simp; omega) (show w.heap.size ≤ (W1.alloc (.cells #[.int .i64 0, .bool false, .bool false] 48)).heap.size by have := HB1.out.2.1.lt; simp; omega))))); have r0 := hR2.cell 0; have r1 := hR2.cell 1; have r2 := hR2.cell 2; have f0 := hR2.frozen 0; have f1 := hR2.frozen 1; have f2 := hR2.frozen 2; simp at r0 r1 r2; clear hO hK hb2 hR2))
    have hR3 := ((HR2.out.2.2.1.set_ 0 (.slice B n d)).set_ 1 (.slice B' m d')).set_ 2 (.slice B2 q d2)
    have z0 := hR3.cell 0
    have z1 := hR3.cell 1
    have z2 := hR3.cell 2
    refine bodyPost_ret (v := .tuple #[pcV B n d B' m d' B2 q d2, .int .i64 0]) ?_ rfl ?_
    · simp at z0 z1 z2
      simp [results, Tryd.results14, go_sem, z0, z1, z2]
    · have hlt := HR2.out.2.2.2
      refine ⟨B, n, d, B', m, d', B2, q, d2, rfl, ?_, ((HR2.out.2.1.setCell (p := ⟨w.heap.size + 1, 0, none⟩) (by simp) _).setCell (p := ⟨w.heap.size + 1, 1, none⟩) (by simp) _).setCell (p := ⟨w.heap.size + 1, 2, none⟩) (by simp) _⟩
      rw [oC_ok, oC_ok, oC_ok]
      exact (((HR2.out.1.other hlt.1 _ _).other hlt.1 _ _).other hlt.1 _ _).more hlt.2
  · have hXb : (X != 0) = true := by simpa using hX0
    have HX0 := Lib.hid hX0
    clear hX0
    go_enter Tryd.func14, Tryd.ntmps14
    go_wp2_with (go_at_call 35; refine (pcheck_any A n c A' m c' A2 q cq C S P _ (HP.out _ HBX.out.2.2.1) hnb hmb (by omega) HST.out).mono ?_; rintro e W1 ⟨rfl, hb1⟩; rw [HX.out]; have hP1 := HBX.out.1.below hb1; have hR1 := HBX.out.2.1.below hb1; have p0 := hP1.cell 0; have p1 := hP1.cell 1; have p2 := hP1.cell 2; have r0 := hR1.cell 0; have r1 := hR1.cell 1; have r2 := hR1.cell 2; have f0 := hR1.frozen 0; have f1 := hR1.frozen 1; have f2 := hR1.frozen 2; simp at p0 p1 p2 r0 r1 r2; have hl0 := hP1.lt; have hl1 := hR1.lt; have HB1 := Lib.hid (And.intro hP1 (And.intro hR1 hb1)); clear hP1 hR1 hb1)
    exact err_ret w W1 X (bt HBX.out.2.2.1 HB1.out.2.2) HX0.out (by simp [results, Tryd.results14, go_sem, World.cell?_setCell_same', World.cell?_setCell_other, r0, r1, r2])

end Go.Proofs.YtdhjigaocamglaaDoor
