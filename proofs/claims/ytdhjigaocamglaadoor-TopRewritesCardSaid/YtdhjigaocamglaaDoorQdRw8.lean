/- Pieces: the function that Augment hands to rewrite. -/
import Derived.Test.YtdhjigaocamglaaDoorQdRw6
import Derived.RegionTactic
namespace Go.Proofs.YtdhjigaocamglaaDoor
open Go Go.RowKit

def augSt (by_ : Int) (s : Bool) (p : TmP) : Bool × EvP := if p.y.v = 0 then (s, p.y) else (s && (decide (1 ≤ p.y.v - by_) && decide (p.y.v - by_ ≤ 7)), { p.y with v := p.y.v - by_ })
def AugR (b1 b2 : Nat) (by_ : Int) (s : Bool) (W : World) : Prop := Blk W b1 3 #[.int .i64 by_] ∧ Blk W b2 4 #[.bool s]
theorem aug_close {b1 b2 : Nat} {W : World} {o1 o2 : Obj} {by_ : Int} {s s' : Bool} (h : AugR b1 b2 by_ s W) (hne : b1 ≠ b2) :
    Kx (fun k => k = b2) W.heap.size W (((W.setCell ⟨b2, 0, none⟩ (.bool s')).alloc o1).alloc o2) ∧ AugR b1 b2 by_ s' (((W.setCell ⟨b2, 0, none⟩ (.bool s')).alloc o1).alloc o2) := by
  have k : Kx (fun k => k = b2) W.heap.size W (W.setCell ⟨b2, 0, none⟩ (.bool s')) := (Kx.refl (fun k => k = b2) _ _).setBlk (.inr rfl) h.2 _ _
  refine ⟨k.trans ((Kx.of_below (bt (ba _ o1) (ba _ o2))).mono k.size (fun _ _ h => h)), ((h.1.setOther hne _ _).below (ba _ _)).below (ba _ _), ((h.2.set_ 0 _).below (ba _ _)).below (ba _ _)⟩
theorem aug_close0 {b1 b2 : Nat} {W : World} {o1 o2 : Obj} {by_ : Int} {s : Bool} (h : AugR b1 b2 by_ s W) :
    Kx (fun k => k = b2) W.heap.size W ((W.alloc o1).alloc o2) ∧ AugR b1 b2 by_ s ((W.alloc o1).alloc o2) :=
  ⟨Kx.of_below (bt (ba _ o1) (ba _ o2)), (h.1.below (ba _ _)).below (ba _ _), (h.2.below (ba _ _)).below (ba _ _)⟩
set_option maxRecDepth 100000 in
set_option maxHeartbeats 6400000 in
theorem augFn (w : World) (TP : List TmP) (b1 b2 : Nat) (by_ : Int) (hb1 : b1 < w.heap.size) (hb2 : b2 < w.heap.size) (hne : b1 ≠ b2) (hby : -6 ≤ by_ ∧ by_ ≤ 6) (hv : ∀ p ∈ TP, 0 ≤ p.y.v ∧ p.y.v ≤ 7) :
    RwFn 81 #[.pointer (some ⟨b1, 0, none⟩), .pointer (some ⟨b2, 0, none⟩)] (fun k => k = b2) w TP (augSt by_) (AugR b1 b2 by_) := by
  intro s p sa sc B W hp hR hK hB _ hO
  obtain ⟨k1, k2⟩ := hby
  obtain ⟨k3, k4⟩ := hv p hp
  obtain ⟨n, ⟨bar, v, d, t, tie, L⟩, sv, sd, stt, fm, to⟩ := p
  dsimp only at k3 k4
  have hs := hK.size
  have HOS : Hid (∀ o1 o2 v0, Ow (((W.setCell ⟨b2, 0, none⟩ v0).alloc o1).alloc o2) B 62 5 sa L.length sc (stC L)) := fun o1 o2 v0 => (hO.other (by omega) _ _).below (bt (ba _ _) (ba _ _))
  have HO0 : Hid (∀ o1 o2, Ow ((W.alloc o1).alloc o2) B 62 5 sa L.length sc (stC L)) := fun o1 o2 => hO.below (bt (ba _ _) (ba _ _))
  have c1 := hR.1.cell 0
  have c2 := hR.2.cell 0
  have f2 := hR.2.frozen 0
  simp at c1 c2
  have hl1 : b1 < W.heap.size := by omega
  have hl2 : b2 < W.heap.size := by omega
  have hw : IntKind.i64.wrap (v - by_) = v - by_ := IntWalk.i64_in _ ⟨by omega, by omega⟩
  have HR := Lib.hid hR
  have HNE := Lib.hid hne
  clear hO hK hR hs hne
  rw [show (#[tmPV ⟨n, ⟨bar, v, d, t, tie, L⟩, sv, sd, stt, fm, to⟩ sa sc] ++ #[.pointer (some ⟨b1, 0, none⟩), .pointer (some ⟨b2, 0, none⟩)] : Array Value) = #[tmPV ⟨n, ⟨bar, v, d, t, tie, L⟩, sv, sd, stt, fm, to⟩ sa sc, .pointer (some ⟨b1, 0, none⟩), .pointer (some ⟨b2, 0, none⟩)] from rfl]
  by_cases h0 : v = 0
  · subst h0
    have HE : Hid (augSt by_ s ⟨n, ⟨bar, 0, d, t, tie, L⟩, sv, sd, stt, fm, to⟩ = (s, ⟨bar, 0, d, t, tie, L⟩)) := rfl
    rw [HE.out]
    clear hw
    go_enter Tryd.func81, Tryd.ntmps81
    go_wp2_with (fail)
    exact bodyPost_ret (v := evV bar 0 d t tie sa L.length sc) (by simp [results, Tryd.results81, go_sem]) rfl ⟨sa, sc, rfl, HO0.out _ _, aug_close0 HR.out⟩
  have hvb : (v != 0) = true := by simpa using h0
  have hv0 : (v == 0) = false := by simpa using h0
  have HE : Hid (augSt by_ s ⟨n, ⟨bar, v, d, t, tie, L⟩, sv, sd, stt, fm, to⟩ = (s && (decide (1 ≤ v - by_) && decide (v - by_ ≤ 7)), ⟨bar, v - by_, d, t, tie, L⟩)) := by unfold Hid augSt; rw [if_neg h0]
  rw [HE.out]
  clear HE h0
  cases s with
  | false =>
    rw [show (false && (decide (1 ≤ v - by_) && decide (v - by_ ≤ 7))) = false from rfl]
    go_enter Tryd.func81, Tryd.ntmps81
    go_wp2_with (fail)
    go_region
    go_wp2_with (fail)
    exact bodyPost_ret (v := evV bar (v - by_) d t tie sa L.length sc) (by simp [results, Tryd.results81, go_sem]) rfl ⟨sa, sc, rfl, (HOS.out _ _ (.bool false)).below (Below.refl _ _).drew, (aug_close HR.out HNE.out).1.drew, (aug_close (s' := false) HR.out HNE.out).2⟩
  | true =>
    by_cases h1 : 1 ≤ v - by_
    rotate_left
    · have e1 : decide (1 ≤ v - by_) = false := by simpa using h1
      rw [show (true && (decide (1 ≤ v - by_) && decide (v - by_ ≤ 7))) = false by rw [e1]; rfl]
      have h1' : v - by_ < 1 := by omega
      go_enter Tryd.func81, Tryd.ntmps81
      go_wp2_with (fail)
      go_region
      go_wp2_with (fail)
      exact bodyPost_ret (v := evV bar (v - by_) d t tie sa L.length sc) (by simp [results, Tryd.results81, go_sem]) rfl ⟨sa, sc, rfl, (HOS.out _ _ (.bool false)).below (Below.refl _ _).drew, (aug_close HR.out HNE.out).1.drew, (aug_close (s' := false) HR.out HNE.out).2⟩
    have e1 : decide (1 ≤ v - by_) = true := by simpa using h1
    by_cases h7 : v - by_ ≤ 7
    · have e7 : decide (v - by_ ≤ 7) = true := by simpa using h7
      rw [show (true && (decide (1 ≤ v - by_) && decide (v - by_ ≤ 7))) = true by rw [e1, e7]; rfl]
      go_enter Tryd.func81, Tryd.ntmps81
      go_wp2_with (fail)
      go_region
      go_wp2_with (fail)
      exact bodyPost_ret (v := evV bar (v - by_) d t tie sa L.length sc) (by simp [results, Tryd.results81, go_sem]) rfl ⟨sa, sc, rfl, (HOS.out _ _ (.bool true)).below (Below.refl _ _).drew, (aug_close HR.out HNE.out).1.drew, (aug_close (s' := true) HR.out HNE.out).2⟩
    · have e7 : decide (v - by_ ≤ 7) = false := by simpa using h7
      rw [show (true && (decide (1 ≤ v - by_) && decide (v - by_ ≤ 7))) = false by rw [e1, e7]; rfl]
      have h7' : 7 < v - by_ := by omega
      go_enter Tryd.func81, Tryd.ntmps81
      go_wp2_with (fail)
      go_region
      go_wp2_with (fail)
      exact bodyPost_ret (v := evV bar (v - by_) d t tie sa L.length sc) (by simp [results, Tryd.results81, go_sem]) rfl ⟨sa, sc, rfl, (HOS.out _ _ (.bool false)).below (Below.refl _ _).drew, (aug_close HR.out HNE.out).1.drew, (aug_close (s' := false) HR.out HNE.out).2⟩

end Go.Proofs.YtdhjigaocamglaaDoor

/- Pieces: Augment of the program, for any piece and number. -/
namespace Go.Proofs.YtdhjigaocamglaaDoor
open Go Go.RowKit

theorem box3 (W : World) (c1 c2 c3 : Array Value) (T1 T2 T3 : TypeId) : Blk (((W.alloc (.cells c1 T1)).alloc (.cells c2 T2)).alloc (.cells c3 T3)) W.heap.size T1 c1 ∧ Blk (((W.alloc (.cells c1 T1)).alloc (.cells c2 T2)).alloc (.cells c3 T3)) (W.heap.size + 1) T2 c2 ∧ Blk (((W.alloc (.cells c1 T1)).alloc (.cells c2 T2)).alloc (.cells c3 T3)) (W.heap.size + 2) T3 c3 ∧
    Below W.heap.size W (((W.alloc (.cells c1 T1)).alloc (.cells c2 T2)).alloc (.cells c3 T3)) := by
  obtain ⟨h1, h2⟩ := box2 W c1 c2 T1 T2
  have h3 := heap_alloc_new ((W.alloc (.cells c1 T1)).alloc (.cells c2 T2)) (.cells c3 T3)
  rw [World.size_alloc, World.size_alloc] at h3
  exact ⟨h1.below (ba _ _), h2.below (ba _ _), h3, bt (ba _ _) (bt (ba _ _) (ba _ _))⟩
theorem sgn_v {k : Nat} {y : EvP} (h : sgnB k y = false) : 0 ≤ y.v ∧ y.v ≤ 7 := by
  unfold sgnB at h
  cases hw : wrB y.v y.d y.t with
  | true =>
    rw [hw] at h
    simp [okB] at h
    omega
  | false =>
    have : y.v = 0 := by simp [wrB] at hw; exact hw.1.1
    omega
theorem tp_v {C : List Cr} {S : List Int} {P : List EvP} (h : pcErr C S P = 0) : ∀ p ∈ tpL P, 0 ≤ p.y.v ∧ p.y.v ≤ 7 := fun p hp => by
  obtain ⟨j, hj⟩ := List.mem_iff_getElem?.1 (tmPL_y P 0 0 false false 0 p hp)
  exact sgn_v ((pcErr_ok h).2.2 j _ hj).1

def augErr (X b : Int) (fits : Bool) : Int := if X ≠ 0 then X else if b < -6 ∨ 6 < b then 1 else if fits = true then 0 else 20
theorem augErr1 {X b : Int} {f : Bool} (h : X ≠ 0) : augErr X b f = X := if_pos h
theorem augErr2 {b : Int} {f : Bool} (h : b < -6 ∨ 6 < b) : augErr 0 b f = 1 := by unfold augErr; rw [if_neg (by simp), if_pos h]
theorem augErr3 {b : Int} {f : Bool} (h : ¬ (b < -6 ∨ 6 < b)) : augErr 0 b f = if f = true then 0 else 20 := by unfold augErr; rw [if_neg (by simp), if_neg h]

/-- An error's way out: the result's block r is made empty. -/
theorem err_retR {fn : Func} {a : Act} (w W1 : World) (r : Nat) (hr : w.heap.size ≤ r) (X : Int) {C : List Cr} {S : List Int} {P : List EvP} (hb : Below w.heap.size w W1) (hX : X ≠ 0)
    (hrr : (results fn a.tmps).run Tryd.prog (((W1.setCell ⟨r, 0, none⟩ (.slice none 0 0)).setCell ⟨r, 1, none⟩ (.slice none 0 0)).setCell ⟨r, 2, none⟩ (.slice none 0 0)) = .ok (.tuple #[pcV none 0 0 none 0 0 none 0 0, .int .i64 X]) (((W1.setCell ⟨r, 0, none⟩ (.slice none 0 0)).setCell ⟨r, 1, none⟩ (.slice none 0 0)).setCell ⟨r, 2, none⟩ (.slice none 0 0))) (hd : a.defers = [] := by rfl) :
    bodyPost Tryd.prog fn (PcRes X C S P w) .ret a (((W1.setCell ⟨r, 0, none⟩ (.slice none 0 0)).setCell ⟨r, 1, none⟩ (.slice none 0 0)).setCell ⟨r, 2, none⟩ (.slice none 0 0)) := by
  refine bodyPost_ret hrr hd ⟨none, 0, 0, none, 0, 0, none, 0, 0, rfl, ?_, ((hb.setCell (p := ⟨r, 0, none⟩) hr _).setCell (p := ⟨r, 1, none⟩) hr _).setCell (p := ⟨r, 2, none⟩) hr _⟩
  rw [oC_no hX, oC_no hX, oC_no hX]
  exact PcOw.nil_ _ _

theorem err_retG {fn : Func} {a : Act} (w W : World) (X : Int) {C : List Cr} {S : List Int} {P : List EvP} (hb : Below w.heap.size w W) (hX : X ≠ 0)
    (hrr : (results fn a.tmps).run Tryd.prog W = .ok (.tuple #[pcV none 0 0 none 0 0 none 0 0, .int .i64 X]) W) (hd : a.defers = [] := by rfl) : bodyPost Tryd.prog fn (PcRes X C S P w) .ret a W := by
  refine bodyPost_ret hrr hd ⟨none, 0, 0, none, 0, 0, none, 0, 0, rfl, ?_, hb⟩
  rw [oC_no hX, oC_no hX, oC_no hX]
  exact PcOw.nil_ _ _

set_option maxRecDepth 100000 in
set_option maxHeartbeats 6400000 in
theorem augment_any (A : Option Addr) (n c : Nat) (A' : Option Addr) (m c' : Nat) (A2 : Option Addr) (q cq : Nat) (C : List Cr) (S : List Int) (P : List EvP) (b : Int) (w : World) (hP : PcIn w A n c A' m c' A2 q cq C S P) (hnb : n ≤ 1000000) (hmb : m ≤ 1000000) (hqb : q ≤ 65536) (hst : ∀ y ∈ P, y.L.length ≤ 1000000) :
    Calls Tryd.prog 60 #[pcV A n c A' m c' A2 q cq, .int .i64 b] w (PcRes (augErr (pcErr C S P) b (rwO (augSt b) true (tpL P)).2) C S (rwO (augSt b) true (tpL P)).1 w) := by
  have HP : Hid (∀ w', Below w.heap.size w w' → PcIn w' A n c A' m c' A2 q cq C S P) := fun w' hb => hP.below hb
  have HP0 := Lib.hid hP
  have HST := Lib.hid hst
  have HBX := Lib.hid (box3 w #[.slice A n c, .slice A' m c', .slice A2 q cq] #[.int .i64 b] #[.slice none 0 0, .slice none 0 0, .slice none 0 0] 28 3 28)
  obtain ⟨X, hX⟩ : ∃ X, pcErr C S P = X := ⟨_, rfl⟩
  have HX := Lib.hid hX
  have HTV := Lib.hid (fun h => tp_v (C := C) (S := S) (P := P) h)
  rw [hX]
  clear hX hP hst
  by_cases hX0 : X = 0
  rotate_left
  · have hXb : (X != 0) = true := by simpa using hX0
    rw [augErr1 hX0]
    have HX0 := Lib.hid hX0
    clear hX0
    go_enter Tryd.func60, Tryd.ntmps60
    go_wp2_with (go_at_call 35; refine (pcheck_any A n c A' m c' A2 q cq C S P _ (HP.out _ HBX.out.2.2.2) hnb hmb (by omega) HST.out).mono ?_; rintro e W1 ⟨rfl, hb1⟩; rw [HX.out]; have hR1 := HBX.out.2.2.1.below hb1; have r0 := hR1.cell 0; have r1 := hR1.cell 1; have r2 := hR1.cell 2; have f0 := hR1.frozen 0; have f1 := hR1.frozen 1; have f2 := hR1.frozen 2; simp at r0 r1 r2; have HB1 := Lib.hid hb1; clear hR1 hb1)
    exact err_retR w W1 _ (by omega) X (bt HBX.out.2.2.2 HB1.out) HX0.out (by simp [results, Tryd.results60, go_sem, World.cell?_setCell_same', World.cell?_setCell_other, r0, r1, r2])
  subst hX0
  by_cases hbb : b < -6 ∨ 6 < b
  · rw [augErr2 hbb]
    have hb2 : b < -6 ∨ (¬ b < -6 ∧ 6 < b) := by omega
    clear hbb
    rcases hb2 with hb2 | ⟨hb3, hb2⟩
    all_goals
      go_enter Tryd.func60, Tryd.ntmps60
      go_wp2_with (go_at_call 35; refine (pcheck_any A n c A' m c' A2 q cq C S P _ (HP.out _ HBX.out.2.2.2) hnb hmb (by omega) HST.out).mono ?_; rintro e W1 ⟨rfl, hb1⟩; rw [HX.out]; have hR1 := HBX.out.2.2.1.below hb1; have hN1 := HBX.out.2.1.below hb1; have n0 := hN1.cell 0; have r0 := hR1.cell 0; have r1 := hR1.cell 1; have r2 := hR1.cell 2; have f0 := hR1.frozen 0; have f1 := hR1.frozen 1; have f2 := hR1.frozen 2; simp at n0 r0 r1 r2; have HB1 := Lib.hid hb1; clear hR1 hN1 hb1)
      exact err_retR w W1 _ (by omega) 1 (bt HBX.out.2.2.2 HB1.out) (by omega) (by simp [results, Tryd.results60, go_sem, World.cell?_setCell_same', World.cell?_setCell_other, r0, r1, r2])
  rw [augErr3 hbb]
  have hk1 : -6 ≤ b := by omega
  have hk2 : b ≤ 6 := by omega
  clear hbb
  obtain ⟨fits, hfits⟩ : ∃ f, (rwO (augSt b) true (tpL P)).2 = f := ⟨_, rfl⟩
  rw [hfits]
  have HFI := Lib.hid hfits
  clear hfits
  obtain ⟨er, her⟩ : ∃ er : Int, (if fits = true then 0 else 20) = er := ⟨_, rfl⟩
  rw [her]
  have HER := Lib.hid her
  clear her
  have RW : Hid (∀ W1 : World, Blk W1 (w.heap.size + 1) 3 #[.int .i64 b] → Below w.heap.size w W1 → Calls Tryd.prog 36 #[pcV A n c A' m c' A2 q cq, .func (.func 81) #[] #[.pointer (some ⟨w.heap.size + 1, 0, none⟩), .pointer (some ⟨W1.heap.size, 0, none⟩)]] (W1.alloc (.cells #[.bool true] 4)) (RwPostP (fun k => k = W1.heap.size) n m q C S (rwO (augSt b) true (tpL P)).1 (AugR (w.heap.size + 1) W1.heap.size b fits) (W1.alloc (.cells #[.bool true] 4)))) := fun W1 hN hb => by
    have hl := hN.lt
    have hs := hb.size
    have := rewrite_any A n c A' m c' A2 q cq C S P w (W1.alloc (.cells #[.bool true] 4)) (bt hb (ba _ _)) HP0.out hnb hmb hqb HST.out (fun k => k = W1.heap.size) (fun k h => ⟨by omega, by simp; omega⟩) 81 #[.pointer (some ⟨w.heap.size + 1, 0, none⟩), .pointer (some ⟨W1.heap.size, 0, none⟩)] (enters_of Tryd.func81 (by kernel_rfl) rfl) true (augSt b) (AugR (w.heap.size + 1) W1.heap.size b) (fun s W W' h hb => ⟨(hb.block _ (by simp; omega)).trans h.1, (hb.block _ (by simp)).trans h.2⟩) ⟨hN.below (ba _ _), heap_alloc_new W1 _⟩ (augFn _ _ _ _ b (by simp; omega) (by simp) (by omega) ⟨hk1, hk2⟩ (HTV.out HX.out))
    rw [HFI.out] at this
    exact this
  cases fits with
  | false =>
    obtain rfl : er = 20 := HER.out.symm
    go_enter Tryd.func60, Tryd.ntmps60
    go_wp2_with (first
      | (go_at_call 35; refine (pcheck_any A n c A' m c' A2 q cq C S P _ (HP.out _ HBX.out.2.2.2) hnb hmb (by omega) HST.out).mono ?_; rintro e W1 ⟨rfl, hb1⟩; rw [HX.out]; have hR1 := HBX.out.2.2.1.below hb1; have hN1 := HBX.out.2.1.below hb1; have hP1 := HBX.out.1.below hb1; have n0 := hN1.cell 0; have p0 := hP1.cell 0; have p1 := hP1.cell 1; have p2 := hP1.cell 2; simp at n0 p0 p1 p2; have hl0 := hP1.lt; have hl1 := hN1.lt; have hl2 := hR1.lt; have HB1 := Lib.hid (And.intro hR1 (And.intro hN1 (bt HBX.out.2.2.2 hb1))); clear hR1 hN1 hP1 hb1)
      | (go_at_call 36; refine (RW.out W1 HB1.out.2.1 HB1.out.2.2).mono ?_; rintro e W2 ⟨B, d, B', d', B2, d2, rfl, hO, hRR, hK⟩; have hb2 : Below W1.heap.size (W1.alloc (.cells #[.bool true] 4)) W2 := hK.belowB (by simp) (fun k h => Nat.le_of_eq h.symm); have hR2 : Blk W2 (w.heap.size + 2) 28 #[.slice none 0 0, .slice none 0 0, .slice none 0 0] := (hb2.block _ HB1.out.1.lt).trans (HB1.out.1.below (ba _ _)); have t0 := hRR.2.cell 0; simp at t0; have r0 := hR2.cell 0; have r1 := hR2.cell 1; have r2 := hR2.cell 2; have f0 := hR2.frozen 0; have f1 := hR2.frozen 1; have f2 := hR2.frozen 2; simp at r0 r1 r2; have hz2 := hb2.size; have hl3 : W1.heap.size < W2.heap.size := (by simp at hz2; omega); have hlr : w.heap.size + 2 < W2.heap.size := hR2.lt; have HO := Lib.hid (And.intro hO (And.intro hb2 hR2)); clear hO hRR hK hb2 hR2 hz2))
    have hR3 := (((HO.out.2.2.set_ 0 (.slice none 0 0)).set_ 1 (.slice none 0 0)).set_ 2 (.slice none 0 0)).below (ba _ (pcO B n d B' m d' B2 q d2))
    have z0 := hR3.cell 0
    have z1 := hR3.cell 1
    have z2 := hR3.cell 2
    simp at z0 z1 z2
    have hbw : Below w.heap.size w W2 := bt HB1.out.2.2 ((ba W1 _).trans HO.out.2.1)
    have hb4 := (((hbw.setCell (p := ⟨w.heap.size + 1 + 1, 0, none⟩) (by simp; omega) (.slice none 0 0)).setCell (p := ⟨w.heap.size + 1 + 1, 1, none⟩) (by simp; omega) (.slice none 0 0)).setCell (p := ⟨w.heap.size + 1 + 1, 2, none⟩) (by simp; omega) (.slice none 0 0))
    exact err_retG w _ 20 (hb4.alloc (by have := hbw.size; simp; omega) _) (by omega) (by simp [results, Tryd.results60, go_sem, z0, z1, z2])
  | true =>
    obtain rfl : er = 0 := HER.out.symm
    go_enter Tryd.func60, Tryd.ntmps60
    go_wp2_with (first
      | (go_at_call 35; refine (pcheck_any A n c A' m c' A2 q cq C S P _ (HP.out _ HBX.out.2.2.2) hnb hmb (by omega) HST.out).mono ?_; rintro e W1 ⟨rfl, hb1⟩; rw [HX.out]; have hR1 := HBX.out.2.2.1.below hb1; have hN1 := HBX.out.2.1.below hb1; have hP1 := HBX.out.1.below hb1; have n0 := hN1.cell 0; have p0 := hP1.cell 0; have p1 := hP1.cell 1; have p2 := hP1.cell 2; simp at n0 p0 p1 p2; have hl0 := hP1.lt; have hl1 := hN1.lt; have hl2 := hR1.lt; have HB1 := Lib.hid (And.intro hR1 (And.intro hN1 (bt HBX.out.2.2.2 hb1))); clear hR1 hN1 hP1 hb1)
      | (go_at_call 36; refine (RW.out W1 HB1.out.2.1 HB1.out.2.2).mono ?_; rintro e W2 ⟨B, d, B', d', B2, d2, rfl, hO, hRR, hK⟩; have hb2 : Below W1.heap.size (W1.alloc (.cells #[.bool true] 4)) W2 := hK.belowB (by simp) (fun k h => Nat.le_of_eq h.symm); have hR2 : Blk W2 (w.heap.size + 2) 28 #[.slice none 0 0, .slice none 0 0, .slice none 0 0] := (hb2.block _ HB1.out.1.lt).trans (HB1.out.1.below (ba _ _)); have t0 := hRR.2.cell 0; simp at t0; have r0 := hR2.cell 0; have r1 := hR2.cell 1; have r2 := hR2.cell 2; have f0 := hR2.frozen 0; have f1 := hR2.frozen 1; have f2 := hR2.frozen 2; simp at r0 r1 r2; have hz2 := hb2.size; have hl3 : W1.heap.size < W2.heap.size := (by simp at hz2; omega); have hlr : w.heap.size + 2 < W2.heap.size := hR2.lt; have HO := Lib.hid (And.intro hO (And.intro hb2 hR2)); clear hO hRR hK hb2 hR2 hz2))
    have hR3 := (((HO.out.2.2.set_ 0 (.slice B n d)).set_ 1 (.slice B' m d')).set_ 2 (.slice B2 q d2)).below (ba _ (pcO B n d B' m d' B2 q d2))
    have z0 := hR3.cell 0
    have z1 := hR3.cell 1
    have z2 := hR3.cell 2
    simp at z0 z1 z2
    have hbw : Below w.heap.size w W2 := bt HB1.out.2.2 ((ba W1 _).trans HO.out.2.1)
    have hb4 := (((hbw.setCell (p := ⟨w.heap.size + 1 + 1, 0, none⟩) (by simp; omega) (.slice B n d)).setCell (p := ⟨w.heap.size + 1 + 1, 1, none⟩) (by simp; omega) (.slice B' m d')).setCell (p := ⟨w.heap.size + 1 + 1, 2, none⟩) (by simp; omega) (.slice B2 q d2))
    refine bodyPost_ret (v := .tuple #[pcV B n d B' m d' B2 q d2, .int .i64 0]) (by simp [results, Tryd.results60, go_sem, z0, z1, z2]) rfl ⟨B, n, d, B', m, d', B2, q, d2, rfl, ?_, hb4.alloc (by have := hbw.size; simp; omega) _⟩
    have hlr2 : w.heap.size + 2 < (W1.alloc (.cells #[.bool true] 4)).heap.size := by simp; omega
    rw [oC_ok, oC_ok, oC_ok]
    exact ((((HO.out.1.other hlr2 _ _).other hlr2 _ _).other hlr2 _ _).below (ba _ _)).more (by simp; omega)

end Go.Proofs.YtdhjigaocamglaaDoor
