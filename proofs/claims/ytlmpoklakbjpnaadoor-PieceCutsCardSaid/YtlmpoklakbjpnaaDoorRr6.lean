/- Pieces: Cut of the program, for any piece and numbers. -/
import Derived.Test.YtlmpoklakbjpnaaDoorRw8
import Derived.Test.YtlmpoklakbjpnaaDoorRr4
namespace Go.Proofs.YtlmpoklakbjpnaaDoor
open Go Go.RowKit

theorem box4 (W : World) (c1 c2 c3 c4 : Array Value) (T1 T2 T3 T4 : TypeId) : Blk ((((W.alloc (.cells c1 T1)).alloc (.cells c2 T2)).alloc (.cells c3 T3)).alloc (.cells c4 T4)) W.heap.size T1 c1 ∧ Blk ((((W.alloc (.cells c1 T1)).alloc (.cells c2 T2)).alloc (.cells c3 T3)).alloc (.cells c4 T4)) (W.heap.size + 1) T2 c2 ∧ Blk ((((W.alloc (.cells c1 T1)).alloc (.cells c2 T2)).alloc (.cells c3 T3)).alloc (.cells c4 T4)) (W.heap.size + 2) T3 c3 ∧
    Blk ((((W.alloc (.cells c1 T1)).alloc (.cells c2 T2)).alloc (.cells c3 T3)).alloc (.cells c4 T4)) (W.heap.size + 3) T4 c4 ∧ Below W.heap.size W ((((W.alloc (.cells c1 T1)).alloc (.cells c2 T2)).alloc (.cells c3 T3)).alloc (.cells c4 T4)) := by
  obtain ⟨h1, h2, h3, h4⟩ := box3 W c1 c2 c3 T1 T2 T3
  have h5 := heap_alloc_new (((W.alloc (.cells c1 T1)).alloc (.cells c2 T2)).alloc (.cells c3 T3)) (.cells c4 T4)
  rw [World.size_alloc, World.size_alloc, World.size_alloc] at h5
  exact ⟨h1.below (ba _ _), h2.below (ba _ _), h3.below (ba _ _), h5, bt h4 (ba _ _)⟩

/-- A stretch of a slice. -/
theorem Sl.sub {w : World} {B size n c : Nat} {A : Option Addr} {xs : List Value} (h : Sl w B size A n c xs) {f t : Nat} (h1 : f ≤ t) (h2 : t ≤ n) : Sl w B size (if c = f then A else A.map (fun a => a.add (f * size))) (t - f) (c - f) ((xs.drop (f * size)).take ((t - f) * size)) := by
  obtain ⟨hc, hl, hx⟩ := h
  refine ⟨by omega, ?_, fun h0 => ?_⟩
  · rw [List.length_take, List.length_drop, hl, ← Nat.sub_mul]
    exact Nat.min_eq_left (Nat.mul_le_mul_right _ (by omega))
  · obtain ⟨b, off, rfl, hb, hcell⟩ := hx (by omega)
    rw [if_neg (by omega)]
    refine ⟨b, off + f * size, by rw [Option.map_some, Go.WideShapes.add_plain], hb, fun j u hu => ?_⟩
    rw [List.getElem?_take] at hu
    split at hu
    · rw [List.getElem?_drop] at hu
      have := hcell _ _ hu
      rwa [← Nat.add_assoc] at this
    · cases hu
theorem evC_sub (E : List EvT) (f k : Nat) : ((evC E).drop (f * 6)).take (k * 6) = evC ((E.drop f).take k) := by
  have hd : ∀ (f : Nat) (E : List EvT), (evC E).drop (f * 6) = evC (E.drop f) := by
    intro f
    induction f with
    | zero => intro E; simp
    | succ f ih =>
      intro E
      cases E with
      | nil => simp [evC]
      | cons x r =>
        rw [show (f + 1) * 6 = f * 6 + 6 by omega, List.drop_succ_cons, ← ih r]
        rfl
  have ht : ∀ (k : Nat) (E : List EvT), (evC E).take (k * 6) = evC (E.take k) := by
    intro k
    induction k with
    | zero => intro E; simp [evC]
    | succ k ih =>
      intro E
      cases E with
      | nil => simp [evC]
      | cons x r =>
        rw [show (k + 1) * 6 = k * 6 + 6 by omega, List.take_succ_cons]
        show _ = [.bool x.bar, .int .i64 x.v, .bool x.d, .bool x.t, .bool x.tie, .slice x.sa x.sn x.sc] ++ evC (r.take k)
        rw [← ih r]
        rfl
  rw [hd, ht]
theorem CpE.sub {w : World} {B : Nat} {E : List EvT} {P : List EvP} (h : CpE w B E P) (f k : Nat) : CpE w B ((E.drop f).take k) ((P.drop f).take k) := fun j x y hx hy => by
  rw [List.getElem?_take] at hx hy
  split at hx
  · rename_i hj
    rw [if_pos hj] at hy
    rw [List.getElem?_drop] at hx hy
    exact h _ x y hx hy
  · cases hx
/-- The slice of a stretch of a piece's own events. -/
def CutSl (w : World) (A2 : Option Addr) (d f t : Nat) (E : List EvT) : Prop := ∀ W, Below w.heap.size w W →
    (d = f → Sl W W.heap.size 6 A2 (t - f) 0 (evC ((E.drop f).take (t - f)))) ∧ (¬ d = f → Sl W W.heap.size 6 (A2.map (fun x => x.add (f * 6))) (t - f) (d - f) (evC ((E.drop f).take (t - f))))
theorem cut_sl {w : World} {B q d : Nat} {A2 : Option Addr} {E : List EvT} (h : Ow w B 41 6 A2 q d (evC E)) {f t : Nat} (h1 : f ≤ t) (h2 : t ≤ q) : CutSl w A2 d f t E := fun W hb => by
  have := ((h.below hb).sl).sub h1 h2
  rw [evC_sub] at this
  refine ⟨fun e => ?_, fun e => ?_⟩
  · rw [if_pos e, e, Nat.sub_self] at this
    exact this
  · rw [if_neg e] at this
    exact this
theorem CutSl.eq {w W : World} {A2 : Option Addr} {d f t : Nat} {E : List EvT} (h : CutSl w A2 d f t E) (hb : Below w.heap.size w W) (e : d = f) : Sl W W.heap.size 6 A2 (t - f) 0 (evC ((E.drop f).take (t - f))) := (h W hb).1 e
theorem CutSl.ne {w W : World} {A2 : Option Addr} {d f t : Nat} {E : List EvT} (h : CutSl w A2 d f t E) (hb : Below w.heap.size w W) (e : ¬ d = f) : Sl W W.heap.size 6 (A2.map (fun x => x.add (f * 6))) (t - f) (d - f) (evC ((E.drop f).take (t - f))) := (h W hb).2 e
def cutErr (X fr to : Int) (q : Nat) : Int := if X ≠ 0 then X else if fr < 0 ∨ to < fr ∨ (q : Int) < to then 1 else 0
theorem cutErr1 {X fr to : Int} {q : Nat} (h : X ≠ 0) : cutErr X fr to q = X := if_pos h
theorem cutErr2 {fr to : Int} {q : Nat} (h : fr < 0 ∨ to < fr ∨ (q : Int) < to) : cutErr 0 fr to q = 1 := by unfold cutErr; rw [if_neg (by simp), if_pos h]
theorem cutErr3 {fr to : Int} {q : Nat} (h : ¬ (fr < 0 ∨ to < fr ∨ (q : Int) < to)) : cutErr 0 fr to q = 0 := by unfold cutErr; rw [if_neg (by simp), if_neg h]
theorem tp_n {P : List EvP} {N : Nat} (hP : P.length ≤ N) : ∀ p ∈ tpL P, p.n ≤ N := by
  have : ∀ (P : List EvP) (n : Nat) (v : Int) (d t : Bool) (fm : Int), ∀ p ∈ tmPL P n v d t fm, p.n < n + P.length := by
    intro P
    induction P with
    | nil => intro n v d t fm p hp; simp [tmPL] at hp
    | cons y r ih =>
      intro n v d t fm p hp
      unfold tmPL at hp
      split at hp
      all_goals
        rcases List.mem_cons.1 hp with rfl | hp
        · simp
        · have := ih _ _ _ _ _ p hp
          simp
          omega
  intro p hp
  have := this P 0 0 false false 0 p hp
  omega

set_option maxRecDepth 100000 in
set_option maxHeartbeats 6400000 in
theorem pcut_any (A : Option Addr) (n c : Nat) (A' : Option Addr) (m c' : Nat) (A2 : Option Addr) (q cq : Nat) (C : List Cr) (S : List Int) (P : List EvP) (fr to : Int) (w : World) (hP : PcIn w A n c A' m c' A2 q cq C S P) (hnb : n ≤ 1000000) (hmb : m ≤ 1000000) (hqb : q ≤ 65536) (hst : ∀ y ∈ P, y.L.length ≤ 1000000) :
    Calls Tryd.prog 36 #[pcV A n c A' m c' A2 q cq, .int .i64 fr, .int .i64 to] w (PcRes (cutErr (pcErr C S P) fr to q) C S (((rwO (cutSt fr to) () (tpL P)).1.drop fr.toNat).take (to.toNat - fr.toNat)) w) := by
  have HP : Hid (∀ w', Below w.heap.size w w' → PcIn w' A n c A' m c' A2 q cq C S P) := fun w' hb => hP.below hb
  have HP0 := Lib.hid hP
  have HST := Lib.hid hst
  have HBX := Lib.hid (box4 w #[.slice A n c, .slice A' m c', .slice A2 q cq] #[.int .i64 fr] #[.int .i64 to] #[.slice none 0 0, .slice none 0 0, .slice none 0 0] 28 3 3 28)
  obtain ⟨X, hX⟩ : ∃ X, pcErr C S P = X := ⟨_, rfl⟩
  have HX := Lib.hid hX
  rw [hX]
  clear hX hP hst
  by_cases hX0 : X = 0
  rotate_left
  · have hXb : (X != 0) = true := by simpa using hX0
    rw [cutErr1 hX0]
    have HX0 := Lib.hid hX0
    clear hX0
    go_enter Tryd.func36, Tryd.ntmps36
    go_wp2_with (go_at_call 40; refine (pcheck_any A n c A' m c' A2 q cq C S P _ (HP.out _ HBX.out.2.2.2.2) hnb hmb (by omega) HST.out).mono ?_; rintro e W1 ⟨rfl, hb1⟩; rw [HX.out]; have hR1 := HBX.out.2.2.2.1.below hb1; have r0 := hR1.cell 0; have r1 := hR1.cell 1; have r2 := hR1.cell 2; have f0 := hR1.frozen 0; have f1 := hR1.frozen 1; have f2 := hR1.frozen 2; simp at r0 r1 r2; have HB1 := Lib.hid hb1; clear hR1 hb1)
    exact err_retR w W1 _ (by omega) X (bt HBX.out.2.2.2.2 HB1.out) HX0.out (by simp [results, Tryd.results36, go_sem, World.cell?_setCell_same', World.cell?_setCell_other, r0, r1, r2])
  subst hX0
  by_cases hbb : fr < 0 ∨ to < fr ∨ (q : Int) < to
  · rw [cutErr2 hbb]
    have hb2 : fr < 0 ∨ (¬ fr < 0 ∧ to < fr) ∨ (¬ fr < 0 ∧ ¬ to < fr ∧ (q : Int) < to) := by omega
    clear hbb
    rcases hb2 with hb2 | ⟨hb3, hb2⟩ | ⟨hb3, hb4, hb2⟩
    all_goals
      go_enter Tryd.func36, Tryd.ntmps36
      go_wp2_with (go_at_call 40; refine (pcheck_any A n c A' m c' A2 q cq C S P _ (HP.out _ HBX.out.2.2.2.2) hnb hmb (by omega) HST.out).mono ?_; rintro e W1 ⟨rfl, hb1⟩; rw [HX.out]; have hR1 := HBX.out.2.2.2.1.below hb1; have hN1 := HBX.out.2.1.below hb1; have hN2 := HBX.out.2.2.1.below hb1; have hP1 := HBX.out.1.below hb1; have p2 := hP1.cell 2; have n0 := hN1.cell 0; have m0 := hN2.cell 0; have r0 := hR1.cell 0; have r1 := hR1.cell 1; have r2 := hR1.cell 2; have f0 := hR1.frozen 0; have f1 := hR1.frozen 1; have f2 := hR1.frozen 2; simp at n0 m0 p2 r0 r1 r2; have HB1 := Lib.hid hb1; clear hR1 hN1 hN2 hP1 hb1)
      exact err_retR w W1 _ (by omega) 1 (bt HBX.out.2.2.2.2 HB1.out) (by omega) (by simp [results, Tryd.results36, go_sem, World.cell?_setCell_same', World.cell?_setCell_other, r0, r1, r2])
  rw [cutErr3 hbb]
  obtain ⟨f, rfl⟩ := Int.eq_ofNat_of_zero_le (show 0 ≤ fr by omega)
  obtain ⟨t, rfl⟩ := Int.eq_ofNat_of_zero_le (show 0 ≤ to by omega)
  have hft : f ≤ t := by omega
  have htq : t ≤ q := by omega
  have hfi : (f : Int) ≤ (t : Int) := by omega
  have hti : (t : Int) ≤ (q : Int) := by omega
  clear hbb
  have RW : Hid (∀ W1 : World, Blk W1 (w.heap.size + 1) 3 #[.int .i64 f] → Blk W1 (w.heap.size + 2) 3 #[.int .i64 t] → Below w.heap.size w W1 → Calls Tryd.prog 52 #[pcV A n c A' m c' A2 q cq, .func (.func 80) #[] #[.pointer (some ⟨w.heap.size + 1, 0, none⟩), .pointer (some ⟨w.heap.size + 2, 0, none⟩)]] W1 (RwPostP (fun _ => False) n m q C S (rwO (cutSt f t) () (tpL P)).1 (CutR (w.heap.size + 1) (w.heap.size + 2) f t ()) W1)) := fun W1 hN1 hN2 hb => by
    have hPq := HP0.out.es.hq
    exact rewrite_any A n c A' m c' A2 q cq C S P w W1 hb HP0.out hnb hmb hqb HST.out (fun _ => False) (fun _ h => h.elim) 80 #[.pointer (some ⟨w.heap.size + 1, 0, none⟩), .pointer (some ⟨w.heap.size + 2, 0, none⟩)] (enters_of Tryd.func80 (by kernel_rfl) rfl) () (cutSt f t) (CutR (w.heap.size + 1) (w.heap.size + 2) f t) (fun s W W' h hb => ⟨(hb.block _ hN1.lt).trans h.1, (hb.block _ hN2.lt).trans h.2⟩) ⟨hN1, hN2⟩ (cutFn _ _ (fun p hp => ⟨HST.out _ (tmPL_y P 0 0 false false 0 p hp), tp_n (by omega) p hp⟩) _ _ f t hN1.lt hN2.lt (by omega) (by omega))
  go_enter Tryd.func36, Tryd.ntmps36
  go_wp2_with (first
    | (go_at_call 40; refine (pcheck_any A n c A' m c' A2 q cq C S P _ (HP.out _ HBX.out.2.2.2.2) hnb hmb (by omega) HST.out).mono ?_; rintro e W1 ⟨rfl, hb1⟩; rw [HX.out]; have hR1 := HBX.out.2.2.2.1.below hb1; have hN1 := HBX.out.2.1.below hb1; have hN2 := HBX.out.2.2.1.below hb1; have hP1 := HBX.out.1.below hb1; have n0 := hN1.cell 0; have m0 := hN2.cell 0; have p0 := hP1.cell 0; have p1 := hP1.cell 1; have p2 := hP1.cell 2; simp at n0 m0 p0 p1 p2; have HB1 := Lib.hid (And.intro hR1 (And.intro hN1 (And.intro hN2 (bt HBX.out.2.2.2.2 hb1)))); clear hR1 hN1 hN2 hP1 hb1)
    | (go_at_call 52; refine (RW.out W1 HB1.out.2.1 HB1.out.2.2.1 HB1.out.2.2.2).mono ?_; rintro e W2 ⟨B, d, B', d', B2, d2, rfl, hO, hRR, hK⟩; have hb2 : Below W1.heap.size W1 W2 := hK.below (fun _ _ h => h); have n0 := hRR.1.cell 0; have m0 := hRR.2.cell 0; simp at n0 m0; have hln := hRR.1.lt; have hlm := hRR.2.lt; have hR2 := HB1.out.1.below hb2; have hlr := hR2.lt; obtain ⟨E', e1, e2, e3⟩ := hO.evs; have HSL := Lib.hid (cut_sl e3 hft htq); have HE2 := Lib.hid (And.intro e1 e2); have hdq := e3.1; have HO := Lib.hid (And.intro hO (And.intro hb2 hR2)); clear hO hRR hK hb2 hR2 e1 e2 e3)
    | (go_at_call 82; (first | (with_reducible refine (rwCloneE_any _ (t - f) 0 _ _ (CutSl.eq HSL.out (ba W2 _) (by assumption)) (by omega)).mono ?_) | (with_reducible refine (rwCloneE_any _ (t - f) _ _ _ (CutSl.ne HSL.out (ba W2 _) (by assumption)) (by omega)).mono ?_)); rintro e W4 ⟨A4, c4, rfl, ho4, hb4⟩; have hq4 := Blk.below (heap_alloc_new W2 _) hb4; have hr4 := (HO.out.2.2.below (ba W2 _)).below hb4; have q0 := hq4.cell 0; have q1 := hq4.cell 1; have q2 := hq4.cell 2; have g2 := hq4.frozen 2; have r0 := hr4.cell 0; have r1 := hr4.cell 1; have r2 := hr4.cell 2; have f0 := hr4.frozen 0; have f1 := hr4.frozen 1; have f2 := hr4.frozen 2; simp at q0 q1 q2 r0 r1 r2; have hne4 : W2.heap.size ≠ w.heap.size + 3 := (by omega); have H4 := Lib.hid (And.intro ho4 (And.intro hb4 (And.intro hq4 hr4))); clear ho4 hb4 hq4 hr4))
  all_goals
    have hR3 := (((H4.out.2.2.2.setOther (fun e => hne4 e.symm) 2 (.slice A4 (t - f) c4)).set_ 0 (.slice B n d)).set_ 1 (.slice B' m d')).set_ 2 (.slice A4 (t - f) c4)
    have z0 := hR3.cell 0
    have z1 := hR3.cell 1
    have z2 := hR3.cell 2
    refine bodyPost_ret (v := .tuple #[pcV B n d B' m d' A4 (t - f) c4, .int .i64 0]) ?_ rfl ?_
    · simp at z0 z1 z2
      simp [results, Tryd.results36, go_sem, z0, z1, z2]
    · have hl1 : w.heap.size ≤ W1.heap.size := HB1.out.2.2.2.size
      have hl2 : W1.heap.size ≤ W2.heap.size := HO.out.2.1.size
      have hw4 : Below w.heap.size w W4 := bt (bt HB1.out.2.2.2 HO.out.2.1) (bx H4.out.2.1)
      have hk : ∀ (g : Nat) (T : TypeId) (cs : Array Value), T ≠ 28 → Blk W4 g T cs → Blk ((((W4.setCell ⟨W2.heap.size, 2, none⟩ (.slice A4 (t - f) c4)).setCell ⟨w.heap.size + 3, 0, none⟩ (.slice B n d)).setCell ⟨w.heap.size + 3, 1, none⟩ (.slice B' m d')).setCell ⟨w.heap.size + 3, 2, none⟩ (.slice A4 (t - f) c4)) g T cs := fun g T cs hT hb => by
        have n1 := hb.ne H4.out.2.2.1 hT
        have n2 := hb.ne H4.out.2.2.2 hT
        exact (((hb.setOther n1 _ _).setOther n2 _ _).setOther n2 _ _).setOther n2 _ _
      have hk2 : ∀ (g : Nat) (T : TypeId) (cs : Array Value), T ≠ 28 → Blk W2 g T cs → Blk ((((W4.setCell ⟨W2.heap.size, 2, none⟩ (.slice A4 (t - f) c4)).setCell ⟨w.heap.size + 3, 0, none⟩ (.slice B n d)).setCell ⟨w.heap.size + 3, 1, none⟩ (.slice B' m d')).setCell ⟨w.heap.size + 3, 2, none⟩ (.slice A4 (t - f) c4)) g T cs := fun g T cs hT hb => hk g T cs hT ((hb.below (ba W2 _)).below H4.out.2.1)
      refine ⟨B, n, d, B', m, d', A4, t - f, c4, rfl, ?_, (((hw4.setCell (p := ⟨W2.heap.size, 2, none⟩) (by simp; omega) _).setCell (p := ⟨w.heap.size + 3, 0, none⟩) (by simp) _).setCell (p := ⟨w.heap.size + 3, 1, none⟩) (by simp) _).setCell (p := ⟨w.heap.size + 3, 2, none⟩) (by simp) _⟩
      have hP1 := HO.out.1
      have hql := hP1.hq
      rw [oC_ok, oC_ok, oC_ok, Int.toNat_natCast, Int.toNat_natCast]
      refine ⟨(hP1.crs.blk (fun g cs h => hk2 g _ cs (by decide) h)).more hl1, (hP1.stp.blk (fun g cs h => hk2 g _ cs (by decide) h)).more hl1, hP1.hn, hP1.hm, ?_, (E'.drop f).take (t - f), ?_, ?_, ?_⟩
      · rw [List.length_take, List.length_drop, ← hql]
        omega
      · rw [List.length_take, List.length_drop, List.length_take, List.length_drop, HE2.out.1]
      · exact ((HE2.out.2.sub f (t - f)).blk (fun g cs h => hk2 g _ cs (by decide) h)).more hl1
      · exact (H4.out.1.blk (fun g cs h => hk g _ cs (by decide) h)).more (by simp; omega)

end Go.Proofs.YtlmpoklakbjpnaaDoor

/- Pieces: the reference's Bare. -/
namespace Go.Proofs.YtlmpoklakbjpnaaDoor
open Go Go.RowKit

theorem stC_set5 : ∀ (L : List St) (k : Nat) (s : St), k < L.length → (((((stC L).set (k * 5) (.int .i64 s.c)).set (k * 5 + 1) (.int .i64 s.f)).set (k * 5 + 2) (.int .i64 s.r)).set (k * 5 + 3) (.int .i64 s.g)).set (k * 5 + 4) (.int .i64 s.h) = stC (L.set k s)
  | [], k, s, h => by simp at h
  | x :: L, 0, s, h => rfl
  | x :: L, k + 1, s, h => by
    have := stC_set5 L k s (by simpa using h)
    have e0 : stC (x :: L) = .int .i64 x.c :: .int .i64 x.f :: .int .i64 x.r :: .int .i64 x.g :: .int .i64 x.h :: stC L := rfl
    rw [e0, show (k + 1) * 5 = k * 5 + 5 by omega, show k * 5 + 5 + 1 = k * 5 + 1 + 5 by omega, show k * 5 + 5 + 2 = k * 5 + 2 + 5 by omega, show k * 5 + 5 + 3 = k * 5 + 3 + 5 by omega, show k * 5 + 5 + 4 = k * 5 + 4 + 5 by omega]
    simp only [List.set_cons_succ, this]
    rfl
theorem stC_setH : ∀ (L : List St) (k : Nat) (s : St) (v : Int), L[k]? = some s → (stC L).set (k * 5 + 4) (.int .i64 v) = stC (L.set k ⟨s.c, s.f, s.r, s.g, v⟩)
  | [], k, s, v, h => by simp at h
  | x :: L, 0, s, v, h => by
    obtain rfl : x = s := by simpa using h
    rfl
  | x :: L, k + 1, s, v, h => by
    have := stC_setH L k s v (by simpa using h)
    have e0 : stC (x :: L) = .int .i64 x.c :: .int .i64 x.f :: .int .i64 x.r :: .int .i64 x.g :: .int .i64 x.h :: stC L := rfl
    rw [e0, show (k + 1) * 5 + 4 = k * 5 + 4 + 5 by omega]
    simp only [List.set_cons_succ, this]
    rfl
/-- The stops of one event have changed, in their own block g. -/
theorem PcOE.stops {w w' : World} {b : Nat} {A A' A2 : Option Addr} {n c m c' q cq : Nat} {C : List Cr} {S : List Int} {P : List EvP} {E : List EvT} (h : PcOE w b A n c A' m c' A2 q cq C S P E) {i g : Nat} {y : EvP} {x : EvT} (hy : P[i]? = some y) (hx : E[i]? = some x)
    (hg : x.sa = some ⟨g, 0, none⟩) (h0 : 0 < y.L.length) {cs : Array Value} (hB : Blk w g 65 cs) (hk : ∀ k, k ≠ g → w'.heap[k]? = w.heap[k]?) {L' : List St} (hl : L'.length = y.L.length) (hO : Ow w' b 65 5 x.sa L'.length x.sc (stC L')) :
    PcOE w' b A n c A' m c' A2 q cq C S (P.set i { y with L := L' }) E := by
  have hkb : ∀ (g2 : Nat) (T : TypeId) (cs2 : Array Value), T ≠ 65 → Blk w g2 T cs2 → Blk w' g2 T cs2 := fun g2 T cs2 hT h2 => (hk g2 (h2.ne hB hT)).trans h2
  have hiP : i < P.length := (List.getElem?_eq_some_iff.1 hy).1
  obtain ⟨j1, j2⟩ := h.e2 i x y hx hy
  refine ⟨⟨h.o3.crs.blk (fun g2 cs h2 => hkb g2 _ cs (by decide) h2), h.o3.stp.blk (fun g2 cs h2 => hkb g2 _ cs (by decide) h2), h.o3.hn, h.o3.hm, by rw [List.length_set]; exact h.o3.hq⟩, by rw [List.length_set]; exact h.e1, ?_, h.e3.blk (fun g2 cs h2 => hkb g2 _ cs (by decide) h2), h.dst⟩
  intro j x' y' hx' hy'
  by_cases hj : j = i
  · subst hj
    rw [hx] at hx'
    injection hx' with hx'
    subst hx'
    rw [List.getElem?_set_self hiP] at hy'
    injection hy' with hy'
    subst hy'
    exact ⟨⟨j1.1, j1.2.1, j1.2.2.1, j1.2.2.2.1, j1.2.2.2.2.1, by rw [j1.2.2.2.2.2]; exact hl.symm⟩, hO⟩
  · rw [List.getElem?_set_ne (fun e => hj e.symm)] at hy'
    obtain ⟨k1, k2⟩ := h.e2 j x' y' hx' hy'
    refine ⟨k1, k2.1, k2.2.1, fun hn => ?_⟩
    obtain ⟨g2, cur, e1, e2, e3, e4⟩ := k2.2.2 hn
    refine ⟨g2, cur, e1, e2, (hk g2 (fun e => ?_)).trans e3, e4⟩
    subst e
    have hs1 : 0 < x'.sn := by rw [k1.2.2.2.2.2]; exact hn
    have hs2 : 0 < x.sn := by rw [j1.2.2.2.2.2]; exact h0
    rcases Nat.lt_or_gt_of_ne hj with hlt | hgt
    · exact h.dst j i x' x hlt hx' hx hs1 hs2 (e1.trans hg.symm)
    · exact h.dst i j x x' hgt hx hx' hs2 hs1 (hg.trans e1.symm)
/-- One stop of one event: its cells, and what a store into it makes. -/
theorem PcOE.stop {w : World} {b : Nat} {A A' A2 : Option Addr} {n c m c' q cq : Nat} {C : List Cr} {S : List Int} {P : List EvP} {E : List EvT} (h : PcOE w b A n c A' m c' A2 q cq C S P E) {i k : Nat} {y : EvP} (hy : P[i]? = some y) {s : St} (hs : y.L[k]? = some s) :
    ∃ ge x g, A2 = some ⟨ge, 0, none⟩ ∧ b ≤ ge ∧ ge < w.heap.size ∧ E[i]? = some x ∧ w.cell? ⟨ge, i * 6 + 5, none⟩ = some (.slice (some ⟨g, 0, none⟩) y.L.length x.sc) ∧ b ≤ g ∧ g < w.heap.size ∧ ge ≠ g ∧ g ≠ ge ∧
      (w.cell? ⟨g, k * 5, none⟩ = some (.int .i64 s.c) ∧ w.cell? ⟨g, k * 5 + 1, none⟩ = some (.int .i64 s.f) ∧ w.cell? ⟨g, k * 5 + 2, none⟩ = some (.int .i64 s.r) ∧ w.cell? ⟨g, k * 5 + 3, none⟩ = some (.int .i64 s.g) ∧ w.cell? ⟨g, k * 5 + 4, none⟩ = some (.int .i64 s.h)) ∧ (∀ j, w.frozen? ⟨g, j, none⟩ = false) ∧ (∃ cs, Blk w g 65 cs) ∧
      (∀ t : St, PcOE (((((w.setCell ⟨g, k * 5, none⟩ (.int .i64 t.c)).setCell ⟨g, k * 5 + 1, none⟩ (.int .i64 t.f)).setCell ⟨g, k * 5 + 2, none⟩ (.int .i64 t.r)).setCell ⟨g, k * 5 + 3, none⟩ (.int .i64 t.g)).setCell ⟨g, k * 5 + 4, none⟩ (.int .i64 t.h)) b A n c A' m c' A2 q cq C S (P.set i { y with L := y.L.set k t }) E) ∧
      (∀ v : Int, PcOE (w.setCell ⟨g, k * 5 + 4, none⟩ (.int .i64 v)) b A n c A' m c' A2 q cq C S (P.set i { y with L := y.L.set k ⟨s.c, s.f, s.r, s.g, v⟩ }) E) := by
  obtain ⟨ge, x, rfl, hb, hl, hx, ⟨_, _, _, _, _, c5⟩, _, ⟨cse, hBe⟩, _, _⟩ := h.sign hy
  obtain ⟨j1, j2⟩ := h.e2 i x y hx hy
  have hkl : k < y.L.length := (List.getElem?_eq_some_iff.1 hs).1
  obtain ⟨g, cur, e1, e2, hB, e4, e5⟩ := j2.2.2 (by omega)
  have hsd : y.L.getD k z5 = s := by simp [List.getD_eq_getElem?_getD, hs]
  obtain ⟨i0, i1, i2, i3, i4⟩ := stC_at y.L k hkl
  rw [hsd] at i0 i1 i2 i3 i4
  have hne := hB.ne hBe (by decide)
  rw [e1] at c5
  have j2' := j2
  rw [e1] at j2'
  refine ⟨ge, x, g, rfl, hb, hl, hx, c5, e2, hB.lt, fun e => hne e.symm, hne, ⟨hB.cellOf e5 i0, hB.cellOf e5 i1, hB.cellOf e5 i2, hB.cellOf e5 i3, hB.cellOf e5 i4⟩, fun j => hB.frozen j, ⟨_, hB⟩, fun t => ?_, fun v => ?_⟩
  · refine h.stops hy hx e1 (by omega) hB (fun k2 hk2 => ?_) (by rw [List.length_set]) ?_
    · rw [Below.heap_setCell _ _ _ _ hk2, Below.heap_setCell _ _ _ _ hk2, Below.heap_setCell _ _ _ _ hk2, Below.heap_setCell _ _ _ _ hk2, Below.heap_setCell _ _ _ _ hk2]
    · have := ((((j2'.set_ (k * 5) (.int .i64 t.c)).set_ (k * 5 + 1) (.int .i64 t.f)).set_ (k * 5 + 2) (.int .i64 t.r)).set_ (k * 5 + 3) (.int .i64 t.g)).set_ (k * 5 + 4) (.int .i64 t.h)
      rw [stC_set5 y.L k t hkl] at this
      rw [List.length_set, e1]
      exact this
  · refine h.stops hy hx e1 (by omega) hB (fun k2 hk2 => Below.heap_setCell _ _ _ _ hk2) (by rw [List.length_set]) ?_
    have := j2'.set_ (k * 5 + 4) (.int .i64 v)
    rw [stC_setH y.L k s v hs] at this
    rw [List.length_set, e1]
    exact this
/-- The number of stops of one event. -/
theorem PcOE.slen {w : World} {b : Nat} {A A' A2 : Option Addr} {n c m c' q cq : Nat} {C : List Cr} {S : List Int} {P : List EvP} {E : List EvT} (h : PcOE w b A n c A' m c' A2 q cq C S P E) {i : Nat} {y : EvP} (hy : P[i]? = some y) :
    ∃ ge x, A2 = some ⟨ge, 0, none⟩ ∧ ge < w.heap.size ∧ E[i]? = some x ∧ w.cell? ⟨ge, i * 6 + 5, none⟩ = some (.slice x.sa y.L.length x.sc) := by
  obtain ⟨ge, x, e, _, hl, hx, ⟨_, _, _, _, _, c5⟩, _⟩ := h.sign hy
  exact ⟨ge, x, e, hl, hx, c5⟩

theorem RpA.below {w : World} {b qb rb : Nat} {A : Option Addr} {n c : Nat} {A' : Option Addr} {m c' : Nat} {A2 : Option Addr} {q cq : Nat} {C : List Cr} {S : List Int} {P : List EvP} {wr wx : World}
    (h : RpA w b qb rb A n c A' m c' A2 q cq C S P wr) (hb : Below wr.heap.size wr wx) : RpA w b qb rb A n c A' m c' A2 q cq C S P wx := by
  obtain ⟨E, hE⟩ := h.pc
  exact ⟨⟨E, hE.below hb⟩, h.qx.below hb, h.rs.below hb, bt h.lo hb⟩
/-- One stop of one event of the copy. -/
theorem RpA.stop {w : World} {b qb rb : Nat} {A : Option Addr} {n c : Nat} {A' : Option Addr} {m c' : Nat} {A2 : Option Addr} {q cq : Nat} {C : List Cr} {S : List Int} {P : List EvP} {wr : World}
    (h : RpA w b qb rb A n c A' m c' A2 q cq C S P wr) (hb : w.heap.size ≤ b) {i k : Nat} {y : EvP} (hy : P[i]? = some y) {s : St} (hs : y.L[k]? = some s) :
    ∃ ge g sc, A2 = some ⟨ge, 0, none⟩ ∧ ge < wr.heap.size ∧ wr.cell? ⟨ge, i * 6 + 5, none⟩ = some (.slice (some ⟨g, 0, none⟩) y.L.length sc) ∧ g < wr.heap.size ∧ (ge ≠ g ∧ g ≠ ge ∧ g ≠ qb ∧ qb ≠ g) ∧
      (wr.cell? ⟨g, k * 5, none⟩ = some (.int .i64 s.c) ∧ wr.cell? ⟨g, k * 5 + 1, none⟩ = some (.int .i64 s.f) ∧ wr.cell? ⟨g, k * 5 + 2, none⟩ = some (.int .i64 s.r) ∧ wr.cell? ⟨g, k * 5 + 3, none⟩ = some (.int .i64 s.g) ∧ wr.cell? ⟨g, k * 5 + 4, none⟩ = some (.int .i64 s.h)) ∧ (∀ j, wr.frozen? ⟨g, j, none⟩ = false) ∧
      (∀ t : St, RpA w b qb rb A n c A' m c' A2 q cq C S (P.set i { y with L := y.L.set k t }) (((((wr.setCell ⟨g, k * 5, none⟩ (.int .i64 t.c)).setCell ⟨g, k * 5 + 1, none⟩ (.int .i64 t.f)).setCell ⟨g, k * 5 + 2, none⟩ (.int .i64 t.r)).setCell ⟨g, k * 5 + 3, none⟩ (.int .i64 t.g)).setCell ⟨g, k * 5 + 4, none⟩ (.int .i64 t.h))) := by
  obtain ⟨E, hE⟩ := h.pc
  obtain ⟨ge, x, g, rfl, hbe, hle, hx, c5, hbg, hlg, n1, n2, cc, hf, ⟨cs, hB⟩, ht, _⟩ := hE.stop hy hs
  have hq := hB.ne h.qx (by decide)
  have hr := hB.ne h.rs (by decide)
  refine ⟨ge, g, x.sc, rfl, hle, c5, hlg, ⟨n1, n2, hq, fun e => hq e.symm⟩, cc, hf, fun t => ?_⟩
  have hk5 : ∀ (g2 : Nat) (T : TypeId) (cs2 : Array Value), g ≠ g2 → Blk wr g2 T cs2 → Blk (((((wr.setCell ⟨g, k * 5, none⟩ (.int .i64 t.c)).setCell ⟨g, k * 5 + 1, none⟩ (.int .i64 t.f)).setCell ⟨g, k * 5 + 2, none⟩ (.int .i64 t.r)).setCell ⟨g, k * 5 + 3, none⟩ (.int .i64 t.g)).setCell ⟨g, k * 5 + 4, none⟩ (.int .i64 t.h)) g2 T cs2 := fun g2 T cs2 hne h2 =>
    ((((h2.setOther (fun e => hne e.symm) _ _).setOther (fun e => hne e.symm) _ _).setOther (fun e => hne e.symm) _ _).setOther (fun e => hne e.symm) _ _).setOther (fun e => hne e.symm) _ _
  have hbb : w.heap.size ≤ g := Nat.le_trans hb hbg
  exact ⟨⟨E, ht t⟩, hk5 _ _ _ hq h.qx, hk5 _ _ _ hr h.rs, ((((h.lo.setCell (p := ⟨g, k * 5, none⟩) hbb _).setCell (p := ⟨g, k * 5 + 1, none⟩) hbb _).setCell (p := ⟨g, k * 5 + 2, none⟩) hbb _).setCell (p := ⟨g, k * 5 + 3, none⟩) hbb _).setCell (p := ⟨g, k * 5 + 4, none⟩) hbb _⟩
theorem RpA.slen {w : World} {b qb rb : Nat} {A : Option Addr} {n c : Nat} {A' : Option Addr} {m c' : Nat} {A2 : Option Addr} {q cq : Nat} {C : List Cr} {S : List Int} {P : List EvP} {wr : World}
    (h : RpA w b qb rb A n c A' m c' A2 q cq C S P wr) {i : Nat} {y : EvP} (hy : P[i]? = some y) : ∃ ge sa sc, A2 = some ⟨ge, 0, none⟩ ∧ ge < wr.heap.size ∧ wr.cell? ⟨ge, i * 6 + 5, none⟩ = some (.slice sa y.L.length sc) := by
  obtain ⟨E, hE⟩ := h.pc
  obtain ⟨ge, x, e, hl, _, c5⟩ := hE.slen hy
  exact ⟨ge, x.sa, x.sc, e, hl, c5⟩

abbrev stO2 (s : St) : Obj := .cells #[.int .i64 s.c, .int .i64 s.f, .int .i64 s.r, .int .i64 s.g, .int .i64 s.h] 65
def bareE (y : EvP) : EvP := { y with L := y.L.map bareS }
theorem set_set_same {P : List EvP} {i : Nat} {y y' : EvP} : (P.set i y).set i y' = P.set i y' := List.set_set ..
set_option maxRecDepth 100000 in
set_option maxHeartbeats 12800000 in
theorem rbare_any (A : Option Addr) (n c : Nat) (A' : Option Addr) (m c' : Nat) (A2 : Option Addr) (q cq : Nat) (C : List Cr) (S : List Int) (P : List EvP) (w : World) (hP : PcIn w A n c A' m c' A2 q cq C S P) (hnb : n ≤ 65536) (hmb : m ≤ 65536) (hqb : q ≤ 65536) (hst : ∀ y ∈ P, y.L.length ≤ 65536) :
    Calls Tryd.prog 23 #[pcV A n c A' m c' A2 q cq] w (PcRes (pcErr C S P) C S (P.map bareE) w) := by
  have HP : Hid (∀ w', Below w.heap.size w w' → PcIn w' A n c A' m c' A2 q cq C S P) := fun w' hb => hP.below hb
  have HST := Lib.hid hst
  have HST2 : Hid (∀ y ∈ P, y.L.length ≤ 1000000) := fun y hy => Nat.le_trans (hst y hy) (by omega)
  have HL := Lib.hid hP.es.hq
  have HBX := Lib.hid (pbox w A n c A' m c' A2 q cq)
  obtain ⟨X, hX⟩ : ∃ X, pcErr C S P = X := ⟨_, rfl⟩
  have HX := Lib.hid hX
  rw [hX]
  clear hX hP hst
  by_cases hX0 : X = 0
  rotate_left
  · have hXb : (X != 0) = true := by simpa using hX0
    have HX0 := Lib.hid hX0
    clear hX0
    go_enter Tryd.func23, Tryd.ntmps23
    go_wp2_with (go_at_call 26; refine (rpcheck_any A n c A' m c' A2 q cq C S P _ (HP.out _ HBX.out.2.2.1) (by omega) (by omega) (by omega) HST2.out).mono ?_; rintro e W1 ⟨rfl, hb1⟩; rw [HX.out]; have hR1 := HBX.out.2.1.below hb1; have r0 := hR1.cell 0; have r1 := hR1.cell 1; have r2 := hR1.cell 2; have f0 := hR1.frozen 0; have f1 := hR1.frozen 1; have f2 := hR1.frozen 2; simp at r0 r1 r2; have HB1 := Lib.hid hb1; clear hR1 hb1)
    exact err_ret w W1 X (bt HBX.out.2.2.1 HB1.out) HX0.out (by simp [results, Tryd.results23, go_sem, World.cell?_setCell_same', World.cell?_setCell_other, r0, r1, r2])
  subst hX0
  go_enter Tryd.func23, Tryd.ntmps23
  go_wp2_with (first
    | (go_at_call 26; refine (rpcheck_any A n c A' m c' A2 q cq C S P _ (HP.out _ HBX.out.2.2.1) (by omega) (by omega) (by omega) HST2.out).mono ?_; rintro e W1 ⟨rfl, hb1⟩; rw [HX.out]; have hR1 := HBX.out.2.1.below hb1; have hP1 := HBX.out.1.below hb1; have p0 := hP1.cell 0; have p1 := hP1.cell 1; have p2 := hP1.cell 2; simp at p0 p1 p2; have HB1 := Lib.hid (And.intro hP1 (And.intro hR1 (bt HBX.out.2.2.1 hb1))); clear hR1 hP1 hb1)
    | (go_at_call 16; refine (pcopyO_any A n c A' m c' A2 q cq C S P _ (HP.out _ HB1.out.2.2) hnb hmb hqb HST.out).mono ?_; rintro e W2 ⟨B, d, B', d', B2, d2, E, rfl, hO, hb2⟩; have HR0 : Hid (RpA w W1.heap.size W2.heap.size (w.heap.size + 1) B n d B' m d' B2 q d2 C S P (W2.alloc (pcO B n d B' m d' B2 q d2))) := ⟨⟨_, hO.below (ba W2 (pcO B n d B' m d' B2 q d2))⟩, heap_alloc_new W2 (pcO B n d B' m d' B2 q d2), Blk.below (HB1.out.2.1.below hb2) (ba W2 (pcO B n d B' m d' B2 q d2)), bt HB1.out.2.2 (bt hb2 (ba W2 (pcO B n d B' m d' B2 q d2)))⟩; clear hO hb2))
  have hz12 : w.heap.size ≤ W1.heap.size := HB1.out.2.2.size
  go_loopw [6] (fun i wr => ∃ k : Nat, k ≤ q ∧ i = .int .i64 k ∧ Hid (RpA w W1.heap.size W2.heap.size (w.heap.size + 1) B n d B' m d' B2 q d2 C S (mpK bareE k P) wr)) (fun i _ => q - (intOf i).toNat)
  case atStart => exact ⟨0, by omega, rfl, by rw [mpK_zero]; exact HR0.out⟩
  case round =>
    obtain ⟨k, hk, rfl, HR⟩ := hrel
    have q0 := HR.out.qx.cell 0
    have q1 := HR.out.qx.cell 1
    have q2 := HR.out.qx.cell 2
    simp at q0 q1 q2
    by_cases hlt : k < q
    · have hkn : (k : Int) < (q : Int) := by omega
      have hPk : P[k]? = some (P.getD k z6) := by
        have : k < P.length := by have := HL.out; omega
        simp [List.getD_eq_getElem?_getD, List.getElem?_eq_getElem this]
      have hMk : (mpK bareE k P)[k]? = some (P.getD k z6) := by rw [mpK_at _ k P (by have := HL.out; omega)]; exact hPk
      have HPK := Lib.hid hPk
      have HMK := Lib.hid hMk
      have hll := HST.out _ (List.mem_of_getElem? hPk)
      clear hPk hMk
      generalize P.getD k z6 = y at *
      go_wp2_with (fail)
      have HR1 : Hid (RpA w W1.heap.size W2.heap.size (w.heap.size + 1) B n d B' m d' B2 q d2 C S ((mpK bareE k P).set k { y with L := mpK bareS 0 y.L }) wr) := by
        unfold Hid
        rw [mpK_zero, show ({ y with L := y.L } : EvP) = y from rfl]
        have : (mpK bareE k P).set k y = mpK bareE k P := by
          refine List.ext_getElem? (fun j => ?_)
          by_cases hj : j = k
          · subst hj
            rw [List.getElem?_set_self (by rw [mpK_len]; have := HL.out; omega), HMK.out]
          · rw [List.getElem?_set_ne (fun e => hj e.symm)]
        rw [this]
        exact HR.out
      go_loopw [7, 8] (fun i _ wx => ∃ j : Nat, j ≤ y.L.length ∧ i = .int .i64 j ∧ Hid (RpA w W1.heap.size W2.heap.size (w.heap.size + 1) B n d B' m d' B2 q d2 C S ((mpK bareE k P).set k { y with L := mpK bareS j y.L }) wx)) (fun i _ _ => y.L.length - (intOf i).toNat)
      case atStart => exact ⟨0, by omega, rfl, HR1.out⟩
      case round =>
        obtain ⟨j, hj, rfl, HS⟩ := hrel
        have hyl : ((mpK bareE k P).set k { y with L := mpK bareS j y.L })[k]? = some { y with L := mpK bareS j y.L } := List.getElem?_set_self (by rw [mpK_len]; have := HL.out; omega)
        have HYL := Lib.hid hyl
        clear hyl
        have v0 := HS.out.qx.cell 2
        simp at v0
        by_cases hjl : j < y.L.length
        · have hji : (j : Int) < ((y.L.length : Nat) : Int) := by omega
          have hsj : y.L[j]? = some (y.L.getD j z5) := by simp [List.getD_eq_getElem?_getD, List.getElem?_eq_getElem hjl]
          obtain ⟨ge, g, sc, rfl, hle, c5, hlg, ⟨n1, n2, n3, n4⟩, ⟨s0, s1, s2, s3, s4⟩, hfz, hnext⟩ := HS.out.stop hz12 HYL.out (show (mpK bareS j y.L)[j]? = some (y.L.getD j z5) by rw [mpK_at _ j _ hjl]; exact hsj)
          have HM := Lib.hid (mpK_set bareS j y.L _ hsj)
          dsimp only at c5
          rw [mpK_len] at c5
          have HSJ : Hid ((mpK bareS j y.L)[j]? = some (y.L.getD j z5)) := by unfold Hid; rw [mpK_at _ j _ hjl]; exact hsj
          clear hfz hnext hsj
          generalize y.L.getD j z5 = s at *
          obtain ⟨sc0, sf, sr, sg, sh⟩ := s
          dsimp only at s0 s1 s2 s3 s4
          go_wp2_with (fail)
          have HSZ := Lib.hid (HS.out.below (ba wr (stO2 ⟨sc0, sf, sr, sg, sh⟩)))
          have hbz : Blk (wr.alloc (stO2 ⟨sc0, sf, sr, sg, sh⟩)) wr.heap.size 65 #[.int .i64 sc0, .int .i64 sf, .int .i64 sr, .int .i64 sg, .int .i64 sh] := heap_alloc_new wr _
          obtain ⟨bz, hbzz⟩ : ∃ bz, wr.heap.size = bz := ⟨_, rfl⟩
          obtain ⟨wz, hwz⟩ : ∃ wz, wr.alloc (stO2 ⟨sc0, sf, sr, sg, sh⟩) = wz := ⟨_, rfl⟩
          rw [hwz] at HSZ hbz ⊢
          rw [hbzz] at hbz ⊢
          clear hwz hbzz v0 c5 s0 s1 s2 s3 s4 hle hlg n1 n2 n3 n4
          obtain ⟨ge', g', sc', hge, hle, c5, hlg, ⟨n1, n2, n3, n4⟩, ⟨s0, s1, s2, s3, s4⟩, hfz, hnext⟩ := HSZ.out.stop hz12 HYL.out HSJ.out
          injection hge with hge
          injection hge with hge
          subst hge
          have HNX := Lib.hid (hnext (bareS ⟨sc0, sf, sr, sg, sh⟩))
          have f0 := hfz (j * 5)
          have f1 := hfz (j * 5 + 1)
          have f2 := hfz (j * 5 + 2)
          have f3 := hfz (j * 5 + 3)
          have f4 := hfz (j * 5 + 4)
          have b0 := hbz.cell 0
          have b1 := hbz.cell 1
          have v0 := HSZ.out.qx.cell 2
          simp at b0 b1 v0
          dsimp only at c5
          rw [mpK_len] at c5
          clear hfz hnext hbz
          go_still_tail 12, (by kernel_rfl)
          go_wp2_with (fail)
          go_roundw
          case rel =>
            have hN := (HNX.out).below (Below.refl _ _).drew
            rw [List.set_set] at hN
            dsimp only at hN
            rw [HM.out] at hN
            exact ⟨j + 1, by omega, by first | rfl | go_num, hN⟩
          case measure => simp [intOf]; omega
        · obtain rfl : j = y.L.length := by omega
          obtain ⟨ge, sa, sc, rfl, hle, c5⟩ := HS.out.slen HYL.out
          dsimp only at c5
          rw [mpK_len] at c5
          have HEND : Hid (RpA w W1.heap.size W2.heap.size (w.heap.size + 1) B n d B' m d' (some ⟨ge, 0, none⟩) q d2 C S (mpK bareE (k + 1) P) wr) := by
            have h := HS.out
            rw [mpK_all bareS _ y.L (Nat.le_refl _)] at h
            have e := mpK_set bareE k P y HPK.out
            unfold bareE at e
            unfold Hid bareE
            rw [← e]
            exact h
          go_wp2_with (fail)
          go_roundw
          case rel => exact ⟨k + 1, by omega, by first | rfl | go_num, HEND.out⟩
          case measure => simp [intOf]; omega
    · obtain rfl : k = q := by omega
      obtain ⟨E', hE'⟩ := HR.out.pc
      rw [mpK_all _ k P (Nat.le_of_eq HL.out.symm)] at hE'
      have HE := Lib.hid hE'
      have r0 := HR.out.rs.cell 0
      have r1 := HR.out.rs.cell 1
      have r2 := HR.out.rs.cell 2
      have f0 := HR.out.rs.frozen 0
      have f1 := HR.out.rs.frozen 1
      have f2 := HR.out.rs.frozen 2
      have hlr := HB1.out.2.1.lt
      simp at r0 r1 r2
      clear hE'
      go_wp2_with (fail)
      have hR3 := ((HR.out.rs.set_ 0 (.slice B n d)).set_ 1 (.slice B' m d')).set_ 2 (.slice B2 k d2)
      have z0 := hR3.cell 0
      have z1 := hR3.cell 1
      have z2 := hR3.cell 2
      refine bodyPost_ret (v := .tuple #[pcV B n d B' m d' B2 k d2, .int .i64 0]) ?_ rfl ?_
      · simp at z0 z1 z2
        simp [results, Tryd.results23, go_sem, z0, z1, z2]
      · refine ⟨B, n, d, B', m, d', B2, k, d2, rfl, ?_, ((HR.out.lo.setCell (p := ⟨w.heap.size + 1, 0, none⟩) (by simp) _).setCell (p := ⟨w.heap.size + 1, 1, none⟩) (by simp) _).setCell (p := ⟨w.heap.size + 1, 2, none⟩) (by simp) _⟩
        rw [oC_ok, oC_ok, oC_ok]
        exact (((HE.out.pcOw.other hlr _ _).other hlr _ _).other hlr _ _).more hz12

end Go.Proofs.YtlmpoklakbjpnaaDoor

/- Pieces: the reference's Cut. -/
namespace Go.Proofs.YtlmpoklakbjpnaaDoor
open Go Go.RowKit

/-- The piece of which k events from f on have got their holds. -/
def hkL (f to : Nat) : Nat → List EvP → List EvP
  | 0, P => P
  | k + 1, P => (hkL f to k P).set (f + k) { P.getD (f + k) z6 with L := (P.getD (f + k) z6).L.map (cutS to (f + k : Nat)) }
theorem hkL_len (f to : Nat) (P : List EvP) : ∀ k, (hkL f to k P).length = P.length
  | 0 => rfl
  | k + 1 => by rw [hkL, List.length_set, hkL_len f to P k]
theorem hkL_at (f to : Nat) (P : List EvP) : ∀ (k i : Nat), f + k ≤ i → (hkL f to k P)[i]? = P[i]?
  | 0, _, _ => rfl
  | k + 1, i, h => by rw [hkL, List.getElem?_set_ne (by omega), hkL_at f to P k i (by omega)]
theorem hkL_in (f to : Nat) (P : List EvP) : ∀ (k j : Nat), j < k → f + j < P.length → (hkL f to k P)[f + j]? = some { P.getD (f + j) z6 with L := (P.getD (f + j) z6).L.map (cutS to (f + j : Nat)) }
  | 0, _, h, _ => by omega
  | k + 1, j, h, hl => by
    by_cases e : j = k
    · subst e
      rw [hkL, List.getElem?_set_self (by rw [hkL_len]; exact hl)]
    · rw [hkL, List.getElem?_set_ne (by omega), hkL_in f to P k j (by omega) hl]
def zEvT : EvT := ⟨false, 0, false, false, false, none, 0, 0⟩
/-- The event that comes out at place j. -/
def ctE (f to : Nat) (G P : List EvP) (j : Nat) : EvP :=
  if j = 0 then ⟨(G.getD (f + j) z6).bar, (G.getD (f + j) z6).v, (G.getD (f + j) z6).d, (G.getD (f + j) z6).t, false, (G.getD (f + j) z6).L.map (cutS to (f + j : Nat))⟩
  else ⟨(G.getD (f + j) z6).bar, (P.getD (f + j) z6).v, (P.getD (f + j) z6).d, (P.getD (f + j) z6).t, (G.getD (f + j) z6).tie, (G.getD (f + j) z6).L.map (cutS to (f + j : Nat))⟩
def ctL (f to : Nat) (G P : List EvP) (k : Nat) : List EvP := (List.range k).map (ctE f to G P)
def ctT (f : Nat) (P : List EvP) (E : List EvT) (j : Nat) : EvT :=
  if j = 0 then { E.getD (f + j) zEvT with tie := false } else upT (E.getD (f + j) zEvT) ⟨(P.getD (f + j) z6).v, (P.getD (f + j) z6).d, (P.getD (f + j) z6).t⟩
def ctO (f : Nat) (P : List EvP) (E : List EvT) (k : Nat) : List EvT := (List.range k).map (ctT f P E)
theorem ctO_succ (f : Nat) (P : List EvP) (E : List EvT) (k : Nat) : ctO f P E (k + 1) = ctO f P E k ++ [ctT f P E k] := by simp [ctO, List.range_succ]
theorem ctO_len (f : Nat) (P : List EvP) (E : List EvT) (k : Nat) : (ctO f P E k).length = k := by simp [ctO]
theorem ct_cpe {w : World} {b f to k : Nat} {G P : List EvP} {E : List EvT} (h : CpE w b E (hkL f to k G)) (he : E.length = G.length) (hk : f + k ≤ G.length) : CpE w b (ctO f P E k) (ctL f to G P k) := fun j x y hx hy => by
  have hj : j < k := by
    have := (List.getElem?_eq_some_iff.1 hx).1
    rwa [ctO_len] at this
  have hE : E[f + j]? = some (E.getD (f + j) zEvT) := by
    have : f + j < E.length := by omega
    simp [List.getD_eq_getElem?_getD, List.getElem?_eq_getElem this]
  obtain ⟨⟨k1, k2, k3, k4, k5, k6⟩, k7⟩ := h (f + j) _ _ hE (hkL_in f to G k j hj (by omega))
  have hx' : x = ctT f P E j := by
    simp [ctO, List.getElem?_range hj] at hx
    exact hx.symm
  have hy' : y = ctE f to G P j := by
    simp [ctL, List.getElem?_range hj] at hy
    exact hy.symm
  subst hx' hy'
  unfold ctT ctE
  by_cases h0 : j = 0
  · rw [if_pos h0, if_pos h0]
    exact ⟨⟨k1, k2, k3, k4, rfl, k6⟩, k7⟩
  · rw [if_neg h0, if_neg h0]
    exact ⟨⟨k1, rfl, rfl, rfl, k5, k6⟩, k7⟩

theorem set_same {α : Type} {L : List α} {i : Nat} {y : α} (h : L[i]? = some y) : L.set i y = L := by
  refine List.ext_getElem? (fun j => ?_)
  by_cases hj : j = i
  · subst hj
    rw [List.getElem?_set_self (List.getElem?_eq_some_iff.1 h).1, h]
  · rw [List.getElem?_set_ne (fun e => hj e.symm)]
/-- The reference's loop over the events: what it keeps. -/
structure CtR (w : World) (b b3 qb ob rb pb : Nat) (PX : Array Value) (A : Option Addr) (n c : Nat) (A' : Option Addr) (m c' : Nat) (A2 : Option Addr) (q cq : Nat) (C : List Cr) (S : List Int) (P : List EvP) (E : List EvT) (B3 : Option Addr) (k d3 : Nat) (Eo : List EvT) (wr : World) : Prop where
  pc : PcOE wr b A n c A' m c' A2 q cq C S P E
  bl : 0 < q → ∀ g, A2 = some ⟨g, 0, none⟩ → g < b3
  row : wr.ownsRow b3 41 6 (.slice B3 k d3) k (evC Eo)
  qx : Blk wr qb 28 #[.slice A n c, .slice A' m c', .slice A2 q cq]
  ox : Blk wr ob 28 #[.slice A n c, .slice A' m c', .slice B3 k d3]
  rs : Blk wr rb 28 #[.slice none 0 0, .slice none 0 0, .slice none 0 0]
  px : Blk wr pb 28 PX
  lo : Below w.heap.size w wr
theorem CtR.below {w : World} {b b3 qb ob rb pb : Nat} {PX : Array Value} {A : Option Addr} {n c : Nat} {A' : Option Addr} {m c' : Nat} {A2 : Option Addr} {q cq : Nat} {C : List Cr} {S : List Int} {P : List EvP} {E : List EvT} {B3 : Option Addr} {k d3 : Nat} {Eo : List EvT} {wr wx : World}
    (h : CtR w b b3 qb ob rb pb PX A n c A' m c' A2 q cq C S P E B3 k d3 Eo wr) (hb : Below wr.heap.size wr wx) : CtR w b b3 qb ob rb pb PX A n c A' m c' A2 q cq C S P E B3 k d3 Eo wx :=
  ⟨h.pc.below hb, h.bl, own_below h.row hb, h.qx.below hb, h.ox.below hb, h.rs.below hb, h.px.below hb, bt h.lo hb⟩
/-- One stop of one event: its hold. -/
theorem CtR.stop {w : World} {b b3 qb ob rb pb : Nat} {PX : Array Value} {A : Option Addr} {n c : Nat} {A' : Option Addr} {m c' : Nat} {A2 : Option Addr} {q cq : Nat} {C : List Cr} {S : List Int} {P : List EvP} {E : List EvT} {B3 : Option Addr} {k d3 : Nat} {Eo : List EvT} {wr : World}
    (h : CtR w b b3 qb ob rb pb PX A n c A' m c' A2 q cq C S P E B3 k d3 Eo wr) (hb : w.heap.size ≤ b) {i j : Nat} {y : EvP} (hy : P[i]? = some y) {s : St} (hs : y.L[j]? = some s) :
    ∃ x g, E[i]? = some x ∧ x.sa = some ⟨g, 0, none⟩ ∧ x.sn = y.L.length ∧ g < wr.heap.size ∧ wr.cell? ⟨g, j * 5 + 4, none⟩ = some (.int .i64 s.h) ∧ (∀ j, wr.frozen? ⟨g, j, none⟩ = false) ∧ (∃ cs, Blk wr g 65 cs) ∧
      (∀ v : Int, CtR w b b3 qb ob rb pb PX A n c A' m c' A2 q cq C S (P.set i { y with L := y.L.set j ⟨s.c, s.f, s.r, s.g, v⟩ }) E B3 k d3 Eo (wr.setCell ⟨g, j * 5 + 4, none⟩ (.int .i64 v))) := by
  obtain ⟨ge, x, g, e, hbe, hle, hx, c5, hbg, hlg, n1, n2, ⟨_, _, _, _, c4⟩, hf, ⟨cs, hB⟩, _, hv⟩ := h.pc.stop hy hs
  obtain ⟨j1, j2⟩ := h.pc.e2 i x y hx hy
  have hkl : j < y.L.length := (List.getElem?_eq_some_iff.1 hs).1
  obtain ⟨g', cur, e1, _⟩ := j2.2.2 (by omega)
  have hsa : x.sa = some ⟨g, 0, none⟩ := by
    obtain ⟨ge2, x2, e2, _, hx2, cc⟩ := h.pc.slen hy
    rw [hx] at hx2
    injection hx2 with hx2
    subst hx2
    rw [e] at e2
    injection e2 with e2
    injection e2 with e2
    subst e2
    rw [c5] at cc
    injection cc with cc
    injection cc with cc
    exact cc.symm
  have hkb : ∀ (v : Value) (g2 : Nat) (T : TypeId) (cs2 : Array Value), T ≠ 65 → Blk wr g2 T cs2 → Blk (wr.setCell ⟨g, j * 5 + 4, none⟩ v) g2 T cs2 := fun v g2 T cs2 hT h2 => h2.setOther (h2.ne hB hT) _ _
  refine ⟨x, g, hx, hsa, j1.2.2.2.2.2, hlg, c4, hf, ⟨_, hB⟩, fun v => ⟨hv v, h.bl, ?_, hkb _ _ _ _ (by decide) h.qx, hkb _ _ _ _ (by decide) h.ox, hkb _ _ _ _ (by decide) h.rs, hkb _ _ _ _ (by decide) h.px, h.lo.setCell (p := ⟨g, j * 5 + 4, none⟩) (Nat.le_trans hb hbg) _⟩⟩
  exact ownsRow_heap h.row (fun g2 hg2 => set_other _ _ _ _ _ (fun e => blk_apart hB h.row (by decide) (by rw [← e]; exact hg2.symm)))
/-- An event is put to the row. -/
theorem CtR.app {w : World} {b b3 qb ob rb pb : Nat} {PX : Array Value} {A : Option Addr} {n c : Nat} {A' : Option Addr} {m c' : Nat} {A2 : Option Addr} {q cq : Nat} {C : List Cr} {S : List Int} {P : List EvP} {E : List EvT} {B3 : Option Addr} {k d3 : Nat} {Eo : List EvT} {wr : World}
    (h : CtR w b b3 qb ob rb pb PX A n c A' m c' A2 q cq C S P E B3 k d3 Eo wr) (hb3 : w.heap.size ≤ b3) (hob : w.heap.size ≤ ob) (hqo : qb ≠ ob) (hro : rb ≠ ob) (hpo : pb ≠ ob) {O : Obj} {w3 : World} {v' : Value} {x : EvT} {news : List Value} (hn : evC Eo ++ news = evC (Eo ++ [x]))
    (hown : w3.ownsRow b3 41 6 v' (k + 1) (evC Eo ++ news)) (hg : (wr.alloc O).grownBy w3 (Value.slice B3 k d3).ownBlock) :
    ∃ A3 d, v' = .slice A3 (k + 1) d ∧ Blk w3 ob 28 #[.slice A n c, .slice A' m c', .slice B3 k d3] ∧ CtR w b b3 qb ob rb pb PX A n c A' m c' A2 q cq C S P E A3 (k + 1) d (Eo ++ [x]) (w3.setCell ⟨ob, 2, none⟩ (.slice A3 (k + 1) d)) := by
  obtain ⟨A3, d, rfl⟩ := own_slice hown
  rw [hn] at hown
  have hk : ∀ (g : Nat) (T : TypeId) (cs : Array Value), T ≠ 41 → Blk wr g T cs → Blk w3 g T cs := fun g T cs hT hB => (hB.below (ba _ _)).grown hg (blk_apart hB h.row hT)
  have ho := hk _ _ _ (by decide) h.ox
  have hk2 : ∀ (g : Nat) (T : TypeId) (cs : Array Value), T ≠ 28 → Blk w3 g T cs → Blk (w3.setCell ⟨ob, 2, none⟩ (.slice A3 (k + 1) d)) g T cs := fun g T cs hT hB => hB.setOther (hB.ne ho hT) _ _
  have hk3 : ∀ (g : Nat) (T : TypeId) (cs : Array Value), T ≠ 41 → T ≠ 28 → Blk wr g T cs → Blk (w3.setCell ⟨ob, 2, none⟩ (.slice A3 (k + 1) d)) g T cs := fun g T cs h1 h2 hB => hk2 g T cs h2 (hk g T cs h1 hB)
  refine ⟨A3, d, rfl, ho, ⟨⟨⟨h.pc.o3.crs.blk (fun g cs h2 => hk3 g _ cs (by decide) (by decide) h2), h.pc.o3.stp.blk (fun g cs h2 => hk3 g _ cs (by decide) (by decide) h2), h.pc.o3.hn, h.pc.o3.hm, h.pc.o3.hq⟩, h.pc.e1, h.pc.e2.blk (fun g cs h2 => hk3 g _ cs (by decide) (by decide) h2), ⟨h.pc.e3.1, h.pc.e3.2.1, fun hn => ?_⟩, h.pc.dst⟩, h.bl, ?_, ?_, ?_, ?_, ?_, ?_⟩⟩
  · obtain ⟨g, cur, e1, e2, e3, e4⟩ := h.pc.e3.2.2 hn
    refine ⟨g, cur, e1, e2, hk2 _ _ _ (by decide) ((e3.below (ba _ _)).grown hg (fun e => ?_)), e4⟩
    have h1 := h.bl hn g e1
    have h2 := (h.row.lt g e.symm).1
    omega
  · exact ownsRow_heap hown (fun g2 hg2 => set_other _ _ _ _ _ (fun e => blk_apart ho hown (by decide) (by rw [← e]; exact hg2.symm)))
  · exact (hk _ _ _ (by decide) h.qx).setOther hqo _ _
  · have := ho.set_ 2 (.slice A3 (k + 1) d)
    simpa using this
  · exact (hk _ _ _ (by decide) h.rs).setOther hro _ _
  · exact (hk _ _ _ (by decide) h.px).setOther hpo _ _
  · have h1 : Below w.heap.size w (wr.alloc O) := bt h.lo (ba _ _)
    exact (Below.grown h1 hg h1.size (fun g hh => by have := (h.row.lt g hh).1; omega)).setCell (p := ⟨ob, 2, none⟩) hob _

theorem setG_mapL : ∀ (P : List EvP) (F : List Sg), (setG P F).map EvP.L = P.map EvP.L
  | [], [] => rfl
  | [], _ :: _ => rfl
  | _ :: _, [] => rfl
  | y :: P, s :: F => by simp [setG, setG_mapL P F, upS]
theorem HP0.cells {w : World} {g : Nat} {a b c : Value} (h : Blk w g 28 #[a, b, c]) : w.cell? ⟨g, 0, none⟩ = some a ∧ w.cell? ⟨g, 1, none⟩ = some b ∧ w.cell? ⟨g, 2, none⟩ = some c :=
  ⟨by simpa using h.cell 0, by simpa using h.cell 1, by simpa using h.cell 2⟩
theorem err_retW {fn : Func} {a : Act} (w W : World) (X : Int) {C : List Cr} {S : List Int} {P : List EvP} (hb : Below w.heap.size w W) (hX : X ≠ 0)
    (hrr : (results fn a.tmps).run Tryd.prog W = .ok (.tuple #[pcV none 0 0 none 0 0 none 0 0, .int .i64 X]) W) (hd : a.defers = [] := by rfl) : bodyPost Tryd.prog fn (PcRes X C S P w) .ret a W := by
  refine bodyPost_ret hrr hd ⟨none, 0, 0, none, 0, 0, none, 0, 0, rfl, ?_, hb⟩
  rw [oC_no hX, oC_no hX, oC_no hX]
  exact PcOw.nil_ _ _
/-- The result's box is set to nothing ahead of a box that was made. -/
theorem zero_box {w W1 : World} {g : Nat} {u0 u1 u2 : Value} {O : Obj} (h : Blk W1 g 28 #[u0, u1, u2]) (hb : Below w.heap.size w W1) (hg : w.heap.size ≤ g) :
    Below w.heap.size w ((((W1.setCell ⟨g, 0, none⟩ (.slice none 0 0)).setCell ⟨g, 1, none⟩ (.slice none 0 0)).setCell ⟨g, 2, none⟩ (.slice none 0 0)).alloc O) ∧
    Blk ((((W1.setCell ⟨g, 0, none⟩ (.slice none 0 0)).setCell ⟨g, 1, none⟩ (.slice none 0 0)).setCell ⟨g, 2, none⟩ (.slice none 0 0)).alloc O) g 28 #[.slice none 0 0, .slice none 0 0, .slice none 0 0] := by
  refine ⟨bt (((hb.setCell (p := ⟨g, 0, none⟩) hg _).setCell (p := ⟨g, 1, none⟩) hg _).setCell (p := ⟨g, 2, none⟩) hg _) (ba _ _), ?_⟩
  have := ((h.set_ 0 (.slice none 0 0)).set_ 1 (.slice none 0 0)).set_ 2 (.slice none 0 0)
  exact Blk.below (by simpa using this) (ba _ _)

set_option maxRecDepth 100000 in
set_option maxHeartbeats 6400000 in
theorem rcut_any (A : Option Addr) (n c : Nat) (A' : Option Addr) (m c' : Nat) (A2 : Option Addr) (q cq : Nat) (C : List Cr) (S : List Int) (P : List EvP) (fr to : Int) (w : World) (hP : PcIn w A n c A' m c' A2 q cq C S P) (hnb : n ≤ 65536) (hmb : m ≤ 65536) (hqb : q ≤ 65536) (hst : ∀ y ∈ P, y.L.length ≤ 65536) :
    Calls Tryd.prog 37 #[pcV A n c A' m c' A2 q cq, .int .i64 fr, .int .i64 to] w (PcRes (cutErr (pcErr C S P) fr to q) C S (ctL fr.toNat to.toNat (setG P (frcL s0g P)) P (to.toNat - fr.toNat)) w) := by
  have HP : Hid (∀ w', Below w.heap.size w w' → PcIn w' A n c A' m c' A2 q cq C S P) := fun w' hb => hP.below hb
  have HST := Lib.hid hst
  have HL := Lib.hid hP.es.hq
  have HLC := Lib.hid (And.intro hP.hn hP.hm)
  have HBX := Lib.hid (pbox w A n c A' m c' A2 q cq)
  obtain ⟨X, hX⟩ : ∃ X, pcErr C S P = X := ⟨_, rfl⟩
  have PL : Hid (∀ w', PcIn w' A n c A' m c' A2 q cq C S P → Calls Tryd.prog 18 #[pcV A n c A' m c' A2 q cq] w' (PcResO X C S (setG P (frcL s0g P)) w')) := fun w' h => by
    have := rplainO_any A n c A' m c' A2 q cq C S P w' h hnb hmb hqb hst
    rwa [hX] at this
  have HGL : Hid ((setG P (frcL s0g P)).length = q ∧ ∀ y ∈ setG P (frcL s0g P), y.L.length ≤ 65536) := ⟨by rw [setG_len, HL.out], fun y hy => by
    obtain ⟨j, hj⟩ := List.mem_iff_getElem?.1 hy
    have h1 := congrArg (fun M => M[j]?) (setG_mapL P (frcL s0g P))
    simp only [List.getElem?_map] at h1
    rw [hj] at h1
    cases h2 : P[j]? with
    | none => rw [h2] at h1; simp at h1
    | some x =>
      rw [h2] at h1
      simp at h1
      rw [h1]
      exact hst x (List.mem_of_getElem? h2)⟩
  generalize setG P (frcL s0g P) = G at *
  rw [hX]
  obtain ⟨i0, ii1, ii2, ii3, ii4⟩ := info_parts Tryd.infoEv
  clear hX hP hst
  by_cases hX0 : X = 0
  rotate_left
  · have hXb : (X != 0) = true := by simpa using hX0
    rw [cutErr1 hX0]
    have HX0 := Lib.hid hX0
    clear hX0
    go_enter Tryd.func37, Tryd.ntmps37
    go_wp2_with (go_at_call 18; (with_reducible refine (PL.out _ (HP.out _ HBX.out.2.2.1)).mono ?_); rintro e W1 ⟨B, n1, d, B', m1, d', B2, q1, d2, E, rfl, hO, hb1⟩; obtain ⟨r0, r1, r2⟩ := HP0.cells (HBX.out.2.1.below hb1); have f0 := (HBX.out.2.1.below hb1).frozen 0; have f1 := (HBX.out.2.1.below hb1).frozen 1; have f2 := (HBX.out.2.1.below hb1).frozen 2; have hlr := (HBX.out.2.1.below hb1).lt; have HRB := Lib.hid (HBX.out.2.1.below hb1); have HB1 := Lib.hid hb1; clear hb1 hO)
    obtain ⟨hW, hZ⟩ := zero_box (w := w) (O := pcO B n1 d B' m1 d' B2 q1 d2) HRB.out (bt HBX.out.2.2.1 HB1.out) (by omega)
    obtain ⟨z0, z1, z2⟩ := HP0.cells hZ
    refine err_retW w _ X hW HX0.out ?_
    simp [results, Tryd.results37, go_sem, z0, z1, z2]
  subst hX0
  by_cases hbb : fr < 0 ∨ to < fr ∨ (q : Int) < to
  · rw [cutErr2 hbb]
    have hb2 : fr < 0 ∨ (¬ fr < 0 ∧ to < fr) ∨ (¬ fr < 0 ∧ ¬ to < fr ∧ (q : Int) < to) := by omega
    clear hbb
    rcases hb2 with hb2 | ⟨hb3, hb2⟩ | ⟨hb3, hb4, hb2⟩
    all_goals
      go_enter Tryd.func37, Tryd.ntmps37
      go_wp2_with (go_at_call 18; (with_reducible refine (PL.out _ (HP.out _ HBX.out.2.2.1)).mono ?_); rintro e W1 ⟨B, n1, d, B', m1, d', B2, q1, d2, E, rfl, hO, hb1⟩; obtain ⟨r0, r1, r2⟩ := HP0.cells (HBX.out.2.1.below hb1); obtain ⟨p0, p1, p2⟩ := HP0.cells ((HBX.out.1.below hb1).below (ba W1 (pcO B n1 d B' m1 d' B2 q1 d2))); have f0 := (HBX.out.2.1.below hb1).frozen 0; have f1 := (HBX.out.2.1.below hb1).frozen 1; have f2 := (HBX.out.2.1.below hb1).frozen 2; have hlr := (HBX.out.2.1.below hb1).lt; have HRB := Lib.hid (HBX.out.2.1.below hb1); have HB1 := Lib.hid hb1; clear hb1 hO)
      obtain ⟨hW, hZ⟩ := zero_box (w := w) (O := pcO B n1 d B' m1 d' B2 q1 d2) HRB.out (bt HBX.out.2.2.1 HB1.out) (by omega)
      obtain ⟨z0, z1, z2⟩ := HP0.cells hZ
      refine err_retW w _ 1 hW (by omega) ?_
      simp [results, Tryd.results37, go_sem, z0, z1, z2]
  rw [cutErr3 hbb]
  obtain ⟨f, rfl⟩ := Int.eq_ofNat_of_zero_le (show 0 ≤ fr by omega)
  obtain ⟨t, rfl⟩ := Int.eq_ofNat_of_zero_le (show 0 ≤ to by omega)
  have hft : f ≤ t := by omega
  have htq : t ≤ q := by omega
  have hfi : (f : Int) ≤ (t : Int) := by omega
  have hti : (t : Int) ≤ (q : Int) := by omega
  have hd1 : decide ((f : Int) < 0) = false := decide_eq_false (by omega)
  have hd2 : decide ((t : Int) < (f : Int)) = false := decide_eq_false (by omega)
  have hd3 : decide ((q : Int) < (t : Int)) = false := decide_eq_false (by omega)
  have hd4 : decide (t < f) = false := decide_eq_false (by omega)
  have hd5 : decide (q < t) = false := decide_eq_false (by omega)
  clear hbb
  rw [Int.toNat_natCast, Int.toNat_natCast]
  go_enter Tryd.func37, Tryd.ntmps37
  go_wp2_with (go_at_call 18; (with_reducible refine (PL.out _ (HP.out _ HBX.out.2.2.1)).mono ?_); rintro e W1 ⟨B, n1, d, B', m1, d', B2, q1, d2, E, rfl, hO, hb1⟩; rw [oC_ok, oC_ok, oC_ok] at hO; obtain rfl : n1 = n := hO.o3.hn.trans HLC.out.1.symm; obtain rfl : m1 = m := hO.o3.hm.trans HLC.out.2.symm; obtain rfl : q1 = q := hO.o3.hq.trans HGL.out.1; obtain ⟨p0, p1, p2⟩ := HP0.cells ((HBX.out.1.below hb1).below (ba W1 (pcO B n1 d B' m1 d' B2 q1 d2))); have hlr := (HBX.out.2.1.below hb1).lt; have HB1 := Lib.hid (And.intro (HBX.out.1.below hb1) (And.intro (HBX.out.2.1.below hb1) (And.intro hO (bt HBX.out.2.2.1 hb1)))); clear hb1 hO)
  have HR0 : Hid (CtR w w.heap.size (W1.heap.size + 2) W1.heap.size (W1.heap.size + 1) (w.heap.size + 1) w.heap.size #[.slice A n1 c, .slice A' m1 c', .slice A2 q1 cq] B n1 d B' m1 d' B2 q1 d2 C S (hkL f t 0 G) E none 0 0 (ctO f P E 0) ((W1.alloc (pcO B n1 d B' m1 d' B2 q1 d2)).alloc (pcO B n1 d B' m1 d' none 0 0))) := by
    have h1 := heap_alloc_new W1 (pcO B n1 d B' m1 d' B2 q1 d2)
    have h2 := heap_alloc_new (W1.alloc (pcO B n1 d B' m1 d' B2 q1 d2)) (pcO B n1 d B' m1 d' none 0 0)
    rw [World.size_alloc] at h2
    refine ⟨((HB1.out.2.2.1.below (bt (ba _ _) (ba _ _))).more (by first | (simp; done) | (simp; omega))), fun hq g hg => ?_, ⟨by simp [ctO, evC], .inl ⟨rfl, rfl⟩⟩, Blk.below (show Blk (W1.alloc (pcO B n1 d B' m1 d' B2 q1 d2)) W1.heap.size 28 #[.slice B n1 d, .slice B' m1 d', .slice B2 q1 d2] from h1) (ba _ _), h2, Blk.below HB1.out.2.1 (bt (ba _ _) (ba _ _)), Blk.below HB1.out.1 (bt (ba _ _) (ba _ _)), bt HB1.out.2.2.2 (bt (ba _ _) (ba _ _))⟩
    obtain ⟨g2, cur, e1, e2, e3, _⟩ := HB1.out.2.2.1.e3.2.2 hq
    rw [hg] at e1
    injection e1 with e1
    injection e1 with e1
    subst e1
    have := e3.lt
    omega
  have hlw : w.heap.size + 1 < W1.heap.size := hlr
  clear p0 p1 p2 hlr
  go_loopw [11] (fun iv wr => ∃ (i k : Nat) (B3 : Option Addr) (d3 : Nat), f ≤ i ∧ i ≤ t ∧ iv = .int .i64 i ∧ Hid (i = f + k) ∧ Hid (CtR w w.heap.size (W1.heap.size + 2) W1.heap.size (W1.heap.size + 1) (w.heap.size + 1) w.heap.size #[.slice A n1 c, .slice A' m1 c', .slice A2 q1 cq] B n1 d B' m1 d' B2 q1 d2 C S (hkL f t k G) E B3 k d3 (ctO f P E k) wr)) (fun i _ => t - (intOf i).toNat)
  case atStart => exact ⟨f, 0, none, 0, by omega, by omega, rfl, rfl, HR0.out⟩
  case round =>
    obtain ⟨i, k, B3, d3, hfi2, hit, rfl, HI, HR⟩ := hrel
    obtain ⟨o0, o1, o2⟩ := HP0.cells HR.out.ox
    obtain ⟨q0, q1', q2⟩ := HP0.cells HR.out.qx
    obtain ⟨p0, p1, p2⟩ := HP0.cells HR.out.px
    have lo := HR.out.ox.lt
    have lq := HR.out.qx.lt
    have lp := HR.out.px.lt
    by_cases hlt : i < t
    · have hkn : (i : Int) < (t : Int) := by omega
      have hiq : i < q1 := by omega
      have hiqn : (i : Int) < (q1 : Int) := by omega
      have hGk : G[i]? = some (G.getD i z6) := by
        have : i < G.length := by have := HGL.out.1; omega
        simp [List.getD_eq_getElem?_getD, List.getElem?_eq_getElem this]
      have HY : Hid ((hkL f t k G)[i]? = some (G.getD i z6)) := by unfold Hid; rw [hkL_at f t G k _ (Nat.le_of_eq HI.out.symm)]; exact hGk
      have hyl := HGL.out.2 _ (List.mem_of_getElem? hGk)
      obtain ⟨ge, x, rfl, _, hge, hx, ⟨c0, c1, c2, c3, c4, c5⟩, _, _, _, _⟩ := HR.out.pc.sign HY.out
      obtain ⟨k1, k2⟩ := HR.out.pc.e2 _ _ _ hx HY.out
      have HEX := Lib.hid (And.intro hx (And.intro k1 k2))
      obtain ⟨gp, op, sap, scp, hA2, hgp, hPk, _, ⟨_, s1, s2, s3, _, _⟩, _⟩ := (HP.out _ HR.out.lo).es.at hiq
      subst hA2
      clear hx k1 k2 hPk
      have HGD : Hid (G.getD i z6 = G.getD i z6) := rfl
      obtain ⟨y, hy⟩ : ∃ y, G.getD i z6 = y := ⟨_, rfl⟩
      rw [hy] at HY HEX hyl c0 c1 c2 c3 c4 c5
      have HYD := Lib.hid hy
      clear hy
      obtain ⟨z, hz⟩ : ∃ z, P.getD i z6 = z := ⟨_, rfl⟩
      rw [hz] at s1 s2 s3
      have HZD := Lib.hid hz
      clear hz
      obtain ⟨bar, v, dd, tt, tie, L⟩ := y
      obtain ⟨zb, zv, zd, zt, ztie, zL⟩ := z
      dsimp only at c0 c1 c2 c3 c4 c5 s1 s2 s3 hyl
      by_cases hk0 : i = f
      · have HI0 := Lib.hid hk0
        have hk0i : ¬ ((f : Int) < (i : Int)) := by omega
        clear hk0
        go_wp2_with (fail)
        have HS0 : Hid (CtR w w.heap.size (W1.heap.size + 2) W1.heap.size (W1.heap.size + 1) (w.heap.size + 1) w.heap.size #[.slice A n1 c, .slice A' m1 c', .slice (some ⟨gp, op, none⟩) q1 cq] B n1 d B' m1 d' (some ⟨ge, 0, none⟩) q1 d2 C S ((hkL f t k G).set i ⟨bar, v, dd, tt, tie, mpK (cutS t i) 0 L⟩) E B3 k d3 (ctO f P E k) (wr.alloc (.cells #[.bool bar, .int .i64 v, .bool dd, .bool tt, .bool false, .slice x.sa L.length x.sc] 41))) := by
          unfold Hid
          rw [mpK_zero, set_same HY.out]
          exact HR.out.below (ba _ _)
        have HB0 : Hid (Blk (wr.alloc (.cells #[.bool bar, .int .i64 v, .bool dd, .bool tt, .bool false, .slice x.sa L.length x.sc] 41)) wr.heap.size 41 #[.bool bar, .int .i64 v, .bool dd, .bool tt, .bool false, .slice x.sa L.length x.sc]) := heap_alloc_new wr _
        have hbr : w.heap.size ≤ wr.heap.size := HR.out.lo.size
        clear c0 c1 c2 c3 c4 c5 s1 s2 s3 o0 o1 o2 q0 q1' q2 p0 p1 p2 lp lq
        obtain ⟨xb, hxb⟩ : ∃ xb, wr.heap.size = xb := ⟨_, rfl⟩
        obtain ⟨wy, hwy⟩ : ∃ wy, wr.alloc (.cells #[.bool bar, .int .i64 v, .bool dd, .bool tt, .bool false, .slice x.sa L.length x.sc] 41) = wy := ⟨_, rfl⟩
        rw [hwy] at HS0 HB0 ⊢
        rw [hxb] at HB0 ⊢
        clear hwy hxb hge hgp lo
        go_loopw [13] (fun jv wx => ∃ j : Nat, j ≤ L.length ∧ jv = .int .i64 j ∧ Hid (CtR w w.heap.size (W1.heap.size + 2) W1.heap.size (W1.heap.size + 1) (w.heap.size + 1) w.heap.size #[.slice A n1 c, .slice A' m1 c', .slice (some ⟨gp, op, none⟩) q1 cq] B n1 d B' m1 d' (some ⟨ge, 0, none⟩) q1 d2 C S ((hkL f t k G).set i ⟨bar, v, dd, tt, tie, mpK (cutS t i) j L⟩) E B3 k d3 (ctO f P E k) wx) ∧ Hid (Blk wx xb 41 #[.bool bar, .int .i64 v, .bool dd, .bool tt, .bool false, .slice x.sa L.length x.sc])) (fun jv _ => L.length - (intOf jv).toNat)
        case atStart => exact ⟨0, by omega, rfl, HS0.out, HB0.out⟩
        case round =>
          obtain ⟨j, hj, rfl, HS, HB⟩ := hrel
          have xc5 := HB.out.cell 5
          simp at xc5
          have lx := HB.out.lt
          have hYL : ((hkL f t k G).set i ⟨bar, v, dd, tt, tie, mpK (cutS t i) j L⟩)[i]? = some ⟨bar, v, dd, tt, tie, mpK (cutS t i) j L⟩ := List.getElem?_set_self (List.getElem?_eq_some_iff.1 HY.out).1
          have HYL := Lib.hid hYL
          clear hYL
          by_cases hjl : j < L.length
          · have hji : (j : Int) < ((L.length : Nat) : Int) := by omega
            have hsj : L[j]? = some (L.getD j z5) := by simp [List.getD_eq_getElem?_getD, List.getElem?_eq_getElem hjl]
            obtain ⟨x', g, hx', hsa, hsn, hlg, h4, hfz, ⟨cs, hBs⟩, hnext⟩ := HS.out.stop (Nat.le_refl _) HYL.out (show (mpK (cutS t i) j L)[j]? = some (L.getD j z5) by rw [mpK_at _ j _ hjl]; exact hsj)
            obtain rfl : x = x' := by
              have := HEX.out.1
              rw [hx'] at this
              injection this with this
              exact this.symm
            have hgx := hBs.ne HB.out (by decide)
            have hxg : xb ≠ g := fun e => hgx e.symm
            rw [hsa] at xc5
            have HM := Lib.hid (mpK_set (cutS t i) j L _ hsj)
            generalize L.getD j z5 = s at *
            obtain ⟨sc0, sf, sr, sg, sh⟩ := s
            dsimp only at hnext h4
            simp only [List.set_set] at hnext
            have HNX : Hid (∀ u : Int, u = min sh ((t : Int) - 1 - i) → Hid (CtR w w.heap.size (W1.heap.size + 2) W1.heap.size (W1.heap.size + 1) (w.heap.size + 1) w.heap.size #[.slice A n1 c, .slice A' m1 c', .slice (some ⟨gp, op, none⟩) q1 cq] B n1 d B' m1 d' (some ⟨ge, 0, none⟩) q1 d2 C S ((hkL f t k G).set i ⟨bar, v, dd, tt, tie, mpK (cutS t i) (j + 1) L⟩) E B3 k d3 (ctO f P E k) (wr.setCell ⟨g, j * 5 + 4, none⟩ (.int .i64 u)).drew) ∧ Hid (Blk (wr.setCell ⟨g, j * 5 + 4, none⟩ (.int .i64 u)).drew xb 41 #[.bool bar, .int .i64 v, .bool dd, .bool tt, .bool false, .slice x.sa L.length x.sc])) := fun u hu => by
              subst hu
              constructor
              · have h := (hnext (min sh ((t : Int) - 1 - i))).below (Below.refl _ _).drew
                rw [show (⟨sc0, sf, sr, sg, min sh ((t : Int) - 1 - i)⟩ : St) = cutS t i ⟨sc0, sf, sr, sg, sh⟩ from rfl, HM.out] at h
                exact h
              · exact (HB.out.setOther hxg (j * 5 + 4) _).below (Below.refl _ _).drew
            have f4 := hfz (j * 5 + 4)
            clear hfz hnext hsj hBs hx' hsn hsa
            go_wp2_with (fail)
            go_still_tail 14, (by kernel_rfl)
            go_wp2_with (fail)
            all_goals
              go_roundw
              case rel => exact ⟨j + 1, by omega, by first | rfl | go_num, (HNX.out _ (by omega)).1, (HNX.out _ (by omega)).2⟩
              case measure => simp [intOf]; omega
          · obtain rfl : j = L.length := by omega
            obtain ⟨o0, o1, o2⟩ := HP0.cells HS.out.ox
            have lo := HS.out.ox.lt
            have xc0 := HB.out.cell 0
            have xc1 := HB.out.cell 1
            have xc2 := HB.out.cell 2
            have xc3 := HB.out.cell 3
            have xc4 := HB.out.cell 4
            simp at xc0 xc1 xc2 xc3 xc4
            have HEND : Hid (CtR w w.heap.size (W1.heap.size + 2) W1.heap.size (W1.heap.size + 1) (w.heap.size + 1) w.heap.size #[.slice A n1 c, .slice A' m1 c', .slice (some ⟨gp, op, none⟩) q1 cq] B n1 d B' m1 d' (some ⟨ge, 0, none⟩) q1 d2 C S (hkL f t (k + 1) G) E B3 k d3 (ctO f P E k) wr) := by
              have h := HS.out
              rw [mpK_all (cutS t i) _ L (Nat.le_refl _)] at h
              have e : hkL f t (k + 1) G = (hkL f t k G).set i ⟨bar, v, dd, tt, tie, L.map (cutS t i)⟩ := by
                rw [hkL, ← HI.out, HYD.out]
              unfold Hid
              rw [e]
              exact h
            have HNE : Hid (evC (ctO f P E k) ++ [.bool bar, .int .i64 v, .bool dd, .bool tt, .bool false, .slice x.sa L.length x.sc] = evC (ctO f P E k ++ [ctT f P E k])) := by
              obtain ⟨hx, ⟨k1, k2, k3, k4, k5, k6⟩, _⟩ := HEX.out
              have hxd : E.getD (f + k) zEvT = x := by rw [← HI.out]; simp [List.getD_eq_getElem?_getD, hx]
              have hkk := HI.out
              unfold Hid
              rw [evC_snoc]
              rw [show k = 0 by have := HI0.out; omega] at hxd ⊢
              unfold ctT
              rw [if_pos rfl, hxd]
              simp only [k1, k2, k3, k4, k6]
            have hkb : k ≤ 65536 := by have := HI.out; omega
            clear HS HYL
            go_wp2_with (at_builtin; (refine wpList_append_own _ rfl _ _ 26 rfl (W1.heap.size + 2) 41 i0 _ 6 56 Tryd.underlying26 ii1 ii2 ii3 ii4 rfl (by decide) (.slice B3 k d3) k _ rfl ((HEND.out.row).alloc _) ⟨wr.heap.size, 0, none⟩ 1 1 [.bool bar, .int .i64 v, .bool dd, .bool tt, .bool false, .slice x.sa L.length x.sc] rfl rfl ?d1 ?d2 ?d3 ?d4 ?d5 ?_))
            case d1 =>
              have := World.news_of_block (cs := #[.bool bar, .int .i64 v, .bool dd, .bool tt, .bool false, .slice x.sa L.length x.sc]) (t := 41) (fr := (0, 0)) (heap_alloc_new wr _)
              simpa using this
            case d2 =>
              intro u hu
              simp at hu
              (repeat' (rcases hu with rfl | hu)) <;> first | rfl | (subst hu; rfl)
            case d3 => unfold maxLen; omega
            case d4 => omega
            case d5 => simp; omega
            intro v' w7 hown' hgrow _
            obtain ⟨A3, d7, rfl, ho7, hC7⟩ := HEND.out.app (by omega) (by omega) (by omega) (by omega) (by omega) HNE.out hown' hgrow
            obtain ⟨o0, o1, o2⟩ := HP0.cells ho7
            have f2 := ho7.frozen 2
            have HC7 := Lib.hid hC7
            clear hown' hgrow ho7 hC7
            go_wp2_with (fail)
            go_roundw
            case rel => exact ⟨i + 1, k + 1, A3, d7, by omega, by omega, by first | rfl | go_num, by have := HI.out; unfold Hid; omega, by rw [ctO_succ]; exact HC7.out⟩
            case measure => simp [intOf]; omega
      · have HI0 := Lib.hid hk0
        have hk0i : (f : Int) < (i : Int) := by omega
        clear hk0
        go_wp2_with (fail)
        have HS0 : Hid (CtR w w.heap.size (W1.heap.size + 2) W1.heap.size (W1.heap.size + 1) (w.heap.size + 1) w.heap.size #[.slice A n1 c, .slice A' m1 c', .slice (some ⟨gp, op, none⟩) q1 cq] B n1 d B' m1 d' (some ⟨ge, 0, none⟩) q1 d2 C S ((hkL f t k G).set i ⟨bar, v, dd, tt, tie, mpK (cutS t i) 0 L⟩) E B3 k d3 (ctO f P E k) (wr.alloc (.cells #[.bool bar, .int .i64 zv, .bool zd, .bool zt, .bool tie, .slice x.sa L.length x.sc] 41))) := by
          unfold Hid
          rw [mpK_zero, set_same HY.out]
          exact HR.out.below (ba _ _)
        have HB0 : Hid (Blk (wr.alloc (.cells #[.bool bar, .int .i64 zv, .bool zd, .bool zt, .bool tie, .slice x.sa L.length x.sc] 41)) wr.heap.size 41 #[.bool bar, .int .i64 zv, .bool zd, .bool zt, .bool tie, .slice x.sa L.length x.sc]) := heap_alloc_new wr _
        have hbr : w.heap.size ≤ wr.heap.size := HR.out.lo.size
        clear c0 c1 c2 c3 c4 c5 s1 s2 s3 o0 o1 o2 q0 q1' q2 p0 p1 p2 lp lq
        obtain ⟨xb, hxb⟩ : ∃ xb, wr.heap.size = xb := ⟨_, rfl⟩
        obtain ⟨wy, hwy⟩ : ∃ wy, wr.alloc (.cells #[.bool bar, .int .i64 zv, .bool zd, .bool zt, .bool tie, .slice x.sa L.length x.sc] 41) = wy := ⟨_, rfl⟩
        rw [hwy] at HS0 HB0 ⊢
        rw [hxb] at HB0 ⊢
        clear hwy hxb hge hgp lo
        go_loopw [13] (fun jv wx => ∃ j : Nat, j ≤ L.length ∧ jv = .int .i64 j ∧ Hid (CtR w w.heap.size (W1.heap.size + 2) W1.heap.size (W1.heap.size + 1) (w.heap.size + 1) w.heap.size #[.slice A n1 c, .slice A' m1 c', .slice (some ⟨gp, op, none⟩) q1 cq] B n1 d B' m1 d' (some ⟨ge, 0, none⟩) q1 d2 C S ((hkL f t k G).set i ⟨bar, v, dd, tt, tie, mpK (cutS t i) j L⟩) E B3 k d3 (ctO f P E k) wx) ∧ Hid (Blk wx xb 41 #[.bool bar, .int .i64 zv, .bool zd, .bool zt, .bool tie, .slice x.sa L.length x.sc])) (fun jv _ => L.length - (intOf jv).toNat)
        case atStart => exact ⟨0, by omega, rfl, HS0.out, HB0.out⟩
        case round =>
          obtain ⟨j, hj, rfl, HS, HB⟩ := hrel
          have xc5 := HB.out.cell 5
          simp at xc5
          have lx := HB.out.lt
          have hYL : ((hkL f t k G).set i ⟨bar, v, dd, tt, tie, mpK (cutS t i) j L⟩)[i]? = some ⟨bar, v, dd, tt, tie, mpK (cutS t i) j L⟩ := List.getElem?_set_self (List.getElem?_eq_some_iff.1 HY.out).1
          have HYL := Lib.hid hYL
          clear hYL
          by_cases hjl : j < L.length
          · have hji : (j : Int) < ((L.length : Nat) : Int) := by omega
            have hsj : L[j]? = some (L.getD j z5) := by simp [List.getD_eq_getElem?_getD, List.getElem?_eq_getElem hjl]
            obtain ⟨x', g, hx', hsa, hsn, hlg, h4, hfz, ⟨cs, hBs⟩, hnext⟩ := HS.out.stop (Nat.le_refl _) HYL.out (show (mpK (cutS t i) j L)[j]? = some (L.getD j z5) by rw [mpK_at _ j _ hjl]; exact hsj)
            obtain rfl : x = x' := by
              have := HEX.out.1
              rw [hx'] at this
              injection this with this
              exact this.symm
            have hgx := hBs.ne HB.out (by decide)
            have hxg : xb ≠ g := fun e => hgx e.symm
            rw [hsa] at xc5
            have HM := Lib.hid (mpK_set (cutS t i) j L _ hsj)
            generalize L.getD j z5 = s at *
            obtain ⟨sc0, sf, sr, sg, sh⟩ := s
            dsimp only at hnext h4
            simp only [List.set_set] at hnext
            have HNX : Hid (∀ u : Int, u = min sh ((t : Int) - 1 - i) → Hid (CtR w w.heap.size (W1.heap.size + 2) W1.heap.size (W1.heap.size + 1) (w.heap.size + 1) w.heap.size #[.slice A n1 c, .slice A' m1 c', .slice (some ⟨gp, op, none⟩) q1 cq] B n1 d B' m1 d' (some ⟨ge, 0, none⟩) q1 d2 C S ((hkL f t k G).set i ⟨bar, v, dd, tt, tie, mpK (cutS t i) (j + 1) L⟩) E B3 k d3 (ctO f P E k) (wr.setCell ⟨g, j * 5 + 4, none⟩ (.int .i64 u)).drew) ∧ Hid (Blk (wr.setCell ⟨g, j * 5 + 4, none⟩ (.int .i64 u)).drew xb 41 #[.bool bar, .int .i64 zv, .bool zd, .bool zt, .bool tie, .slice x.sa L.length x.sc])) := fun u hu => by
              subst hu
              constructor
              · have h := (hnext (min sh ((t : Int) - 1 - i))).below (Below.refl _ _).drew
                rw [show (⟨sc0, sf, sr, sg, min sh ((t : Int) - 1 - i)⟩ : St) = cutS t i ⟨sc0, sf, sr, sg, sh⟩ from rfl, HM.out] at h
                exact h
              · exact (HB.out.setOther hxg (j * 5 + 4) _).below (Below.refl _ _).drew
            have f4 := hfz (j * 5 + 4)
            clear hfz hnext hsj hBs hx' hsn hsa
            go_wp2_with (fail)
            go_still_tail 14, (by kernel_rfl)
            go_wp2_with (fail)
            all_goals
              go_roundw
              case rel => exact ⟨j + 1, by omega, by first | rfl | go_num, (HNX.out _ (by omega)).1, (HNX.out _ (by omega)).2⟩
              case measure => simp [intOf]; omega
          · obtain rfl : j = L.length := by omega
            obtain ⟨o0, o1, o2⟩ := HP0.cells HS.out.ox
            have lo := HS.out.ox.lt
            have xc0 := HB.out.cell 0
            have xc1 := HB.out.cell 1
            have xc2 := HB.out.cell 2
            have xc3 := HB.out.cell 3
            have xc4 := HB.out.cell 4
            simp at xc0 xc1 xc2 xc3 xc4
            have HEND : Hid (CtR w w.heap.size (W1.heap.size + 2) W1.heap.size (W1.heap.size + 1) (w.heap.size + 1) w.heap.size #[.slice A n1 c, .slice A' m1 c', .slice (some ⟨gp, op, none⟩) q1 cq] B n1 d B' m1 d' (some ⟨ge, 0, none⟩) q1 d2 C S (hkL f t (k + 1) G) E B3 k d3 (ctO f P E k) wr) := by
              have h := HS.out
              rw [mpK_all (cutS t i) _ L (Nat.le_refl _)] at h
              have e : hkL f t (k + 1) G = (hkL f t k G).set i ⟨bar, v, dd, tt, tie, L.map (cutS t i)⟩ := by
                rw [hkL, ← HI.out, HYD.out]
              unfold Hid
              rw [e]
              exact h
            have HNE : Hid (evC (ctO f P E k) ++ [.bool bar, .int .i64 zv, .bool zd, .bool zt, .bool tie, .slice x.sa L.length x.sc] = evC (ctO f P E k ++ [ctT f P E k])) := by
              obtain ⟨hx, ⟨k1, k2, k3, k4, k5, k6⟩, _⟩ := HEX.out
              have hxd : E.getD (f + k) zEvT = x := by rw [← HI.out]; simp [List.getD_eq_getElem?_getD, hx]
              have hkk := HI.out
              unfold Hid
              rw [evC_snoc]
              have hpd : P.getD (f + k) z6 = ⟨zb, zv, zd, zt, ztie, zL⟩ := by rw [← HI.out]; exact HZD.out
              unfold ctT
              rw [if_neg (fun e => HI0.out (by omega)), hxd, hpd]
              simp only [upT, k1, k5, k6]
            have hkb : k ≤ 65536 := by have := HI.out; omega
            clear HS HYL
            go_wp2_with (at_builtin; (refine wpList_append_own _ rfl _ _ 26 rfl (W1.heap.size + 2) 41 i0 _ 6 56 Tryd.underlying26 ii1 ii2 ii3 ii4 rfl (by decide) (.slice B3 k d3) k _ rfl ((HEND.out.row).alloc _) ⟨wr.heap.size, 0, none⟩ 1 1 [.bool bar, .int .i64 zv, .bool zd, .bool zt, .bool tie, .slice x.sa L.length x.sc] rfl rfl ?d1 ?d2 ?d3 ?d4 ?d5 ?_))
            case d1 =>
              have := World.news_of_block (cs := #[.bool bar, .int .i64 zv, .bool zd, .bool zt, .bool tie, .slice x.sa L.length x.sc]) (t := 41) (fr := (0, 0)) (heap_alloc_new wr _)
              simpa using this
            case d2 =>
              intro u hu
              simp at hu
              (repeat' (rcases hu with rfl | hu)) <;> first | rfl | (subst hu; rfl)
            case d3 => unfold maxLen; omega
            case d4 => omega
            case d5 => simp; omega
            intro v' w7 hown' hgrow _
            obtain ⟨A3, d7, rfl, ho7, hC7⟩ := HEND.out.app (by omega) (by omega) (by omega) (by omega) (by omega) HNE.out hown' hgrow
            obtain ⟨o0, o1, o2⟩ := HP0.cells ho7
            have f2 := ho7.frozen 2
            have HC7 := Lib.hid hC7
            clear hown' hgrow ho7 hC7
            go_wp2_with (fail)
            go_roundw
            case rel => exact ⟨i + 1, k + 1, A3, d7, by omega, by omega, by first | rfl | go_num, by have := HI.out; unfold Hid; omega, by rw [ctO_succ]; exact HC7.out⟩
            case measure => simp [intOf]; omega
    · obtain rfl : i = t := by omega
      obtain ⟨r0, r1, r2⟩ := HP0.cells HR.out.rs
      have f0 := HR.out.rs.frozen 0
      have f1 := HR.out.rs.frozen 1
      have f2 := HR.out.rs.frozen 2
      have lr := HR.out.rs.lt
      have hke : i - f = k := by have := HI.out; omega
      have HPO : Hid (PcOw wr w.heap.size B n1 d B' m1 d' B3 k d3 C S (ctL f i G P k)) := by
        have h := HR.out
        have hl := HGL.out.1
        refine ⟨h.pc.o3.crs, h.pc.o3.stp, h.pc.o3.hn, h.pc.o3.hm, by simp [ctL], ctO f P E k, by simp [ctO, ctL], ct_cpe h.pc.e2 (by rw [h.pc.e1, hkL_len]) (by have := HI.out; omega), (Ow.of_own h.row).more (by omega)⟩
      have HKE := Lib.hid hke
      clear hke
      go_wp2_with (fail)
      have hR3 := ((HR.out.rs.set_ 0 (.slice B n1 d)).set_ 1 (.slice B' m1 d')).set_ 2 (.slice B3 k d3)
      have z0 := hR3.cell 0
      have z1 := hR3.cell 1
      have z2 := hR3.cell 2
      refine bodyPost_ret (v := .tuple #[pcV B n1 d B' m1 d' B3 k d3, .int .i64 0]) ?_ rfl ?_
      · simp at z0 z1 z2
        simp [results, Tryd.results37, go_sem, z0, z1, z2]
      · refine ⟨B, n1, d, B', m1, d', B3, k, d3, rfl, ?_, ((HR.out.lo.setCell (p := ⟨w.heap.size + 1, 0, none⟩) (by simp) _).setCell (p := ⟨w.heap.size + 1, 1, none⟩) (by simp) _).setCell (p := ⟨w.heap.size + 1, 2, none⟩) (by simp) _⟩
        rw [oC_ok, oC_ok, oC_ok, HKE.out]
        exact HPO.out.blkB (fun g T cs _ hT h2 => ((h2.setOther (h2.ne HR.out.rs hT) _ _).setOther (h2.ne HR.out.rs hT) _ _).setOther (h2.ne HR.out.rs hT) _ _)

end Go.Proofs.YtlmpoklakbjpnaaDoor
