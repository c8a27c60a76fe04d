/- Pieces: the reference's Terse. -/
import Derived.Test.YtdhjigaocamglaaDoorQbCmp9C
import Derived.Test.YtdhjigaocamglaaDoorQbTrn

namespace Go.Proofs.YtdhjigaocamglaaDoor
open Go Go.RowKit

end Go.Proofs.YtdhjigaocamglaaDoor

/- Pieces, plain: Plain and Terse change the signs alone and undo each other. -/
namespace Go.Proofs.YtdhjigaocamglaaDoor
open Go Go.RowKit

def okS (s : Sg) : Bool := okB s.v s.d s.t
theorem okS_ne {s : Sg} (h : okS s = true) : s.v ≠ 0 ∧ 1 ≤ s.v ∧ s.v ≤ 7 := by
  simp [okS, okB] at h
  omega
theorem frc_ok : ∀ (P : List EvP) (s : Sg), SgR P → okS s = true → ∀ x ∈ frcL s P, okS x = true
  | [], _, _, _, x, hx => by simp [frcL] at hx
  | y :: P, s, hP, hs, x, hx => by
    have hg : okS (sgF y s) = true := by
      unfold sgF
      split
      · exact hs
      · rename_i h
        exact (hP y List.mem_cons_self).2 h
    rw [frcL] at hx
    rcases List.mem_cons.1 hx with rfl | hx
    · exact hg
    · exact frc_ok P _ (fun z hz => hP z (List.mem_cons_of_mem _ hz)) hg x hx
theorem frc_ok0 {C : List Cr} {S : List Int} {P : List EvP} (h : pcErr C S P = 0) : ∀ x ∈ frcL s0g P, okS x = true := by
  cases P with
  | nil => intro x hx; simp [frcL] at hx
  | cons y P =>
    have hR := sgr_of h
    have hv := sgr_head h
    have hg : okS (sgF y s0g) = true := by
      unfold sgF
      rw [if_neg hv]
      exact (hR y List.mem_cons_self).2 hv
    intro x hx
    rw [frcL] at hx
    rcases List.mem_cons.1 hx with rfl | hx
    · exact hg
    · exact frc_ok P _ (fun z hz => hR z (List.mem_cons_of_mem _ hz)) hg x hx

/-! ### What the program's functions make, as lists -/
/-! ### Signs in force of the results -/
theorem terG_len : ∀ (F : List Sg) (b : Bool) (s : Sg), (terG b s F).length = F.length
  | [], _, _ => rfl
  | x :: r, b, s => by simp [terG, terG_len r]
theorem setG_at : ∀ (P : List EvP) (G : List Sg) (j : Nat), G.length = P.length → (setG P G)[j]? = (P[j]?).bind fun y => (G[j]?).map fun g => upS y g
  | [], [], _, _ => by simp [setG]
  | [], _ :: _, _, h => by simp at h
  | _ :: _, [], _, h => by simp at h
  | y :: P, g :: G, 0, _ => by simp [setG]
  | y :: P, g :: G, j + 1, h => by simpa [setG] using setG_at P G j (by simpa using h)
theorem sgn_ok {j : Nat} {y : EvP} {g : Sg} (h : okS g = true) : sgnB j (upS y g) = false := by
  have hv := (okS_ne h).1
  unfold sgnB
  have hw : wrB (upS y g).v (upS y g).d (upS y g).t = true := by simp [wrB, upS, hv]
  have hk : okB (upS y g).v (upS y g).d (upS y g).t = true := h
  rw [hw, hk]
  simp
theorem sgn_zero {j : Nat} {y : EvP} : sgnB (j + 1) (upS y s0g) = false := by simp [sgnB, upS, s0g, wrB]
/-- A piece with its signs changed to these is valid. -/
theorem set_valid {C : List Cr} {S : List Int} {P : List EvP} (h : pcErr C S P = 0) {G : List Sg} (hl : G.length = P.length) (hG : ∀ (j : Nat) (g : Sg), G[j]? = some g → okS g = true ∨ (g = s0g ∧ 0 < j)) : pcErr C S (setG P G) = 0 := by
  refine pcErr_keep h (setG_len P G).symm (fun j x y hx hy => ?_)
  have hj : j < G.length := by rw [hl]; exact (List.getElem?_eq_some_iff.1 hx).1
  rw [setG_at P G j hl, hx, List.getElem?_eq_getElem hj] at hy
  obtain rfl : upS x G[j] = y := by simpa using hy
  refine ⟨rfl, rfl, ?_⟩
  rcases hG j _ (List.getElem?_eq_getElem hj) with h1 | ⟨h1, h2⟩
  · exact sgn_ok h1
  · rw [h1]
    obtain ⟨i, rfl⟩ : ∃ i, j = i + 1 := ⟨j - 1, by omega⟩
    exact sgn_zero
theorem terG_ok : ∀ (F : List Sg) (b : Bool) (s : Sg), (∀ x ∈ F, okS x = true) → ∀ (j : Nat) (g : Sg), (terG b s F)[j]? = some g → okS g = true ∨ (g = s0g ∧ (b = true ∨ 0 < j))
  | [], _, _, _, j, g, h => by simp [terG] at h
  | x :: F, b, s, hF, 0, g, h => by
    rw [terG] at h
    obtain rfl : (if (b && sqE x s) = true then s0g else x) = g := by simpa using h
    by_cases hb : (b && sqE x s) = true
    · rw [if_pos hb]
      rw [Bool.and_eq_true] at hb
      exact .inr ⟨rfl, .inl hb.1⟩
    · rw [if_neg hb]
      exact .inl (hF x List.mem_cons_self)
  | x :: F, b, s, hF, j + 1, g, h => by
    rw [terG] at h
    rcases terG_ok F true x (fun z hz => hF z (List.mem_cons_of_mem _ hz)) j g (by simpa using h) with h1 | ⟨h1, _⟩
    · exact .inl h1
    · exact .inr ⟨h1, .inr (by omega)⟩
end Go.Proofs.YtdhjigaocamglaaDoor

/- Pieces: Cut of the program, for any piece and numbers. -/
namespace Go.Proofs.YtdhjigaocamglaaDoor
open Go Go.RowKit

theorem box4 (W : World) (c1 c2 c3 c4 : Array Value) (T1 T2 T3 T4 : TypeId) : Blk ((((W.alloc (.cells c1 T1)).alloc (.cells c2 T2)).alloc (.cells c3 T3)).alloc (.cells c4 T4)) W.heap.size T1 c1 ∧ Blk ((((W.alloc (.cells c1 T1)).alloc (.cells c2 T2)).alloc (.cells c3 T3)).alloc (.cells c4 T4)) (W.heap.size + 1) T2 c2 ∧ Blk ((((W.alloc (.cells c1 T1)).alloc (.cells c2 T2)).alloc (.cells c3 T3)).alloc (.cells c4 T4)) (W.heap.size + 2) T3 c3 ∧
    Blk ((((W.alloc (.cells c1 T1)).alloc (.cells c2 T2)).alloc (.cells c3 T3)).alloc (.cells c4 T4)) (W.heap.size + 3) T4 c4 ∧ Below W.heap.size W ((((W.alloc (.cells c1 T1)).alloc (.cells c2 T2)).alloc (.cells c3 T3)).alloc (.cells c4 T4)) := by
  obtain ⟨h1, h2, h3, h4⟩ := box3 W c1 c2 c3 T1 T2 T3
  have h5 := heap_alloc_new (((W.alloc (.cells c1 T1)).alloc (.cells c2 T2)).alloc (.cells c3 T3)) (.cells c4 T4)
  rw [World.size_alloc, World.size_alloc, World.size_alloc] at h5
  exact ⟨h1.below (ba _ _), h2.below (ba _ _), h3.below (ba _ _), h5, bt h4 (ba _ _)⟩

theorem evC_sub (E : List EvT) (f k : Nat) : ((evC E).drop (f * 6)).take (k * 6) = evC ((E.drop f).take k) := by
  have hd : ∀ (f : Nat) (E : List EvT), (evC E).drop (f * 6) = evC (E.drop f) := by
    intro f
    induction f with
    | zero => intro E; simp
    | succ f ih =>
      intro E
      cases E with
      | nil => simp [evC]
      | cons x r =>
        rw [show (f + 1) * 6 = f * 6 + 6 by omega, List.drop_succ_cons, ← ih r]
        rfl
  have ht : ∀ (k : Nat) (E : List EvT), (evC E).take (k * 6) = evC (E.take k) := by
    intro k
    induction k with
    | zero => intro E; simp [evC]
    | succ k ih =>
      intro E
      cases E with
      | nil => simp [evC]
      | cons x r =>
        rw [show (k + 1) * 6 = k * 6 + 6 by omega, List.take_succ_cons]
        show _ = [.bool x.bar, .int .i64 x.v, .bool x.d, .bool x.t, .bool x.tie, .slice x.sa x.sn x.sc] ++ evC (r.take k)
        rw [← ih r]
        rfl
  rw [hd, ht]
theorem cut_sl {w : World} {B q d : Nat} {A2 : Option Addr} {E : List EvT} (h : Ow w B 51 6 A2 q d (evC E)) {f t : Nat} (h1 : f ≤ t) (h2 : t ≤ q) : CutSl w A2 d f t E := fun W hb => by
  have := ((h.below hb).sl).sub h1 h2
  rw [evC_sub] at this
  refine ⟨fun e => ?_, fun e => ?_⟩
  · rw [if_pos e, e, Nat.sub_self] at this
    exact this
  · rw [if_neg e] at this
    exact this
def cutErr (X fr to : Int) (q : Nat) : Int := if X ≠ 0 then X else if fr < 0 ∨ to < fr ∨ (q : Int) < to then 1 else 0
theorem cutErr1 {X fr to : Int} {q : Nat} (h : X ≠ 0) : cutErr X fr to q = X := if_pos h
theorem cutErr2 {fr to : Int} {q : Nat} (h : fr < 0 ∨ to < fr ∨ (q : Int) < to) : cutErr 0 fr to q = 1 := by unfold cutErr; rw [if_neg (by simp), if_pos h]
theorem cutErr3 {fr to : Int} {q : Nat} (h : ¬ (fr < 0 ∨ to < fr ∨ (q : Int) < to)) : cutErr 0 fr to q = 0 := by unfold cutErr; rw [if_neg (by simp), if_neg h]
theorem tp_n {P : List EvP} {N : Nat} (hP : P.length ≤ N) : ∀ p ∈ tpL P, p.n ≤ N := by
  have : ∀ (P : List EvP) (n : Nat) (v : Int) (d t : Bool) (fm : Int), ∀ p ∈ tmPL P n v d t fm, p.n < n + P.length := by
    intro P
    induction P with
    | nil => intro n v d t fm p hp; simp [tmPL] at hp
    | cons y r ih =>
      intro n v d t fm p hp
      unfold tmPL at hp
      split at hp
      all_goals
        rcases List.mem_cons.1 hp with rfl | hp
        · simp
        · have := ih _ _ _ _ _ p hp
          simp
          omega
  intro p hp
  have := this P 0 0 false false 0 p hp
  omega

set_option maxRecDepth 100000 in
set_option maxHeartbeats 6400000 in
theorem pcut_any (A : Option Addr) (n c : Nat) (A' : Option Addr) (m c' : Nat) (A2 : Option Addr) (q cq : Nat) (C : List Cr) (S : List Int) (P : List EvP) (fr to : Int) (w : World) (hP : PcIn w A n c A' m c' A2 q cq C S P) (hnb : n ≤ 1000000) (hmb : m ≤ 1000000) (hqb : q ≤ 65536) (hst : ∀ y ∈ P, y.L.length ≤ 1000000) :
    Calls Tryd.prog 27 #[pcV A n c A' m c' A2 q cq, .int .i64 fr, .int .i64 to] w (PcRes (cutErr (pcErr C S P) fr to q) C S (((rwO (cutSt fr to) () (tpL P)).1.drop fr.toNat).take (to.toNat - fr.toNat)) w) := by
  have HP : Hid (∀ w', Below w.heap.size w w' → PcIn w' A n c A' m c' A2 q cq C S P) := fun w' hb => hP.below hb
  have HP0 := Lib.hid hP
  have HST := Lib.hid hst
  have HBX := Lib.hid (box4 w #[.slice A n c, .slice A' m c', .slice A2 q cq] #[.int .i64 fr] #[.int .i64 to] #[.slice none 0 0, .slice none 0 0, .slice none 0 0] 28 3 3 28)
  obtain ⟨X, hX⟩ : ∃ X, pcErr C S P = X := ⟨_, rfl⟩
  have HX := Lib.hid hX
  rw [hX]
  clear hX hP hst
  by_cases hX0 : X = 0
  rotate_left
  · have hXb : (X != 0) = true := by simpa using hX0
    rw [cutErr1 hX0]
    have HX0 := Lib.hid hX0
    clear hX0
    go_enter Tryd.func27, Tryd.ntmps27
    go_wp2_with (go_at_call 35; refine (pcheck_any A n c A' m c' A2 q cq C S P _ (HP.out _ HBX.out.2.2.2.2) hnb hmb (by omega) HST.out).mono ?_; rintro e W1 ⟨rfl, hb1⟩; rw [HX.out]; have hR1 := HBX.out.2.2.2.1.below hb1; have r0 := hR1.cell 0; have r1 := hR1.cell 1; have r2 := hR1.cell 2; have f0 := hR1.frozen 0; have f1 := hR1.frozen 1; have f2 := hR1.frozen 2; simp at r0 r1 r2; have HB1 := Lib.hid hb1; clear hR1 hb1)
    exact err_retR w W1 _ (by omega) X (bt HBX.out.2.2.2.2 HB1.out) HX0.out (by simp [results, Tryd.results27, go_sem, World.cell?_setCell_same', World.cell?_setCell_other, r0, r1, r2])
  subst hX0
  by_cases hbb : fr < 0 ∨ to < fr ∨ (q : Int) < to
  · rw [cutErr2 hbb]
    have hb2 : fr < 0 ∨ (¬ fr < 0 ∧ to < fr) ∨ (¬ fr < 0 ∧ ¬ to < fr ∧ (q : Int) < to) := by omega
    clear hbb
    rcases hb2 with hb2 | ⟨hb3, hb2⟩ | ⟨hb3, hb4, hb2⟩
    all_goals
      go_enter Tryd.func27, Tryd.ntmps27
      go_wp2_with (go_at_call 35; refine (pcheck_any A n c A' m c' A2 q cq C S P _ (HP.out _ HBX.out.2.2.2.2) hnb hmb (by omega) HST.out).mono ?_; rintro e W1 ⟨rfl, hb1⟩; rw [HX.out]; have hR1 := HBX.out.2.2.2.1.below hb1; have hN1 := HBX.out.2.1.below hb1; have hN2 := HBX.out.2.2.1.below hb1; have hP1 := HBX.out.1.below hb1; have p2 := hP1.cell 2; have n0 := hN1.cell 0; have m0 := hN2.cell 0; have r0 := hR1.cell 0; have r1 := hR1.cell 1; have r2 := hR1.cell 2; have f0 := hR1.frozen 0; have f1 := hR1.frozen 1; have f2 := hR1.frozen 2; simp at n0 m0 p2 r0 r1 r2; have HB1 := Lib.hid hb1; clear hR1 hN1 hN2 hP1 hb1)
      exact err_retR w W1 _ (by omega) 1 (bt HBX.out.2.2.2.2 HB1.out) (by omega) (by simp [results, Tryd.results27, go_sem, World.cell?_setCell_same', World.cell?_setCell_other, r0, r1, r2])
  rw [cutErr3 hbb]
  obtain ⟨f, rfl⟩ := Int.eq_ofNat_of_zero_le (show 0 ≤ fr by omega)
  obtain ⟨t, rfl⟩ := Int.eq_ofNat_of_zero_le (show 0 ≤ to by omega)
  have hft : f ≤ t := by omega
  have htq : t ≤ q := by omega
  have hfi : (f : Int) ≤ (t : Int) := by omega
  have hti : (t : Int) ≤ (q : Int) := by omega
  clear hbb
  have RW : Hid (∀ W1 : World, Blk W1 (w.heap.size + 1) 3 #[.int .i64 f] → Blk W1 (w.heap.size + 2) 3 #[.int .i64 t] → Below w.heap.size w W1 → Calls Tryd.prog 36 #[pcV A n c A' m c' A2 q cq, .func (.func 57) #[] #[.pointer (some ⟨w.heap.size + 1, 0, none⟩), .pointer (some ⟨w.heap.size + 2, 0, none⟩)]] W1 (RwPostP (fun _ => False) n m q C S (rwO (cutSt f t) () (tpL P)).1 (CutR (w.heap.size + 1) (w.heap.size + 2) f t ()) W1)) := fun W1 hN1 hN2 hb => by
    have hPq := HP0.out.es.hq
    exact rewrite_any A n c A' m c' A2 q cq C S P w W1 hb HP0.out hnb hmb hqb HST.out (fun _ => False) (fun _ h => h.elim) 57 #[.pointer (some ⟨w.heap.size + 1, 0, none⟩), .pointer (some ⟨w.heap.size + 2, 0, none⟩)] (enters_of Tryd.func57 (by kernel_rfl) rfl) () (cutSt f t) (CutR (w.heap.size + 1) (w.heap.size + 2) f t) (fun s W W' h hb => ⟨(hb.block _ hN1.lt).trans h.1, (hb.block _ hN2.lt).trans h.2⟩) ⟨hN1, hN2⟩ (cutFn _ _ (fun p hp => ⟨HST.out _ (tmPL_y P 0 0 false false 0 p hp), tp_n (by omega) p hp⟩) _ _ f t hN1.lt hN2.lt (by omega) (by omega))
  go_enter Tryd.func27, Tryd.ntmps27
  go_wp2_with (first
    | (go_at_call 35; refine (pcheck_any A n c A' m c' A2 q cq C S P _ (HP.out _ HBX.out.2.2.2.2) hnb hmb (by omega) HST.out).mono ?_; rintro e W1 ⟨rfl, hb1⟩; rw [HX.out]; have hR1 := HBX.out.2.2.2.1.below hb1; have hN1 := HBX.out.2.1.below hb1; have hN2 := HBX.out.2.2.1.below hb1; have hP1 := HBX.out.1.below hb1; have n0 := hN1.cell 0; have m0 := hN2.cell 0; have p0 := hP1.cell 0; have p1 := hP1.cell 1; have p2 := hP1.cell 2; simp at n0 m0 p0 p1 p2; have HB1 := Lib.hid (And.intro hR1 (And.intro hN1 (And.intro hN2 (bt HBX.out.2.2.2.2 hb1)))); clear hR1 hN1 hN2 hP1 hb1)
    | (go_at_call 36; refine (RW.out W1 HB1.out.2.1 HB1.out.2.2.1 HB1.out.2.2.2).mono ?_; rintro e W2 ⟨B, d, B', d', B2, d2, rfl, hO, hRR, hK⟩; have hb2 : Below W1.heap.size W1 W2 := hK.below (fun _ _ h => h); have n0 := hRR.1.cell 0; have m0 := hRR.2.cell 0; simp at n0 m0; have hln := hRR.1.lt; have hlm := hRR.2.lt; have hR2 := HB1.out.1.below hb2; have hlr := hR2.lt; obtain ⟨E', e1, e2, e3⟩ := hO.evs; have HSL := Lib.hid (cut_sl e3 hft htq); have HE2 := Lib.hid (And.intro e1 e2); have hdq := e3.1; have HO := Lib.hid (And.intro hO (And.intro hb2 hR2)); clear hO hRR hK hb2 hR2 e1 e2 e3)
    | (go_at_call 59; (first | (with_reducible refine (rwCloneE_any _ (t - f) 0 _ _ (CutSl.eq HSL.out (ba W2 _) (by assumption)) (by omega)).mono ?_) | (with_reducible refine (rwCloneE_any _ (t - f) _ _ _ (CutSl.ne HSL.out (ba W2 _) (by assumption)) (by omega)).mono ?_)); rintro e W4 ⟨A4, c4, rfl, ho4, hb4⟩; have hq4 := Blk.below (heap_alloc_new W2 _) hb4; have hr4 := (HO.out.2.2.below (ba W2 _)).below hb4; have q0 := hq4.cell 0; have q1 := hq4.cell 1; have q2 := hq4.cell 2; have g2 := hq4.frozen 2; have r0 := hr4.cell 0; have r1 := hr4.cell 1; have r2 := hr4.cell 2; have f0 := hr4.frozen 0; have f1 := hr4.frozen 1; have f2 := hr4.frozen 2; simp at q0 q1 q2 r0 r1 r2; have hne4 : W2.heap.size ≠ w.heap.size + 3 := (by omega); have H4 := Lib.hid (And.intro ho4 (And.intro hb4 (And.intro hq4 hr4))); clear ho4 hb4 hq4 hr4))
  all_goals
    have hR3 := (((H4.out.2.2.2.setOther (fun e => hne4 e.symm) 2 (.slice A4 (t - f) c4)).set_ 0 (.slice B n d)).set_ 1 (.slice B' m d')).set_ 2 (.slice A4 (t - f) c4)
    have z0 := hR3.cell 0
    have z1 := hR3.cell 1
    have z2 := hR3.cell 2
    refine bodyPost_ret (v := .tuple #[pcV B n d B' m d' A4 (t - f) c4, .int .i64 0]) ?_ rfl ?_
    · simp at z0 z1 z2
      simp [results, Tryd.results27, go_sem, z0, z1, z2]
    · have hl1 : w.heap.size ≤ W1.heap.size := HB1.out.2.2.2.size
      have hl2 : W1.heap.size ≤ W2.heap.size := HO.out.2.1.size
      have hw4 : Below w.heap.size w W4 := bt (bt HB1.out.2.2.2 HO.out.2.1) (bx H4.out.2.1)
      have hk : ∀ (g : Nat) (T : TypeId) (cs : Array Value), T ≠ 28 → Blk W4 g T cs → Blk ((((W4.setCell ⟨W2.heap.size, 2, none⟩ (.slice A4 (t - f) c4)).setCell ⟨w.heap.size + 3, 0, none⟩ (.slice B n d)).setCell ⟨w.heap.size + 3, 1, none⟩ (.slice B' m d')).setCell ⟨w.heap.size + 3, 2, none⟩ (.slice A4 (t - f) c4)) g T cs := fun g T cs hT hb => by
        have n1 := hb.ne H4.out.2.2.1 hT
        have n2 := hb.ne H4.out.2.2.2 hT
        exact (((hb.setOther n1 _ _).setOther n2 _ _).setOther n2 _ _).setOther n2 _ _
      have hk2 : ∀ (g : Nat) (T : TypeId) (cs : Array Value), T ≠ 28 → Blk W2 g T cs → Blk ((((W4.setCell ⟨W2.heap.size, 2, none⟩ (.slice A4 (t - f) c4)).setCell ⟨w.heap.size + 3, 0, none⟩ (.slice B n d)).setCell ⟨w.heap.size + 3, 1, none⟩ (.slice B' m d')).setCell ⟨w.heap.size + 3, 2, none⟩ (.slice A4 (t - f) c4)) g T cs := fun g T cs hT hb => hk g T cs hT ((hb.below (ba W2 _)).below H4.out.2.1)
      refine ⟨B, n, d, B', m, d', A4, t - f, c4, rfl, ?_, (((hw4.setCell (p := ⟨W2.heap.size, 2, none⟩) (by simp; omega) _).setCell (p := ⟨w.heap.size + 3, 0, none⟩) (by simp) _).setCell (p := ⟨w.heap.size + 3, 1, none⟩) (by simp) _).setCell (p := ⟨w.heap.size + 3, 2, none⟩) (by simp) _⟩
      have hP1 := HO.out.1
      have hql := hP1.hq
      rw [oC_ok, oC_ok, oC_ok, Int.toNat_natCast, Int.toNat_natCast]
      refine ⟨(hP1.crs.blk (fun g cs h => hk2 g _ cs (by decide) h)).more hl1, (hP1.stp.blk (fun g cs h => hk2 g _ cs (by decide) h)).more hl1, hP1.hn, hP1.hm, ?_, (E'.drop f).take (t - f), ?_, ?_, ?_⟩
      · rw [List.length_take, List.length_drop, ← hql]
        omega
      · rw [List.length_take, List.length_drop, List.length_take, List.length_drop, HE2.out.1]
      · exact ((HE2.out.2.sub f (t - f)).blk (fun g cs h => hk2 g _ cs (by decide) h)).more hl1
      · exact (H4.out.1.blk (fun g cs h => hk g _ cs (by decide) h)).more (by simp; omega)

end Go.Proofs.YtdhjigaocamglaaDoor

/- Pieces: the reference's Bare. -/
namespace Go.Proofs.YtdhjigaocamglaaDoor
open Go Go.RowKit

end Go.Proofs.YtdhjigaocamglaaDoor

/- Pieces: the reference's Cut. -/
namespace Go.Proofs.YtdhjigaocamglaaDoor
open Go Go.RowKit

/-- The event that comes out at place j. -/
def ctE (f to : Nat) (G P : List EvP) (j : Nat) : EvP :=
  if j = 0 then ⟨(G.getD (f + j) z6).bar, (G.getD (f + j) z6).v, (G.getD (f + j) z6).d, (G.getD (f + j) z6).t, false, (G.getD (f + j) z6).L.map (cutS to (f + j : Nat))⟩
  else ⟨(G.getD (f + j) z6).bar, (P.getD (f + j) z6).v, (P.getD (f + j) z6).d, (P.getD (f + j) z6).t, (G.getD (f + j) z6).tie, (G.getD (f + j) z6).L.map (cutS to (f + j : Nat))⟩
def ctL (f to : Nat) (G P : List EvP) (k : Nat) : List EvP := (List.range k).map (ctE f to G P)
end Go.Proofs.YtdhjigaocamglaaDoor

/- The law PieceCuts returns true for every piece and numbers. -/
namespace Go.Proofs.YtdhjigaocamglaaDoor
open Go Go.RowKit

theorem tm_at : ∀ (P : List EvP) (n : Nat) (v : Int) (d t : Bool) (fm : Int) (j : Nat) (p : TmP), (tmPL P n v d t fm)[j]? = some p → p.n = n + j ∧ P[j]? = some p.y
  | [], n, v, d, t, fm, j, p, h => by simp [tmPL] at h
  | y :: r, n, v, d, t, fm, 0, p, h => by
    unfold tmPL at h
    split at h
    all_goals
      simp at h
      subst h
      exact ⟨rfl, rfl⟩
  | y :: r, n, v, d, t, fm, j + 1, p, h => by
    unfold tmPL at h
    split at h
    all_goals
      have := tm_at r _ _ _ _ _ j p (by simpa using h)
      exact ⟨by omega, by simpa using this.2⟩
theorem rwO_cut (f t : Int) (X : List TmP) : (rwO (cutSt f t) () X).1 = X.map fun p => (cutSt f t () p).2 := by
  have : ∀ (X : List TmP) (o : List EvP), (X.foldl (fun a p => (a.1 ++ [(cutSt f t a.2 p).2], (cutSt f t a.2 p).1)) (o, ())).1 = o ++ X.map fun p => (cutSt f t () p).2 := by
    intro X
    induction X with
    | nil => intro o; simp
    | cons p r ih =>
      intro o
      rw [List.foldl_cons]
      show (List.foldl _ (o ++ [(cutSt f t () p).2], ()) r).1 = _
      rw [ih]
      simp
  unfold rwO
  rw [this]
  simp
theorem getD_of {α : Type} {L : List α} {i : Nat} {x z : α} (h : L[i]? = some x) : L.getD i z = x := by simp [List.getD_eq_getElem?_getD, h]
theorem cut_eq {P : List EvP} (hP : SgR P) {f t : Nat} (h1 : f ≤ t) (h2 : t ≤ P.length) : ((rwO (cutSt f t) () (tpL P)).1.drop f).take (t - f) = ctL f t (setG P (frcL s0g P)) P (t - f) := by
  rw [rwO_cut]
  refine List.ext_getElem? (fun j => ?_)
  by_cases hj : j < t - f
  · rw [List.getElem?_take, if_pos hj, List.getElem?_drop, List.getElem?_map]
    have hl : f + j < (tpL P).length := by rw [tmPL_len]; omega
    have hp := List.getElem?_eq_getElem hl
    generalize (tpL P)[f + j] = p at hp
    obtain ⟨k1, k2⟩ := tm_at P 0 0 false false 0 _ _ hp
    have hg := congrArg (fun L => L[f + j]?) (tm_plain P 0 0 false false 0 hP)
    simp only [List.getElem?_map] at hg
    rw [hp] at hg
    have e1 : (setG P (frcL s0g P)).getD (f + j) z6 = upS p.y ⟨p.v, p.d, p.t⟩ := getD_of hg.symm
    have e2 : P.getD (f + j) z6 = p.y := getD_of k2
    have e3 : p.n = f + j := by omega
    rw [hp]
    show some (cutSt f t () p).2 = _
    unfold ctL
    rw [List.getElem?_map, List.getElem?_range hj]
    show _ = some (ctE f t (setG P (frcL s0g P)) P j)
    unfold ctE cutSt
    rw [e1, e2, e3]
    by_cases h0 : j = 0
    · rw [if_pos h0, if_pos (by omega)]
      rfl
    · rw [if_neg h0, if_neg (by omega)]
      rfl
  · rw [List.getElem?_take, if_neg hj, List.getElem?_eq_none (by simp [ctL]; omega)]
theorem ctL_L {f t k : Nat} {P : List EvP} {F : List Sg} {N : Nat} (h : ∀ y ∈ P, y.L.length ≤ N) : ∀ y ∈ ctL f t (setG P F) P k, y.L.length ≤ N := fun y hy => by
  unfold ctL at hy
  obtain ⟨j, _, rfl⟩ := List.mem_map.1 hy
  have e : (ctE f t (setG P F) P j).L = ((setG P F).getD (f + j) z6).L.map (cutS t (f + j : Nat)) := by
    unfold ctE
    split <;> rfl
  rw [e, List.length_map, setG_L]
  by_cases hi : f + j < P.length
  · exact h _ (by simp [List.getD_eq_getElem?_getD, List.getElem?_eq_getElem hi])
  · simp [List.getD_eq_getElem?_getD, List.getElem?_eq_none (Nat.le_of_not_lt hi), z6]
theorem cutErr_ok {X fr to : Int} {q : Nat} (h : cutErr X fr to q = 0) : X = 0 ∧ 0 ≤ fr ∧ fr ≤ to ∧ to ≤ q := by
  unfold cutErr at h
  split at h
  · rename_i h1
    exact absurd h h1
  · rename_i h1
    split at h
    · simp at h
    · rename_i h2
      exact ⟨by omega, by omega, by omega, by omega⟩

end Go.Proofs.YtdhjigaocamglaaDoor

/- Pieces that are cut in two and put together again: what is valid, what is played (plain). -/
namespace Go.Proofs.YtdhjigaocamglaaDoor
open Go Go.RowKit

theorem pcErr_mk {C : List Cr} {S : List Int} {P : List EvP} (h1 : chk C S = 0) (h2 : P.length ≤ 400) (h3 : ∀ (j : Nat) (y : EvP), P[j]? = some y → sgnB j y = false ∧ tieB j y = false ∧ stsErr C P j 0 y.L = 0) : pcErr C S P = 0 := by
  unfold pcErr
  rw [if_neg (by simp [h1]), if_neg (by omega)]
  refine evsErr_of P 0 (fun j y hy => ?_)
  obtain ⟨k1, k2, k3⟩ := h3 j y hy
  rw [Nat.zero_add]
  unfold evErr
  rw [if_neg (by simp [k1]), if_neg (by simp [k2])]
  exact k3
theorem hs_c (c : Int) (L : List St) : hsB L c = (L.map St.c).any fun s => decide (s = c) := by
  unfold hsB
  rw [List.any_map]
  rfl
theorem lgGo_pre (c : Int) : ∀ (R' R : List EvP) (h : Nat), R'.length ≤ R.length → (∀ (j : Nat) (x y : EvP), R'[j]? = some x → R[j]? = some y → x.L.map St.c = y.L.map St.c ∧ x.tie = y.tie) → min (lgGo c R h) (h + R'.length) ≤ lgGo c R' h
  | [], R, h, _, _ => by
    unfold lgGo
    simp
    exact Nat.min_le_right _ _
  | _ :: _, [], _, hl, _ => by simp at hl
  | x :: R', y :: R, h, hl, hk => by
    obtain ⟨h1, h2⟩ := hk 0 x y rfl rfl
    have hlen : x.L.length = y.L.length := by
      have := congrArg List.length h1
      simpa using this
    have e1 : restB x = restB y := by unfold restB; rw [hlen, h2]
    have e2 : hsB x.L c = hsB y.L c := by rw [hs_c, hs_c, h1]
    unfold lgGo
    rw [e1, e2]
    split
    · exact Nat.min_le_left _ _
    · have := lgGo_pre c R' R (h + 1) (by simpa using hl) (fun j x y hx hy => hk (j + 1) x y (by simpa using hx) (by simpa using hy))
      rw [List.length_cons]
      omega
theorem stsErr_cut {C : List Cr} {P L : List EvP} {i j : Nat} {to n : Int} (hm : 0 ≤ to - 1 - n) (h : ∀ c, min (lgst P i c : Int) (to - 1 - n) ≤ lgst L j c) : ∀ (M : List St) (bf : Int), stsErr C P i bf M = 0 → stsErr C L j bf (M.map (cutS to n)) = 0
  | [], _, _ => rfl
  | ⟨sc, sf, sr, sg, sh⟩ :: M, bf, h0 => by
    rw [List.map_cons]
    unfold stsErr at h0 ⊢
    have e : stErr C P i bf ⟨sc, sf, sr, sg, sh⟩ = 0 := by
      by_cases h1 : stErr C P i bf ⟨sc, sf, sr, sg, sh⟩ = 0
      · exact h1
      · rw [if_neg h1] at h0
        exact absurd h0 h1
    rw [if_pos e] at h0
    have e2 : stErr C L j bf (cutS to n ⟨sc, sf, sr, sg, sh⟩) = 0 := by
      have hc := h sc
      show stErr C L j bf ⟨sc, sf, sr, sg, min sh (to - 1 - n)⟩ = 0
      unfold stErr at e ⊢
      dsimp only at e ⊢
      split at e
      · simp at e
      · split at e
        · simp at e
        · split at e
          · simp at e
          · split at e
            · simp at e
            · split at e
              · simp at e
              · rename_i a1 a2 a3 a4 a5
                rw [if_neg a1, if_neg a2, if_neg a3, if_neg a4, if_neg (by omega)]
    rw [if_pos e2]
    exact stsErr_cut hm h M sc h0
theorem ctL_at {f t k j : Nat} {G P : List EvP} {y : EvP} (h : (ctL f t G P k)[j]? = some y) : j < k ∧ y = ctE f t G P j := by
  have hj : j < k := by
    have := (List.getElem?_eq_some_iff.1 h).1
    simpa [ctL] using this
  refine ⟨hj, ?_⟩
  simp [ctL, List.getElem?_range hj] at h
  exact h.symm
/-- What stands in the plain piece at one place. -/
theorem plain_at {P : List EvP} {i : Nat} (hi : i < P.length) : (setG P (frcL s0g P)).getD i z6 = upS (P.getD i z6) ((frcL s0g P).getD i s0g) := by
  have h1 : P[i]? = some (P.getD i z6) := by simp [List.getD_eq_getElem?_getD, List.getElem?_eq_getElem hi]
  have hi2 : i < (frcL s0g P).length := by rw [frcL_len]; exact hi
  have h2 : (frcL s0g P)[i]? = some ((frcL s0g P).getD i s0g) := by simp [List.getD_eq_getElem?_getD, List.getElem?_eq_getElem hi2]
  refine getD_of ?_
  rw [setG_at _ _ _ (frcL_len _ _), h1, h2]
  rfl
theorem cut_map (to n : Int) (L : List St) : (L.map (cutS to n)).map St.c = L.map St.c := by
  rw [List.map_map]
  rfl
/-- The stops of an event that is cut out. -/
theorem ctE_L (f t : Nat) (P : List EvP) (j : Nat) (F : List Sg) : (ctE f t (setG P F) P j).L = (P.getD (f + j) z6).L.map (cutS t (f + j : Nat)) := by
  have e : (ctE f t (setG P F) P j).L = ((setG P F).getD (f + j) z6).L.map (cutS t (f + j : Nat)) := by
    unfold ctE
    split <;> rfl
  rw [e, setG_L]
theorem cut_valid {C : List Cr} {S : List Int} {P : List EvP} (h0 : pcErr C S P = 0) {f t : Nat} (h2 : t ≤ P.length) : pcErr C S (ctL f t (setG P (frcL s0g P)) P (t - f)) = 0 := by
  obtain ⟨c1, c2, c3⟩ := pcErr_ok h0
  refine pcErr_mk c1 (by simp [ctL]; omega) (fun j y hy => ?_)
  obtain ⟨hj, rfl⟩ := ctL_at hy
  have hi : f + j < P.length := by omega
  have hP : P[f + j]? = some (P.getD (f + j) z6) := by simp [List.getD_eq_getElem?_getD, List.getElem?_eq_getElem hi]
  obtain ⟨k1, k2, k3⟩ := c3 _ _ hP
  have hG := plain_at hi
  have hF : okS ((frcL s0g P).getD (f + j) s0g) = true := by
    have hi2 : f + j < (frcL s0g P).length := by rw [frcL_len]; exact hi
    refine frc_ok0 h0 _ ?_
    rw [List.getD_eq_getElem?_getD, List.getElem?_eq_getElem hi2]
    exact List.getElem_mem hi2
  refine ⟨?_, ?_, ?_⟩
  · unfold ctE
    split
    · rw [hG]
      exact sgn_ok (y := ⟨(P.getD (f + j) z6).bar, 0, false, false, false, (upS (P.getD (f + j) z6) ((frcL s0g P).getD (f + j) s0g)).L.map (cutS t (f + j : Nat))⟩) hF
    · rename_i hj0
      unfold sgnB at k1 ⊢
      dsimp only
      rw [decide_eq_false (show ¬ f + j = 0 by omega)] at k1
      rw [decide_eq_false hj0]
      exact k1
  · unfold tieB
    rw [ctE_L, List.length_map]
    unfold ctE
    split
    · rfl
    · rename_i hj0
      rw [hG]
      unfold tieB at k2
      rw [decide_eq_false (show ¬ f + j = 0 by omega)] at k2
      rw [decide_eq_false hj0]
      exact k2
  · rw [ctE_L]
    refine stsErr_cut (P := P) (i := f + j) (by omega) (fun c => ?_) _ _ k3
    have hlen : (ctL f t (setG P (frcL s0g P)) P (t - f)).length = t - f := by simp [ctL]
    unfold lgst
    rw [if_neg (by omega), if_neg (by rw [hlen]; omega)]
    have hq := lgGo_pre c ((ctL f t (setG P (frcL s0g P)) P (t - f)).drop (j + 1)) (P.drop (f + j + 1)) 0 (by rw [List.length_drop, List.length_drop, hlen]; omega) (fun a x z hx hz => by
      rw [List.getElem?_drop] at hx hz
      obtain ⟨ha, rfl⟩ := ctL_at hx
      have hz2 : z = P.getD (f + (j + 1 + a)) z6 := by
        rw [show f + j + 1 + a = f + (j + 1 + a) by omega] at hz
        exact (getD_of hz).symm
      have hG2 := plain_at (show f + (j + 1 + a) < P.length by omega)
      refine ⟨by rw [ctE_L, cut_map, hz2], ?_⟩
      unfold ctE
      rw [if_neg (by omega), hz2, hG2]
      rfl)
    rw [List.length_drop, hlen] at hq
    simp only [Int.toNat_natCast] at hq ⊢
    omega
end Go.Proofs.YtdhjigaocamglaaDoor
