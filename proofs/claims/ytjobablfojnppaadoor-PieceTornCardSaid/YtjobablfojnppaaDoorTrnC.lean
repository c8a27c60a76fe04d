/- Pieces: the reference's Terse. -/
import Derived.Test.YtjobablfojnppaaDoorPcMeasC
import Derived.Test.YtjobablfojnppaaDoorCmp9C
import Derived.Test.YtjobablfojnppaaDoorTrn

namespace Go.Proofs.YtjobablfojnppaaDoor
open Go Go.RowKit

end Go.Proofs.YtjobablfojnppaaDoor

/- Pieces, plain: Plain and Terse change the signs alone and undo each other. -/
namespace Go.Proofs.YtjobablfojnppaaDoor
open Go Go.RowKit

def okS (s : Sg) : Bool := okB s.v s.d s.t
theorem okS_ne {s : Sg} (h : okS s = true) : s.v ≠ 0 ∧ 1 ≤ s.v ∧ s.v ≤ 7 := by
  simp [okS, okB] at h
  omega
theorem frc_ok : ∀ (P : List EvP) (s : Sg), SgR P → okS s = true → ∀ x ∈ frcL s P, okS x = true
  | [], _, _, _, x, hx => by simp [frcL] at hx
  | y :: P, s, hP, hs, x, hx => by
    have hg : okS (sgF y s) = true := by
      unfold sgF
      split
      · exact hs
      · rename_i h
        exact (hP y List.mem_cons_self).2 h
    rw [frcL] at hx
    rcases List.mem_cons.1 hx with rfl | hx
    · exact hg
    · exact frc_ok P _ (fun z hz => hP z (List.mem_cons_of_mem _ hz)) hg x hx
theorem frc_ok0 {C : List Cr} {S : List Int} {P : List EvP} (h : pcErr C S P = 0) : ∀ x ∈ frcL s0g P, okS x = true := by
  cases P with
  | nil => intro x hx; simp [frcL] at hx
  | cons y P =>
    have hR := sgr_of h
    have hv := sgr_head h
    have hg : okS (sgF y s0g) = true := by
      unfold sgF
      rw [if_neg hv]
      exact (hR y List.mem_cons_self).2 hv
    intro x hx
    rw [frcL] at hx
    rcases List.mem_cons.1 hx with rfl | hx
    · exact hg
    · exact frc_ok P _ (fun z hz => hR z (List.mem_cons_of_mem _ hz)) hg x hx

/-! ### What the program's functions make, as lists -/
/-! ### Signs in force of the results -/
theorem terG_len : ∀ (F : List Sg) (b : Bool) (s : Sg), (terG b s F).length = F.length
  | [], _, _ => rfl
  | x :: r, b, s => by simp [terG, terG_len r]
theorem setG_setG : ∀ (P : List EvP) (G F : List Sg), G.length = P.length → F.length = P.length → setG (setG P G) F = setG P F
  | [], [], [], _, _ => rfl
  | [], _ :: _, _, h, _ => by simp at h
  | [], [], _ :: _, _, h => by simp at h
  | _ :: _, [], _, h, _ => by simp at h
  | _ :: _, _ :: _, [], _, h => by simp at h
  | y :: P, g :: G, f :: F, h1, h2 => by
    show upS (upS y g) f :: setG (setG P G) F = upS y f :: setG P F
    rw [setG_setG P G F (by simpa using h1) (by simpa using h2)]
    rfl
theorem frc_setF : ∀ (P : List EvP) (F : List Sg) (s : Sg), F.length = P.length → (∀ x ∈ F, okS x = true) → frcL s (setG P F) = F
  | [], [], _, _, _ => rfl
  | [], _ :: _, _, h, _ => by simp at h
  | _ :: _, [], _, h, _ => by simp at h
  | y :: P, f :: F, s, h, hF => by
    have hf := (okS_ne (hF f List.mem_cons_self)).1
    have e : sgF (upS y f) s = f := if_neg (show ¬ (upS y f).v = 0 from hf)
    show frcL s (upS y f :: setG P F) = f :: F
    rw [frcL, e, frc_setF P F f (by simpa using h) (fun x hx => hF x (List.mem_cons_of_mem _ hx))]
theorem frc_ter : ∀ (P : List EvP) (F : List Sg) (s : Sg) (b : Bool), F.length = P.length → (∀ x ∈ F, okS x = true) → frcL s (setG P (terG b s F)) = F
  | [], [], _, _, _, _ => rfl
  | [], _ :: _, _, _, h, _ => by simp at h
  | _ :: _, [], _, _, h, _ => by simp at h
  | y :: P, f :: F, s, b, h, hF => by
    have hf := (okS_ne (hF f List.mem_cons_self)).1
    have ih := frc_ter P F f true (by simpa using h) (fun x hx => hF x (List.mem_cons_of_mem _ hx))
    by_cases hb : (b && sqE f s) = true
    · have e : sgF (upS y s0g) s = s := if_pos rfl
      have hfs : f = s := by
        rw [Bool.and_eq_true] at hb
        obtain ⟨e1, e2, e3⟩ := sqE_eq hb.2
        cases f; cases s; simp_all
      show frcL s (upS y (if (b && sqE f s) = true then s0g else f) :: setG P (terG true f F)) = f :: F
      rw [if_pos hb, frcL, e, ← hfs, ih]
    · have e : sgF (upS y f) s = f := if_neg (show ¬ (upS y f).v = 0 from hf)
      show frcL s (upS y (if (b && sqE f s) = true then s0g else f) :: setG P (terG true f F)) = f :: F
      rw [if_neg hb, frcL, e, ih]
theorem setG_at : ∀ (P : List EvP) (G : List Sg) (j : Nat), G.length = P.length → (setG P G)[j]? = (P[j]?).bind fun y => (G[j]?).map fun g => upS y g
  | [], [], _, _ => by simp [setG]
  | [], _ :: _, _, h => by simp at h
  | _ :: _, [], _, h => by simp at h
  | y :: P, g :: G, 0, _ => by simp [setG]
  | y :: P, g :: G, j + 1, h => by simpa [setG] using setG_at P G j (by simpa using h)
theorem sgn_ok {j : Nat} {y : EvP} {g : Sg} (h : okS g = true) : sgnB j (upS y g) = false := by
  have hv := (okS_ne h).1
  unfold sgnB
  have hw : wrB (upS y g).v (upS y g).d (upS y g).t = true := by simp [wrB, upS, hv]
  have hk : okB (upS y g).v (upS y g).d (upS y g).t = true := h
  rw [hw, hk]
  simp
theorem sgn_zero {j : Nat} {y : EvP} : sgnB (j + 1) (upS y s0g) = false := by simp [sgnB, upS, s0g, wrB]
/-- A piece with its signs changed to these is valid. -/
theorem set_valid {C : List Cr} {S : List Int} {P : List EvP} (h : pcErr C S P = 0) {G : List Sg} (hl : G.length = P.length) (hG : ∀ (j : Nat) (g : Sg), G[j]? = some g → okS g = true ∨ (g = s0g ∧ 0 < j)) : pcErr C S (setG P G) = 0 := by
  refine pcErr_keep h (setG_len P G).symm (fun j x y hx hy => ?_)
  have hj : j < G.length := by rw [hl]; exact (List.getElem?_eq_some_iff.1 hx).1
  rw [setG_at P G j hl, hx, List.getElem?_eq_getElem hj] at hy
  obtain rfl : upS x G[j] = y := by simpa using hy
  refine ⟨rfl, rfl, ?_⟩
  rcases hG j _ (List.getElem?_eq_getElem hj) with h1 | ⟨h1, h2⟩
  · exact sgn_ok h1
  · rw [h1]
    obtain ⟨i, rfl⟩ : ∃ i, j = i + 1 := ⟨j - 1, by omega⟩
    exact sgn_zero
theorem terG_ok : ∀ (F : List Sg) (b : Bool) (s : Sg), (∀ x ∈ F, okS x = true) → ∀ (j : Nat) (g : Sg), (terG b s F)[j]? = some g → okS g = true ∨ (g = s0g ∧ (b = true ∨ 0 < j))
  | [], _, _, _, j, g, h => by simp [terG] at h
  | x :: F, b, s, hF, 0, g, h => by
    rw [terG] at h
    obtain rfl : (if (b && sqE x s) = true then s0g else x) = g := by simpa using h
    by_cases hb : (b && sqE x s) = true
    · rw [if_pos hb]
      rw [Bool.and_eq_true] at hb
      exact .inr ⟨rfl, .inl hb.1⟩
    · rw [if_neg hb]
      exact .inl (hF x List.mem_cons_self)
  | x :: F, b, s, hF, j + 1, g, h => by
    rw [terG] at h
    rcases terG_ok F true x (fun z hz => hF z (List.mem_cons_of_mem _ hz)) j g (by simpa using h) with h1 | ⟨h1, _⟩
    · exact .inl h1
    · exact .inr ⟨h1, .inr (by omega)⟩
theorem alike_set {C : List Cr} {S : List Int} {P : List EvP} (h : pcErr C S P = 0) {G : List Sg} (hl : G.length = P.length) (hv : pcErr C S (setG P G) = 0) (hf : frcL s0g (setG P G) = frcL s0g P) : alikeB C S (setG P G) C S P = true := by
  have h1 : eqL alEvB (setG P G) P = true := by
    have hr : ∀ x : EvP, alEvB x x = true := fun x => by
      unfold alEvB
      rw [eqL_refl (fun y => by simp [plEqB])]
      simp
    have : ∀ (P : List EvP) (G : List Sg), G.length = P.length → eqL alEvB (setG P G) P = true := by
      intro P
      induction P with
      | nil => intro G hl; cases G with
        | nil => rfl
        | cons g G => simp at hl
      | cons y P ih => intro G hl; cases G with
        | nil => simp at hl
        | cons g G =>
          have hy : alEvB (upS y g) y = true := hr y
          show eqL alEvB (upS y g :: setG P G) (y :: P) = true
          unfold eqL
          rw [hy, ih G (by simpa using hl)]
          rfl
    exact this P G hl
  have h2 : onsL C S (setG P G) = onsL C S P := by unfold onsL; rw [if_pos hv, if_pos h, hf]
  unfold alikeB
  rw [hv, h, sameB_refl, h2, eqI_refl, h1]
  rfl

end Go.Proofs.YtjobablfojnppaaDoor

/- Pieces: Cut of the program, for any piece and numbers. -/
namespace Go.Proofs.YtjobablfojnppaaDoor
open Go Go.RowKit

theorem box4 (W : World) (c1 c2 c3 c4 : Array Value) (T1 T2 T3 T4 : TypeId) : Blk ((((W.alloc (.cells c1 T1)).alloc (.cells c2 T2)).alloc (.cells c3 T3)).alloc (.cells c4 T4)) W.heap.size T1 c1 ∧ Blk ((((W.alloc (.cells c1 T1)).alloc (.cells c2 T2)).alloc (.cells c3 T3)).alloc (.cells c4 T4)) (W.heap.size + 1) T2 c2 ∧ Blk ((((W.alloc (.cells c1 T1)).alloc (.cells c2 T2)).alloc (.cells c3 T3)).alloc (.cells c4 T4)) (W.heap.size + 2) T3 c3 ∧
    Blk ((((W.alloc (.cells c1 T1)).alloc (.cells c2 T2)).alloc (.cells c3 T3)).alloc (.cells c4 T4)) (W.heap.size + 3) T4 c4 ∧ Below W.heap.size W ((((W.alloc (.cells c1 T1)).alloc (.cells c2 T2)).alloc (.cells c3 T3)).alloc (.cells c4 T4)) := by
  obtain ⟨h1, h2, h3, h4⟩ := box3 W c1 c2 c3 T1 T2 T3
  have h5 := heap_alloc_new (((W.alloc (.cells c1 T1)).alloc (.cells c2 T2)).alloc (.cells c3 T3)) (.cells c4 T4)
  rw [World.size_alloc, World.size_alloc, World.size_alloc] at h5
  exact ⟨h1.below (ba _ _), h2.below (ba _ _), h3.below (ba _ _), h5, bt h4 (ba _ _)⟩

theorem evC_sub (E : List EvT) (f k : Nat) : ((evC E).drop (f * 6)).take (k * 6) = evC ((E.drop f).take k) := by
  have hd : ∀ (f : Nat) (E : List EvT), (evC E).drop (f * 6) = evC (E.drop f) := by
    intro f
    induction f with
    | zero => intro E; simp
    | succ f ih =>
      intro E
      cases E with
      | nil => simp [evC]
      | cons x r =>
        rw [show (f + 1) * 6 = f * 6 + 6 by omega, List.drop_succ_cons, ← ih r]
        rfl
  have ht : ∀ (k : Nat) (E : List EvT), (evC E).take (k * 6) = evC (E.take k) := by
    intro k
    induction k with
    | zero => intro E; simp [evC]
    | succ k ih =>
      intro E
      cases E with
      | nil => simp [evC]
      | cons x r =>
        rw [show (k + 1) * 6 = k * 6 + 6 by omega, List.take_succ_cons]
        show _ = [.bool x.bar, .int .i64 x.v, .bool x.d, .bool x.t, .bool x.tie, .slice x.sa x.sn x.sc] ++ evC (r.take k)
        rw [← ih r]
        rfl
  rw [hd, ht]
theorem cut_sl {w : World} {B q d : Nat} {A2 : Option Addr} {E : List EvT} (h : Ow w B 41 6 A2 q d (evC E)) {f t : Nat} (h1 : f ≤ t) (h2 : t ≤ q) : CutSl w A2 d f t E := fun W hb => by
  have := ((h.below hb).sl).sub h1 h2
  rw [evC_sub] at this
  refine ⟨fun e => ?_, fun e => ?_⟩
  · rw [if_pos e, e, Nat.sub_self] at this
    exact this
  · rw [if_neg e] at this
    exact this
def cutErr (X fr to : Int) (q : Nat) : Int := if X ≠ 0 then X else if fr < 0 ∨ to < fr ∨ (q : Int) < to then 1 else 0
theorem cutErr1 {X fr to : Int} {q : Nat} (h : X ≠ 0) : cutErr X fr to q = X := if_pos h
theorem cutErr2 {fr to : Int} {q : Nat} (h : fr < 0 ∨ to < fr ∨ (q : Int) < to) : cutErr 0 fr to q = 1 := by unfold cutErr; rw [if_neg (by simp), if_pos h]
theorem cutErr3 {fr to : Int} {q : Nat} (h : ¬ (fr < 0 ∨ to < fr ∨ (q : Int) < to)) : cutErr 0 fr to q = 0 := by unfold cutErr; rw [if_neg (by simp), if_neg h]
theorem tp_n {P : List EvP} {N : Nat} (hP : P.length ≤ N) : ∀ p ∈ tpL P, p.n ≤ N := by
  have : ∀ (P : List EvP) (n : Nat) (v : Int) (d t : Bool) (fm : Int), ∀ p ∈ tmPL P n v d t fm, p.n < n + P.length := by
    intro P
    induction P with
    | nil => intro n v d t fm p hp; simp [tmPL] at hp
    | cons y r ih =>
      intro n v d t fm p hp
      unfold tmPL at hp
      split at hp
      all_goals
        rcases List.mem_cons.1 hp with rfl | hp
        · simp
        · have := ih _ _ _ _ _ p hp
          simp
          omega
  intro p hp
  have := this P 0 0 false false 0 p hp
  omega

set_option maxRecDepth 100000 in
set_option maxHeartbeats 6400000 in
theorem pcut_any (A : Option Addr) (n c : Nat) (A' : Option Addr) (m c' : Nat) (A2 : Option Addr) (q cq : Nat) (C : List Cr) (S : List Int) (P : List EvP) (fr to : Int) (w : World) (hP : PcIn w A n c A' m c' A2 q cq C S P) (hnb : n ≤ 1000000) (hmb : m ≤ 1000000) (hqb : q ≤ 65536) (hst : ∀ y ∈ P, y.L.length ≤ 1000000) :
    Calls Tryd.prog 36 #[pcV A n c A' m c' A2 q cq, .int .i64 fr, .int .i64 to] w (PcRes (cutErr (pcErr C S P) fr to q) C S (((rwO (cutSt fr to) () (tpL P)).1.drop fr.toNat).take (to.toNat - fr.toNat)) w) := by
  have HP : Hid (∀ w', Below w.heap.size w w' → PcIn w' A n c A' m c' A2 q cq C S P) := fun w' hb => hP.below hb
  have HP0 := Lib.hid hP
  have HST := Lib.hid hst
  have HBX := Lib.hid (box4 w #[.slice A n c, .slice A' m c', .slice A2 q cq] #[.int .i64 fr] #[.int .i64 to] #[.slice none 0 0, .slice none 0 0, .slice none 0 0] 28 3 3 28)
  obtain ⟨X, hX⟩ : ∃ X, pcErr C S P = X := ⟨_, rfl⟩
  have HX := Lib.hid hX
  rw [hX]
  clear hX hP hst
  by_cases hX0 : X = 0
  rotate_left
  · have hXb : (X != 0) = true := by simpa using hX0
    rw [cutErr1 hX0]
    have HX0 := Lib.hid hX0
    clear hX0
    go_enter Tryd.func36, Tryd.ntmps36
    go_wp2_with (go_at_call 40; refine (pcheck_any A n c A' m c' A2 q cq C S P _ (HP.out _ HBX.out.2.2.2.2) hnb hmb (by omega) HST.out).mono ?_; rintro e W1 ⟨rfl, hb1⟩; rw [HX.out]; have hR1 := HBX.out.2.2.2.1.below hb1; have r0 := hR1.cell 0; have r1 := hR1.cell 1; have r2 := hR1.cell 2; have f0 := hR1.frozen 0; have f1 := hR1.frozen 1; have f2 := hR1.frozen 2; simp at r0 r1 r2; have HB1 := Lib.hid hb1; clear hR1 hb1)
    exact err_retR w W1 _ (by omega) X (bt HBX.out.2.2.2.2 HB1.out) HX0.out (by simp [results, Tryd.results36, go_sem, World.cell?_setCell_same', World.cell?_setCell_other, r0, r1, r2])
  subst hX0
  by_cases hbb : fr < 0 ∨ to < fr ∨ (q : Int) < to
  · rw [cutErr2 hbb]
    have hb2 : fr < 0 ∨ (¬ fr < 0 ∧ to < fr) ∨ (¬ fr < 0 ∧ ¬ to < fr ∧ (q : Int) < to) := by omega
    clear hbb
    rcases hb2 with hb2 | ⟨hb3, hb2⟩ | ⟨hb3, hb4, hb2⟩
    all_goals
      go_enter Tryd.func36, Tryd.ntmps36
      go_wp2_with (go_at_call 40; refine (pcheck_any A n c A' m c' A2 q cq C S P _ (HP.out _ HBX.out.2.2.2.2) hnb hmb (by omega) HST.out).mono ?_; rintro e W1 ⟨rfl, hb1⟩; rw [HX.out]; have hR1 := HBX.out.2.2.2.1.below hb1; have hN1 := HBX.out.2.1.below hb1; have hN2 := HBX.out.2.2.1.below hb1; have hP1 := HBX.out.1.below hb1; have p2 := hP1.cell 2; have n0 := hN1.cell 0; have m0 := hN2.cell 0; have r0 := hR1.cell 0; have r1 := hR1.cell 1; have r2 := hR1.cell 2; have f0 := hR1.frozen 0; have f1 := hR1.frozen 1; have f2 := hR1.frozen 2; simp at n0 m0 p2 r0 r1 r2; have HB1 := Lib.hid hb1; clear hR1 hN1 hN2 hP1 hb1)
      exact err_retR w W1 _ (by omega) 1 (bt HBX.out.2.2.2.2 HB1.out) (by omega) (by simp [results, Tryd.results36, go_sem, World.cell?_setCell_same', World.cell?_setCell_other, r0, r1, r2])
  rw [cutErr3 hbb]
  obtain ⟨f, rfl⟩ := Int.eq_ofNat_of_zero_le (show 0 ≤ fr by omega)
  obtain ⟨t, rfl⟩ := Int.eq_ofNat_of_zero_le (show 0 ≤ to by omega)
  have hft : f ≤ t := by omega
  have htq : t ≤ q := by omega
  have hfi : (f : Int) ≤ (t : Int) := by omega
  have hti : (t : Int) ≤ (q : Int) := by omega
  clear hbb
  have RW : Hid (∀ W1 : World, Blk W1 (w.heap.size + 1) 3 #[.int .i64 f] → Blk W1 (w.heap.size + 2) 3 #[.int .i64 t] → Below w.heap.size w W1 → Calls Tryd.prog 52 #[pcV A n c A' m c' A2 q cq, .func (.func 80) #[] #[.pointer (some ⟨w.heap.size + 1, 0, none⟩), .pointer (some ⟨w.heap.size + 2, 0, none⟩)]] W1 (RwPostP (fun _ => False) n m q C S (rwO (cutSt f t) () (tpL P)).1 (CutR (w.heap.size + 1) (w.heap.size + 2) f t ()) W1)) := fun W1 hN1 hN2 hb => by
    have hPq := HP0.out.es.hq
    exact rewrite_any A n c A' m c' A2 q cq C S P w W1 hb HP0.out hnb hmb hqb HST.out (fun _ => False) (fun _ h => h.elim) 80 #[.pointer (some ⟨w.heap.size + 1, 0, none⟩), .pointer (some ⟨w.heap.size + 2, 0, none⟩)] (enters_of Tryd.func80 (by kernel_rfl) rfl) () (cutSt f t) (CutR (w.heap.size + 1) (w.heap.size + 2) f t) (fun s W W' h hb => ⟨(hb.block _ hN1.lt).trans h.1, (hb.block _ hN2.lt).trans h.2⟩) ⟨hN1, hN2⟩ (cutFn _ _ (fun p hp => ⟨HST.out _ (tmPL_y P 0 0 false false 0 p hp), tp_n (by omega) p hp⟩) _ _ f t hN1.lt hN2.lt (by omega) (by omega))
  go_enter Tryd.func36, Tryd.ntmps36
  go_wp2_with (first
    | (go_at_call 40; refine (pcheck_any A n c A' m c' A2 q cq C S P _ (HP.out _ HBX.out.2.2.2.2) hnb hmb (by omega) HST.out).mono ?_; rintro e W1 ⟨rfl, hb1⟩; rw [HX.out]; have hR1 := HBX.out.2.2.2.1.below hb1; have hN1 := HBX.out.2.1.below hb1; have hN2 := HBX.out.2.2.1.below hb1; have hP1 := HBX.out.1.below hb1; have n0 := hN1.cell 0; have m0 := hN2.cell 0; have p0 := hP1.cell 0; have p1 := hP1.cell 1; have p2 := hP1.cell 2; simp at n0 m0 p0 p1 p2; have HB1 := Lib.hid (And.intro hR1 (And.intro hN1 (And.intro hN2 (bt HBX.out.2.2.2.2 hb1)))); clear hR1 hN1 hN2 hP1 hb1)
    | (go_at_call 52; refine (RW.out W1 HB1.out.2.1 HB1.out.2.2.1 HB1.out.2.2.2).mono ?_; rintro e W2 ⟨B, d, B', d', B2, d2, rfl, hO, hRR, hK⟩; have hb2 : Below W1.heap.size W1 W2 := hK.below (fun _ _ h => h); have n0 := hRR.1.cell 0; have m0 := hRR.2.cell 0; simp at n0 m0; have hln := hRR.1.lt; have hlm := hRR.2.lt; have hR2 := HB1.out.1.below hb2; have hlr := hR2.lt; obtain ⟨E', e1, e2, e3⟩ := hO.evs; have HSL := Lib.hid (cut_sl e3 hft htq); have HE2 := Lib.hid (And.intro e1 e2); have hdq := e3.1; have HO := Lib.hid (And.intro hO (And.intro hb2 hR2)); clear hO hRR hK hb2 hR2 e1 e2 e3)
    | (go_at_call 82; (first | (with_reducible refine (rwCloneE_any _ (t - f) 0 _ _ (CutSl.eq HSL.out (ba W2 _) (by assumption)) (by omega)).mono ?_) | (with_reducible refine (rwCloneE_any _ (t - f) _ _ _ (CutSl.ne HSL.out (ba W2 _) (by assumption)) (by omega)).mono ?_)); rintro e W4 ⟨A4, c4, rfl, ho4, hb4⟩; have hq4 := Blk.below (heap_alloc_new W2 _) hb4; have hr4 := (HO.out.2.2.below (ba W2 _)).below hb4; have q0 := hq4.cell 0; have q1 := hq4.cell 1; have q2 := hq4.cell 2; have g2 := hq4.frozen 2; have r0 := hr4.cell 0; have r1 := hr4.cell 1; have r2 := hr4.cell 2; have f0 := hr4.frozen 0; have f1 := hr4.frozen 1; have f2 := hr4.frozen 2; simp at q0 q1 q2 r0 r1 r2; have hne4 : W2.heap.size ≠ w.heap.size + 3 := (by omega); have H4 := Lib.hid (And.intro ho4 (And.intro hb4 (And.intro hq4 hr4))); clear ho4 hb4 hq4 hr4))
  all_goals
    have hR3 := (((H4.out.2.2.2.setOther (fun e => hne4 e.symm) 2 (.slice A4 (t - f) c4)).set_ 0 (.slice B n d)).set_ 1 (.slice B' m d')).set_ 2 (.slice A4 (t - f) c4)
    have z0 := hR3.cell 0
    have z1 := hR3.cell 1
    have z2 := hR3.cell 2
    refine bodyPost_ret (v := .tuple #[pcV B n d B' m d' A4 (t - f) c4, .int .i64 0]) ?_ rfl ?_
    · simp at z0 z1 z2
      simp [results, Tryd.results36, go_sem, z0, z1, z2]
    · have hl1 : w.heap.size ≤ W1.heap.size := HB1.out.2.2.2.size
      have hl2 : W1.heap.size ≤ W2.heap.size := HO.out.2.1.size
      have hw4 : Below w.heap.size w W4 := bt (bt HB1.out.2.2.2 HO.out.2.1) (bx H4.out.2.1)
      have hk : ∀ (g : Nat) (T : TypeId) (cs : Array Value), T ≠ 28 → Blk W4 g T cs → Blk ((((W4.setCell ⟨W2.heap.size, 2, none⟩ (.slice A4 (t - f) c4)).setCell ⟨w.heap.size + 3, 0, none⟩ (.slice B n d)).setCell ⟨w.heap.size + 3, 1, none⟩ (.slice B' m d')).setCell ⟨w.heap.size + 3, 2, none⟩ (.slice A4 (t - f) c4)) g T cs := fun g T cs hT hb => by
        have n1 := hb.ne H4.out.2.2.1 hT
        have n2 := hb.ne H4.out.2.2.2 hT
        exact (((hb.setOther n1 _ _).setOther n2 _ _).setOther n2 _ _).setOther n2 _ _
      have hk2 : ∀ (g : Nat) (T : TypeId) (cs : Array Value), T ≠ 28 → Blk W2 g T cs → Blk ((((W4.setCell ⟨W2.heap.size, 2, none⟩ (.slice A4 (t - f) c4)).setCell ⟨w.heap.size + 3, 0, none⟩ (.slice B n d)).setCell ⟨w.heap.size + 3, 1, none⟩ (.slice B' m d')).setCell ⟨w.heap.size + 3, 2, none⟩ (.slice A4 (t - f) c4)) g T cs := fun g T cs hT hb => hk g T cs hT ((hb.below (ba W2 _)).below H4.out.2.1)
      refine ⟨B, n, d, B', m, d', A4, t - f, c4, rfl, ?_, (((hw4.setCell (p := ⟨W2.heap.size, 2, none⟩) (by simp; omega) _).setCell (p := ⟨w.heap.size + 3, 0, none⟩) (by simp) _).setCell (p := ⟨w.heap.size + 3, 1, none⟩) (by simp) _).setCell (p := ⟨w.heap.size + 3, 2, none⟩) (by simp) _⟩
      have hP1 := HO.out.1
      have hql := hP1.hq
      rw [oC_ok, oC_ok, oC_ok, Int.toNat_natCast, Int.toNat_natCast]
      refine ⟨(hP1.crs.blk (fun g cs h => hk2 g _ cs (by decide) h)).more hl1, (hP1.stp.blk (fun g cs h => hk2 g _ cs (by decide) h)).more hl1, hP1.hn, hP1.hm, ?_, (E'.drop f).take (t - f), ?_, ?_, ?_⟩
      · rw [List.length_take, List.length_drop, ← hql]
        omega
      · rw [List.length_take, List.length_drop, List.length_take, List.length_drop, HE2.out.1]
      · exact ((HE2.out.2.sub f (t - f)).blk (fun g cs h => hk2 g _ cs (by decide) h)).more hl1
      · exact (H4.out.1.blk (fun g cs h => hk g _ cs (by decide) h)).more (by simp; omega)

end Go.Proofs.YtjobablfojnppaaDoor

/- Pieces: the reference's Bare. -/
namespace Go.Proofs.YtjobablfojnppaaDoor
open Go Go.RowKit

theorem set_set_same {P : List EvP} {i : Nat} {y y' : EvP} : (P.set i y).set i y' = P.set i y' := List.set_set ..
end Go.Proofs.YtjobablfojnppaaDoor

/- Pieces: the reference's Cut. -/
namespace Go.Proofs.YtjobablfojnppaaDoor
open Go Go.RowKit

theorem hkL_len (f to : Nat) (P : List EvP) : ∀ k, (hkL f to k P).length = P.length
  | 0 => rfl
  | k + 1 => by rw [hkL, List.length_set, hkL_len f to P k]
theorem hkL_at (f to : Nat) (P : List EvP) : ∀ (k i : Nat), f + k ≤ i → (hkL f to k P)[i]? = P[i]?
  | 0, _, _ => rfl
  | k + 1, i, h => by rw [hkL, List.getElem?_set_ne (by omega), hkL_at f to P k i (by omega)]
theorem hkL_in (f to : Nat) (P : List EvP) : ∀ (k j : Nat), j < k → f + j < P.length → (hkL f to k P)[f + j]? = some { P.getD (f + j) z6 with L := (P.getD (f + j) z6).L.map (cutS to (f + j : Nat)) }
  | 0, _, h, _ => by omega
  | k + 1, j, h, hl => by
    by_cases e : j = k
    · subst e
      rw [hkL, List.getElem?_set_self (by rw [hkL_len]; exact hl)]
    · rw [hkL, List.getElem?_set_ne (by omega), hkL_in f to P k j (by omega) hl]
def zEvT : EvT := ⟨false, 0, false, false, false, none, 0, 0⟩
/-- The event that comes out at place j. -/
def ctE (f to : Nat) (G P : List EvP) (j : Nat) : EvP :=
  if j = 0 then ⟨(G.getD (f + j) z6).bar, (G.getD (f + j) z6).v, (G.getD (f + j) z6).d, (G.getD (f + j) z6).t, false, (G.getD (f + j) z6).L.map (cutS to (f + j : Nat))⟩
  else ⟨(G.getD (f + j) z6).bar, (P.getD (f + j) z6).v, (P.getD (f + j) z6).d, (P.getD (f + j) z6).t, (G.getD (f + j) z6).tie, (G.getD (f + j) z6).L.map (cutS to (f + j : Nat))⟩
def ctL (f to : Nat) (G P : List EvP) (k : Nat) : List EvP := (List.range k).map (ctE f to G P)
def ctT (f : Nat) (P : List EvP) (E : List EvT) (j : Nat) : EvT :=
  if j = 0 then { E.getD (f + j) zEvT with tie := false } else upT (E.getD (f + j) zEvT) ⟨(P.getD (f + j) z6).v, (P.getD (f + j) z6).d, (P.getD (f + j) z6).t⟩
def ctO (f : Nat) (P : List EvP) (E : List EvT) (k : Nat) : List EvT := (List.range k).map (ctT f P E)
theorem ctO_succ (f : Nat) (P : List EvP) (E : List EvT) (k : Nat) : ctO f P E (k + 1) = ctO f P E k ++ [ctT f P E k] := by simp [ctO, List.range_succ]
theorem ctO_len (f : Nat) (P : List EvP) (E : List EvT) (k : Nat) : (ctO f P E k).length = k := by simp [ctO]
theorem ct_cpe {w : World} {b f to k : Nat} {G P : List EvP} {E : List EvT} (h : CpE w b E (hkL f to k G)) (he : E.length = G.length) (hk : f + k ≤ G.length) : CpE w b (ctO f P E k) (ctL f to G P k) := fun j x y hx hy => by
  have hj : j < k := by
    have := (List.getElem?_eq_some_iff.1 hx).1
    rwa [ctO_len] at this
  have hE : E[f + j]? = some (E.getD (f + j) zEvT) := by
    have : f + j < E.length := by omega
    simp [List.getD_eq_getElem?_getD, List.getElem?_eq_getElem this]
  obtain ⟨⟨k1, k2, k3, k4, k5, k6⟩, k7⟩ := h (f + j) _ _ hE (hkL_in f to G k j hj (by omega))
  have hx' : x = ctT f P E j := by
    simp [ctO, List.getElem?_range hj] at hx
    exact hx.symm
  have hy' : y = ctE f to G P j := by
    simp [ctL, List.getElem?_range hj] at hy
    exact hy.symm
  subst hx' hy'
  unfold ctT ctE
  by_cases h0 : j = 0
  · rw [if_pos h0, if_pos h0]
    exact ⟨⟨k1, k2, k3, k4, rfl, k6⟩, k7⟩
  · rw [if_neg h0, if_neg h0]
    exact ⟨⟨k1, rfl, rfl, rfl, k5, k6⟩, k7⟩

theorem set_same {α : Type} {L : List α} {i : Nat} {y : α} (h : L[i]? = some y) : L.set i y = L := by
  refine List.ext_getElem? (fun j => ?_)
  by_cases hj : j = i
  · subst hj
    rw [List.getElem?_set_self (List.getElem?_eq_some_iff.1 h).1, h]
  · rw [List.getElem?_set_ne (fun e => hj e.symm)]
/-- An event is put to the row. -/
theorem CtR.app {w : World} {b b3 qb ob rb pb : Nat} {PX : Array Value} {A : Option Addr} {n c : Nat} {A' : Option Addr} {m c' : Nat} {A2 : Option Addr} {q cq : Nat} {C : List Cr} {S : List Int} {P : List EvP} {E : List EvT} {B3 : Option Addr} {k d3 : Nat} {Eo : List EvT} {wr : World}
    (h : CtR w b b3 qb ob rb pb PX A n c A' m c' A2 q cq C S P E B3 k d3 Eo wr) (hb3 : w.heap.size ≤ b3) (hob : w.heap.size ≤ ob) (hqo : qb ≠ ob) (hro : rb ≠ ob) (hpo : pb ≠ ob) {O : Obj} {w3 : World} {v' : Value} {x : EvT} {news : List Value} (hn : evC Eo ++ news = evC (Eo ++ [x]))
    (hown : w3.ownsRow b3 41 6 v' (k + 1) (evC Eo ++ news)) (hg : (wr.alloc O).grownBy w3 (Value.slice B3 k d3).ownBlock) :
    ∃ A3 d, v' = .slice A3 (k + 1) d ∧ Blk w3 ob 28 #[.slice A n c, .slice A' m c', .slice B3 k d3] ∧ CtR w b b3 qb ob rb pb PX A n c A' m c' A2 q cq C S P E A3 (k + 1) d (Eo ++ [x]) (w3.setCell ⟨ob, 2, none⟩ (.slice A3 (k + 1) d)) := by
  obtain ⟨A3, d, rfl⟩ := own_slice hown
  rw [hn] at hown
  have hk : ∀ (g : Nat) (T : TypeId) (cs : Array Value), T ≠ 41 → Blk wr g T cs → Blk w3 g T cs := fun g T cs hT hB => (hB.below (ba _ _)).grown hg (blk_apart hB h.row hT)
  have ho := hk _ _ _ (by decide) h.ox
  have hk2 : ∀ (g : Nat) (T : TypeId) (cs : Array Value), T ≠ 28 → Blk w3 g T cs → Blk (w3.setCell ⟨ob, 2, none⟩ (.slice A3 (k + 1) d)) g T cs := fun g T cs hT hB => hB.setOther (hB.ne ho hT) _ _
  have hk3 : ∀ (g : Nat) (T : TypeId) (cs : Array Value), T ≠ 41 → T ≠ 28 → Blk wr g T cs → Blk (w3.setCell ⟨ob, 2, none⟩ (.slice A3 (k + 1) d)) g T cs := fun g T cs h1 h2 hB => hk2 g T cs h2 (hk g T cs h1 hB)
  refine ⟨A3, d, rfl, ho, ⟨⟨⟨h.pc.o3.crs.blk (fun g cs h2 => hk3 g _ cs (by decide) (by decide) h2), h.pc.o3.stp.blk (fun g cs h2 => hk3 g _ cs (by decide) (by decide) h2), h.pc.o3.hn, h.pc.o3.hm, h.pc.o3.hq⟩, h.pc.e1, h.pc.e2.blk (fun g cs h2 => hk3 g _ cs (by decide) (by decide) h2), ⟨h.pc.e3.1, h.pc.e3.2.1, fun hn => ?_⟩, h.pc.dst⟩, h.bl, ?_, ?_, ?_, ?_, ?_, ?_⟩⟩
  · obtain ⟨g, cur, e1, e2, e3, e4⟩ := h.pc.e3.2.2 hn
    refine ⟨g, cur, e1, e2, hk2 _ _ _ (by decide) ((e3.below (ba _ _)).grown hg (fun e => ?_)), e4⟩
    have h1 := h.bl hn g e1
    have h2 := (h.row.lt g e.symm).1
    omega
  · exact ownsRow_heap hown (fun g2 hg2 => set_other _ _ _ _ _ (fun e => blk_apart ho hown (by decide) (by rw [← e]; exact hg2.symm)))
  · exact (hk _ _ _ (by decide) h.qx).setOther hqo _ _
  · have := ho.set_ 2 (.slice A3 (k + 1) d)
    simpa using this
  · exact (hk _ _ _ (by decide) h.rs).setOther hro _ _
  · exact (hk _ _ _ (by decide) h.px).setOther hpo _ _
  · have h1 : Below w.heap.size w (wr.alloc O) := bt h.lo (ba _ _)
    exact (Below.grown h1 hg h1.size (fun g hh => by have := (h.row.lt g hh).1; omega)).setCell (p := ⟨ob, 2, none⟩) hob _

set_option maxRecDepth 100000 in
set_option maxHeartbeats 6400000 in
theorem rcut_any (A : Option Addr) (n c : Nat) (A' : Option Addr) (m c' : Nat) (A2 : Option Addr) (q cq : Nat) (C : List Cr) (S : List Int) (P : List EvP) (fr to : Int) (w : World) (hP : PcIn w A n c A' m c' A2 q cq C S P) (hnb : n ≤ 65536) (hmb : m ≤ 65536) (hqb : q ≤ 65536) (hst : ∀ y ∈ P, y.L.length ≤ 65536) :
    Calls Tryd.prog 37 #[pcV A n c A' m c' A2 q cq, .int .i64 fr, .int .i64 to] w (PcRes (cutErr (pcErr C S P) fr to q) C S (ctL fr.toNat to.toNat (setG P (frcL s0g P)) P (to.toNat - fr.toNat)) w) := by
  have HP : Hid (∀ w', Below w.heap.size w w' → PcIn w' A n c A' m c' A2 q cq C S P) := fun w' hb => hP.below hb
  have HST := Lib.hid hst
  have HL := Lib.hid hP.es.hq
  have HLC := Lib.hid (And.intro hP.hn hP.hm)
  have HBX := Lib.hid (pbox w A n c A' m c' A2 q cq)
  obtain ⟨X, hX⟩ : ∃ X, pcErr C S P = X := ⟨_, rfl⟩
  have PL : Hid (∀ w', PcIn w' A n c A' m c' A2 q cq C S P → Calls Tryd.prog 18 #[pcV A n c A' m c' A2 q cq] w' (PcResO X C S (setG P (frcL s0g P)) w')) := fun w' h => by
    have := rplainO_any A n c A' m c' A2 q cq C S P w' h hnb hmb hqb hst
    rwa [hX] at this
  have HGL : Hid ((setG P (frcL s0g P)).length = q ∧ ∀ y ∈ setG P (frcL s0g P), y.L.length ≤ 65536) := ⟨by rw [setG_len, HL.out], fun y hy => by
    obtain ⟨j, hj⟩ := List.mem_iff_getElem?.1 hy
    have h1 := congrArg (fun M => M[j]?) (setG_mapL P (frcL s0g P))
    simp only [List.getElem?_map] at h1
    rw [hj] at h1
    cases h2 : P[j]? with
    | none => rw [h2] at h1; simp at h1
    | some x =>
      rw [h2] at h1
      simp at h1
      rw [h1]
      exact hst x (List.mem_of_getElem? h2)⟩
  generalize setG P (frcL s0g P) = G at *
  rw [hX]
  obtain ⟨i0, ii1, ii2, ii3, ii4⟩ := info_parts Tryd.infoEv
  clear hX hP hst
  by_cases hX0 : X = 0
  rotate_left
  · have hXb : (X != 0) = true := by simpa using hX0
    rw [cutErr1 hX0]
    have HX0 := Lib.hid hX0
    clear hX0
    go_enter Tryd.func37, Tryd.ntmps37
    go_wp2_with (go_at_call 18; (with_reducible refine (PL.out _ (HP.out _ HBX.out.2.2.1)).mono ?_); rintro e W1 ⟨B, n1, d, B', m1, d', B2, q1, d2, E, rfl, hO, hb1⟩; obtain ⟨r0, r1, r2⟩ := HP0.cells (HBX.out.2.1.below hb1); have f0 := (HBX.out.2.1.below hb1).frozen 0; have f1 := (HBX.out.2.1.below hb1).frozen 1; have f2 := (HBX.out.2.1.below hb1).frozen 2; have hlr := (HBX.out.2.1.below hb1).lt; have HRB := Lib.hid (HBX.out.2.1.below hb1); have HB1 := Lib.hid hb1; clear hb1 hO)
    obtain ⟨hW, hZ⟩ := zero_box (w := w) (O := pcO B n1 d B' m1 d' B2 q1 d2) HRB.out (bt HBX.out.2.2.1 HB1.out) (by omega)
    obtain ⟨z0, z1, z2⟩ := HP0.cells hZ
    refine err_retW w _ X hW HX0.out ?_
    simp [results, Tryd.results37, go_sem, z0, z1, z2]
  subst hX0
  by_cases hbb : fr < 0 ∨ to < fr ∨ (q : Int) < to
  · rw [cutErr2 hbb]
    have hb2 : fr < 0 ∨ (¬ fr < 0 ∧ to < fr) ∨ (¬ fr < 0 ∧ ¬ to < fr ∧ (q : Int) < to) := by omega
    clear hbb
    rcases hb2 with hb2 | ⟨hb3, hb2⟩ | ⟨hb3, hb4, hb2⟩
    all_goals
      go_enter Tryd.func37, Tryd.ntmps37
      go_wp2_with (go_at_call 18; (with_reducible refine (PL.out _ (HP.out _ HBX.out.2.2.1)).mono ?_); rintro e W1 ⟨B, n1, d, B', m1, d', B2, q1, d2, E, rfl, hO, hb1⟩; obtain ⟨r0, r1, r2⟩ := HP0.cells (HBX.out.2.1.below hb1); obtain ⟨p0, p1, p2⟩ := HP0.cells ((HBX.out.1.below hb1).below (ba W1 (pcO B n1 d B' m1 d' B2 q1 d2))); have f0 := (HBX.out.2.1.below hb1).frozen 0; have f1 := (HBX.out.2.1.below hb1).frozen 1; have f2 := (HBX.out.2.1.below hb1).frozen 2; have hlr := (HBX.out.2.1.below hb1).lt; have HRB := Lib.hid (HBX.out.2.1.below hb1); have HB1 := Lib.hid hb1; clear hb1 hO)
      obtain ⟨hW, hZ⟩ := zero_box (w := w) (O := pcO B n1 d B' m1 d' B2 q1 d2) HRB.out (bt HBX.out.2.2.1 HB1.out) (by omega)
      obtain ⟨z0, z1, z2⟩ := HP0.cells hZ
      refine err_retW w _ 1 hW (by omega) ?_
      simp [results, Tryd.results37, go_sem, z0, z1, z2]
  rw [cutErr3 hbb]
  obtain ⟨f, rfl⟩ := Int.eq_ofNat_of_zero_le (show 0 ≤ fr by omega)
  obtain ⟨t, rfl⟩ := Int.eq_ofNat_of_zero_le (show 0 ≤ to by omega)
  have hft : f ≤ t := by omega
  have htq : t ≤ q := by omega
  have hfi : (f : Int) ≤ (t : Int) := by omega
  have hti : (t : Int) ≤ (q : Int) := by omega
  have hd1 : decide ((f : Int) < 0) = false := decide_eq_false (by omega)
  have hd2 : decide ((t : Int) < (f : Int)) = false := decide_eq_false (by omega)
  have hd3 : decide ((q : Int) < (t : Int)) = false := decide_eq_false (by omega)
  have hd4 : decide (t < f) = false := decide_eq_false (by omega)
  have hd5 : decide (q < t) = false := decide_eq_false (by omega)
  clear hbb
  rw [Int.toNat_natCast, Int.toNat_natCast]
  go_enter Tryd.func37, Tryd.ntmps37
  go_wp2_with (go_at_call 18; (with_reducible refine (PL.out _ (HP.out _ HBX.out.2.2.1)).mono ?_); rintro e W1 ⟨B, n1, d, B', m1, d', B2, q1, d2, E, rfl, hO, hb1⟩; rw [oC_ok, oC_ok, oC_ok] at hO; obtain rfl : n1 = n := hO.o3.hn.trans HLC.out.1.symm; obtain rfl : m1 = m := hO.o3.hm.trans HLC.out.2.symm; obtain rfl : q1 = q := hO.o3.hq.trans HGL.out.1; obtain ⟨p0, p1, p2⟩ := HP0.cells ((HBX.out.1.below hb1).below (ba W1 (pcO B n1 d B' m1 d' B2 q1 d2))); have hlr := (HBX.out.2.1.below hb1).lt; have HB1 := Lib.hid (And.intro (HBX.out.1.below hb1) (And.intro (HBX.out.2.1.below hb1) (And.intro hO (bt HBX.out.2.2.1 hb1)))); clear hb1 hO)
  have HR0 : Hid (CtR w w.heap.size (W1.heap.size + 2) W1.heap.size (W1.heap.size + 1) (w.heap.size + 1) w.heap.size #[.slice A n1 c, .slice A' m1 c', .slice A2 q1 cq] B n1 d B' m1 d' B2 q1 d2 C S (hkL f t 0 G) E none 0 0 (ctO f P E 0) ((W1.alloc (pcO B n1 d B' m1 d' B2 q1 d2)).alloc (pcO B n1 d B' m1 d' none 0 0))) := by
    have h1 := heap_alloc_new W1 (pcO B n1 d B' m1 d' B2 q1 d2)
    have h2 := heap_alloc_new (W1.alloc (pcO B n1 d B' m1 d' B2 q1 d2)) (pcO B n1 d B' m1 d' none 0 0)
    rw [World.size_alloc] at h2
    refine ⟨((HB1.out.2.2.1.below (bt (ba _ _) (ba _ _))).more (by first | (simp; done) | (simp; omega))), fun hq g hg => ?_, ⟨by simp [ctO, evC], .inl ⟨rfl, rfl⟩⟩, Blk.below (show Blk (W1.alloc (pcO B n1 d B' m1 d' B2 q1 d2)) W1.heap.size 28 #[.slice B n1 d, .slice B' m1 d', .slice B2 q1 d2] from h1) (ba _ _), h2, Blk.below HB1.out.2.1 (bt (ba _ _) (ba _ _)), Blk.below HB1.out.1 (bt (ba _ _) (ba _ _)), bt HB1.out.2.2.2 (bt (ba _ _) (ba _ _))⟩
    obtain ⟨g2, cur, e1, e2, e3, _⟩ := HB1.out.2.2.1.e3.2.2 hq
    rw [hg] at e1
    injection e1 with e1
    injection e1 with e1
    subst e1
    have := e3.lt
    omega
  have hlw : w.heap.size + 1 < W1.heap.size := hlr
  clear p0 p1 p2 hlr
  go_loopw [11] (fun iv wr => ∃ (i k : Nat) (B3 : Option Addr) (d3 : Nat), f ≤ i ∧ i ≤ t ∧ iv = .int .i64 i ∧ Hid (i = f + k) ∧ Hid (CtR w w.heap.size (W1.heap.size + 2) W1.heap.size (W1.heap.size + 1) (w.heap.size + 1) w.heap.size #[.slice A n1 c, .slice A' m1 c', .slice A2 q1 cq] B n1 d B' m1 d' B2 q1 d2 C S (hkL f t k G) E B3 k d3 (ctO f P E k) wr)) (fun i _ => t - (intOf i).toNat)
  case atStart => exact ⟨f, 0, none, 0, by omega, by omega, rfl, rfl, HR0.out⟩
  case round =>
    obtain ⟨i, k, B3, d3, hfi2, hit, rfl, HI, HR⟩ := hrel
    obtain ⟨o0, o1, o2⟩ := HP0.cells HR.out.ox
    obtain ⟨q0, q1', q2⟩ := HP0.cells HR.out.qx
    obtain ⟨p0, p1, p2⟩ := HP0.cells HR.out.px
    have lo := HR.out.ox.lt
    have lq := HR.out.qx.lt
    have lp := HR.out.px.lt
    by_cases hlt : i < t
    · have hkn : (i : Int) < (t : Int) := by omega
      have hiq : i < q1 := by omega
      have hiqn : (i : Int) < (q1 : Int) := by omega
      have hGk : G[i]? = some (G.getD i z6) := by
        have : i < G.length := by have := HGL.out.1; omega
        simp [List.getD_eq_getElem?_getD, List.getElem?_eq_getElem this]
      have HY : Hid ((hkL f t k G)[i]? = some (G.getD i z6)) := by unfold Hid; rw [hkL_at f t G k _ (Nat.le_of_eq HI.out.symm)]; exact hGk
      have hyl := HGL.out.2 _ (List.mem_of_getElem? hGk)
      obtain ⟨ge, x, rfl, _, hge, hx, ⟨c0, c1, c2, c3, c4, c5⟩, _, _, _, _⟩ := HR.out.pc.sign HY.out
      obtain ⟨k1, k2⟩ := HR.out.pc.e2 _ _ _ hx HY.out
      have HEX := Lib.hid (And.intro hx (And.intro k1 k2))
      obtain ⟨gp, op, sap, scp, hA2, hgp, hPk, _, ⟨_, s1, s2, s3, _, _⟩, _⟩ := (HP.out _ HR.out.lo).es.at hiq
      subst hA2
      clear hx k1 k2 hPk
      have HGD : Hid (G.getD i z6 = G.getD i z6) := rfl
      obtain ⟨y, hy⟩ : ∃ y, G.getD i z6 = y := ⟨_, rfl⟩
      rw [hy] at HY HEX hyl c0 c1 c2 c3 c4 c5
      have HYD := Lib.hid hy
      clear hy
      obtain ⟨z, hz⟩ : ∃ z, P.getD i z6 = z := ⟨_, rfl⟩
      rw [hz] at s1 s2 s3
      have HZD := Lib.hid hz
      clear hz
      obtain ⟨bar, v, dd, tt, tie, L⟩ := y
      obtain ⟨zb, zv, zd, zt, ztie, zL⟩ := z
      dsimp only at c0 c1 c2 c3 c4 c5 s1 s2 s3 hyl
      by_cases hk0 : i = f
      · have HI0 := Lib.hid hk0
        have hk0i : ¬ ((f : Int) < (i : Int)) := by omega
        clear hk0
        go_wp2_with (fail)
        have HS0 : Hid (CtR w w.heap.size (W1.heap.size + 2) W1.heap.size (W1.heap.size + 1) (w.heap.size + 1) w.heap.size #[.slice A n1 c, .slice A' m1 c', .slice (some ⟨gp, op, none⟩) q1 cq] B n1 d B' m1 d' (some ⟨ge, 0, none⟩) q1 d2 C S ((hkL f t k G).set i ⟨bar, v, dd, tt, tie, mpK (cutS t i) 0 L⟩) E B3 k d3 (ctO f P E k) (wr.alloc (.cells #[.bool bar, .int .i64 v, .bool dd, .bool tt, .bool false, .slice x.sa L.length x.sc] 41))) := by
          unfold Hid
          rw [mpK_zero, set_same HY.out]
          exact HR.out.below (ba _ _)
        have HB0 : Hid (Blk (wr.alloc (.cells #[.bool bar, .int .i64 v, .bool dd, .bool tt, .bool false, .slice x.sa L.length x.sc] 41)) wr.heap.size 41 #[.bool bar, .int .i64 v, .bool dd, .bool tt, .bool false, .slice x.sa L.length x.sc]) := heap_alloc_new wr _
        have hbr : w.heap.size ≤ wr.heap.size := HR.out.lo.size
        clear c0 c1 c2 c3 c4 c5 s1 s2 s3 o0 o1 o2 q0 q1' q2 p0 p1 p2 lp lq
        obtain ⟨xb, hxb⟩ : ∃ xb, wr.heap.size = xb := ⟨_, rfl⟩
        obtain ⟨wy, hwy⟩ : ∃ wy, wr.alloc (.cells #[.bool bar, .int .i64 v, .bool dd, .bool tt, .bool false, .slice x.sa L.length x.sc] 41) = wy := ⟨_, rfl⟩
        rw [hwy] at HS0 HB0 ⊢
        rw [hxb] at HB0 ⊢
        clear hwy hxb hge hgp lo
        go_loopw [13] (fun jv wx => ∃ j : Nat, j ≤ L.length ∧ jv = .int .i64 j ∧ Hid (CtR w w.heap.size (W1.heap.size + 2) W1.heap.size (W1.heap.size + 1) (w.heap.size + 1) w.heap.size #[.slice A n1 c, .slice A' m1 c', .slice (some ⟨gp, op, none⟩) q1 cq] B n1 d B' m1 d' (some ⟨ge, 0, none⟩) q1 d2 C S ((hkL f t k G).set i ⟨bar, v, dd, tt, tie, mpK (cutS t i) j L⟩) E B3 k d3 (ctO f P E k) wx) ∧ Hid (Blk wx xb 41 #[.bool bar, .int .i64 v, .bool dd, .bool tt, .bool false, .slice x.sa L.length x.sc])) (fun jv _ => L.length - (intOf jv).toNat)
        case atStart => exact ⟨0, by omega, rfl, HS0.out, HB0.out⟩
        case round =>
          obtain ⟨j, hj, rfl, HS, HB⟩ := hrel
          have xc5 := HB.out.cell 5
          simp at xc5
          have lx := HB.out.lt
          have hYL : ((hkL f t k G).set i ⟨bar, v, dd, tt, tie, mpK (cutS t i) j L⟩)[i]? = some ⟨bar, v, dd, tt, tie, mpK (cutS t i) j L⟩ := List.getElem?_set_self (List.getElem?_eq_some_iff.1 HY.out).1
          have HYL := Lib.hid hYL
          clear hYL
          by_cases hjl : j < L.length
          · have hji : (j : Int) < ((L.length : Nat) : Int) := by omega
            have hsj : L[j]? = some (L.getD j z5) := by simp [List.getD_eq_getElem?_getD, List.getElem?_eq_getElem hjl]
            obtain ⟨x', g, hx', hsa, hsn, hlg, h4, hfz, ⟨cs, hBs⟩, hnext⟩ := HS.out.stop (Nat.le_refl _) HYL.out (show (mpK (cutS t i) j L)[j]? = some (L.getD j z5) by rw [mpK_at _ j _ hjl]; exact hsj)
            obtain rfl : x = x' := by
              have := HEX.out.1
              rw [hx'] at this
              injection this with this
              exact this.symm
            have hgx := hBs.ne HB.out (by decide)
            have hxg : xb ≠ g := fun e => hgx e.symm
            rw [hsa] at xc5
            have HM := Lib.hid (mpK_set (cutS t i) j L _ hsj)
            generalize L.getD j z5 = s at *
            obtain ⟨sc0, sf, sr, sg, sh⟩ := s
            dsimp only at hnext h4
            simp only [List.set_set] at hnext
            have HNX : Hid (∀ u : Int, u = min sh ((t : Int) - 1 - i) → Hid (CtR w w.heap.size (W1.heap.size + 2) W1.heap.size (W1.heap.size + 1) (w.heap.size + 1) w.heap.size #[.slice A n1 c, .slice A' m1 c', .slice (some ⟨gp, op, none⟩) q1 cq] B n1 d B' m1 d' (some ⟨ge, 0, none⟩) q1 d2 C S ((hkL f t k G).set i ⟨bar, v, dd, tt, tie, mpK (cutS t i) (j + 1) L⟩) E B3 k d3 (ctO f P E k) (wr.setCell ⟨g, j * 5 + 4, none⟩ (.int .i64 u)).drew) ∧ Hid (Blk (wr.setCell ⟨g, j * 5 + 4, none⟩ (.int .i64 u)).drew xb 41 #[.bool bar, .int .i64 v, .bool dd, .bool tt, .bool false, .slice x.sa L.length x.sc])) := fun u hu => by
              subst hu
              constructor
              · have h := (hnext (min sh ((t : Int) - 1 - i))).below (Below.refl _ _).drew
                rw [show (⟨sc0, sf, sr, sg, min sh ((t : Int) - 1 - i)⟩ : St) = cutS t i ⟨sc0, sf, sr, sg, sh⟩ from rfl, HM.out] at h
                exact h
              · exact (HB.out.setOther hxg (j * 5 + 4) _).below (Below.refl _ _).drew
            have f4 := hfz (j * 5 + 4)
            clear hfz hnext hsj hBs hx' hsn hsa
            go_wp2_with (fail)
            go_still_tail 14, (by kernel_rfl)
            go_wp2_with (fail)
            all_goals
              go_roundw
              case rel => exact ⟨j + 1, by omega, by first | rfl | go_num, (HNX.out _ (by omega)).1, (HNX.out _ (by omega)).2⟩
              case measure => simp [intOf]; omega
          · obtain rfl : j = L.length := by omega
            obtain ⟨o0, o1, o2⟩ := HP0.cells HS.out.ox
            have lo := HS.out.ox.lt
            have xc0 := HB.out.cell 0
            have xc1 := HB.out.cell 1
            have xc2 := HB.out.cell 2
            have xc3 := HB.out.cell 3
            have xc4 := HB.out.cell 4
            simp at xc0 xc1 xc2 xc3 xc4
            have HEND : Hid (CtR w w.heap.size (W1.heap.size + 2) W1.heap.size (W1.heap.size + 1) (w.heap.size + 1) w.heap.size #[.slice A n1 c, .slice A' m1 c', .slice (some ⟨gp, op, none⟩) q1 cq] B n1 d B' m1 d' (some ⟨ge, 0, none⟩) q1 d2 C S (hkL f t (k + 1) G) E B3 k d3 (ctO f P E k) wr) := by
              have h := HS.out
              rw [mpK_all (cutS t i) _ L (Nat.le_refl _)] at h
              have e : hkL f t (k + 1) G = (hkL f t k G).set i ⟨bar, v, dd, tt, tie, L.map (cutS t i)⟩ := by
                rw [hkL, ← HI.out, HYD.out]
              unfold Hid
              rw [e]
              exact h
            have HNE : Hid (evC (ctO f P E k) ++ [.bool bar, .int .i64 v, .bool dd, .bool tt, .bool false, .slice x.sa L.length x.sc] = evC (ctO f P E k ++ [ctT f P E k])) := by
              obtain ⟨hx, ⟨k1, k2, k3, k4, k5, k6⟩, _⟩ := HEX.out
              have hxd : E.getD (f + k) zEvT = x := by rw [← HI.out]; simp [List.getD_eq_getElem?_getD, hx]
              have hkk := HI.out
              unfold Hid
              rw [evC_snoc]
              rw [show k = 0 by have := HI0.out; omega] at hxd ⊢
              unfold ctT
              rw [if_pos rfl, hxd]
              simp only [k1, k2, k3, k4, k6]
            have hkb : k ≤ 65536 := by have := HI.out; omega
            clear HS HYL
            go_wp2_with (at_builtin; (refine wpList_append_own _ rfl _ _ 26 rfl (W1.heap.size + 2) 41 i0 _ 6 56 Tryd.underlying26 ii1 ii2 ii3 ii4 rfl (by decide) (.slice B3 k d3) k _ rfl ((HEND.out.row).alloc _) ⟨wr.heap.size, 0, none⟩ 1 1 [.bool bar, .int .i64 v, .bool dd, .bool tt, .bool false, .slice x.sa L.length x.sc] rfl rfl ?d1 ?d2 ?d3 ?d4 ?d5 ?_))
            case d1 =>
              have := World.news_of_block (cs := #[.bool bar, .int .i64 v, .bool dd, .bool tt, .bool false, .slice x.sa L.length x.sc]) (t := 41) (fr := (0, 0)) (heap_alloc_new wr _)
              simpa using this
            case d2 =>
              intro u hu
              simp at hu
              (repeat' (rcases hu with rfl | hu)) <;> first | rfl | (subst hu; rfl)
            case d3 => unfold maxLen; omega
            case d4 => omega
            case d5 => simp; omega
            intro v' w7 hown' hgrow _
            obtain ⟨A3, d7, rfl, ho7, hC7⟩ := HEND.out.app (by omega) (by omega) (by omega) (by omega) (by omega) HNE.out hown' hgrow
            obtain ⟨o0, o1, o2⟩ := HP0.cells ho7
            have f2 := ho7.frozen 2
            have HC7 := Lib.hid hC7
            clear hown' hgrow ho7 hC7
            go_wp2_with (fail)
            go_roundw
            case rel => exact ⟨i + 1, k + 1, A3, d7, by omega, by omega, by first | rfl | go_num, by have := HI.out; unfold Hid; omega, by rw [ctO_succ]; exact HC7.out⟩
            case measure => simp [intOf]; omega
      · have HI0 := Lib.hid hk0
        have hk0i : (f : Int) < (i : Int) := by omega
        clear hk0
        go_wp2_with (fail)
        have HS0 : Hid (CtR w w.heap.size (W1.heap.size + 2) W1.heap.size (W1.heap.size + 1) (w.heap.size + 1) w.heap.size #[.slice A n1 c, .slice A' m1 c', .slice (some ⟨gp, op, none⟩) q1 cq] B n1 d B' m1 d' (some ⟨ge, 0, none⟩) q1 d2 C S ((hkL f t k G).set i ⟨bar, v, dd, tt, tie, mpK (cutS t i) 0 L⟩) E B3 k d3 (ctO f P E k) (wr.alloc (.cells #[.bool bar, .int .i64 zv, .bool zd, .bool zt, .bool tie, .slice x.sa L.length x.sc] 41))) := by
          unfold Hid
          rw [mpK_zero, set_same HY.out]
          exact HR.out.below (ba _ _)
        have HB0 : Hid (Blk (wr.alloc (.cells #[.bool bar, .int .i64 zv, .bool zd, .bool zt, .bool tie, .slice x.sa L.length x.sc] 41)) wr.heap.size 41 #[.bool bar, .int .i64 zv, .bool zd, .bool zt, .bool tie, .slice x.sa L.length x.sc]) := heap_alloc_new wr _
        have hbr : w.heap.size ≤ wr.heap.size := HR.out.lo.size
        clear c0 c1 c2 c3 c4 c5 s1 s2 s3 o0 o1 o2 q0 q1' q2 p0 p1 p2 lp lq
        obtain ⟨xb, hxb⟩ : ∃ xb, wr.heap.size = xb := ⟨_, rfl⟩
        obtain ⟨wy, hwy⟩ : ∃ wy, wr.alloc (.cells #[.bool bar, .int .i64 zv, .bool zd, .bool zt, .bool tie, .slice x.sa L.length x.sc] 41) = wy := ⟨_, rfl⟩
        rw [hwy] at HS0 HB0 ⊢
        rw [hxb] at HB0 ⊢
        clear hwy hxb hge hgp lo
        go_loopw [13] (fun jv wx => ∃ j : Nat, j ≤ L.length ∧ jv = .int .i64 j ∧ Hid (CtR w w.heap.size (W1.heap.size + 2) W1.heap.size (W1.heap.size + 1) (w.heap.size + 1) w.heap.size #[.slice A n1 c, .slice A' m1 c', .slice (some ⟨gp, op, none⟩) q1 cq] B n1 d B' m1 d' (some ⟨ge, 0, none⟩) q1 d2 C S ((hkL f t k G).set i ⟨bar, v, dd, tt, tie, mpK (cutS t i) j L⟩) E B3 k d3 (ctO f P E k) wx) ∧ Hid (Blk wx xb 41 #[.bool bar, .int .i64 zv, .bool zd, .bool zt, .bool tie, .slice x.sa L.length x.sc])) (fun jv _ => L.length - (intOf jv).toNat)
        case atStart => exact ⟨0, by omega, rfl, HS0.out, HB0.out⟩
        case round =>
          obtain ⟨j, hj, rfl, HS, HB⟩ := hrel
          have xc5 := HB.out.cell 5
          simp at xc5
          have lx := HB.out.lt
          have hYL : ((hkL f t k G).set i ⟨bar, v, dd, tt, tie, mpK (cutS t i) j L⟩)[i]? = some ⟨bar, v, dd, tt, tie, mpK (cutS t i) j L⟩ := List.getElem?_set_self (List.getElem?_eq_some_iff.1 HY.out).1
          have HYL := Lib.hid hYL
          clear hYL
          by_cases hjl : j < L.length
          · have hji : (j : Int) < ((L.length : Nat) : Int) := by omega
            have hsj : L[j]? = some (L.getD j z5) := by simp [List.getD_eq_getElem?_getD, List.getElem?_eq_getElem hjl]
            obtain ⟨x', g, hx', hsa, hsn, hlg, h4, hfz, ⟨cs, hBs⟩, hnext⟩ := HS.out.stop (Nat.le_refl _) HYL.out (show (mpK (cutS t i) j L)[j]? = some (L.getD j z5) by rw [mpK_at _ j _ hjl]; exact hsj)
            obtain rfl : x = x' := by
              have := HEX.out.1
              rw [hx'] at this
              injection this with this
              exact this.symm
            have hgx := hBs.ne HB.out (by decide)
            have hxg : xb ≠ g := fun e => hgx e.symm
            rw [hsa] at xc5
            have HM := Lib.hid (mpK_set (cutS t i) j L _ hsj)
            generalize L.getD j z5 = s at *
            obtain ⟨sc0, sf, sr, sg, sh⟩ := s
            dsimp only at hnext h4
            simp only [List.set_set] at hnext
            have HNX : Hid (∀ u : Int, u = min sh ((t : Int) - 1 - i) → Hid (CtR w w.heap.size (W1.heap.size + 2) W1.heap.size (W1.heap.size + 1) (w.heap.size + 1) w.heap.size #[.slice A n1 c, .slice A' m1 c', .slice (some ⟨gp, op, none⟩) q1 cq] B n1 d B' m1 d' (some ⟨ge, 0, none⟩) q1 d2 C S ((hkL f t k G).set i ⟨bar, v, dd, tt, tie, mpK (cutS t i) (j + 1) L⟩) E B3 k d3 (ctO f P E k) (wr.setCell ⟨g, j * 5 + 4, none⟩ (.int .i64 u)).drew) ∧ Hid (Blk (wr.setCell ⟨g, j * 5 + 4, none⟩ (.int .i64 u)).drew xb 41 #[.bool bar, .int .i64 zv, .bool zd, .bool zt, .bool tie, .slice x.sa L.length x.sc])) := fun u hu => by
              subst hu
              constructor
              · have h := (hnext (min sh ((t : Int) - 1 - i))).below (Below.refl _ _).drew
                rw [show (⟨sc0, sf, sr, sg, min sh ((t : Int) - 1 - i)⟩ : St) = cutS t i ⟨sc0, sf, sr, sg, sh⟩ from rfl, HM.out] at h
                exact h
              · exact (HB.out.setOther hxg (j * 5 + 4) _).below (Below.refl _ _).drew
            have f4 := hfz (j * 5 + 4)
            clear hfz hnext hsj hBs hx' hsn hsa
            go_wp2_with (fail)
            go_still_tail 14, (by kernel_rfl)
            go_wp2_with (fail)
            all_goals
              go_roundw
              case rel => exact ⟨j + 1, by omega, by first | rfl | go_num, (HNX.out _ (by omega)).1, (HNX.out _ (by omega)).2⟩
              case measure => simp [intOf]; omega
          · obtain rfl : j = L.length := by omega
            obtain ⟨o0, o1, o2⟩ := HP0.cells HS.out.ox
            have lo := HS.out.ox.lt
            have xc0 := HB.out.cell 0
            have xc1 := HB.out.cell 1
            have xc2 := HB.out.cell 2
            have xc3 := HB.out.cell 3
            have xc4 := HB.out.cell 4
            simp at xc0 xc1 xc2 xc3 xc4
            have HEND : Hid (CtR w w.heap.size (W1.heap.size + 2) W1.heap.size (W1.heap.size + 1) (w.heap.size + 1) w.heap.size #[.slice A n1 c, .slice A' m1 c', .slice (some ⟨gp, op, none⟩) q1 cq] B n1 d B' m1 d' (some ⟨ge, 0, none⟩) q1 d2 C S (hkL f t (k + 1) G) E B3 k d3 (ctO f P E k) wr) := by
              have h := HS.out
              rw [mpK_all (cutS t i) _ L (Nat.le_refl _)] at h
              have e : hkL f t (k + 1) G = (hkL f t k G).set i ⟨bar, v, dd, tt, tie, L.map (cutS t i)⟩ := by
                rw [hkL, ← HI.out, HYD.out]
              unfold Hid
              rw [e]
              exact h
            have HNE : Hid (evC (ctO f P E k) ++ [.bool bar, .int .i64 zv, .bool zd, .bool zt, .bool tie, .slice x.sa L.length x.sc] = evC (ctO f P E k ++ [ctT f P E k])) := by
              obtain ⟨hx, ⟨k1, k2, k3, k4, k5, k6⟩, _⟩ := HEX.out
              have hxd : E.getD (f + k) zEvT = x := by rw [← HI.out]; simp [List.getD_eq_getElem?_getD, hx]
              have hkk := HI.out
              unfold Hid
              rw [evC_snoc]
              have hpd : P.getD (f + k) z6 = ⟨zb, zv, zd, zt, ztie, zL⟩ := by rw [← HI.out]; exact HZD.out
              unfold ctT
              rw [if_neg (fun e => HI0.out (by omega)), hxd, hpd]
              simp only [upT, k1, k5, k6]
            have hkb : k ≤ 65536 := by have := HI.out; omega
            clear HS HYL
            go_wp2_with (at_builtin; (refine wpList_append_own _ rfl _ _ 26 rfl (W1.heap.size + 2) 41 i0 _ 6 56 Tryd.underlying26 ii1 ii2 ii3 ii4 rfl (by decide) (.slice B3 k d3) k _ rfl ((HEND.out.row).alloc _) ⟨wr.heap.size, 0, none⟩ 1 1 [.bool bar, .int .i64 zv, .bool zd, .bool zt, .bool tie, .slice x.sa L.length x.sc] rfl rfl ?d1 ?d2 ?d3 ?d4 ?d5 ?_))
            case d1 =>
              have := World.news_of_block (cs := #[.bool bar, .int .i64 zv, .bool zd, .bool zt, .bool tie, .slice x.sa L.length x.sc]) (t := 41) (fr := (0, 0)) (heap_alloc_new wr _)
              simpa using this
            case d2 =>
              intro u hu
              simp at hu
              (repeat' (rcases hu with rfl | hu)) <;> first | rfl | (subst hu; rfl)
            case d3 => unfold maxLen; omega
            case d4 => omega
            case d5 => simp; omega
            intro v' w7 hown' hgrow _
            obtain ⟨A3, d7, rfl, ho7, hC7⟩ := HEND.out.app (by omega) (by omega) (by omega) (by omega) (by omega) HNE.out hown' hgrow
            obtain ⟨o0, o1, o2⟩ := HP0.cells ho7
            have f2 := ho7.frozen 2
            have HC7 := Lib.hid hC7
            clear hown' hgrow ho7 hC7
            go_wp2_with (fail)
            go_roundw
            case rel => exact ⟨i + 1, k + 1, A3, d7, by omega, by omega, by first | rfl | go_num, by have := HI.out; unfold Hid; omega, by rw [ctO_succ]; exact HC7.out⟩
            case measure => simp [intOf]; omega
    · obtain rfl : i = t := by omega
      obtain ⟨r0, r1, r2⟩ := HP0.cells HR.out.rs
      have f0 := HR.out.rs.frozen 0
      have f1 := HR.out.rs.frozen 1
      have f2 := HR.out.rs.frozen 2
      have lr := HR.out.rs.lt
      have hke : i - f = k := by have := HI.out; omega
      have HPO : Hid (PcOw wr w.heap.size B n1 d B' m1 d' B3 k d3 C S (ctL f i G P k)) := by
        have h := HR.out
        have hl := HGL.out.1
        refine ⟨h.pc.o3.crs, h.pc.o3.stp, h.pc.o3.hn, h.pc.o3.hm, by simp [ctL], ctO f P E k, by simp [ctO, ctL], ct_cpe h.pc.e2 (by rw [h.pc.e1, hkL_len]) (by have := HI.out; omega), (Ow.of_own h.row).more (by omega)⟩
      have HKE := Lib.hid hke
      clear hke
      go_wp2_with (fail)
      have hR3 := ((HR.out.rs.set_ 0 (.slice B n1 d)).set_ 1 (.slice B' m1 d')).set_ 2 (.slice B3 k d3)
      have z0 := hR3.cell 0
      have z1 := hR3.cell 1
      have z2 := hR3.cell 2
      refine bodyPost_ret (v := .tuple #[pcV B n1 d B' m1 d' B3 k d3, .int .i64 0]) ?_ rfl ?_
      · simp at z0 z1 z2
        simp [results, Tryd.results37, go_sem, z0, z1, z2]
      · refine ⟨B, n1, d, B', m1, d', B3, k, d3, rfl, ?_, ((HR.out.lo.setCell (p := ⟨w.heap.size + 1, 0, none⟩) (by simp) _).setCell (p := ⟨w.heap.size + 1, 1, none⟩) (by simp) _).setCell (p := ⟨w.heap.size + 1, 2, none⟩) (by simp) _⟩
        rw [oC_ok, oC_ok, oC_ok, HKE.out]
        exact HPO.out.blkB (fun g T cs _ hT h2 => ((h2.setOther (h2.ne HR.out.rs hT) _ _).setOther (h2.ne HR.out.rs hT) _ _).setOther (h2.ne HR.out.rs hT) _ _)

end Go.Proofs.YtjobablfojnppaaDoor

/- The law PieceCuts returns true for every piece and numbers. -/
namespace Go.Proofs.YtjobablfojnppaaDoor
open Go Go.RowKit

theorem tm_at : ∀ (P : List EvP) (n : Nat) (v : Int) (d t : Bool) (fm : Int) (j : Nat) (p : TmP), (tmPL P n v d t fm)[j]? = some p → p.n = n + j ∧ P[j]? = some p.y
  | [], n, v, d, t, fm, j, p, h => by simp [tmPL] at h
  | y :: r, n, v, d, t, fm, 0, p, h => by
    unfold tmPL at h
    split at h
    all_goals
      simp at h
      subst h
      exact ⟨rfl, rfl⟩
  | y :: r, n, v, d, t, fm, j + 1, p, h => by
    unfold tmPL at h
    split at h
    all_goals
      have := tm_at r _ _ _ _ _ j p (by simpa using h)
      exact ⟨by omega, by simpa using this.2⟩
theorem rwO_cut (f t : Int) (X : List TmP) : (rwO (cutSt f t) () X).1 = X.map fun p => (cutSt f t () p).2 := by
  have : ∀ (X : List TmP) (o : List EvP), (X.foldl (fun a p => (a.1 ++ [(cutSt f t a.2 p).2], (cutSt f t a.2 p).1)) (o, ())).1 = o ++ X.map fun p => (cutSt f t () p).2 := by
    intro X
    induction X with
    | nil => intro o; simp
    | cons p r ih =>
      intro o
      rw [List.foldl_cons]
      show (List.foldl _ (o ++ [(cutSt f t () p).2], ()) r).1 = _
      rw [ih]
      simp
  unfold rwO
  rw [this]
  simp
theorem getD_of {α : Type} {L : List α} {i : Nat} {x z : α} (h : L[i]? = some x) : L.getD i z = x := by simp [List.getD_eq_getElem?_getD, h]
theorem cut_eq {P : List EvP} (hP : SgR P) {f t : Nat} (h1 : f ≤ t) (h2 : t ≤ P.length) : ((rwO (cutSt f t) () (tpL P)).1.drop f).take (t - f) = ctL f t (setG P (frcL s0g P)) P (t - f) := by
  rw [rwO_cut]
  refine List.ext_getElem? (fun j => ?_)
  by_cases hj : j < t - f
  · rw [List.getElem?_take, if_pos hj, List.getElem?_drop, List.getElem?_map]
    have hl : f + j < (tpL P).length := by rw [tmPL_len]; omega
    have hp := List.getElem?_eq_getElem hl
    generalize (tpL P)[f + j] = p at hp
    obtain ⟨k1, k2⟩ := tm_at P 0 0 false false 0 _ _ hp
    have hg := congrArg (fun L => L[f + j]?) (tm_plain P 0 0 false false 0 hP)
    simp only [List.getElem?_map] at hg
    rw [hp] at hg
    have e1 : (setG P (frcL s0g P)).getD (f + j) z6 = upS p.y ⟨p.v, p.d, p.t⟩ := getD_of hg.symm
    have e2 : P.getD (f + j) z6 = p.y := getD_of k2
    have e3 : p.n = f + j := by omega
    rw [hp]
    show some (cutSt f t () p).2 = _
    unfold ctL
    rw [List.getElem?_map, List.getElem?_range hj]
    show _ = some (ctE f t (setG P (frcL s0g P)) P j)
    unfold ctE cutSt
    rw [e1, e2, e3]
    by_cases h0 : j = 0
    · rw [if_pos h0, if_pos (by omega)]
      rfl
    · rw [if_neg h0, if_neg (by omega)]
      rfl
  · rw [List.getElem?_take, if_neg hj, List.getElem?_eq_none (by simp [ctL]; omega)]
theorem ctL_L {f t k : Nat} {P : List EvP} {F : List Sg} {N : Nat} (h : ∀ y ∈ P, y.L.length ≤ N) : ∀ y ∈ ctL f t (setG P F) P k, y.L.length ≤ N := fun y hy => by
  unfold ctL at hy
  obtain ⟨j, _, rfl⟩ := List.mem_map.1 hy
  have e : (ctE f t (setG P F) P j).L = ((setG P F).getD (f + j) z6).L.map (cutS t (f + j : Nat)) := by
    unfold ctE
    split <;> rfl
  rw [e, List.length_map, setG_L]
  by_cases hi : f + j < P.length
  · exact h _ (by simp [List.getD_eq_getElem?_getD, List.getElem?_eq_getElem hi])
  · simp [List.getD_eq_getElem?_getD, List.getElem?_eq_none (Nat.le_of_not_lt hi), z6]
theorem oC_oC {α : Type} (er : Int) (L : List α) : oC er (oC er L) = oC er L := oC_same (fun h => by rw [h, oC_ok])
theorem cutErr_ok {X fr to : Int} {q : Nat} (h : cutErr X fr to q = 0) : X = 0 ∧ 0 ≤ fr ∧ fr ≤ to ∧ to ≤ q := by
  unfold cutErr at h
  split at h
  · rename_i h1
    exact absurd h h1
  · rename_i h1
    split at h
    · simp at h
    · rename_i h2
      exact ⟨by omega, by omega, by omega, by omega⟩

set_option maxRecDepth 100000 in
set_option maxHeartbeats 16000000 in
theorem law_pcuts (A : Option Addr) (n c : Nat) (A' : Option Addr) (m c' : Nat) (A2 : Option Addr) (q cq : Nat) (C : List Cr) (S : List Int) (P : List EvP) (fr to : Int) (w : World) (hT : SgT w) (hP : PcIn w A n c A' m c' A2 q cq C S P) :
    Calls Tryd.prog 7 #[pcV A n c A' m c' A2 q cq, .int .i64 fr, .int .i64 to] w fun e w' => e = .returned (.bool true) ∧ Below w.heap.size w w' := by
  have HE : Hid (∀ w', Below (w.alloc (pcO A n c A' m c' A2 q cq)).heap.size (w.alloc (pcO A n c A' m c' A2 q cq)) w' → SgT w' ∧ PcIn w' A n c A' m c' A2 q cq C S P) :=
    fun w' h => ⟨(hT.below (ba _ _)).below h, (hP.below (ba _ _)).below h⟩
  have hql := hP.es.hq
  have hnl := hP.hn
  have hml := hP.hm
  have HI := Lib.hid (HE.out _ (Below.refl _ _)).2
  clear hT hP
  cases hbg : pbigB n m P with
  | true =>
    have HB := Lib.hid hbg
    clear hbg hql hnl hml
    go_enter Tryd.func7, Tryd.ntmps7
    go_wp2_with (first | (go_at_call 14; refine (pbig_any A n c A' m c' A2 q cq P _ HI.out.es).mono ?_; rintro e w1 ⟨rfl, hb1⟩; rw [HB.out]; have T := hb1; clear hb1; obtain ⟨x0, x1, x2⟩ := cell3 T) | (go_at_call 15; refine (works2 _ (HE.out _ T).1).mono ?_; rintro e wz ⟨rfl, hbz⟩))
    go_ret
    exact ⟨rfl, bx (bt T hbz)⟩
  | false =>
    have HB := Lib.hid hbg
    obtain ⟨l1, l2, l3, l4⟩ := pbigB_no hbg
    have b1 : n ≤ 65536 := by omega
    have b2 : m ≤ 65536 := by omega
    have b3 : q ≤ 65536 := by omega
    have HST : Hid (∀ y ∈ P, y.L.length ≤ 65536) := fun y hy => Nat.le_trans (l4 y hy) (by omega)
    have HSU : Hid (∀ y ∈ P, y.L.length ≤ 1000000) := fun y hy => Nat.le_trans (l4 y hy) (by omega)
    have CC := Lib.hid (fun w' (h : PcIn w' A n c A' m c' A2 q cq C S P) => pcopy_any A n c A' m c' A2 q cq C S P w' h b1 b2 b3 HST.out)
    obtain ⟨X, hX⟩ : ∃ X, pcErr C S P = X := ⟨_, rfl⟩
    obtain ⟨E1, hE1⟩ : ∃ E1, cutErr X fr to q = E1 := ⟨_, rfl⟩
    obtain ⟨L1, hL1⟩ : ∃ L1, oC E1 (ctL fr.toNat to.toNat (setG P (frcL s0g P)) P (to.toNat - fr.toNat)) = L1 := ⟨_, rfl⟩
    have hL2 : E1 = 0 → ((rwO (cutSt fr to) () (tpL P)).1.drop fr.toNat).take (to.toNat - fr.toNat) = L1 := fun h0 => by
      rw [h0] at hE1
      obtain ⟨x0, x1, x2, x3⟩ := cutErr_ok hE1
      rw [← hL1, h0, oC_ok]
      obtain ⟨f, rfl⟩ := Int.eq_ofNat_of_zero_le x1
      obtain ⟨t, rfl⟩ := Int.eq_ofNat_of_zero_le (show 0 ≤ to by omega)
      exact cut_eq (sgr_of (hX.trans x0)) (by omega) (by omega)
    have hL3 : E1 = 0 → ctL fr.toNat to.toNat (setG P (frcL s0g P)) P (to.toNat - fr.toNat) = L1 := fun h0 => by rw [← hL1, h0, oC_ok]
    have hLl : L1.length ≤ 65536 := by
      by_cases h0 : E1 = 0
      · rw [h0] at hE1
        obtain ⟨x0, x1, x2, x3⟩ := cutErr_ok hE1
        rw [← hL3 h0]
        simp [ctL]
        omega
      · rw [← hL1, oC_no h0]
        simp
    have HLS : Hid (∀ y ∈ L1, y.L.length ≤ 1000000) := fun y hy => by
      rw [← hL1] at hy
      exact ctL_L HSU.out y (oC_mem hy)
    have AG1 : Hid (∀ (B : Option Addr) (e : Nat) (B' : Option Addr) (e' : Nat) (B2 : Option Addr) (e2 : Nat) w' (_ : PcIn w' B n e B' m e' B2 q e2 C S P), Calls Tryd.prog 36 #[pcV B n e B' m e' B2 q e2, .int .i64 fr, .int .i64 to] w' (PcUse E1 (oC E1 C) (oC E1 S) (oC E1 L1) w')) := fun B e B' e' B2 e2 w' h => by
      refine (pcut_any B n e B' m e' B2 q e2 C S P fr to w' h (by omega) (by omega) b3 HSU.out).mono (fun e w2 hr => ?_)
      rw [hX, hE1] at hr
      exact (hr.sub hL2).use (by omega) (by omega) hLl
    have RG : Hid (∀ w' (_ : PcIn w' A n c A' m c' A2 q cq C S P), Calls Tryd.prog 37 #[pcV A n c A' m c' A2 q cq, .int .i64 fr, .int .i64 to] w' (PcUse E1 (oC E1 C) (oC E1 S) (oC E1 L1) w')) := fun w' h => by
      refine (rcut_any A n c A' m c' A2 q cq C S P fr to w' h b1 b2 b3 HST.out).mono (fun e w2 hr => ?_)
      rw [hX, hE1] at hr
      exact (hr.sub hL3).use (by omega) (by omega) hLl
    have HST1 : Hid (∀ y ∈ oC E1 L1, y.L.length ≤ 1000000) := fun y hy => HLS.out y (oC_mem hy)
    clear hbg l1 l2 l3 l4 hql hnl hml hX hE1 hL1 hL2 hL3 hLl
    generalize oC E1 C = C1 at *
    generalize oC E1 S = S1 at *
    generalize oC E1 L1 = P1 at *
    unfold PcUse at AG1 RG
    go_enter Tryd.func7, Tryd.ntmps7
    go_wp2_with (first
      | (go_at_call 14; refine (pbig_any A n c A' m c' A2 q cq P _ HI.out.es).mono ?_; rintro e w1 ⟨rfl, hb1⟩; rw [HB.out]; have T := hb1; clear hb1; obtain ⟨x0, x1, x2⟩ := cell3 T)
      | (go_at_call 16; refine (CC.out _ (HE.out _ T).2).mono ?_; rintro e wc ⟨B, d, B', d', B2, d2, rfl, hPc, hbc⟩; replace T := bt T hbc; have HPc := Lib.hid hPc; clear hPc hbc; clear x0 x1 x2; obtain ⟨x0, x1, x2⟩ := cell3 T)
      | (go_at_call 36; (with_reducible refine (AG1.out _ _ _ _ _ _ _ HPc.out).mono ?_); rintro e wa ⟨Ba, na, da, Ba', ma, da', Ba2, qa, da2, rfl, hPa, hba, hla⟩; replace T := bt T (bt hla (ba wa (pcO Ba na da Ba' ma da' Ba2 qa da2))); have HA := Lib.hid (And.intro (hPa.below (ba wa (pcO Ba na da Ba' ma da' Ba2 qa da2))) (And.intro (heap_alloc_new wa (pcO Ba na da Ba' ma da' Ba2 qa da2)) hba)); clear hPa hba hla; clear x0 x1 x2; obtain ⟨x0, x1, x2⟩ := cell3 T)
      | (go_at_call 37; refine (RG.out _ (HE.out _ T).2).mono ?_; rintro e wb ⟨Bb, nb, db, Bb', mb, db', Bb2, qb, db2, rfl, hPb, hbb, hlb⟩; have hl2 := bt hlb (ba wb (pcO Bb nb db Bb' mb db' Bb2 qb db2)); replace T := bt T hl2; have hBA := Blk.below HA.out.2.1 hl2; have a0 := hBA.cell 0; have a1 := hBA.cell 1; have a2 := hBA.cell 2; simp at a0 a1 a2; have hla := hBA.lt; have HAB := Lib.hid (And.intro (HA.out.1.below hl2) (And.intro HA.out.2.2 (And.intro (hPb.below (ba wb (pcO Bb nb db Bb' mb db' Bb2 qb db2))) hbb))); clear hPb hbb hlb hl2 hBA; clear x0 x1 x2; obtain ⟨x0, x1, x2⟩ := cell3 T)
      | (go_at_call 19; refine (same_true HAB.out.1 HAB.out.2.2.1 HAB.out.2.1 HAB.out.2.2.2 HST1.out).mono ?_; rintro e ws ⟨rfl, hbs⟩; replace T := bt T hbs; clear hbs a0 a1 a2; clear x0 x1 x2; obtain ⟨x0, x1, x2⟩ := cell3 T)
      | (go_at_call 15; refine (works2 _ (HE.out _ T).1).mono ?_; rintro e wz ⟨rfl, hbz⟩))
    go_ret
    exact ⟨rfl, bx (bt T hbz)⟩

end Go.Proofs.YtjobablfojnppaaDoor

/- Pieces that are cut in two and put together again: what is valid, what is played (plain). -/
namespace Go.Proofs.YtjobablfojnppaaDoor
open Go Go.RowKit

theorem pcErr_mk {C : List Cr} {S : List Int} {P : List EvP} (h1 : chk C S = 0) (h2 : P.length ≤ 400) (h3 : ∀ (j : Nat) (y : EvP), P[j]? = some y → sgnB j y = false ∧ tieB j y = false ∧ stsErr C P j 0 y.L = 0) : pcErr C S P = 0 := by
  unfold pcErr
  rw [if_neg (by simp [h1]), if_neg (by omega)]
  refine evsErr_of P 0 (fun j y hy => ?_)
  obtain ⟨k1, k2, k3⟩ := h3 j y hy
  rw [Nat.zero_add]
  unfold evErr
  rw [if_neg (by simp [k1]), if_neg (by simp [k2])]
  exact k3
theorem hs_c (c : Int) (L : List St) : hsB L c = (L.map St.c).any fun s => decide (s = c) := by
  unfold hsB
  rw [List.any_map]
  rfl
theorem lgGo_pre (c : Int) : ∀ (R' R : List EvP) (h : Nat), R'.length ≤ R.length → (∀ (j : Nat) (x y : EvP), R'[j]? = some x → R[j]? = some y → x.L.map St.c = y.L.map St.c ∧ x.tie = y.tie) → min (lgGo c R h) (h + R'.length) ≤ lgGo c R' h
  | [], R, h, _, _ => by
    unfold lgGo
    simp
    exact Nat.min_le_right _ _
  | _ :: _, [], _, hl, _ => by simp at hl
  | x :: R', y :: R, h, hl, hk => by
    obtain ⟨h1, h2⟩ := hk 0 x y rfl rfl
    have hlen : x.L.length = y.L.length := by
      have := congrArg List.length h1
      simpa using this
    have e1 : restB x = restB y := by unfold restB; rw [hlen, h2]
    have e2 : hsB x.L c = hsB y.L c := by rw [hs_c, hs_c, h1]
    unfold lgGo
    rw [e1, e2]
    split
    · exact Nat.min_le_left _ _
    · have := lgGo_pre c R' R (h + 1) (by simpa using hl) (fun j x y hx hy => hk (j + 1) x y (by simpa using hx) (by simpa using hy))
      rw [List.length_cons]
      omega
theorem lgGo_app (c : Int) (X : List EvP) : ∀ (R : List EvP) (h : Nat), h ≤ 15 → lgGo c R h ≤ lgGo c (R ++ X) h
  | [], h, hh => by
    rw [List.nil_append]
    exact (lgGo_le c X h hh).1
  | y :: R, h, hh => by
    rw [List.cons_append]
    unfold lgGo
    split
    · exact Nat.le_refl _
    · rename_i hn
      exact lgGo_app c X R (h + 1) (by omega)
theorem stsErr_mono {C : List Cr} {P Q : List EvP} {k k' : Nat} (h : ∀ c, lgst P k c ≤ lgst Q k' c) : ∀ (M : List St) (bf : Int), stsErr C P k bf M = 0 → stsErr C Q k' bf M = 0
  | [], _, _ => rfl
  | s :: M, bf, h0 => by
    unfold stsErr at h0 ⊢
    have e : stErr C P k bf s = 0 := by
      by_cases h1 : stErr C P k bf s = 0
      · exact h1
      · rw [if_neg h1] at h0
        exact absurd h0 h1
    rw [if_pos e] at h0
    have e2 : stErr C Q k' bf s = 0 := by
      have hc := h s.c
      unfold stErr at e ⊢
      split at e
      · simp at e
      · split at e
        · simp at e
        · split at e
          · simp at e
          · split at e
            · simp at e
            · split at e
              · simp at e
              · rename_i a1 a2 a3 a4 a5
                rw [if_neg a1, if_neg a2, if_neg a3, if_neg a4, if_neg (by omega)]
    rw [if_pos e2]
    exact stsErr_mono h M s.c h0
theorem stsErr_cut {C : List Cr} {P L : List EvP} {i j : Nat} {to n : Int} (hm : 0 ≤ to - 1 - n) (h : ∀ c, min (lgst P i c : Int) (to - 1 - n) ≤ lgst L j c) : ∀ (M : List St) (bf : Int), stsErr C P i bf M = 0 → stsErr C L j bf (M.map (cutS to n)) = 0
  | [], _, _ => rfl
  | ⟨sc, sf, sr, sg, sh⟩ :: M, bf, h0 => by
    rw [List.map_cons]
    unfold stsErr at h0 ⊢
    have e : stErr C P i bf ⟨sc, sf, sr, sg, sh⟩ = 0 := by
      by_cases h1 : stErr C P i bf ⟨sc, sf, sr, sg, sh⟩ = 0
      · exact h1
      · rw [if_neg h1] at h0
        exact absurd h0 h1
    rw [if_pos e] at h0
    have e2 : stErr C L j bf (cutS to n ⟨sc, sf, sr, sg, sh⟩) = 0 := by
      have hc := h sc
      show stErr C L j bf ⟨sc, sf, sr, sg, min sh (to - 1 - n)⟩ = 0
      unfold stErr at e ⊢
      dsimp only at e ⊢
      split at e
      · simp at e
      · split at e
        · simp at e
        · split at e
          · simp at e
          · split at e
            · simp at e
            · split at e
              · simp at e
              · rename_i a1 a2 a3 a4 a5
                rw [if_neg a1, if_neg a2, if_neg a3, if_neg a4, if_neg (by omega)]
    rw [if_pos e2]
    exact stsErr_cut hm h M sc h0
theorem ctL_at {f t k j : Nat} {G P : List EvP} {y : EvP} (h : (ctL f t G P k)[j]? = some y) : j < k ∧ y = ctE f t G P j := by
  have hj : j < k := by
    have := (List.getElem?_eq_some_iff.1 h).1
    simpa [ctL] using this
  refine ⟨hj, ?_⟩
  simp [ctL, List.getElem?_range hj] at h
  exact h.symm
/-- What stands in the plain piece at one place. -/
theorem plain_at {P : List EvP} {i : Nat} (hi : i < P.length) : (setG P (frcL s0g P)).getD i z6 = upS (P.getD i z6) ((frcL s0g P).getD i s0g) := by
  have h1 : P[i]? = some (P.getD i z6) := by simp [List.getD_eq_getElem?_getD, List.getElem?_eq_getElem hi]
  have hi2 : i < (frcL s0g P).length := by rw [frcL_len]; exact hi
  have h2 : (frcL s0g P)[i]? = some ((frcL s0g P).getD i s0g) := by simp [List.getD_eq_getElem?_getD, List.getElem?_eq_getElem hi2]
  refine getD_of ?_
  rw [setG_at _ _ _ (frcL_len _ _), h1, h2]
  rfl
theorem cut_map (to n : Int) (L : List St) : (L.map (cutS to n)).map St.c = L.map St.c := by
  rw [List.map_map]
  rfl
/-- The stops of an event that is cut out. -/
theorem ctE_L (f t : Nat) (P : List EvP) (j : Nat) (F : List Sg) : (ctE f t (setG P F) P j).L = (P.getD (f + j) z6).L.map (cutS t (f + j : Nat)) := by
  have e : (ctE f t (setG P F) P j).L = ((setG P F).getD (f + j) z6).L.map (cutS t (f + j : Nat)) := by
    unfold ctE
    split <;> rfl
  rw [e, setG_L]
theorem cut_valid {C : List Cr} {S : List Int} {P : List EvP} (h0 : pcErr C S P = 0) {f t : Nat} (h2 : t ≤ P.length) : pcErr C S (ctL f t (setG P (frcL s0g P)) P (t - f)) = 0 := by
  obtain ⟨c1, c2, c3⟩ := pcErr_ok h0
  refine pcErr_mk c1 (by simp [ctL]; omega) (fun j y hy => ?_)
  obtain ⟨hj, rfl⟩ := ctL_at hy
  have hi : f + j < P.length := by omega
  have hP : P[f + j]? = some (P.getD (f + j) z6) := by simp [List.getD_eq_getElem?_getD, List.getElem?_eq_getElem hi]
  obtain ⟨k1, k2, k3⟩ := c3 _ _ hP
  have hG := plain_at hi
  have hF : okS ((frcL s0g P).getD (f + j) s0g) = true := by
    have hi2 : f + j < (frcL s0g P).length := by rw [frcL_len]; exact hi
    refine frc_ok0 h0 _ ?_
    rw [List.getD_eq_getElem?_getD, List.getElem?_eq_getElem hi2]
    exact List.getElem_mem hi2
  refine ⟨?_, ?_, ?_⟩
  · unfold ctE
    split
    · rw [hG]
      exact sgn_ok (y := ⟨(P.getD (f + j) z6).bar, 0, false, false, false, (upS (P.getD (f + j) z6) ((frcL s0g P).getD (f + j) s0g)).L.map (cutS t (f + j : Nat))⟩) hF
    · rename_i hj0
      unfold sgnB at k1 ⊢
      dsimp only
      rw [decide_eq_false (show ¬ f + j = 0 by omega)] at k1
      rw [decide_eq_false hj0]
      exact k1
  · unfold tieB
    rw [ctE_L, List.length_map]
    unfold ctE
    split
    · rfl
    · rename_i hj0
      rw [hG]
      unfold tieB at k2
      rw [decide_eq_false (show ¬ f + j = 0 by omega)] at k2
      rw [decide_eq_false hj0]
      exact k2
  · rw [ctE_L]
    refine stsErr_cut (P := P) (i := f + j) (by omega) (fun c => ?_) _ _ k3
    have hlen : (ctL f t (setG P (frcL s0g P)) P (t - f)).length = t - f := by simp [ctL]
    unfold lgst
    rw [if_neg (by omega), if_neg (by rw [hlen]; omega)]
    have hq := lgGo_pre c ((ctL f t (setG P (frcL s0g P)) P (t - f)).drop (j + 1)) (P.drop (f + j + 1)) 0 (by rw [List.length_drop, List.length_drop, hlen]; omega) (fun a x z hx hz => by
      rw [List.getElem?_drop] at hx hz
      obtain ⟨ha, rfl⟩ := ctL_at hx
      have hz2 : z = P.getD (f + (j + 1 + a)) z6 := by
        rw [show f + j + 1 + a = f + (j + 1 + a) by omega] at hz
        exact (getD_of hz).symm
      have hG2 := plain_at (show f + (j + 1 + a) < P.length by omega)
      refine ⟨by rw [ctE_L, cut_map, hz2], ?_⟩
      unfold ctE
      rw [if_neg (by omega), hz2, hG2]
      rfl)
    rw [List.length_drop, hlen] at hq
    simp only [Int.toNat_natCast] at hq ⊢
    omega
theorem app_valid {C : List Cr} {S : List Int} {P Q : List EvP} (hP : pcErr C S P = 0) (hQ : pcErr C S Q = 0) (hl : P.length + Q.length ≤ 400) : pcErr C S (P ++ Q) = 0 := by
  obtain ⟨c1, c2, c3⟩ := pcErr_ok hP
  obtain ⟨_, d2, d3⟩ := pcErr_ok hQ
  refine pcErr_mk c1 (by rw [List.length_append]; exact hl) (fun j y hy => ?_)
  by_cases hj : j < P.length
  · rw [List.getElem?_append_left hj] at hy
    obtain ⟨k1, k2, k3⟩ := c3 _ _ hy
    refine ⟨k1, k2, stsErr_mono (P := P) (k := j) (fun c => ?_) _ _ k3⟩
    unfold lgst
    rw [if_neg (by omega), if_neg (by rw [List.length_append]; omega), List.drop_append_of_le_length (by simp; omega)]
    exact lgGo_app c _ _ 0 (by omega)
  · rw [List.getElem?_append_right (by omega)] at hy
    obtain ⟨k1, k2, k3⟩ := d3 _ _ hy
    have hjq : j - P.length < Q.length := (List.getElem?_eq_some_iff.1 hy).1
    refine ⟨?_, ?_, stsErr_mono (P := Q) (k := j - P.length) (fun c => ?_) _ _ k3⟩
    · unfold sgnB at k1 ⊢
      by_cases h : j = 0
      · rw [decide_eq_true h]
        rwa [decide_eq_true (show j - P.length = 0 by omega)] at k1
      · rw [decide_eq_false h]
        simp at k1 ⊢
        exact k1.1
    · unfold tieB at k2 ⊢
      by_cases h : j = 0
      · rw [decide_eq_true h]
        rwa [decide_eq_true (show j - P.length = 0 by omega)] at k2
      · rw [decide_eq_false h]
        simp at k2 ⊢
        intro ht
        exact (k2 ht).1
    · unfold lgst
      rw [if_neg (by omega), if_neg (by rw [List.length_append]; omega)]
      simp only [Int.toNat_natCast]
      rw [show j + 1 = P.length + (j - P.length + 1) by omega, List.drop_append, List.drop_of_length_le (show P.length ≤ P.length + (j - P.length + 1) by omega), List.nil_append, Nat.add_sub_cancel_left]
      exact Nat.le_refl _
theorem frc_eq : ∀ (P P' : List EvP) (s : Sg), P'.length = P.length → (∀ (i : Nat) (y y' : EvP), P[i]? = some y → P'[i]? = some y' → (y'.v = y.v ∧ y'.d = y.d ∧ y'.t = y.t) ∨ ((⟨y'.v, y'.d, y'.t⟩ : Sg) = (frcL s P).getD i s0g ∧ y'.v ≠ 0)) → frcL s P' = frcL s P
  | [], [], _, _, _ => rfl
  | [], _ :: _, _, hl, _ => by simp at hl
  | _ :: _, [], _, hl, _ => by simp at hl
  | y :: P, y' :: P', s, hl, hk => by
    have h0 : sgF y' s = sgF y s := by
      rcases hk 0 y y' rfl rfl with ⟨h1, h2, h3⟩ | ⟨h1, h2⟩
      · unfold sgF
        rw [h1, h2, h3]
      · have e : sgF y' s = ⟨y'.v, y'.d, y'.t⟩ := if_neg h2
        rw [e, h1]
        rfl
    rw [frcL, frcL, h0, frc_eq P P' (sgF y s) (by simpa using hl) (fun i a b ha hb => by
      rcases hk (i + 1) a b (by simpa using ha) (by simpa using hb) with h | ⟨h1, h2⟩
      · exact .inl h
      · exact .inr ⟨by rw [h1, frcL]; simp, h2⟩)]
/-- The piece that was cut at k and put together. -/
def trL (k : Nat) (P : List EvP) : List EvP := ctL 0 k (setG P (frcL s0g P)) P (k - 0) ++ ctL k P.length (setG P (frcL s0g P)) P (P.length - k)
theorem trL_len {k : Nat} {P : List EvP} (h : k ≤ P.length) : (trL k P).length = P.length := by simp [trL, ctL]; omega
theorem trL_at {k : Nat} {P : List EvP} {i : Nat} {y' : EvP} (h : (trL k P)[i]? = some y') : ∃ f t j, i = f + j ∧ y' = ctE f t (setG P (frcL s0g P)) P j := by
  unfold trL at h
  by_cases hi : i < k
  · rw [List.getElem?_append_left (by simp [ctL]; omega)] at h
    obtain ⟨_, e⟩ := ctL_at h
    exact ⟨0, k, i, by omega, e⟩
  · rw [List.getElem?_append_right (by simp [ctL]; omega)] at h
    obtain ⟨_, e⟩ := ctL_at h
    refine ⟨k, P.length, _, ?_, e⟩
    simp [ctL]
    omega
theorem trL_valid {C : List Cr} {S : List Int} {P : List EvP} (h0 : pcErr C S P = 0) {k : Nat} (hk : k ≤ P.length) : pcErr C S (trL k P) = 0 := by
  have hl := trL_len hk
  have h4 := (pcErr_ok h0).2.1
  unfold trL at hl ⊢
  rw [List.length_append] at hl
  exact app_valid (cut_valid h0 hk) (cut_valid h0 (Nat.le_refl _)) (by omega)
theorem trL_ons {C : List Cr} {S : List Int} {P : List EvP} (h0 : pcErr C S P = 0) {k : Nat} (hk : k ≤ P.length) : onsL C S (trL k P) = onsL C S P := by
  unfold onsL
  rw [if_pos h0, if_pos (trL_valid h0 hk), frc_eq P (trL k P) s0g (trL_len hk) (fun i y y' hy hy' => by
    obtain ⟨f, t, j, rfl, rfl⟩ := trL_at hy'
    have hi : f + j < P.length := (List.getElem?_eq_some_iff.1 hy).1
    have hyd : P.getD (f + j) z6 = y := getD_of hy
    have hF : okS ((frcL s0g P).getD (f + j) s0g) = true := by
      have hi2 : f + j < (frcL s0g P).length := by rw [frcL_len]; exact hi
      refine frc_ok0 h0 _ ?_
      rw [List.getD_eq_getElem?_getD, List.getElem?_eq_getElem hi2]
      exact List.getElem_mem hi2
    unfold ctE
    split
    · right
      rw [plain_at hi]
      refine ⟨rfl, fun e => ?_⟩
      dsimp only [upS] at e
      generalize (frcL s0g P).getD (f + j) s0g = g at hF e
      simp [okS, okB] at hF
      omega
    · left
      rw [hyd]
      exact ⟨rfl, rfl, rfl⟩)]
theorem eqL_cut (to n : Int) : ∀ L : List St, eqL pqEqB L (L.map (cutS to n)) = true
  | [] => rfl
  | s :: L => by
    rw [List.map_cons]
    unfold eqL
    rw [eqL_cut to n L]
    simp [pqEqB, cutS]
theorem trL_places {k : Nat} {P : List EvP} {i : Nat} {y y' : EvP} (hy : P[i]? = some y) (h : (trL k P)[i]? = some y') : eqL pqEqB y.L y'.L = true := by
  obtain ⟨f, t, j, rfl, rfl⟩ := trL_at h
  rw [ctE_L, show P.getD (f + j) z6 = y from getD_of hy]
  exact eqL_cut _ _ _

end Go.Proofs.YtjobablfojnppaaDoor
