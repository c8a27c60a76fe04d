/- Pieces, the reference: SameEvent, SamePlaces, Same, for any two. -/
import Derived.Test.YtjobablfojnppaaDoorPcMeasC
import Derived.Test.YtjobablfojnppaaDoorCmp9
import Derived.Deep.RegionHeld3
import Derived.Deep.RegionHeldLaw
namespace Go.Proofs.YtjobablfojnppaaDoor
open Go Go.RowKit

def pqEqB (a b : St) : Bool := decide (a.c = b.c) && decide (a.f = b.f)
set_option maxRecDepth 100000 in
set_option maxHeartbeats 8000000 in
theorem rSamePlaces_any (bar : Bool) (v : Int) (d t tie : Bool) (sa : Option Addr) (n sc : Nat) (bar2 : Bool) (v2 : Int) (d2 t2 tie2 : Bool) (sb : Option Addr) (m sd : Nat) (L M : List St) (w : World) (hA : Sl w w.heap.size 5 sa n sc (stC L)) (hB : Sl w w.heap.size 5 sb m sd (stC M)) (hn : n = L.length) (hm : m = M.length) (hb : n ≤ 1000000) (hb2 : m ≤ 1000000) :
    Calls Tryd.prog 35 #[evV bar v d t tie sa n sc, evV bar2 v2 d2 t2 tie2 sb m sd] w fun e w' => e = .returned (.bool (eqL pqEqB L M)) ∧ Below w.heap.size w w' := by
  have HA : Hid (∀ w', Below ((w.alloc (evO bar v d t tie sa n sc)).alloc (evO bar2 v2 d2 t2 tie2 sb m sd)).heap.size ((w.alloc (evO bar v d t tie sa n sc)).alloc (evO bar2 v2 d2 t2 tie2 sb m sd)) w' → Sl w' w'.heap.size 5 sa n sc (stC L) ∧ Sl w' w'.heap.size 5 sb m sd (stC M)) :=
    fun w' h => ⟨(hA.below (bt (ba _ _) (ba _ _))).below h, (hB.below (bt (ba _ _) (ba _ _))).below h⟩
  have HN := Lib.hid hn
  have HM := Lib.hid hm
  obtain ⟨X, hX⟩ : ∃ X, eqL pqEqB L M = X := ⟨_, rfl⟩
  rw [hX]
  have HX := Lib.hid hX
  clear hA hB hn hm hX
  obtain ⟨p0, p1, p2, p3, p4, p5⟩ := cell6 (ba (w.alloc (evO bar v d t tie sa n sc)) (evO bar2 v2 d2 t2 tie2 sb m sd))
  obtain ⟨r0, r1, r2, r3, r4, r5⟩ := cell6 (Below.refl _ ((w.alloc (evO bar v d t tie sa n sc)).alloc (evO bar2 v2 d2 t2 tie2 sb m sd)))
  simp only [World.size_alloc] at r0 r1 r2 r3 r4 r5
  have HXE : Hid (X = eqL pqEqB L M) := by unfold Hid; rw [← HX.out]
  clear HX
  by_cases hnm : n = m
  rotate_left
  · have hxb : ((n : Int) == (m : Int)) = false := by simp; omega
    have HR : Hid (X = false) := by unfold Hid; rw [HXE.out]; exact eqL_len _ _ _ (by have := HN.out; have := HM.out; omega)
    go_enter Tryd.func35, Tryd.ntmps35
    go_wp2_with (fail)
    go_ret
    exact ⟨ret_bool HR.out.symm, bx (ba _ _)⟩
  subst hnm
  obtain ⟨W2, hW2⟩ : ∃ W2, W2 = ((w.alloc (evO bar v d t tie sa n sc)).alloc (evO bar2 v2 d2 t2 tie2 sb n sd)) := ⟨_, rfl⟩
  go_enter Tryd.func35, Tryd.ntmps35
  go_wp2_with (fail)
  rw [← hW2] at HA ⊢
  have HBB : Hid (Below w.heap.size w W2) := by unfold Hid; rw [hW2]; exact bt (ba _ _) (ba _ _)
  have HC6 : Hid (∀ w', Below W2.heap.size W2 w' → w'.cell? ⟨w.heap.size, 5, none⟩ = some (.slice sa n sc) ∧ w'.cell? ⟨w.heap.size + 1, 5, none⟩ = some (.slice sb n sd) ∧ w.heap.size + 1 < w'.heap.size) := fun w' hb => by
    rw [hW2] at hb
    obtain ⟨_, _, _, _, _, p5⟩ := cell6 (bt (ba _ _) hb)
    obtain ⟨_, _, _, _, _, r5⟩ := cell6 hb
    simp only [World.size_alloc] at r5
    exact ⟨p5, r5, by have := hb.size; simp at this; omega⟩
  clear hW2 p0 p1 p2 p3 p4 p5 r0 r1 r2 r3 r4 r5
  go_loopw [5] (fun i wr => ∃ k : Nat, k ≤ n ∧ i = .int .i64 k ∧ Hid (X = eqL pqEqB (L.drop k) (M.drop k)) ∧ Below W2.heap.size W2 wr) (fun i _ => n - (intOf i).toNat)
  case atStart => exact ⟨0, by omega, rfl, HXE.out, Below.refl _ _⟩
  case round =>
    obtain ⟨k, hk, rfl, HR, hbw⟩ := hrel
    have HB := Lib.hid hbw
    obtain ⟨p5, r5, hz⟩ := HC6.out _ hbw
    clear hbw
    by_cases hlt : k < n
    · have hkn : (k : Int) < (n : Int) := by omega
      obtain ⟨b1, o1, rfl, hB1, _, _, c0, c1, c2, c3, c4⟩ := st_at (HA.out _ HB.out).1 HN.out hlt
      obtain ⟨b2, o2, rfl, hB2, _, _, d0, d1, d2, d3, d4⟩ := st_at (HA.out _ HB.out).2 HM.out hlt
      have HST := Lib.hid (eqL_step' pqEqB z5 HR.out (by have := HN.out; omega) (by have := HM.out; omega))
      generalize L.getD k z5 = x at *
      generalize M.getD k z5 = y at *
      obtain ⟨cx, fx, rx, gx, hx⟩ := x
      obtain ⟨cy, fy, ry, gy, hy⟩ := y
      dsimp only at c0 c1 c2 c3 c4 d0 d1 d2 d3 d4
      by_cases g0 : cx = cy
      rotate_left
      · have hxb : (cx == cy) = false := beq_eq_false_iff_ne.2 g0
        have hxc : (cx != cy) = true := bne_iff_ne.2 g0
        have hxd : decide (cx = cy) = false := decide_eq_false g0
        have HF : Hid (X = false) := by unfold Hid; rw [HST.out]; simp [pqEqB, g0]
        clear g0
        go_wp2_with (fail)
        go_quiet (fail)
        go_wp2_with (fail)
        go_ret
        exact ⟨ret_bool HF.out.symm, bt HBB.out (bd HB.out _)⟩
      subst g0
      by_cases g1 : fx = fy
      rotate_left
      · have hxb : (fx == fy) = false := beq_eq_false_iff_ne.2 g1
        have hxc : (fx != fy) = true := bne_iff_ne.2 g1
        have hxd : decide (fx = fy) = false := decide_eq_false g1
        have HF : Hid (X = false) := by unfold Hid; rw [HST.out]; simp [pqEqB, g1]
        clear g1
        go_wp2_with (fail)
        go_quiet (fail)
        go_wp2_with (fail)
        go_ret
        exact ⟨ret_bool HF.out.symm, bt HBB.out (bd HB.out _)⟩
      subst g1
      have HF : Hid (X = eqL pqEqB (L.drop (k + 1)) (M.drop (k + 1))) := by unfold Hid; rw [HST.out]; simp [pqEqB]
      go_wp2_with (fail)
      go_quiet (fail)
      go_wp2_with (fail)
      go_roundw
      case rel => exact ⟨k + 1, by omega, by first | rfl | go_num, HF.out, bd HB.out _⟩
      case measure => simp [intOf]; omega
    · have HT : Hid (X = true) := by
        unfold Hid
        rw [HR.out, List.drop_of_length_le (by have := HN.out; omega), List.drop_of_length_le (by have := HM.out; omega)]
        rfl
      go_wp2_with (fail)
      go_ret
      exact ⟨ret_bool HT.out.symm, bt HBB.out HB.out⟩

end Go.Proofs.YtjobablfojnppaaDoor

/- Pieces, the reference: Same, for any two pieces. -/
namespace Go.Proofs.YtjobablfojnppaaDoor
open Go Go.RowKit

end Go.Proofs.YtjobablfojnppaaDoor

/- Pieces: what the laws share: a call that hands back a piece; the reference's Same at equal pieces. -/
namespace Go.Proofs.YtjobablfojnppaaDoor
open Go Go.RowKit

/-- A call hands back a piece that lies in memory, and an error. -/
def PcUse (er : Int) (C : List Cr) (S : List Int) (P : List EvP) (w : World) (e : Ending) (w' : World) : Prop :=
  ∃ B n d B' m d' B2 q d2, e = .returned (.tuple #[pcV B n d B' m d' B2 q d2, .int .i64 er]) ∧ PcIn w' B n d B' m d' B2 q d2 C S P ∧ (n ≤ 65536 ∧ m ≤ 65536 ∧ q ≤ 65536) ∧ Below w.heap.size w w'
theorem PcRes.use {er : Int} {C : List Cr} {S : List Int} {P : List EvP} {w : World} {e : Ending} {w' : World} (h : PcRes er C S P w e w') (h1 : C.length ≤ 65536) (h2 : S.length ≤ 65536) (h3 : P.length ≤ 65536) : PcUse er (oC er C) (oC er S) (oC er P) w e w' := by
  obtain ⟨B, n, d, B', m, d', B2, q, d2, he, hO, hb⟩ := h
  have l1 := oC_len er C
  have l2 := oC_len er S
  have l3 := oC_len er P
  have e1 := hO.hn
  have e2 := hO.hm
  have e3 := hO.hq
  exact ⟨B, n, d, B', m, d', B2, q, d2, he, hO.pcIn, ⟨by omega, by omega, by omega⟩, hb⟩
end Go.Proofs.YtjobablfojnppaaDoor

/- Pieces, plain: what stays valid when signs alone are changed; times twice as long. -/
namespace Go.Proofs.YtjobablfojnppaaDoor
open Go Go.RowKit

theorem lgGo_keep (c : Int) : ∀ (R Q : List EvP) (h : Nat), R.length = Q.length → (∀ (j : Nat) (x y : EvP), R[j]? = some x → Q[j]? = some y → x.L.map St.c = y.L.map St.c ∧ x.tie = y.tie) → lgGo c R h = lgGo c Q h
  | [], [], _, _, _ => rfl
  | [], _ :: _, _, hl, _ => by simp at hl
  | _ :: _, [], _, hl, _ => by simp at hl
  | x :: R, y :: Q, h, hl, hk => by
    obtain ⟨h1, h2⟩ := hk 0 x y rfl rfl
    have hlen : x.L.length = y.L.length := by
      have := congrArg List.length h1
      simpa using this
    have e1 : restB x = restB y := by unfold restB; rw [hlen, h2]
    have e2 : hsB x.L c = hsB y.L c := by
      have e : ∀ L : List St, hsB L c = (L.map St.c).any fun s => decide (s = c) := fun L => by unfold hsB; rw [List.any_map]; rfl
      rw [e, e, h1]
    have ih := lgGo_keep c R Q (h + 1) (by simpa using hl) (fun j x y hx hy => hk (j + 1) x y (by simpa using hx) (by simpa using hy))
    unfold lgGo
    rw [e1, e2, ih]
theorem lgst_keep {P Q : List EvP} (hl : P.length = Q.length) (hk : ∀ (j : Nat) (x y : EvP), P[j]? = some x → Q[j]? = some y → x.L.map St.c = y.L.map St.c ∧ x.tie = y.tie) (k c : Int) : lgst P k c = lgst Q k c := by
  unfold lgst
  rw [hl]
  split
  · rfl
  · refine lgGo_keep c _ _ 0 (by rw [List.length_drop, List.length_drop, hl]) (fun j x y hx hy => ?_)
    rw [List.getElem?_drop] at hx hy
    exact hk _ x y hx hy
theorem stsErr_keep {C : List Cr} {P Q : List EvP} {k : Nat} (h : ∀ c, lgst P k c = lgst Q k c) : ∀ (L : List St) (bf : Int), stsErr C P k bf L = stsErr C Q k bf L
  | [], _ => rfl
  | s :: L, bf => by
    have e : stErr C P k bf s = stErr C Q k bf s := by unfold stErr; rw [h]
    unfold stsErr
    rw [e, stsErr_keep h L]
theorem evsErr_of {C : List Cr} {P : List EvP} : ∀ (R : List EvP) (k : Nat), (∀ (j : Nat) (y : EvP), R[j]? = some y → evErr C P (k + j) y = 0) → evsErr C P k R = 0
  | [], _, _ => rfl
  | y :: R, k, h => by
    have h0 := h 0 y rfl
    rw [Nat.add_zero] at h0
    unfold evsErr
    rw [if_pos h0]
    exact evsErr_of R (k + 1) (fun j x hx => by have := h (j + 1) x (by simpa using hx); rwa [show k + (j + 1) = k + 1 + j by omega] at this)
/-- A piece of which the signs alone are changed, to right ones, stays valid. -/
theorem pcErr_keep {C : List Cr} {S : List Int} {P Q : List EvP} (h0 : pcErr C S P = 0) (hl : P.length = Q.length) (hk : ∀ (j : Nat) (x y : EvP), P[j]? = some x → Q[j]? = some y → x.L = y.L ∧ x.tie = y.tie ∧ sgnB j y = false) : pcErr C S Q = 0 := by
  obtain ⟨h1, h2, h3⟩ := pcErr_ok h0
  have hlg : ∀ k c : Int, lgst P k c = lgst Q k c := lgst_keep hl (fun j x y hx hy => by obtain ⟨e1, e2, _⟩ := hk j x y hx hy; exact ⟨by rw [e1], e2⟩)
  unfold pcErr
  rw [if_neg (by simp [h1]), if_neg (by omega)]
  refine evsErr_of Q 0 (fun j y hy => ?_)
  have hj : j < P.length := by have := (List.getElem?_eq_some_iff.1 hy).1; omega
  have hx := List.getElem?_eq_getElem hj
  obtain ⟨e1, e2, e3⟩ := hk j _ y hx hy
  obtain ⟨_, k2, k3⟩ := h3 j _ hx
  rw [Nat.zero_add]
  have ht : tieB j y = false := by unfold tieB at k2 ⊢; rw [← e1, ← e2]; exact k2
  unfold evErr
  rw [if_neg (by simp [e3]), if_neg (by simp [ht]), ← stsErr_keep (hlg j) y.L 0, ← e1]
  exact k3

/-! ### Augment by one -/
theorem aug_sgn {j : Nat} {y : EvP} (h : sgnB j y = false) (hok : augOk 1 y = true) : sgnB j (augE 1 y) = false := by
  by_cases h0 : y.v = 0
  · rw [augE, if_pos h0]; exact h
  · have h1 : 1 ≤ y.v - 1 ∧ y.v - 1 ≤ 7 := by simpa [augOk, h0] using hok
    rw [augE, if_neg h0]
    have hv := sgn_v h
    have hw : wrB y.v y.d y.t = true := by simp [wrB, h0]
    unfold sgnB at h ⊢
    rw [hw] at h
    have hb : okB y.v y.d y.t = true := by
      cases hk : okB y.v y.d y.t with
      | true => rfl
      | false => rw [hk] at h; simp at h
    have hdt : (y.d && y.t) = false := by
      simp [okB] at hb
      cases hd : y.d <;> simp_all
    have hw2 : wrB (y.v - 1) y.d y.t = true := by simp [wrB]; omega
    have hb2 : okB (y.v - 1) y.d y.t = true := by
      unfold okB
      rw [hdt]
      simp
      omega
    dsimp only
    rw [hw2, hb2]
    simp
theorem aug_valid {C : List Cr} {S : List Int} {P : List EvP} (h0 : pcErr C S P = 0) (hall : P.all (augOk 1) = true) : pcErr C S (P.map (augE 1)) = 0 := by
  refine pcErr_keep h0 (by simp) (fun j x y hx hy => ?_)
  rw [List.getElem?_map, hx] at hy
  obtain rfl : augE 1 x = y := by simpa using hy
  have hok := List.all_eq_true.1 hall x (List.mem_of_getElem? hx)
  refine ⟨?_, ?_, aug_sgn ((pcErr_ok h0).2.2 j x hx).1 hok⟩
  · unfold augE; split <;> rfl
  · unfold augE; split <;> rfl
def dbS (s : Sg) : Sg := ⟨s.v - 1, s.d, s.t⟩
theorem tk_db {v : Int} {d t : Bool} (h1 : 2 ≤ v) (h7 : v ≤ 7) : tkV (v - 1) d t = 2 * tkV v d t := by
  have : v = 2 ∨ v = 3 ∨ v = 4 ∨ v = 5 ∨ v = 6 ∨ v = 7 := by omega
  rcases this with rfl | rfl | rfl | rfl | rfl | rfl <;> cases d <;> cases t <;> decide
theorem frc_db : ∀ (P : List EvP) (s : Sg), P.all (augOk 1) = true → (∀ y ∈ P, 0 ≤ y.v ∧ y.v ≤ 7) → (2 ≤ s.v ∧ s.v ≤ 7) →
    frcL (dbS s) (P.map (augE 1)) = (frcL s P).map dbS ∧ ∀ x ∈ frcL s P, 2 ≤ x.v ∧ x.v ≤ 7
  | [], _, _, _, _ => ⟨rfl, fun x hx => by simp [frcL] at hx⟩
  | y :: P, s, ha, hv, hs => by
    rw [List.all_cons, Bool.and_eq_true] at ha
    obtain ⟨h0, h7⟩ := hv y List.mem_cons_self
    have hv' : ∀ y ∈ P, 0 ≤ y.v ∧ y.v ≤ 7 := fun z hz => hv z (List.mem_cons_of_mem _ hz)
    by_cases hy : y.v = 0
    · have e : augE 1 y = y := if_pos hy
      have e1 : sgF y s = s := if_pos hy
      have e2 : sgF y (dbS s) = dbS s := if_pos hy
      obtain ⟨i1, i2⟩ := frc_db P s ha.2 hv' hs
      refine ⟨?_, ?_⟩
      · rw [List.map_cons, e, frcL, frcL, e1, e2, i1]; rfl
      · intro x hx
        rw [frcL, e1] at hx
        rcases List.mem_cons.1 hx with rfl | hx
        · exact hs
        · exact i2 x hx
    · have hok : 1 ≤ y.v - 1 ∧ y.v - 1 ≤ 7 := by simpa [augOk, hy] using ha.1
      have e : augE 1 y = { y with v := y.v - 1 } := if_neg hy
      have e1 : sgF y s = ⟨y.v, y.d, y.t⟩ := if_neg hy
      have e2 : sgF { y with v := y.v - 1 } (dbS s) = dbS ⟨y.v, y.d, y.t⟩ := if_neg (by show ¬ y.v - 1 = 0; omega)
      obtain ⟨i1, i2⟩ := frc_db P ⟨y.v, y.d, y.t⟩ ha.2 hv' ⟨by show 2 ≤ y.v; omega, h7⟩
      refine ⟨?_, ?_⟩
      · rw [List.map_cons, e, frcL, frcL, e1, e2, i1]; rfl
      · intro x hx
        rw [frcL, e1] at hx
        rcases List.mem_cons.1 hx with rfl | hx
        · exact ⟨by show 2 ≤ y.v; omega, h7⟩
        · exact i2 x hx
theorem sum_db : ∀ (F : List Sg) (a : Int), (∀ x ∈ F, 2 ≤ x.v ∧ x.v ≤ 7) → sumL (2 * a) (F.map dbS) = (sumL a F).map (fun i => 2 * i)
  | [], _, _ => rfl
  | s :: F, a, h => by
    obtain ⟨h1, h7⟩ := h s List.mem_cons_self
    have e : tkS (dbS s) = 2 * tkS s := tk_db h1 h7
    rw [List.map_cons, sumL, sumL, e, ← Int.mul_add, sum_db F _ (fun x hx => h x (List.mem_cons_of_mem _ hx))]
    rfl
theorem ons_db {C : List Cr} {S : List Int} {P : List EvP} (h0 : pcErr C S P = 0) (hall : P.all (augOk 1) = true) : onsL C S (P.map (augE 1)) = (onsL C S P).map (fun i => 2 * i) := by
  unfold onsL
  rw [if_pos h0, if_pos (aug_valid h0 hall), List.map_cons]
  congr 1
  cases P with
  | nil => rfl
  | cons y P =>
    have hs := ((pcErr_ok h0).2.2 0 y rfl).1
    have hv := sgn_v hs
    have hy : y.v ≠ 0 := by
      intro e
      unfold sgnB at hs
      cases hw : wrB y.v y.d y.t with
      | true => rw [hw] at hs; simp [okB, e] at hs
      | false => rw [hw] at hs; simp at hs
    have hsv : ∀ z ∈ y :: P, 0 ≤ z.v ∧ z.v ≤ 7 := fun z hz => by
      obtain ⟨j, hj⟩ := List.mem_iff_getElem?.1 hz
      exact sgn_v ((pcErr_ok h0).2.2 j _ hj).1
    rw [List.all_cons, Bool.and_eq_true] at hall
    have hok : 1 ≤ y.v - 1 ∧ y.v - 1 ≤ 7 := by simpa [augOk, hy] using hall.1
    have e : augE 1 y = { y with v := y.v - 1 } := if_neg hy
    have e1 : sgF y s0g = ⟨y.v, y.d, y.t⟩ := if_neg hy
    have e2 : sgF { y with v := y.v - 1 } s0g = dbS ⟨y.v, y.d, y.t⟩ := if_neg (by show ¬ y.v - 1 = 0; omega)
    have h2 : 2 ≤ y.v := by omega
    obtain ⟨i1, i2⟩ := frc_db P ⟨y.v, y.d, y.t⟩ hall.2 (fun z hz => hsv z (List.mem_cons_of_mem _ hz)) ⟨h2, hv.2⟩
    rw [List.map_cons, e, frcL, frcL, e1, e2, i1]
    have := sum_db (⟨y.v, y.d, y.t⟩ :: frcL ⟨y.v, y.d, y.t⟩ P) 0 (fun x hx => by
      rcases List.mem_cons.1 hx with rfl | hx
      · exact ⟨h2, hv.2⟩
      · exact i2 x hx)
    simpa using this

end Go.Proofs.YtjobablfojnppaaDoor

/- Pieces: the places of an event's stops (place, changed), for any stops. -/
namespace Go.Proofs.YtjobablfojnppaaDoor
open Go Go.RowKit

abbrev stpO (s : St) : Obj := .cells #[.int .i64 s.c, .int .i64 s.f, .int .i64 s.r, .int .i64 s.g, .int .i64 s.h] 65
def plS (s : St) : Int × Int := (s.c, s.f)
set_option maxRecDepth 100000 in
set_option maxHeartbeats 1600000 in
theorem place_any (c f r g h : Int) (w : World) :
    Calls Tryd.prog 100 #[.agg #[.int .i64 c, .int .i64 f, .int .i64 r, .int .i64 g, .int .i64 h]] w fun e w' => e = .returned (.agg #[.int .i64 c, .int .i64 f]) ∧ Below w.heap.size w w' := by
  obtain ⟨p0, p1, p2, p3, p4⟩ := cell5 (ba (w.alloc (stpO ⟨c, f, r, g, h⟩)) (.cells #[.int .i64 0, .int .i64 0] 116))
  go_enter Tryd.func100, Tryd.ntmps100
  go_wp2_with (fail)
  refine bodyPost_ret (v := .agg #[.int .i64 c, .int .i64 f]) ?_ rfl ?_
  · simp [results, Tryd.results100, go_sem]
    done
  · refine ⟨rfl, ?_⟩
    first
      | exact bx (ba _ _)
      | exact ((bx (ba _ _)).setCell (by simp) _).setCell (by simp) _

set_option maxRecDepth 100000 in
set_option maxHeartbeats 6400000 in
theorem changedP_any (A : Option Addr) (n c : Nat) (L : List St) (w : World) (hA : Sl w w.heap.size 5 A n c (stC L)) (hn : n = L.length) (hlim : n ≤ 1000000) :
    Calls Tryd.prog 99 #[.slice A n c, .func (.func 100) #[] #[]] w fun e w' => ∃ B d, e = .returned (.slice B n d) ∧ Sl w' w'.heap.size 2 B n d (plC (L.map plS)) ∧ Below w.heap.size w w' := by
  have HA : Hid (∀ w', RowKit.Below w.heap.size w w' → Sl w' w'.heap.size 5 A n c (stC L)) := fun w' hb => hA.below hb
  have HN := Lib.hid hn
  obtain ⟨i0, ii1, ii2, ii3, ii4⟩ := info_parts (show (Tryd.prog.info? 116).map (fun i => (i.zero, i.size, i.bytes)) = some (some (.agg #[.int .i64 0, .int .i64 0]), 2, 16) by kernel_rfl)
  clear hA hn
  go_enter Tryd.func99, Tryd.ntmps99
  go_wp2_with (at_make; refine wpList_make_full _ rfl _ _ 114 rfl w.heap.size 116 i0 _ 2 Tryd.underlying114 ii1 ii2 ii3 .i64 .i64 _ _ n rfl rfl rfl rfl (by rw [ii4]; omega) (by unfold maxLen; omega) (Nat.le_refl _) ?_)
  intro w2 hown hgrow
  have hb2 : RowKit.Below w.heap.size w w2 := RowKit.Below.grown (RowKit.Below.refl _ _) hgrow (Nat.le_refl _) (fun g h => by cases h)
  obtain ⟨cur, hbk, hcs⟩ : ∃ cur, w2.heap[w.heap.size]? = some (.cells cur 116 (0, 0)) ∧ cur.size = n * 2 := by
    rcases hown.2 with ⟨h1, _⟩ | ⟨g, cap, cur, h1, _, h3, _, _, h6, _⟩
    · cases h1
    · injection h1 with e1 e2 e3
      injection e1 with e1
      injection e1 with e1
      subst e1 e3
      exact ⟨cur, h3, h6⟩
  have HPL : Hid (PlR w w2 w.heap.size n (L.map plS) 0) := ⟨hb2, cur.toList, by simpa using hcs, by simp only [List.take_zero]; exact hbk⟩
  clear hown hgrow hbk hcs hb2
  go_wp2_with (fail)
  go_loopw [13] (fun i wr => ∃ k : Nat, k ≤ n ∧ i = .int .i64 k ∧ Hid (PlR w wr w.heap.size n (L.map plS) k)) (fun i _ => n - (intOf i).toNat)
  case atStart => exact ⟨0, by omega, rfl, HPL.out⟩
  case round =>
    obtain ⟨k, hk, rfl, HR⟩ := hrel
    by_cases hlt : k < n
    · have hkn : (k : Int) < (n : Int) := by omega
      obtain ⟨b1, o1, rfl, hB1, _, _, c0, c1, c2, c3, c4⟩ := st_at (HA.out _ HR.out.1) HN.out hlt
      have HX : Hid ((L.map plS).getD k (0, 0) = ((L.getD k z5).c, (L.getD k z5).f)) := by
        have hkL : k < L.length := by have := HN.out; omega
        unfold Hid
        simp [List.getD_eq_getElem?_getD, List.getElem?_eq_getElem hkL, plS]
      generalize L.getD k z5 = x at *
      obtain ⟨cx, fx, rx, gx, hx⟩ := x
      dsimp only at c0 c1 c2 c3 c4 HX
      go_wp2_with (go_at_call 100; refine (place_any cx fx rx gx hx _).mono ?_; rintro e w3 ⟨rfl, hb3⟩; have T := bx hb3; have HR3 : Hid (PlR w w3 w.heap.size n (L.map plS) k) := ⟨bt HR.out.1 T, (by obtain ⟨Z, h1, h2⟩ := HR.out.2; exact ⟨Z, h1, h2.below T⟩)⟩; obtain ⟨⟨u0, v0⟩, ⟨u1, v1⟩, vf, vg, hR4⟩ := HR3.out.step (Nat.le_refl _) hlt (by rw [List.length_map]; have := HN.out; omega) HX.out; have HR4 := Lib.hid hR4; have f0 := vf (k * 2); have f1 := vf (k * 2 + 1); clear vf hR4 T hb3)
      go_roundw
      case rel => exact ⟨k + 1, by omega, by first | rfl | go_num, HR4.out⟩
      case measure => simp [intOf]; omega
    · obtain rfl : k = n := by omega
      obtain ⟨Z, hZ, hB⟩ := HR.out.2
      have HB := Lib.hid hB
      have HZ : Hid (Z = []) := List.length_eq_zero_iff.1 (by simpa using hZ)
      clear hZ hB
      go_wp2_with (fail)
      go_ret
      refine ⟨some ⟨w.heap.size, 0, none⟩, k, rfl, ⟨Nat.le_refl _, by rw [plC_len, List.length_map]; have := HN.out; omega, fun _ => ⟨w.heap.size, 0, rfl, HB.out.lt, fun j u hu => ?_⟩⟩, HR.out.1⟩
      rw [Nat.zero_add, HB.out.cell j, List.getElem?_toArray, HZ.out, List.append_nil, List.take_of_length_le (by rw [List.length_map]; have := HN.out; omega)]
      exact hu

end Go.Proofs.YtjobablfojnppaaDoor

/- Pieces: piece.Alike, for any two pieces. -/
namespace Go.Proofs.YtjobablfojnppaaDoor
open Go Go.RowKit

def alEvB (x y : EvP) : Bool := (x.tie == y.tie) && eqL plEqB (x.L.map plS) (y.L.map plS)
set_option maxRecDepth 100000 in
set_option maxHeartbeats 1600000 in
theorem alikeEvent_any (bar : Bool) (v : Int) (d t tie : Bool) (sa : Option Addr) (n sc : Nat) (bar2 : Bool) (v2 : Int) (d2 t2 tie2 : Bool) (sb : Option Addr) (m sd : Nat) (L M : List St) (w : World) (hA : Sl w w.heap.size 5 sa n sc (stC L)) (hB : Sl w w.heap.size 5 sb m sd (stC M)) (hn : n = L.length) (hm : m = M.length) (hb : n ≤ 1000000) (hb2 : m ≤ 1000000) :
    Calls Tryd.prog 71 #[evV bar v d t tie sa n sc, evV bar2 v2 d2 t2 tie2 sb m sd] w fun e w' => e = .returned (.bool (alEvB ⟨bar, v, d, t, tie, L⟩ ⟨bar2, v2, d2, t2, tie2, M⟩)) ∧ Below w.heap.size w w' := by
  have HBB : Hid (Below w.heap.size w ((w.alloc (evO bar v d t tie sa n sc)).alloc (evO bar2 v2 d2 t2 tie2 sb m sd))) := bt (ba _ _) (ba _ _)
  have HC6 : Hid (∀ w', Below ((w.alloc (evO bar v d t tie sa n sc)).alloc (evO bar2 v2 d2 t2 tie2 sb m sd)).heap.size ((w.alloc (evO bar v d t tie sa n sc)).alloc (evO bar2 v2 d2 t2 tie2 sb m sd)) w' → (w'.cell? ⟨w.heap.size, 4, none⟩ = some (.bool tie) ∧ w'.cell? ⟨w.heap.size, 5, none⟩ = some (.slice sa n sc)) ∧ w'.cell? ⟨w.heap.size + 1, 4, none⟩ = some (.bool tie2) ∧ w'.cell? ⟨w.heap.size + 1, 5, none⟩ = some (.slice sb m sd)) := fun w' hb => by
    obtain ⟨_, _, _, _, p4, p5⟩ := cell6 (bt (ba _ _) hb)
    obtain ⟨_, _, _, _, r4, r5⟩ := cell6 hb
    simp only [World.size_alloc] at r4 r5
    exact ⟨⟨p4, p5⟩, r4, r5⟩
  have HZ : Hid (∀ w', Below ((w.alloc (evO bar v d t tie sa n sc)).alloc (evO bar2 v2 d2 t2 tie2 sb m sd)).heap.size ((w.alloc (evO bar v d t tie sa n sc)).alloc (evO bar2 v2 d2 t2 tie2 sb m sd)) w' → w.heap.size + 1 < w'.heap.size) := fun w' hb => by have := hb.size; simp at this; omega
  have CA : Hid (∀ w', Below ((w.alloc (evO bar v d t tie sa n sc)).alloc (evO bar2 v2 d2 t2 tie2 sb m sd)).heap.size ((w.alloc (evO bar v d t tie sa n sc)).alloc (evO bar2 v2 d2 t2 tie2 sb m sd)) w' → Calls Tryd.prog 99 #[.slice sa n sc, .func (.func 100) #[] #[]] w' fun e w2 => ∃ B d, e = .returned (.slice B n d) ∧ Sl w2 w2.heap.size 2 B n d (plC (L.map plS)) ∧ Below w'.heap.size w' w2) :=
    fun w' hb => changedP_any sa n sc L w' ((hA.below (bt (ba _ _) (ba _ _))).below hb) hn (by assumption)
  have CB : Hid (∀ w', Below ((w.alloc (evO bar v d t tie sa n sc)).alloc (evO bar2 v2 d2 t2 tie2 sb m sd)).heap.size ((w.alloc (evO bar v d t tie sa n sc)).alloc (evO bar2 v2 d2 t2 tie2 sb m sd)) w' → Calls Tryd.prog 99 #[.slice sb m sd, .func (.func 100) #[] #[]] w' fun e w2 => ∃ B d, e = .returned (.slice B m d) ∧ Sl w2 w2.heap.size 2 B m d (plC (M.map plS)) ∧ Below w'.heap.size w' w2) :=
    fun w' hb => changedP_any sb m sd M w' ((hB.below (bt (ba _ _) (ba _ _))).below hb) hm (by assumption)
  have HNM : Hid (n = (L.map plS).length ∧ m = (M.map plS).length) := by unfold Hid; rw [List.length_map, List.length_map]; exact ⟨hn, hm⟩
  obtain ⟨X, hX⟩ : ∃ X, alEvB ⟨bar, v, d, t, tie, L⟩ ⟨bar2, v2, d2, t2, tie2, M⟩ = X := ⟨_, rfl⟩
  rw [hX]
  have HX := Lib.hid hX
  have HXX : Hid (tie = tie2 → X = eqL plEqB (L.map plS) (M.map plS)) := fun g => by rw [← hX]; simp [alEvB, g]
  have HXF : Hid (¬ tie = tie2 → X = false) := fun g => by rw [← hX]; simp [alEvB, g]
  clear hA hB hn hm hX HX
  generalize L.map plS = L' at *
  generalize M.map plS = M' at *
  have hb0 : n ≤ 1000000 := by assumption
  have hb1 : m ≤ 1000000 := by assumption
  obtain ⟨W2, hW2⟩ : ∃ W2, W2 = ((w.alloc (evO bar v d t tie sa n sc)).alloc (evO bar2 v2 d2 t2 tie2 sb m sd)) := ⟨_, rfl⟩
  go_enter Tryd.func71, Tryd.ntmps71
  go_wp2_with (fail)
  rw [← hW2] at HBB HC6 HZ CA CB ⊢
  clear hW2
  obtain ⟨⟨q4, q5⟩, s4, s5⟩ := HC6.out _ (Below.refl _ _)
  have hz := HZ.out _ (Below.refl _ _)
  by_cases g : tie = tie2
  · subst g
    have HR : Hid (X = eqL plEqB L' M') := HXX.out rfl
    have T := (Below.refl W2.heap.size W2).drew
    go_region_held_law (fun w' => (w'.cell? ⟨w.heap.size, 4, none⟩ = some (.bool tie) ∧ w'.cell? ⟨w.heap.size, 5, none⟩ = some (.slice sa n sc)) ∧ w'.cell? ⟨w.heap.size + 1, 4, none⟩ = some (.bool tie) ∧ w'.cell? ⟨w.heap.size + 1, 5, none⟩ = some (.slice sb m sd))
      (exact HC6.out _ T)
      (first
        | (go_at_call 99; with_reducible refine (CA.out _ T).mono ?_; rintro e wa ⟨Ba, da, rfl, hsa, hba⟩; replace T := bt T hba; have HSA := Lib.hid hsa; clear hsa)
        | (go_at_call 99; with_reducible refine (CB.out _ T).mono ?_; rintro e wb ⟨Bb, db, rfl, hsb, hbb⟩; replace T := bt T hbb; have HSB := Lib.hid hsb; clear hsb)
        | (go_at_call 98; (first | (with_reducible refine (equalP_any Ba Bb n da m db L' M' wb (HSA.out.below hbb) HSB.out HNM.out.1 HNM.out.2 hb0 hb1).mono ?_) | (with_reducible refine (equalP_any Ba Bb n da m db L' M' wa HSA.out (HSB.out.below hba) HNM.out.1 HNM.out.2 hb0 hb1).mono ?_)); rintro e wc ⟨rfl, hbc⟩; replace T := bt T hbc))
    all_goals (
      go_wp2_with (fail)
      go_ret
      exact ⟨ret_bool HR.out.symm, bt HBB.out T⟩)
  · have hxb : (tie == tie2) = false := beq_eq_false_iff_ne.2 g
    have hxd : decide (tie = tie2) = false := decide_eq_false g
    have HR : Hid (X = false) := HXF.out g
    clear g
    go_quiet (fail)
    go_wp2_with (fail)
    go_ret
    exact ⟨ret_bool HR.out.symm, bt HBB.out (bd (Below.refl _ _) _)⟩


set_option maxRecDepth 100000 in
set_option maxHeartbeats 6400000 in
theorem equalFuncA_any (A : Option Addr) (q cq : Nat) (B : Option Addr) (r cr : Nat) (P Q : List EvP) (w : World) (hP : EsIn w A q cq P) (hQ : EsIn w B r cr Q) (hq : q ≤ 65536) (hr : r ≤ 65536) (hsp : ∀ y ∈ P, y.L.length ≤ 1000000) (hsq : ∀ y ∈ Q, y.L.length ≤ 1000000) :
    Calls Tryd.prog 70 #[.slice A q cq, .slice B r cr, .func (.func 71) #[] #[]] w fun e w' => e = .returned (.bool (eqL alEvB P Q)) ∧ Below w.heap.size w w' := by
  by_cases hnm : q = r
  · subst hnm
    have HN := Lib.hid hP.hq
    have HM := Lib.hid hQ.hq
    have HPQ : Hid (∀ w', Below w.heap.size w w' → EsIn w' A q cq P ∧ EsIn w' B q cr Q) := fun w' h => ⟨hP.below h, hQ.below h⟩
    have HSP := Lib.hid hsp
    have HSQ := Lib.hid hsq
    clear hP hQ hsp hsq
    go_enter Tryd.func70, Tryd.ntmps70
    go_wp2_with (fail)
    go_loopw [17] (fun i wr => ∃ k : Nat, k ≤ q ∧ i = .int .i64 k ∧ Hid (eqL alEvB P Q = eqL alEvB (P.drop k) (Q.drop k)) ∧ Below w.heap.size w wr) (fun i _ => q - (intOf i).toNat)
    case atStart => exact ⟨0, by omega, rfl, rfl, Below.refl _ _⟩
    case round =>
      obtain ⟨k, hk, rfl, HR, hbw⟩ := hrel
      have HB := Lib.hid hbw
      clear hbw
      by_cases hlt : k < q
      · have hkn : (k : Int) < (q : Int) := by omega
        obtain ⟨b1, o1, sa, sc, rfl, hB1, hPk, _, ⟨c0, c1, c2, c3, c4, c5⟩, hS1⟩ := (HPQ.out _ HB.out).1.at hlt
        obtain ⟨b2, o2, sb, sd, rfl, hB2, hQk, _, ⟨e0, e1, e2, e3, e4, e5⟩, hS2⟩ := (HPQ.out _ HB.out).2.at hlt
        have HL := Lib.hid (HSP.out _ (List.mem_of_getElem? hPk))
        have HL2 := Lib.hid (HSQ.out _ (List.mem_of_getElem? hQk))
        have HS1 := Lib.hid hS1
        have HS2 := Lib.hid hS2
        have HST := Lib.hid (eqL_step alEvB z6 HR.out (by have := HN.out; omega) (by have := HM.out; omega))
        clear hS1 hS2 hPk hQk
        generalize P.getD k z6 = x at *
        generalize Q.getD k z6 = y at *
        obtain ⟨bar, v, d, t, tie, L⟩ := x
        obtain ⟨bar2, v2, d2, t2, tie2, M⟩ := y
        dsimp only at c0 c1 c2 c3 c4 c5 e0 e1 e2 e3 e4 e5 HL HL2 HS1 HS2
        have e0' := cell_same ((ba wr (evO bar v d t tie sa L.length sc)).block b2 hB2) e0
        have e1' := cell_same ((ba wr (evO bar v d t tie sa L.length sc)).block b2 hB2) e1
        have e2' := cell_same ((ba wr (evO bar v d t tie sa L.length sc)).block b2 hB2) e2
        have e3' := cell_same ((ba wr (evO bar v d t tie sa L.length sc)).block b2 hB2) e3
        have e4' := cell_same ((ba wr (evO bar v d t tie sa L.length sc)).block b2 hB2) e4
        have e5' := cell_same ((ba wr (evO bar v d t tie sa L.length sc)).block b2 hB2) e5
        have HCL := Lib.hid (alikeEvent_any bar v d t tie sa L.length sc bar2 v2 d2 t2 tie2 sb M.length sd L M _ (HS1.out.below (bt (ba wr (evO bar v d t tie sa L.length sc)) (ba _ (evO bar2 v2 d2 t2 tie2 sb M.length sd)))) (HS2.out.below (bt (ba wr (evO bar v d t tie sa L.length sc)) (ba _ (evO bar2 v2 d2 t2 tie2 sb M.length sd)))) rfl rfl HL.out HL2.out)
        clear e0 e1 e2 e3 e4 e5
        generalize L.length = nl at *
        generalize M.length = ml at *
        cases hxy : alEvB ⟨bar, v, d, t, tie, L⟩ ⟨bar2, v2, d2, t2, tie2, M⟩ with
        | true =>
          have HS3 : Hid (eqL alEvB P Q = eqL alEvB (P.drop (k + 1)) (Q.drop (k + 1))) := by unfold Hid; rw [HST.out, hxy]; simp
          rw [hxy] at HCL
          clear hxy HST
          go_wp2_with (go_at_call 71; refine HCL.out.mono ?_; rintro e w2 ⟨rfl, hb2⟩)
          go_roundw
          case rel => exact ⟨k + 1, by omega, by first | rfl | go_num, HS3.out, bt HB.out (bx (bx hb2))⟩
          case measure => simp [intOf]; omega
        | false =>
          have HS3 : Hid (eqL alEvB P Q = false) := by unfold Hid; rw [HST.out, hxy]; simp
          rw [hxy] at HCL
          clear hxy HST
          go_wp2_with (go_at_call 71; refine HCL.out.mono ?_; rintro e w2 ⟨rfl, hb2⟩)
          go_ret
          exact ⟨ret_bool HS3.out.symm, bt HB.out (bx (bx hb2))⟩
      · have hkn : ¬ ((k : Int) < (q : Int)) := by omega
        have HT : Hid (eqL alEvB P Q = true) := by
          unfold Hid
          rw [HR.out, List.drop_of_length_le (by have := HN.out; omega), List.drop_of_length_le (by have := HM.out; omega)]
          rfl
        go_wp2_with (fail)
        go_ret
        exact ⟨ret_bool HT.out.symm, HB.out⟩
  · have HF := Lib.hid (eqL_len alEvB P Q (by have := hP.hq; have := hQ.hq; omega))
    have hnb : ((q : Int) == (r : Int)) = false := by simp; omega
    clear hP hQ hsp hsq
    go_enter Tryd.func70, Tryd.ntmps70
    go_wp2_with (fail)
    go_ret
    exact ⟨ret_bool HF.out.symm, Below.refl _ _⟩

end Go.Proofs.YtjobablfojnppaaDoor

/- Pieces: piece.Alike, for any two pieces. -/
namespace Go.Proofs.YtjobablfojnppaaDoor
open Go Go.RowKit

def alikeB (C : List Cr) (S : List Int) (P : List EvP) (D : List Cr) (U : List Int) (Q : List EvP) : Bool :=
  decide (pcErr C S P = 0) && (decide (pcErr D U Q = 0) && (sameB C S D U && (eqI (onsL C S P) (onsL D U Q) && eqL alEvB P Q)))
theorem onsL_len (C : List Cr) (S : List Int) (P : List EvP) : (onsL C S P).length ≤ P.length + 1 := by
  unfold onsL
  split
  · rw [List.length_cons, sumL_len, frcL_len]; exact Nat.le_refl _
  · simp
set_option maxRecDepth 100000 in
set_option maxHeartbeats 3200000 in
theorem pcAlike_any (A : Option Addr) (n c : Nat) (A' : Option Addr) (m c' : Nat) (A2 : Option Addr) (q cq : Nat) (B : Option Addr) (n2 d : Nat) (B' : Option Addr) (m2 d' : Nat) (B2 : Option Addr) (q2 dq : Nat) (C : List Cr) (S : List Int) (P : List EvP) (D : List Cr) (U : List Int) (Q : List EvP) (w : World)
    (hP : PcIn w A n c A' m c' A2 q cq C S P) (hQ : PcIn w B n2 d B' m2 d' B2 q2 dq D U Q) (b1 : n ≤ 65536) (b2 : m ≤ 65536) (b3 : q ≤ 65536) (b4 : n2 ≤ 65536) (b5 : m2 ≤ 65536) (b6 : q2 ≤ 65536) (hsp : ∀ y ∈ P, y.L.length ≤ 1000000) (hsq : ∀ y ∈ Q, y.L.length ≤ 1000000) :
    Calls Tryd.prog 27 #[pcV A n c A' m c' A2 q cq, pcV B n2 d B' m2 d' B2 q2 dq] w fun e w' => e = .returned (.bool (alikeB C S P D U Q)) ∧ Below w.heap.size w w' := by
  have HE : Hid (∀ w', Below ((w.alloc (pcO A n c A' m c' A2 q cq)).alloc (pcO B n2 d B' m2 d' B2 q2 dq)).heap.size ((w.alloc (pcO A n c A' m c' A2 q cq)).alloc (pcO B n2 d B' m2 d' B2 q2 dq)) w' → PcIn w' A n c A' m c' A2 q cq C S P ∧ PcIn w' B n2 d B' m2 d' B2 q2 dq D U Q) :=
    fun w' h => ⟨(hP.below (bt (ba _ _) (ba _ _))).below h, (hQ.below (bt (ba _ _) (ba _ _))).below h⟩
  have HC : Hid (∀ w', Below ((w.alloc (pcO A n c A' m c' A2 q cq)).alloc (pcO B n2 d B' m2 d' B2 q2 dq)).heap.size ((w.alloc (pcO A n c A' m c' A2 q cq)).alloc (pcO B n2 d B' m2 d' B2 q2 dq)) w' → (w'.cell? ⟨w.heap.size, 0, none⟩ = some (.slice A n c) ∧ w'.cell? ⟨w.heap.size, 1, none⟩ = some (.slice A' m c') ∧ w'.cell? ⟨w.heap.size, 2, none⟩ = some (.slice A2 q cq)) ∧ (w'.cell? ⟨w.heap.size + 1, 0, none⟩ = some (.slice B n2 d) ∧ w'.cell? ⟨w.heap.size + 1, 1, none⟩ = some (.slice B' m2 d') ∧ w'.cell? ⟨w.heap.size + 1, 2, none⟩ = some (.slice B2 q2 dq)) ∧ w.heap.size + 1 < w'.heap.size) := fun w' hb => by
    have p := cell3 (bt (ba _ _) hb)
    have r := cell3 hb
    simp only [World.size_alloc] at r
    exact ⟨p, r, by have := hb.size; simp at this; omega⟩
  have HBB : Hid (Below w.heap.size w ((w.alloc (pcO A n c A' m c' A2 q cq)).alloc (pcO B n2 d B' m2 d' B2 q2 dq))) := bt (ba _ _) (ba _ _)
  have OA := Lib.hid (fun w' (h : PcIn w' A n c A' m c' A2 q cq C S P) => onsets_any A n c A' m c' A2 q cq C S P w' h (by omega) (by omega) b3 hsp)
  have OB := Lib.hid (fun w' (h : PcIn w' B n2 d B' m2 d' B2 q2 dq D U Q) => onsets_any B n2 d B' m2 d' B2 q2 dq D U Q w' h (by omega) (by omega) b6 hsq)
  unfold OnPost at OA OB
  have CI := Lib.hid (fun w' (h : PcIn w' A n c A' m c' A2 q cq C S P ∧ PcIn w' B n2 d B' m2 d' B2 q2 dq D U Q) => same_any A n c A' m c' B n2 d B' m2 d' C S D U w' h.1.crs h.1.stp h.2.crs h.2.stp h.1.hn h.1.hm h.2.hn h.2.hm b1 b2 b4 b5)
  have CF := Lib.hid (fun w' (h : PcIn w' A n c A' m c' A2 q cq C S P ∧ PcIn w' B n2 d B' m2 d' B2 q2 dq D U Q) => equalFuncA_any A2 q cq B2 q2 dq P Q w' h.1.es h.2.es b3 b6 hsp hsq)
  have HLA : Hid ((onsL C S P).length ≤ 65537) := by have h1 := onsL_len C S P; have h2 := hP.es.hq; show (onsL C S P).length ≤ 65537; omega
  have HLB : Hid ((onsL D U Q).length ≤ 65537) := by have h1 := onsL_len D U Q; have h2 := hQ.es.hq; show (onsL D U Q).length ≤ 65537; omega
  obtain ⟨X, hX⟩ : ∃ X, alikeB C S P D U Q = X := ⟨_, rfl⟩
  rw [hX]
  unfold alikeB at hX
  clear hP hQ hsp hsq
  generalize onsL C S P = LA at *
  generalize onsL D U Q = LB at *
  generalize pcErr C S P = X1 at *
  generalize pcErr D U Q = X2 at *
  generalize eqL alEvB P Q = YE at *
  have T := Below.refl ((w.alloc (pcO A n c A' m c' A2 q cq)).alloc (pcO B n2 d B' m2 d' B2 q2 dq)).heap.size ((w.alloc (pcO A n c A' m c' A2 q cq)).alloc (pcO B n2 d B' m2 d' B2 q2 dq))
  obtain ⟨⟨x0, x1, x2⟩, ⟨y0, y1, y2⟩, hz⟩ := HC.out _ T
  by_cases g1 : X1 = 0
  rotate_left
  · have HR : Hid (X = false) := by unfold Hid; rw [← hX]; simp [g1]
    have hxb : (X1 == 0) = false := beq_eq_false_iff_ne.2 g1
    clear g1 hX
    go_enter Tryd.func27, Tryd.ntmps27
    go_wp2_with (first
      | (go_at_call 34; with_reducible refine (OA.out _ (HE.out _ T).1).mono ?_; rintro e w1 ⟨Ba, na, da, rfl, hna, hsa, hb1⟩; replace T := bt T hb1; have HSA := Lib.hid (And.intro hna hsa); clear hna hsa; clear x0 x1 x2 y0 y1 y2 hz; obtain ⟨⟨x0, x1, x2⟩, ⟨y0, y1, y2⟩, hz⟩ := HC.out _ T)
      | (go_at_call 34; with_reducible refine (OB.out _ (HE.out _ T).2).mono ?_; rintro e w2 ⟨Bb, nb, db, rfl, hnb, hsb, hb2⟩; replace T := bt T hb2; have HSB := Lib.hid (And.intro hnb (And.intro hsb (HSA.out.2.below hb2))); clear hnb hsb hb2; clear x0 x1 x2 y0 y1 y2 hz; obtain ⟨⟨x0, x1, x2⟩, ⟨y0, y1, y2⟩, hz⟩ := HC.out _ T)
      | (go_at_call 68; with_reducible refine (CI.out _ (HE.out _ T)).mono ?_; rintro e w3 ⟨rfl, hb3⟩; replace T := bt T hb3; have HSI := Lib.hid hb3; clear hb3; clear x0 x1 x2 y0 y1 y2 hz; obtain ⟨⟨x0, x1, x2⟩, ⟨y0, y1, y2⟩, hz⟩ := HC.out _ T)
      | (go_at_call 69; with_reducible refine (equalI_any Ba Bb na da nb db LA LB w3 (HSB.out.2.2.below HSI.out) (HSB.out.2.1.below HSI.out) HSA.out.1 HSB.out.1 (by have := HLA.out; have := HSA.out.1; omega) (by have := HLB.out; have := HSB.out.1; omega)).mono ?_; rintro e w4 ⟨rfl, hb4⟩; replace T := bt T hb4; clear hb4; clear x0 x1 x2 y0 y1 y2 hz; obtain ⟨⟨x0, x1, x2⟩, ⟨y0, y1, y2⟩, hz⟩ := HC.out _ T)
      | (go_at_call 70; with_reducible refine (CF.out _ (HE.out _ T)).mono ?_; rintro e w5 ⟨rfl, hb5⟩; replace T := bt T hb5; clear hb5))
    go_ret
    exact ⟨ret_bool HR.out.symm, bt HBB.out T⟩
  subst g1
  by_cases g2 : X2 = 0
  rotate_left
  · have HR : Hid (X = false) := by unfold Hid; rw [← hX]; simp [g2]
    have hxb : (X2 == 0) = false := beq_eq_false_iff_ne.2 g2
    clear g2 hX
    go_enter Tryd.func27, Tryd.ntmps27
    go_wp2_with (first
      | (go_at_call 34; with_reducible refine (OA.out _ (HE.out _ T).1).mono ?_; rintro e w1 ⟨Ba, na, da, rfl, hna, hsa, hb1⟩; replace T := bt T hb1; have HSA := Lib.hid (And.intro hna hsa); clear hna hsa; clear x0 x1 x2 y0 y1 y2 hz; obtain ⟨⟨x0, x1, x2⟩, ⟨y0, y1, y2⟩, hz⟩ := HC.out _ T)
      | (go_at_call 34; with_reducible refine (OB.out _ (HE.out _ T).2).mono ?_; rintro e w2 ⟨Bb, nb, db, rfl, hnb, hsb, hb2⟩; replace T := bt T hb2; have HSB := Lib.hid (And.intro hnb (And.intro hsb (HSA.out.2.below hb2))); clear hnb hsb hb2; clear x0 x1 x2 y0 y1 y2 hz; obtain ⟨⟨x0, x1, x2⟩, ⟨y0, y1, y2⟩, hz⟩ := HC.out _ T)
      | (go_at_call 68; with_reducible refine (CI.out _ (HE.out _ T)).mono ?_; rintro e w3 ⟨rfl, hb3⟩; replace T := bt T hb3; have HSI := Lib.hid hb3; clear hb3; clear x0 x1 x2 y0 y1 y2 hz; obtain ⟨⟨x0, x1, x2⟩, ⟨y0, y1, y2⟩, hz⟩ := HC.out _ T)
      | (go_at_call 69; with_reducible refine (equalI_any Ba Bb na da nb db LA LB w3 (HSB.out.2.2.below HSI.out) (HSB.out.2.1.below HSI.out) HSA.out.1 HSB.out.1 (by have := HLA.out; have := HSA.out.1; omega) (by have := HLB.out; have := HSB.out.1; omega)).mono ?_; rintro e w4 ⟨rfl, hb4⟩; replace T := bt T hb4; clear hb4; clear x0 x1 x2 y0 y1 y2 hz; obtain ⟨⟨x0, x1, x2⟩, ⟨y0, y1, y2⟩, hz⟩ := HC.out _ T)
      | (go_at_call 70; with_reducible refine (CF.out _ (HE.out _ T)).mono ?_; rintro e w5 ⟨rfl, hb5⟩; replace T := bt T hb5; clear hb5))
    go_ret
    exact ⟨ret_bool HR.out.symm, bt HBB.out T⟩
  subst g2
  cases g3 : sameB C S D U with
  | false =>
    have HR : Hid (X = false) := by unfold Hid; rw [← hX, g3]; simp
    rw [g3] at CI
    clear g3 hX
    go_enter Tryd.func27, Tryd.ntmps27
    go_wp2_with (first
      | (go_at_call 34; with_reducible refine (OA.out _ (HE.out _ T).1).mono ?_; rintro e w1 ⟨Ba, na, da, rfl, hna, hsa, hb1⟩; replace T := bt T hb1; have HSA := Lib.hid (And.intro hna hsa); clear hna hsa; clear x0 x1 x2 y0 y1 y2 hz; obtain ⟨⟨x0, x1, x2⟩, ⟨y0, y1, y2⟩, hz⟩ := HC.out _ T)
      | (go_at_call 34; with_reducible refine (OB.out _ (HE.out _ T).2).mono ?_; rintro e w2 ⟨Bb, nb, db, rfl, hnb, hsb, hb2⟩; replace T := bt T hb2; have HSB := Lib.hid (And.intro hnb (And.intro hsb (HSA.out.2.below hb2))); clear hnb hsb hb2; clear x0 x1 x2 y0 y1 y2 hz; obtain ⟨⟨x0, x1, x2⟩, ⟨y0, y1, y2⟩, hz⟩ := HC.out _ T)
      | (go_at_call 68; with_reducible refine (CI.out _ (HE.out _ T)).mono ?_; rintro e w3 ⟨rfl, hb3⟩; replace T := bt T hb3; have HSI := Lib.hid hb3; clear hb3; clear x0 x1 x2 y0 y1 y2 hz; obtain ⟨⟨x0, x1, x2⟩, ⟨y0, y1, y2⟩, hz⟩ := HC.out _ T)
      | (go_at_call 69; with_reducible refine (equalI_any Ba Bb na da nb db LA LB w3 (HSB.out.2.2.below HSI.out) (HSB.out.2.1.below HSI.out) HSA.out.1 HSB.out.1 (by have := HLA.out; have := HSA.out.1; omega) (by have := HLB.out; have := HSB.out.1; omega)).mono ?_; rintro e w4 ⟨rfl, hb4⟩; replace T := bt T hb4; clear hb4; clear x0 x1 x2 y0 y1 y2 hz; obtain ⟨⟨x0, x1, x2⟩, ⟨y0, y1, y2⟩, hz⟩ := HC.out _ T)
      | (go_at_call 70; with_reducible refine (CF.out _ (HE.out _ T)).mono ?_; rintro e w5 ⟨rfl, hb5⟩; replace T := bt T hb5; clear hb5))
    go_ret
    exact ⟨ret_bool HR.out.symm, bt HBB.out T⟩
  | true =>
    rw [g3] at CI
    cases g4 : eqI LA LB with
    | false =>
      have HR : Hid (X = false) := by unfold Hid; rw [← hX, g3, g4]; simp
      have HEI := Lib.hid g4
      clear g3 g4 hX
      go_enter Tryd.func27, Tryd.ntmps27
      go_wp2_with (first
      | (go_at_call 34; with_reducible refine (OA.out _ (HE.out _ T).1).mono ?_; rintro e w1 ⟨Ba, na, da, rfl, hna, hsa, hb1⟩; replace T := bt T hb1; have HSA := Lib.hid (And.intro hna hsa); clear hna hsa; clear x0 x1 x2 y0 y1 y2 hz; obtain ⟨⟨x0, x1, x2⟩, ⟨y0, y1, y2⟩, hz⟩ := HC.out _ T)
      | (go_at_call 34; with_reducible refine (OB.out _ (HE.out _ T).2).mono ?_; rintro e w2 ⟨Bb, nb, db, rfl, hnb, hsb, hb2⟩; replace T := bt T hb2; have HSB := Lib.hid (And.intro hnb (And.intro hsb (HSA.out.2.below hb2))); clear hnb hsb hb2; clear x0 x1 x2 y0 y1 y2 hz; obtain ⟨⟨x0, x1, x2⟩, ⟨y0, y1, y2⟩, hz⟩ := HC.out _ T)
      | (go_at_call 68; with_reducible refine (CI.out _ (HE.out _ T)).mono ?_; rintro e w3 ⟨rfl, hb3⟩; replace T := bt T hb3; have HSI := Lib.hid hb3; clear hb3; clear x0 x1 x2 y0 y1 y2 hz; obtain ⟨⟨x0, x1, x2⟩, ⟨y0, y1, y2⟩, hz⟩ := HC.out _ T)
      | (go_at_call 69; with_reducible refine (equalI_any Ba Bb na da nb db LA LB w3 (HSB.out.2.2.below HSI.out) (HSB.out.2.1.below HSI.out) HSA.out.1 HSB.out.1 (by have := HLA.out; have := HSA.out.1; omega) (by have := HLB.out; have := HSB.out.1; omega)).mono ?_; rintro e w4 ⟨rfl, hb4⟩; rw [HEI.out]; replace T := bt T hb4; clear hb4; clear x0 x1 x2 y0 y1 y2 hz; obtain ⟨⟨x0, x1, x2⟩, ⟨y0, y1, y2⟩, hz⟩ := HC.out _ T)
      | (go_at_call 70; with_reducible refine (CF.out _ (HE.out _ T)).mono ?_; rintro e w5 ⟨rfl, hb5⟩; replace T := bt T hb5; clear hb5))
      go_ret
      exact ⟨ret_bool HR.out.symm, bt HBB.out T⟩
    | true =>
      have HR : Hid (X = YE) := by unfold Hid; rw [← hX, g3, g4]; simp
      have HEI := Lib.hid g4
      clear g3 g4 hX
      go_enter Tryd.func27, Tryd.ntmps27
      go_wp2_with (first
      | (go_at_call 34; with_reducible refine (OA.out _ (HE.out _ T).1).mono ?_; rintro e w1 ⟨Ba, na, da, rfl, hna, hsa, hb1⟩; replace T := bt T hb1; have HSA := Lib.hid (And.intro hna hsa); clear hna hsa; clear x0 x1 x2 y0 y1 y2 hz; obtain ⟨⟨x0, x1, x2⟩, ⟨y0, y1, y2⟩, hz⟩ := HC.out _ T)
      | (go_at_call 34; with_reducible refine (OB.out _ (HE.out _ T).2).mono ?_; rintro e w2 ⟨Bb, nb, db, rfl, hnb, hsb, hb2⟩; replace T := bt T hb2; have HSB := Lib.hid (And.intro hnb (And.intro hsb (HSA.out.2.below hb2))); clear hnb hsb hb2; clear x0 x1 x2 y0 y1 y2 hz; obtain ⟨⟨x0, x1, x2⟩, ⟨y0, y1, y2⟩, hz⟩ := HC.out _ T)
      | (go_at_call 68; with_reducible refine (CI.out _ (HE.out _ T)).mono ?_; rintro e w3 ⟨rfl, hb3⟩; replace T := bt T hb3; have HSI := Lib.hid hb3; clear hb3; clear x0 x1 x2 y0 y1 y2 hz; obtain ⟨⟨x0, x1, x2⟩, ⟨y0, y1, y2⟩, hz⟩ := HC.out _ T)
      | (go_at_call 69; with_reducible refine (equalI_any Ba Bb na da nb db LA LB w3 (HSB.out.2.2.below HSI.out) (HSB.out.2.1.below HSI.out) HSA.out.1 HSB.out.1 (by have := HLA.out; have := HSA.out.1; omega) (by have := HLB.out; have := HSB.out.1; omega)).mono ?_; rintro e w4 ⟨rfl, hb4⟩; rw [HEI.out]; replace T := bt T hb4; clear hb4; clear x0 x1 x2 y0 y1 y2 hz; obtain ⟨⟨x0, x1, x2⟩, ⟨y0, y1, y2⟩, hz⟩ := HC.out _ T)
      | (go_at_call 70; with_reducible refine (CF.out _ (HE.out _ T)).mono ?_; rintro e w5 ⟨rfl, hb5⟩; replace T := bt T hb5; clear hb5))
      go_ret
      exact ⟨ret_bool HR.out.symm, bt HBB.out T⟩

end Go.Proofs.YtjobablfojnppaaDoor

/- Pieces, the reference: Alike, for any two pieces. -/
namespace Go.Proofs.YtjobablfojnppaaDoor
open Go Go.RowKit

def rAlB (x y : EvP) : Bool := (x.tie == y.tie) && eqL pqEqB x.L y.L
theorem eqL_map : ∀ (L M : List St), eqL plEqB (L.map plS) (M.map plS) = eqL pqEqB L M
  | [], [] => rfl
  | [], _ :: _ => rfl
  | _ :: _, [] => rfl
  | x :: r, y :: s => by
    have := eqL_map r s
    simp only [List.map_cons, eqL, this]
    rfl
theorem alEvB_eq : ∀ (P Q : List EvP), eqL alEvB P Q = eqL rAlB P Q
  | [], [] => rfl
  | [], _ :: _ => rfl
  | _ :: _, [] => rfl
  | x :: r, y :: s => by
    have := alEvB_eq r s
    simp only [eqL, this, alEvB, rAlB, eqL_map]
set_option maxRecDepth 100000 in
set_option maxHeartbeats 6400000 in
theorem rAlike_any (A : Option Addr) (n c : Nat) (A' : Option Addr) (m c' : Nat) (A2 : Option Addr) (q cq : Nat) (B : Option Addr) (n2 d : Nat) (B' : Option Addr) (m2 d' : Nat) (B2 : Option Addr) (q2 dq : Nat) (C : List Cr) (S : List Int) (P : List EvP) (D : List Cr) (U : List Int) (Q : List EvP) (w : World)
    (hP : PcIn w A n c A' m c' A2 q cq C S P) (hQ : PcIn w B n2 d B' m2 d' B2 q2 dq D U Q) (b1 : n ≤ 65536) (b2 : m ≤ 65536) (b3 : q ≤ 65536) (b4 : n2 ≤ 65536) (b5 : m2 ≤ 65536) (b6 : q2 ≤ 65536) (hsp : ∀ y ∈ P, y.L.length ≤ 1000000) (hsq : ∀ y ∈ Q, y.L.length ≤ 1000000) :
    Calls Tryd.prog 44 #[pcV A n c A' m c' A2 q cq, pcV B n2 d B' m2 d' B2 q2 dq] w fun e w' => e = .returned (.bool (alikeB C S P D U Q)) ∧ Below w.heap.size w w' := by
  have HE : Hid (∀ w', Below ((w.alloc (pcO A n c A' m c' A2 q cq)).alloc (pcO B n2 d B' m2 d' B2 q2 dq)).heap.size ((w.alloc (pcO A n c A' m c' A2 q cq)).alloc (pcO B n2 d B' m2 d' B2 q2 dq)) w' → PcIn w' A n c A' m c' A2 q cq C S P ∧ PcIn w' B n2 d B' m2 d' B2 q2 dq D U Q) :=
    fun w' h => ⟨(hP.below (bt (ba _ _) (ba _ _))).below h, (hQ.below (bt (ba _ _) (ba _ _))).below h⟩
  have HC : Hid (∀ w', Below ((w.alloc (pcO A n c A' m c' A2 q cq)).alloc (pcO B n2 d B' m2 d' B2 q2 dq)).heap.size ((w.alloc (pcO A n c A' m c' A2 q cq)).alloc (pcO B n2 d B' m2 d' B2 q2 dq)) w' → (w'.cell? ⟨w.heap.size, 0, none⟩ = some (.slice A n c) ∧ w'.cell? ⟨w.heap.size, 1, none⟩ = some (.slice A' m c') ∧ w'.cell? ⟨w.heap.size, 2, none⟩ = some (.slice A2 q cq)) ∧ (w'.cell? ⟨w.heap.size + 1, 0, none⟩ = some (.slice B n2 d) ∧ w'.cell? ⟨w.heap.size + 1, 1, none⟩ = some (.slice B' m2 d') ∧ w'.cell? ⟨w.heap.size + 1, 2, none⟩ = some (.slice B2 q2 dq)) ∧ w.heap.size + 1 < w'.heap.size) := fun w' hb => by
    have p := cell3 (bt (ba _ _) hb)
    have r := cell3 hb
    simp only [World.size_alloc] at r
    exact ⟨p, r, by have := hb.size; simp at this; omega⟩
  have HBB : Hid (Below w.heap.size w ((w.alloc (pcO A n c A' m c' A2 q cq)).alloc (pcO B n2 d B' m2 d' B2 q2 dq))) := bt (ba _ _) (ba _ _)
  have OA := Lib.hid (fun w' (h : PcIn w' A n c A' m c' A2 q cq C S P) => rpcheck_any A n c A' m c' A2 q cq C S P w' h (by omega) (by omega) (by omega) hsp)
  have OB := Lib.hid (fun w' (h : PcIn w' B n2 d B' m2 d' B2 q2 dq D U Q) => rpcheck_any B n2 d B' m2 d' B2 q2 dq D U Q w' h (by omega) (by omega) (by omega) hsq)
  have TA := Lib.hid (fun w' (h : PcIn w' A n c A' m c' A2 q cq C S P) => rTimes_any A n c A' m c' A2 q cq P w' h.es b3)
  have TB := Lib.hid (fun w' (h : PcIn w' B n2 d B' m2 d' B2 q2 dq D U Q) => rTimes_any B n2 d B' m2 d' B2 q2 dq Q w' h.es b6)
  have CI := Lib.hid (fun w' (h : PcIn w' A n c A' m c' A2 q cq C S P ∧ PcIn w' B n2 d B' m2 d' B2 q2 dq D U Q) => rsame_any A n c A' m c' B n2 d B' m2 d' C S D U w' h.1.crs h.1.stp h.2.crs h.2.stp h.1.hn h.1.hm h.2.hn h.2.hm b1 b2 b4 b5)
  have HSP := Lib.hid hsp
  have HSQ := Lib.hid hsq
  have HQP := Lib.hid hP.es.hq
  have HQQ := Lib.hid hQ.es.hq
  obtain ⟨X, hX⟩ : ∃ X, alikeB C S P D U Q = X := ⟨_, rfl⟩
  rw [hX]
  unfold alikeB at hX
  rw [alEvB_eq] at hX
  have HLE : Hid (pcErr C S P = 0 → onsL C S P = 0 :: sumL 0 (frcL s0g P)) := fun h => by unfold onsL; rw [if_pos h]
  have HLF : Hid (pcErr D U Q = 0 → onsL D U Q = 0 :: sumL 0 (frcL s0g Q)) := fun h => by unfold onsL; rw [if_pos h]
  have HLA : Hid ((0 :: sumL 0 (frcL s0g P)).length = q + 1) := by unfold Hid; rw [List.length_cons, sumL_len, frcL_len, HQP.out]
  have HLB : Hid ((0 :: sumL 0 (frcL s0g Q)).length = q2 + 1) := by unfold Hid; rw [List.length_cons, sumL_len, frcL_len, HQQ.out]
  clear hP hQ hsp hsq
  generalize onsL C S P = OLA at *
  generalize onsL D U Q = OLB at *
  generalize pcErr C S P = X1 at *
  generalize pcErr D U Q = X2 at *
  generalize 0 :: sumL 0 (frcL s0g P) = LA at *
  generalize 0 :: sumL 0 (frcL s0g Q) = LB at *
  have T := Below.refl ((w.alloc (pcO A n c A' m c' A2 q cq)).alloc (pcO B n2 d B' m2 d' B2 q2 dq)).heap.size ((w.alloc (pcO A n c A' m c' A2 q cq)).alloc (pcO B n2 d B' m2 d' B2 q2 dq))
  obtain ⟨⟨x0, x1, x2⟩, ⟨y0, y1, y2⟩, hz⟩ := HC.out _ T
  by_cases g1 : X1 = 0
  rotate_left
  · have HR : Hid (X = false) := by unfold Hid; rw [← hX]; simp [g1]
    have hxb : (X1 == 0) = false := beq_eq_false_iff_ne.2 g1
    have hxc : (X1 != 0) = true := bne_iff_ne.2 g1
    have hxd : decide (X1 = 0) = false := decide_eq_false g1
    clear g1 hX
    go_enter Tryd.func44, Tryd.ntmps44
    go_wp2_with (first
      | (go_at_call 26; with_reducible refine (OA.out _ (HE.out _ T).1).mono ?_; rintro e w1 ⟨rfl, hb1⟩; replace T := bt T hb1; clear hb1; clear x0 x1 x2 y0 y1 y2 hz; obtain ⟨⟨x0, x1, x2⟩, ⟨y0, y1, y2⟩, hz⟩ := HC.out _ T)
      | (go_at_call 26; with_reducible refine (OB.out _ (HE.out _ T).2).mono ?_; rintro e w2 ⟨rfl, hb2⟩; replace T := bt T hb2; clear hb2; clear x0 x1 x2 y0 y1 y2 hz; obtain ⟨⟨x0, x1, x2⟩, ⟨y0, y1, y2⟩, hz⟩ := HC.out _ T)
      | (go_at_call 45; with_reducible refine (CI.out _ (HE.out _ T)).mono ?_; rintro e w3 ⟨rfl, hb3⟩; replace T := bt T hb3; clear hb3; clear x0 x1 x2 y0 y1 y2 hz; obtain ⟨⟨x0, x1, x2⟩, ⟨y0, y1, y2⟩, hz⟩ := HC.out _ T))
    go_ret
    exact ⟨ret_bool HR.out.symm, bt HBB.out T⟩
  subst g1
  by_cases g2 : X2 = 0
  rotate_left
  · have HR : Hid (X = false) := by unfold Hid; rw [← hX]; simp [g2]
    have hxb : (X2 == 0) = false := beq_eq_false_iff_ne.2 g2
    have hxc : (X2 != 0) = true := bne_iff_ne.2 g2
    have hxd : decide (X2 = 0) = false := decide_eq_false g2
    clear g2 hX
    go_enter Tryd.func44, Tryd.ntmps44
    go_wp2_with (first
      | (go_at_call 26; with_reducible refine (OA.out _ (HE.out _ T).1).mono ?_; rintro e w1 ⟨rfl, hb1⟩; replace T := bt T hb1; clear hb1; clear x0 x1 x2 y0 y1 y2 hz; obtain ⟨⟨x0, x1, x2⟩, ⟨y0, y1, y2⟩, hz⟩ := HC.out _ T)
      | (go_at_call 26; with_reducible refine (OB.out _ (HE.out _ T).2).mono ?_; rintro e w2 ⟨rfl, hb2⟩; replace T := bt T hb2; clear hb2; clear x0 x1 x2 y0 y1 y2 hz; obtain ⟨⟨x0, x1, x2⟩, ⟨y0, y1, y2⟩, hz⟩ := HC.out _ T)
      | (go_at_call 45; with_reducible refine (CI.out _ (HE.out _ T)).mono ?_; rintro e w3 ⟨rfl, hb3⟩; replace T := bt T hb3; clear hb3; clear x0 x1 x2 y0 y1 y2 hz; obtain ⟨⟨x0, x1, x2⟩, ⟨y0, y1, y2⟩, hz⟩ := HC.out _ T))
    go_ret
    exact ⟨ret_bool HR.out.symm, bt HBB.out T⟩
  subst g2
  obtain rfl := HLE.out rfl
  obtain rfl := HLF.out rfl
  clear HLE HLF
  cases g3 : sameB C S D U with
  | false =>
    have HR : Hid (X = false) := by unfold Hid; rw [← hX, g3]; simp
    rw [g3] at CI
    clear g3 hX
    go_enter Tryd.func44, Tryd.ntmps44
    go_wp2_with (first
      | (go_at_call 26; with_reducible refine (OA.out _ (HE.out _ T).1).mono ?_; rintro e w1 ⟨rfl, hb1⟩; replace T := bt T hb1; clear hb1; clear x0 x1 x2 y0 y1 y2 hz; obtain ⟨⟨x0, x1, x2⟩, ⟨y0, y1, y2⟩, hz⟩ := HC.out _ T)
      | (go_at_call 26; with_reducible refine (OB.out _ (HE.out _ T).2).mono ?_; rintro e w2 ⟨rfl, hb2⟩; replace T := bt T hb2; clear hb2; clear x0 x1 x2 y0 y1 y2 hz; obtain ⟨⟨x0, x1, x2⟩, ⟨y0, y1, y2⟩, hz⟩ := HC.out _ T)
      | (go_at_call 45; with_reducible refine (CI.out _ (HE.out _ T)).mono ?_; rintro e w3 ⟨rfl, hb3⟩; replace T := bt T hb3; clear hb3; clear x0 x1 x2 y0 y1 y2 hz; obtain ⟨⟨x0, x1, x2⟩, ⟨y0, y1, y2⟩, hz⟩ := HC.out _ T))
    go_ret
    exact ⟨ret_bool HR.out.symm, bt HBB.out T⟩
  | true =>
    have HXX : Hid (X = (eqI OLA OLB && eqL rAlB P Q)) := by unfold Hid; rw [← hX, g3]; simp
    rw [g3] at CI
    clear g3 hX
    by_cases g5 : q = q2
    rotate_left
    · have HR : Hid (X = false) := by unfold Hid; rw [HXX.out, eqL_len _ _ _ (by have := HQP.out; have := HQQ.out; omega)]; simp
      have hxb : ((q : Int) == (q2 : Int)) = false := by simp; omega
      go_enter Tryd.func44, Tryd.ntmps44
      go_wp2_with (first
      | (go_at_call 26; with_reducible refine (OA.out _ (HE.out _ T).1).mono ?_; rintro e w1 ⟨rfl, hb1⟩; replace T := bt T hb1; clear hb1; clear x0 x1 x2 y0 y1 y2 hz; obtain ⟨⟨x0, x1, x2⟩, ⟨y0, y1, y2⟩, hz⟩ := HC.out _ T)
      | (go_at_call 26; with_reducible refine (OB.out _ (HE.out _ T).2).mono ?_; rintro e w2 ⟨rfl, hb2⟩; replace T := bt T hb2; clear hb2; clear x0 x1 x2 y0 y1 y2 hz; obtain ⟨⟨x0, x1, x2⟩, ⟨y0, y1, y2⟩, hz⟩ := HC.out _ T)
      | (go_at_call 45; with_reducible refine (CI.out _ (HE.out _ T)).mono ?_; rintro e w3 ⟨rfl, hb3⟩; replace T := bt T hb3; clear hb3; clear x0 x1 x2 y0 y1 y2 hz; obtain ⟨⟨x0, x1, x2⟩, ⟨y0, y1, y2⟩, hz⟩ := HC.out _ T))
      go_ret
      exact ⟨ret_bool HR.out.symm, bt HBB.out T⟩
    subst g5
    go_enter Tryd.func44, Tryd.ntmps44
    go_wp2_with (first
      | (go_at_call 26; with_reducible refine (OA.out _ (HE.out _ T).1).mono ?_; rintro e w1 ⟨rfl, hb1⟩; replace T := bt T hb1; clear hb1; clear x0 x1 x2 y0 y1 y2 hz; obtain ⟨⟨x0, x1, x2⟩, ⟨y0, y1, y2⟩, hz⟩ := HC.out _ T)
      | (go_at_call 26; with_reducible refine (OB.out _ (HE.out _ T).2).mono ?_; rintro e w2 ⟨rfl, hb2⟩; replace T := bt T hb2; clear hb2; clear x0 x1 x2 y0 y1 y2 hz; obtain ⟨⟨x0, x1, x2⟩, ⟨y0, y1, y2⟩, hz⟩ := HC.out _ T)
      | (go_at_call 45; with_reducible refine (CI.out _ (HE.out _ T)).mono ?_; rintro e w3 ⟨rfl, hb3⟩; replace T := bt T hb3; clear hb3; clear x0 x1 x2 y0 y1 y2 hz; obtain ⟨⟨x0, x1, x2⟩, ⟨y0, y1, y2⟩, hz⟩ := HC.out _ T))
    have HT0 := Lib.hid T
    replace T := T.drew
    go_region_held_law (fun w' => (w'.cell? ⟨w.heap.size, 0, none⟩ = some (.slice A n c) ∧ w'.cell? ⟨w.heap.size, 1, none⟩ = some (.slice A' m c') ∧ w'.cell? ⟨w.heap.size, 2, none⟩ = some (.slice A2 q cq)) ∧ w'.cell? ⟨w.heap.size + 1, 0, none⟩ = some (.slice B n2 d) ∧ w'.cell? ⟨w.heap.size + 1, 1, none⟩ = some (.slice B' m2 d') ∧ w'.cell? ⟨w.heap.size + 1, 2, none⟩ = some (.slice B2 q dq))
      (first | exact ⟨(HC.out _ T).1, (HC.out _ T).2.1⟩)
      (first
        | (go_at_call 78; with_reducible refine (TA.out _ (HE.out _ T).1).mono ?_; rintro e wa ⟨Ba, da, rfl, hsa, hba⟩; replace T := bt T hba; have HSA := Lib.hid hsa.sl; clear hsa)
        | (go_at_call 78; with_reducible refine (TB.out _ (HE.out _ T).2).mono ?_; rintro e wb ⟨Bb, db, rfl, hsb, hbb⟩; replace T := bt T hbb; have HSB := Lib.hid hsb.sl; clear hsb))
    all_goals (
      have HT1 := Lib.hid T
      clear x0 x1 x2 y0 y1 y2 hz T
      (first
        | (have HSS : Hid (Sl wb wb.heap.size 1 Ba (q + 1) da (intC OLA) ∧ Sl wb wb.heap.size 1 Bb (q + 1) db (intC OLB)) := ⟨HSA.out.below hbb, HSB.out⟩; clear HSA HSB hba hbb; obtain ⟨wt, hwt⟩ : ∃ x, x = wb := ⟨_, rfl⟩; rw [← hwt] at HSS HT1 ⊢; clear hwt)
        | (have HSS : Hid (Sl wa wa.heap.size 1 Ba (q + 1) da (intC OLA) ∧ Sl wa wa.heap.size 1 Bb (q + 1) db (intC OLB)) := ⟨HSA.out, HSB.out.below hba⟩; clear HSA HSB hba hbb; obtain ⟨wt, hwt⟩ : ∃ x, x = wa := ⟨_, rfl⟩; rw [← hwt] at HSS HT1 ⊢; clear hwt))
      go_wp2_with (fail)
      go_loopw [7] (fun i wr => ∃ k : Nat, k ≤ q + 1 ∧ i = .int .i64 k ∧ Hid (eqI OLA OLB = eqI (OLA.drop k) (OLB.drop k)) ∧ Below wt.heap.size wt wr) (fun i _ => q + 1 - (intOf i).toNat)
      case atStart => exact ⟨0, by omega, rfl, rfl, Below.refl _ _⟩
      case round =>
      obtain ⟨k, hk, rfl, HR, hbw⟩ := hrel
      have HB := Lib.hid hbw
      clear hbw
      by_cases hlt : k < q + 1
      · have hkn : (k : Int) < (q : Int) + 1 := by omega
        obtain ⟨b1, o1, hA1, hB1, hc1⟩ := (HSS.out.1.below HB.out).2.2 (by omega)
        obtain ⟨b2, o2, hA2, hB2, hc2⟩ := (HSS.out.2.below HB.out).2.2 (by omega)
        subst hA1 hA2
        have a0 := hc1 _ _ (intC_at OLA k (by have := HLA.out; omega))
        have b0 := hc2 _ _ (intC_at OLB k (by have := HLB.out; omega))
        have HS := Lib.hid (eqI_step HR.out (by have := HLA.out; omega) (by have := HLB.out; omega))
        clear hc1 hc2 hB1 hB2
        generalize OLA.getD k 0 = x at *
        generalize OLB.getD k 0 = y at *
        by_cases hxy : x = y
        · subst hxy
          have HS2 : Hid (eqI OLA OLB = eqI (OLA.drop (k + 1)) (OLB.drop (k + 1))) := by unfold Hid; rw [HS.out]; simp
          go_wp2_with (fail)
          go_quiet (fail)
          go_wp2_with (fail)
          go_roundw
          case rel => exact ⟨k + 1, by omega, by first | rfl | go_num, HS2.out, bd HB.out _⟩
          case measure => simp [intOf]; omega
        · have HR2 : Hid (X = false) := by unfold Hid; rw [HXX.out, HS.out]; simp [hxy]
          have hxb : (x == y) = false := beq_eq_false_iff_ne.2 hxy
          clear hxy
          go_wp2_with (fail)
          go_quiet (fail)
          go_wp2_with (fail)
          go_ret
          exact ⟨ret_bool HR2.out.symm, bt HBB.out (bt HT1.out (bd HB.out _))⟩
      · obtain rfl : k = q + 1 := by omega
        have HXE : Hid (X = eqL rAlB P Q) := by
          unfold Hid
          rw [HXX.out, HR.out, List.drop_of_length_le (by have := HLA.out; omega), List.drop_of_length_le (by have := HLB.out; omega)]
          rfl
        have HT1 : Hid (Below ((w.alloc (pcO A n c A' m c' A2 q cq)).alloc (pcO B n2 d B' m2 d' B2 q dq)).heap.size ((w.alloc (pcO A n c A' m c' A2 q cq)).alloc (pcO B n2 d B' m2 d' B2 q dq)) wr) := bt HT1.out HB.out
        obtain ⟨⟨x0, x1, x2⟩, ⟨y0, y1, y2⟩, hz⟩ := HC.out _ HT1.out
        clear HB HR HSS HXX hlt hk
        obtain ⟨w1, hw1⟩ : ∃ w1, w1 = wr := ⟨_, rfl⟩
        rw [← hw1] at HT1 x0 x1 x2 y0 y1 y2 hz ⊢
        clear hw1
        go_wp2_with (fail)
        clear x0 x1 x2 y0 y1 y2 hz
        go_loopw [8] (fun i wr => ∃ k : Nat, k ≤ q ∧ i = .int .i64 k ∧ Hid (X = eqL rAlB (P.drop k) (Q.drop k)) ∧ Below w1.heap.size w1 wr) (fun i _ => q - (intOf i).toNat)
        case atStart => exact ⟨0, by omega, rfl, HXE.out, Below.refl _ _⟩
        case round =>
        obtain ⟨k, hk, rfl, HR, hbw⟩ := hrel
        have HB := Lib.hid hbw
        obtain ⟨⟨_, _, p2⟩, ⟨_, _, r2⟩, hz⟩ := HC.out _ (bt HT1.out hbw)
        clear hbw
        by_cases hlt : k < q
        · have hkn : (k : Int) < (q : Int) := by omega
          obtain ⟨b1, o1, sa, sc, rfl, hB1, hPk, _, ⟨c0, c1, c2, c3, c4, c5⟩, hS1⟩ := (HE.out _ (bt HT1.out HB.out)).1.es.at hlt
          obtain ⟨b2, o2, sb, sd, rfl, hB2, hQk, _, ⟨e0, e1, e2, e3, e4, e5⟩, hS2⟩ := (HE.out _ (bt HT1.out HB.out)).2.es.at hlt
          have HL := Lib.hid (HSP.out _ (List.mem_of_getElem? hPk))
          have HL2 := Lib.hid (HSQ.out _ (List.mem_of_getElem? hQk))
          have HS1 := Lib.hid hS1
          have HS2 := Lib.hid hS2
          have HST := Lib.hid (eqL_step' rAlB z6 HR.out (by have := HQP.out; omega) (by have := HQQ.out; omega))
          clear hS1 hS2 hPk hQk
          generalize P.getD k z6 = x at *
          generalize Q.getD k z6 = y at *
          obtain ⟨bar, v, d1, t, tie, L⟩ := x
          obtain ⟨bar2, v2, d2, t2, tie2, L2⟩ := y
          dsimp only at c0 c1 c2 c3 c4 c5 e0 e1 e2 e3 e4 e5 HL HL2 HS1 HS2
          obtain ⟨N, hN⟩ : ∃ N, L.length = N := ⟨_, rfl⟩
          rw [hN] at c5 HL HS1
          have HN := Lib.hid hN
          obtain ⟨M, hM⟩ : ∃ M, L2.length = M := ⟨_, rfl⟩
          rw [hM] at e5 HL2 HS2
          have HM := Lib.hid hM
          clear hN hM
          have HC2 : Hid (∀ w', Below wr.heap.size wr w' → (w'.cell? ⟨w.heap.size, 2, none⟩ = some (.slice (some ⟨b1, o1, none⟩) q cq) ∧ w'.cell? ⟨w.heap.size + 1, 2, none⟩ = some (.slice (some ⟨b2, o2, none⟩) q dq)) ∧ (w'.cell? ⟨b1, o1 + k * 6, none⟩ = some (.bool bar) ∧ w'.cell? ⟨b1, o1 + k * 6 + 1, none⟩ = some (.int .i64 v) ∧ w'.cell? ⟨b1, o1 + k * 6 + 2, none⟩ = some (.bool d1) ∧ w'.cell? ⟨b1, o1 + k * 6 + 3, none⟩ = some (.bool t) ∧ w'.cell? ⟨b1, o1 + k * 6 + 4, none⟩ = some (.bool tie) ∧ w'.cell? ⟨b1, o1 + k * 6 + 5, none⟩ = some (.slice sa N sc)) ∧ (w'.cell? ⟨b2, o2 + k * 6, none⟩ = some (.bool bar2) ∧ w'.cell? ⟨b2, o2 + k * 6 + 1, none⟩ = some (.int .i64 v2) ∧ w'.cell? ⟨b2, o2 + k * 6 + 2, none⟩ = some (.bool d2) ∧ w'.cell? ⟨b2, o2 + k * 6 + 3, none⟩ = some (.bool t2) ∧ w'.cell? ⟨b2, o2 + k * 6 + 4, none⟩ = some (.bool tie2) ∧ w'.cell? ⟨b2, o2 + k * 6 + 5, none⟩ = some (.slice sb M sd))) := fun w' h =>
            have hw0 := h.block w.heap.size (by omega)
            have hw1 := h.block (w.heap.size + 1) (by omega)
            have h1 := h.block b1 hB1
            have h2 := h.block b2 hB2
            ⟨⟨cell_same hw0 p2, cell_same hw1 r2⟩, ⟨cell_same h1 c0, cell_same h1 c1, cell_same h1 c2, cell_same h1 c3, cell_same h1 c4, cell_same h1 c5⟩, ⟨cell_same h2 e0, cell_same h2 e1, cell_same h2 e2, cell_same h2 e3, cell_same h2 e4, cell_same h2 e5⟩⟩
          by_cases gt : tie = tie2
          · subst gt
            obtain ⟨bb, hbb⟩ : ∃ bb, eqL pqEqB L L2 = bb := ⟨_, rfl⟩
            have HBV := Lib.hid hbb
            have HF0 : Hid (X = (bb && eqL rAlB (P.drop (k + 1)) (Q.drop (k + 1)))) := by
              unfold Hid
              rw [HST.out, ← hbb]
              simp [rAlB]
            clear hbb
            go_wp2_with (fail)
            have T := (Below.refl wr.heap.size wr).drew
            go_region_held3 (fun w' => (w'.cell? ⟨w.heap.size, 2, none⟩ = some (.slice (some ⟨b1, o1, none⟩) q cq) ∧ w'.cell? ⟨w.heap.size + 1, 2, none⟩ = some (.slice (some ⟨b2, o2, none⟩) q dq)) ∧ (w'.cell? ⟨b1, o1 + k * 6, none⟩ = some (.bool bar) ∧ w'.cell? ⟨b1, o1 + k * 6 + 1, none⟩ = some (.int .i64 v) ∧ w'.cell? ⟨b1, o1 + k * 6 + 2, none⟩ = some (.bool d1) ∧ w'.cell? ⟨b1, o1 + k * 6 + 3, none⟩ = some (.bool t) ∧ w'.cell? ⟨b1, o1 + k * 6 + 4, none⟩ = some (.bool tie) ∧ w'.cell? ⟨b1, o1 + k * 6 + 5, none⟩ = some (.slice sa N sc)) ∧ (w'.cell? ⟨b2, o2 + k * 6, none⟩ = some (.bool bar2) ∧ w'.cell? ⟨b2, o2 + k * 6 + 1, none⟩ = some (.int .i64 v2) ∧ w'.cell? ⟨b2, o2 + k * 6 + 2, none⟩ = some (.bool d2) ∧ w'.cell? ⟨b2, o2 + k * 6 + 3, none⟩ = some (.bool t2) ∧ w'.cell? ⟨b2, o2 + k * 6 + 4, none⟩ = some (.bool tie) ∧ w'.cell? ⟨b2, o2 + k * 6 + 5, none⟩ = some (.slice sb M sd)))
              (exact HC2.out _ T)
              (first | (go_at_call 35; refine (rSamePlaces_any bar v d1 t tie sa N sc bar2 v2 d2 t2 tie sb M sd L L2 _ (HS1.out.below T) (HS2.out.below T) HN.out.symm HM.out.symm HL.out HL2.out).mono ?_; rintro e wz ⟨rfl, hbz⟩; rw [HBV.out]; replace T := bt T hbz))
            have HT2 := Lib.hid T
            clear T hbz
            cases bb with
            | true =>
              have HF : Hid (X = eqL rAlB (P.drop (k + 1)) (Q.drop (k + 1))) := by unfold Hid; rw [HF0.out]; rfl
              go_wp2_with (fail)
              refine ⟨?_, ?measure⟩
              iterate 36 apply Exists.intro
              refine ⟨?rel, rfl⟩
              case rel => exact ⟨k + 1, by omega, by first | rfl | go_num, HF.out, bt HB.out HT2.out⟩
              case measure => simp [intOf]; omega
            | false =>
              have HF : Hid (X = false) := by unfold Hid; rw [HF0.out]; rfl
              go_wp2_with (fail)
              go_ret
              exact ⟨ret_bool HF.out.symm, bt HBB.out (bt HT1.out (bt HB.out HT2.out))⟩
          · have HF : Hid (X = false) := by unfold Hid; rw [HST.out]; simp [rAlB, gt]
            have hxb : (tie == tie2) = false := beq_eq_false_iff_ne.2 gt
            have hxc : (tie != tie2) = true := bne_iff_ne.2 gt
            have hxd : decide (tie = tie2) = false := decide_eq_false gt
            clear gt
            go_wp2_with (fail)
            go_quiet (fail)
            go_wp2_with (fail)
            go_ret
            exact ⟨ret_bool HF.out.symm, bt HBB.out (bt HT1.out (bd HB.out _))⟩
        · have HT : Hid (X = true) := by
            unfold Hid
            rw [HR.out, List.drop_of_length_le (by have := HQP.out; omega), List.drop_of_length_le (by have := HQQ.out; omega)]
            rfl
          go_wp2_with (fail)
          go_ret
          exact ⟨ret_bool HT.out.symm, bt HBB.out (bt HT1.out HB.out)⟩)

end Go.Proofs.YtjobablfojnppaaDoor

/- Pieces: a piece is the same as itself, and alike if it is valid. -/
namespace Go.Proofs.YtjobablfojnppaaDoor
open Go Go.RowKit

theorem alikeB_refl (C : List Cr) (S : List Int) (P : List EvP) : alikeB C S P C S P = (pcErr C S P == 0) := by
  have h1 : ∀ x : EvP, alEvB x x = true := fun x => by
    unfold alEvB
    rw [eqL_refl (fun y => by simp [plEqB])]
    simp
  unfold alikeB
  rw [sameB_refl, eqL_refl h1, eqI_refl]
  by_cases h : pcErr C S P = 0 <;> simp [h]
end Go.Proofs.YtjobablfojnppaaDoor
