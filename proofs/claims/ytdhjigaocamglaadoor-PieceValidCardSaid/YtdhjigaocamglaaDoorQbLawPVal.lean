/- The law PieceValid returns true for every piece and numbers. -/
import Derived.Test.YtdhjigaocamglaaDoorQbVl
import Derived.Test.YtdhjigaocamglaaDoorQbLawPRw
import Derived.Test.YtdhjigaocamglaaDoorQbTrnC
import Derived.Test.YtdhjigaocamglaaDoorQbLawPBars
import Derived.Test.YtdhjigaocamglaaDoorQbBk5
import Derived.Test.YtdhjigaocamglaaDoorQbSameI2
import Derived.Test.YtdhjigaocamglaaDoorQbWorks2
import Derived.Deep.CutRange
import Derived.Deep.RegionHeld3
namespace Go.Proofs.YtdhjigaocamglaaDoor
open Go Go.RowKit

theorem Tryd.infoPc : (Tryd.prog.info? 28).map (fun i => (i.zero, i.size, i.bytes)) = some (some (.agg #[.slice none 0 0, .slice none 0 0, .slice none 0 0]), 3, 72) := by kernel_rfl
/-- The three slices of a piece's value. -/
structure Pv where
  A : Option Addr
  n : Nat
  c : Nat
  A' : Option Addr
  m : Nat
  c' : Nat
  A2 : Option Addr
  q : Nat
  cq : Nat
def pvC (x : Pv) : List Value := [.slice x.A x.n x.c, .slice x.A' x.m x.c', .slice x.A2 x.q x.cq]
/-- A valid piece on this instrument, in memory from block b on. -/
def PvG (C : List Cr) (S : List Int) (W : World) (b : Nat) (x : Pv) : Prop := ∃ Q, PcOw W b x.A x.n x.c x.A' x.m x.c' x.A2 x.q x.cq C S Q ∧ pcErr C S Q = 0 ∧ ∀ y ∈ Q, y.L.length ≤ 1000000
theorem PvG.below {C : List Cr} {S : List Int} {W W' : World} {b : Nat} {x : Pv} (h : PvG C S W b x) (hb : Below W.heap.size W W') : PvG C S W' b x := by
  obtain ⟨Q, h1, h2, h3⟩ := h
  exact ⟨Q, h1.below hb, h2, h3⟩
theorem PvG.zero {C : List Cr} {S : List Int} {W : World} {b : Nat} {x : Pv} (h : PvG C S W b x) : PvG C S W 0 x := by
  obtain ⟨Q, h1, h2, h3⟩ := h
  exact ⟨Q, h1.more (Nat.zero_le _), h2, h3⟩
/-- The world behind the four stores of a call's results. -/
abbrev put4 (W : World) (g8 g9 k : Nat) (v0 v1 v2 e : Value) : World := (((W.setCell ⟨g9, k * 3, none⟩ v0).setCell ⟨g9, k * 3 + 1, none⟩ v1).setCell ⟨g9, k * 3 + 2, none⟩ v2).setCell ⟨g8, k, none⟩ e
theorem PvG.put4 {C : List Cr} {S : List Int} {W : World} {b : Nat} {x : Pv} (h : PvG C S W b x) {g8 g9 : Nat} (h8 : g8 < b) (h9 : g9 < b) (k : Nat) (v0 v1 v2 e : Value) : PvG C S (put4 W g8 g9 k v0 v1 v2 e) b x := by
  obtain ⟨Q, h1, h2, h3⟩ := h
  exact ⟨Q, (((h1.other h9 _ _).other h9 _ _).other h9 _ _).other h8 _ _, h2, h3⟩
/-- What the law keeps: the errors' array and the pieces' array. -/
structure PvT (W0 W : World) (g8 g9 : Nat) (es qs : Array Value) : Prop where
  low : Below W0.heap.size W0 W
  b8 : Blk W g8 53 es
  b9 : Blk W g9 54 qs
theorem PvT.below {W0 W W' : World} {g8 g9 : Nat} {es qs : Array Value} (h : PvT W0 W g8 g9 es qs) (hb : Below W.heap.size W W') : PvT W0 W' g8 g9 es qs := ⟨bt h.low hb, h.b8.below hb, h.b9.below hb⟩
theorem PvT.put4 {W0 W : World} {g8 g9 : Nat} {es qs : Array Value} (h : PvT W0 W g8 g9 es qs) (l8 : W0.heap.size ≤ g8) (l9 : W0.heap.size ≤ g9) (hne : g8 ≠ g9) (k : Nat) (v0 v1 v2 e : Value) :
    PvT W0 (put4 W g8 g9 k v0 v1 v2 e) g8 g9 (es.setIfInBounds k e) (((qs.setIfInBounds (k * 3) v0).setIfInBounds (k * 3 + 1) v1).setIfInBounds (k * 3 + 2) v2) := by
  have a1 := h.b9.set_ (k * 3) v0
  have a2 := a1.set_ (k * 3 + 1) v1
  have a3 := a2.set_ (k * 3 + 2) v2
  have c3 := ((h.b8.setOther hne (k * 3) v0).setOther hne (k * 3 + 1) v1).setOther hne (k * 3 + 2) v2
  exact ⟨(((h.low.setCell (p := ⟨g9, k * 3, none⟩) l9 _).setCell (p := ⟨g9, k * 3 + 1, none⟩) l9 _).setCell (p := ⟨g9, k * 3 + 2, none⟩) l9 _).setCell (p := ⟨g8, k, none⟩) l8 _, c3.set_ k e, a3.setOther (fun e => hne e.symm) _ _⟩
/-- What a call gives, when its error is none: a valid piece. -/
theorem pvg_res {C : List Cr} {S : List Int} {R : List EvP} {W : World} {er : Int} {b : Nat} {B : Option Addr} {n d : Nat} {B' : Option Addr} {m d' : Nat} {B2 : Option Addr} {q d2 : Nat} {b0 : Nat} (h : PcOw W b B n d B' m d' B2 q d2 (oC er C) (oC er S) (oC er R)) (hb : b0 ≤ b) (he : er = 0) (hv : pcErr C S R = 0) (hL : ∀ y ∈ R, y.L.length ≤ 1000000) : PvG C S W b0 ⟨B, n, d, B', m, d', B2, q, d2⟩ := by
  subst he
  exact ⟨R, h.more hb, hv, hL⟩
theorem pvC_at : ∀ (X : List Pv) (k : Nat) (x : Pv), X[k]? = some x → (X.flatMap pvC)[k * 3]? = some (.slice x.A x.n x.c) ∧ (X.flatMap pvC)[k * 3 + 1]? = some (.slice x.A' x.m x.c') ∧ (X.flatMap pvC)[k * 3 + 2]? = some (.slice x.A2 x.q x.cq)
  | [], k, x, h => by simp at h
  | y :: X, 0, x, h => by
    obtain rfl : y = x := by simpa using h
    exact ⟨rfl, rfl, rfl⟩
  | y :: X, k + 1, x, h => by
    have := pvC_at X k x (by simpa using h)
    rw [show (k + 1) * 3 = k * 3 + 3 by omega, show k * 3 + 3 + 1 = (k * 3 + 1) + 3 by omega, show k * 3 + 3 + 2 = (k * 3 + 2) + 3 by omega]
    simpa [pvC] using this
abbrev e8O : Obj := .cells #[.int .i64 0, .int .i64 0, .int .i64 0, .int .i64 0, .int .i64 0, .int .i64 0] 53
abbrev q9O : Obj := .cells #[.slice none 0 0, .slice none 0 0, .slice none 0 0, .slice none 0 0, .slice none 0 0, .slice none 0 0, .slice none 0 0, .slice none 0 0, .slice none 0 0, .slice none 0 0, .slice none 0 0, .slice none 0 0, .slice none 0 0, .slice none 0 0, .slice none 0 0, .slice none 0 0, .slice none 0 0, .slice none 0 0] 54
theorem pv_start {W0 W : World} (h : Below W0.heap.size W0 W) : PvT W0 ((W.alloc e8O).alloc q9O) W.heap.size (W.heap.size + 1) #[.int .i64 0, .int .i64 0, .int .i64 0, .int .i64 0, .int .i64 0, .int .i64 0] #[.slice none 0 0, .slice none 0 0, .slice none 0 0, .slice none 0 0, .slice none 0 0, .slice none 0 0, .slice none 0 0, .slice none 0 0, .slice none 0 0, .slice none 0 0, .slice none 0 0, .slice none 0 0, .slice none 0 0, .slice none 0 0, .slice none 0 0, .slice none 0 0, .slice none 0 0, .slice none 0 0] := by
  refine ⟨bt h (bt (ba _ _) (ba _ _)), Blk.below (heap_alloc_new W _) (ba _ _), ?_⟩
  have := heap_alloc_new (W.alloc e8O) q9O
  rwa [World.size_alloc] at this
theorem jnRes_L {P : List EvP} {C : List Cr} {S : List Int} (h0 : pcErr C S P = 0) {N : Nat} (h : ∀ y ∈ P, y.L.length ≤ N) : ∀ y ∈ jnRes P, y.L.length ≤ N := by
  unfold jnRes
  have hI := join_own h0
  refine mvL_Lc h P.length _ (fun y hy => ?_)
  obtain ⟨j, hj, rfl⟩ := List.getElem_of_mem hy
  rw [(hI.ev j _ (List.getElem?_eq_getElem hj)).1]
  exact Nat.zero_le _

set_option maxRecDepth 100000 in
set_option maxHeartbeats 16000000 in
theorem law_pval (A : Option Addr) (n c : Nat) (A' : Option Addr) (m c' : Nat) (A2 : Option Addr) (q cq : Nat) (C : List Cr) (S : List Int) (P : List EvP) (fr tz : Int) (w : World) (hT : SgT w) (hP : PcIn w A n c A' m c' A2 q cq C S P) :
    Calls Tryd.prog 6 #[pcV A n c A' m c' A2 q cq, .int .i64 fr, .int .i64 tz] w fun e w' => e = .returned (.bool true) ∧ Below w.heap.size w w' := by
  have HE : Hid (∀ w', Below (w.alloc (pcO A n c A' m c' A2 q cq)).heap.size (w.alloc (pcO A n c A' m c' A2 q cq)) w' → SgT w' ∧ PcIn w' A n c A' m c' A2 q cq C S P) :=
    fun w' h => ⟨(hT.below (ba _ _)).below h, (hP.below (ba _ _)).below h⟩
  have hql := hP.es.hq
  have hnl := hP.hn
  have hml := hP.hm
  have HI := Lib.hid (HE.out _ (Below.refl _ _)).2
  clear hT hP
  cases hbg : plongB n m P with
  | true =>
    have HB := Lib.hid hbg
    clear hbg hql hnl hml
    go_enter Tryd.func6, Tryd.ntmps6
    go_wp2_with (first | (go_at_call 20; refine (plong_any A n c A' m c' A2 q cq P _ HI.out.es).mono ?_; rintro e w1 ⟨rfl, hb1⟩; rw [HB.out]; have T := hb1; clear hb1; obtain ⟨x0, x1, x2⟩ := cell3 T) | (go_at_call 9; refine (works2 _ (HE.out _ T).1).mono ?_; rintro e wz ⟨rfl, hbz⟩))
    go_ret
    exact ⟨rfl, bx (bt T hbz)⟩
  | false =>
    have HB := Lib.hid hbg
    obtain ⟨l1, l2, l3, l4⟩ := pbigB_no (plongB_no hbg).1
    have b1 : n ≤ 65536 := by omega
    have b2 : m ≤ 65536 := by omega
    have b3 : q ≤ 65536 := by omega
    have HST : Hid (∀ y ∈ P, y.L.length ≤ 65536) := fun y hy => Nat.le_trans (l4 y hy) (by omega)
    have HSU : Hid (∀ y ∈ P, y.L.length ≤ 1000000) := fun y hy => Nat.le_trans (l4 y hy) (by omega)
    have CC := Lib.hid (fun w' (h : PcIn w' A n c A' m c' A2 q cq C S P) => pcopy_any A n c A' m c' A2 q cq C S P w' h b1 b2 b3 HST.out)
    obtain ⟨X, hX⟩ : ∃ X, pcErr C S P = X := ⟨_, rfl⟩
    have CK : Hid (∀ w', PcIn w' A n c A' m c' A2 q cq C S P → Calls Tryd.prog 23 #[pcV A n c A' m c' A2 q cq] w' fun e w2 => e = .returned (.int .i64 X) ∧ Below w'.heap.size w' w2) := fun w' h => by
      have := rpcheck_any A n c A' m c' A2 q cq C S P w' h (by omega) (by omega) (by omega) HSU.out
      rwa [hX] at this
    by_cases hX0 : X = 0
    rotate_left
    · have hxb : (X != 0) = true := bne_iff_ne.2 hX0
      clear hX0 hX hbg l1 l2 l3 l4 hql hnl hml
      go_enter Tryd.func6, Tryd.ntmps6
      go_wp2_with (first
        | (go_at_call 20; refine (plong_any A n c A' m c' A2 q cq P _ HI.out.es).mono ?_; rintro e w1 ⟨rfl, hb1⟩; rw [HB.out]; have T := hb1; clear hb1; obtain ⟨x0, x1, x2⟩ := cell3 T)
        | (go_at_call 23; refine (CK.out _ (HE.out _ T).2).mono ?_; rintro e wq ⟨rfl, hbq⟩; replace T := bt T hbq; clear hbq; clear x0 x1 x2; obtain ⟨x0, x1, x2⟩ := cell3 T)
        | (go_at_call 9; refine (works2 _ (HE.out _ T).1).mono ?_; rintro e wz ⟨rfl, hbz⟩))
      go_ret
      exact ⟨rfl, bx (bt T hbz)⟩
    subst hX0
    obtain ⟨E4, hE4⟩ : ∃ E4, brErr 0 fr P = E4 := ⟨_, rfl⟩
    obtain ⟨E5, hE5⟩ : ∃ E5, cutErr 0 fr tz q = E5 := ⟨_, rfl⟩
    have bareL : ∀ y ∈ P.map bareE, y.L.length ≤ 1000000 := fun y hy => by
      obtain ⟨x, hx, rfl⟩ := List.mem_map.1 hy
      show (x.L.map bareS).length ≤ 1000000
      rw [List.length_map]
      exact HSU.out x hx
    have K0 : Hid (∀ (B : Option Addr) (e : Nat) (B' : Option Addr) (e' : Nat) (B2 : Option Addr) (e2 : Nat) w' (_ : PcIn w' B n e B' m e' B2 q e2 C S P), Calls Tryd.prog 11 #[pcV B n e B' m e' B2 q e2] w' (PcRes 0 C S (setG P (frcL s0g P)) w')) := fun B e B' e' B2 e2 w' h => by
      refine (plain_any B n e B' m e' B2 q e2 C S P w' h (by omega) (by omega) b3 HSU.out).mono (fun e w2 hr => ?_)
      rw [hX] at hr
      exact hr.sub (fun _ => plain_out (sgr_of hX))
    have K1 : Hid (∀ (B : Option Addr) (e : Nat) (B' : Option Addr) (e' : Nat) (B2 : Option Addr) (e2 : Nat) w' (_ : PcIn w' B n e B' m e' B2 q e2 C S P), Calls Tryd.prog 14 #[pcV B n e B' m e' B2 q e2] w' (PcRes 0 C S (setG P (terG false s0g (frcL s0g P))) w')) := fun B e B' e' B2 e2 w' h => by
      refine (terse_any B n e B' m e' B2 q e2 C S P w' h (by omega) (by omega) b3 HSU.out).mono (fun e w2 hr => ?_)
      rw [hX] at hr
      exact hr.sub (fun _ => terse_out hX)
    have K2 : Hid (∀ (B : Option Addr) (e : Nat) (B' : Option Addr) (e' : Nat) (B2 : Option Addr) (e2 : Nat) w' (_ : PcIn w' B n e B' m e' B2 q e2 C S P), Calls Tryd.prog 16 #[pcV B n e B' m e' B2 q e2] w' (PcRes 0 C S (P.map bareE) w')) := fun B e B' e' B2 e2 w' h => by
      refine (bare_any B n e B' m e' B2 q e2 C S P w' h (by omega) (by omega) b3 HSU.out).mono (fun e w2 hr => ?_)
      rw [hX] at hr
      exact hr.sub (fun _ => bare_out P)
    have K3 : Hid (∀ (B : Option Addr) (e : Nat) (B' : Option Addr) (e' : Nat) (B2 : Option Addr) (e2 : Nat) w' (_ : PcIn w' B n e B' m e' B2 q e2 C S P) (_ : SgT w'), Calls Tryd.prog 18 #[pcV B n e B' m e' B2 q e2] w' (PcRes 0 C S (jnRes P) w')) := fun B e B' e' B2 e2 w' h hT' => by
      refine (pjoin_any B n e B' m e' B2 q e2 C S P w' h hT' (by omega) (by omega) b3 HSU.out).mono (fun e w2 hr => ?_)
      rw [hX] at hr
      exact hr
    have K4 : Hid (∀ (B : Option Addr) (e : Nat) (B' : Option Addr) (e' : Nat) (B2 : Option Addr) (e2 : Nat) w' (_ : PcIn w' B n e B' m e' B2 q e2 C S P) (_ : SgT w'), Calls Tryd.prog 21 #[pcV B n e B' m e' B2 q e2, .int .i64 fr] w' (PcRes E4 C S (brRes fr P) w')) := fun B e B' e' B2 e2 w' h hT' => by
      refine (break_any B n e B' m e' B2 q e2 C S P fr w' h hT' (by omega) (by omega) b3 HSU.out).mono (fun e w2 hr => ?_)
      rw [hX, hE4] at hr
      exact hr
    have hcut : E5 = 0 → ((rwO (cutSt fr tz) () (tpL P)).1.drop fr.toNat).take (tz.toNat - fr.toNat) = ctL fr.toNat tz.toNat (setG P (frcL s0g P)) P (tz.toNat - fr.toNat) ∧ tz.toNat ≤ P.length := fun h0 => by
      rw [h0] at hE5
      obtain ⟨_, x1, x2, x3⟩ := cutErr_ok hE5
      obtain ⟨f, rfl⟩ := Int.eq_ofNat_of_zero_le x1
      obtain ⟨t, rfl⟩ := Int.eq_ofNat_of_zero_le (show 0 ≤ tz by omega)
      exact ⟨cut_eq (sgr_of hX) (by omega) (by omega), by omega⟩
    have K5 : Hid (∀ (B : Option Addr) (e : Nat) (B' : Option Addr) (e' : Nat) (B2 : Option Addr) (e2 : Nat) w' (_ : PcIn w' B n e B' m e' B2 q e2 C S P), Calls Tryd.prog 27 #[pcV B n e B' m e' B2 q e2, .int .i64 fr, .int .i64 tz] w' (PcRes E5 C S (ctL fr.toNat tz.toNat (setG P (frcL s0g P)) P (tz.toNat - fr.toNat)) w')) := fun B e B' e' B2 e2 w' h => by
      refine (pcut_any B n e B' m e' B2 q e2 C S P fr tz w' h (by omega) (by omega) b3 HSU.out).mono (fun e w2 hr => ?_)
      rw [hX, hE5] at hr
      exact hr.sub (fun h0 => (hcut h0).1)
    have V0 : Hid (pcErr C S (setG P (frcL s0g P)) = 0 ∧ ∀ y ∈ setG P (frcL s0g P), y.L.length ≤ 1000000) := ⟨plain_valid hX, setG_Lb HSU.out⟩
    have V1 : Hid (pcErr C S (setG P (terG false s0g (frcL s0g P))) = 0 ∧ ∀ y ∈ setG P (terG false s0g (frcL s0g P)), y.L.length ≤ 1000000) := ⟨terse_valid hX, setG_Lb HSU.out⟩
    have V2 : Hid (pcErr C S (P.map bareE) = 0 ∧ ∀ y ∈ P.map bareE, y.L.length ≤ 1000000) := ⟨bare_valid hX, bareL⟩
    have V3 : Hid (pcErr C S (jnRes P) = 0 ∧ ∀ y ∈ jnRes P, y.L.length ≤ 1000000) := ⟨join_valid hX, jnRes_L hX HSU.out⟩
    have V4 : Hid (E4 = 0 → pcErr C S (brRes fr P) = 0 ∧ ∀ y ∈ brRes fr P, y.L.length ≤ 1000000) := fun h0 => ⟨break_valid hX (hE4.trans h0), brRes_L hX (hE4.trans h0) HSU.out⟩
    have V5 : Hid (E5 = 0 → pcErr C S (ctL fr.toNat tz.toNat (setG P (frcL s0g P)) P (tz.toNat - fr.toNat)) = 0 ∧ ∀ y ∈ ctL fr.toNat tz.toNat (setG P (frcL s0g P)) P (tz.toNat - fr.toNat), y.L.length ≤ 1000000) := fun h0 => ⟨cut_valid hX (hcut h0).2, ctL_L HSU.out⟩
    have HCK2 : Hid (∀ (x : Pv) w', PvG C S w' 0 x → Calls Tryd.prog 23 #[pcV x.A x.n x.c x.A' x.m x.c' x.A2 x.q x.cq] w' fun e w2 => e = .returned (.int .i64 0) ∧ Below w'.heap.size w' w2) := fun x w' h => by
      obtain ⟨Q, h1, h2, h3⟩ := h
      have e1 := h1.hn
      have e2 := h1.hm
      have e3 := h1.hq
      have e4 := (pcErr_ok h2).2.1
      have := rpcheck_any x.A x.n x.c x.A' x.m x.c' x.A2 x.q x.cq C S Q w' h1.pcIn (by omega) (by omega) (by omega) h3
      rwa [h2] at this
    have HSM : Hid (∀ (x : Pv) w', PvG C S w' 0 x → PcIn w' A n c A' m c' A2 q cq C S P → Calls Tryd.prog 28 #[.agg #[.slice x.A x.n x.c, .slice x.A' x.m x.c'], .agg #[.slice A n c, .slice A' m c']] w' fun e w2 => e = .returned (.bool true) ∧ Below w'.heap.size w' w2) := fun x w' h hp => by
      obtain ⟨Q, h1, h2, h3⟩ := h
      have e1 := h1.hn
      have e2 := h1.hm
      have := rsame_any x.A x.n x.c x.A' x.m x.c' A n c A' m c' C S C S w' h1.pcIn.crs h1.pcIn.stp hp.crs hp.stp e1 e2 hnl hml (by omega) (by omega) b1 b2
      rwa [sameB_refl] at this
    clear hcut bareL hE4 hE5 hbg l1 l2 l3 l4 hql hnl hml hX
    generalize setG P (frcL s0g P) = R0 at *
    generalize setG P (terG false s0g (frcL s0g P)) = R1 at *
    generalize P.map bareE = R2 at *
    generalize jnRes P = R3 at *
    generalize brRes fr P = R4 at *
    generalize ctL fr.toNat tz.toNat _ P (tz.toNat - fr.toNat) = R5 at *
    unfold PcRes at K0 K1 K2 K3 K4 K5
    go_enter Tryd.func6, Tryd.ntmps6
    go_wp2_with (first
      | (go_at_call 20; refine (plong_any A n c A' m c' A2 q cq P _ HI.out.es).mono ?_; rintro e w1 ⟨rfl, hb1⟩; rw [HB.out]; have T := hb1; clear hb1; obtain ⟨x0, x1, x2⟩ := cell3 T)
      | (go_at_call 23; refine (CK.out _ (HE.out _ T).2).mono ?_; rintro e wq ⟨rfl, hbq⟩; replace T := bt T hbq; clear hbq; clear x0 x1 x2; obtain ⟨x0, x1, x2⟩ := cell3 (bt T (bt (ba wq e8O) (ba _ q9O)))))
    have HS0 := Lib.hid (pv_start T)
    have hlz := T.size
    clear x0 x1 x2
    obtain ⟨x0, x1, x2⟩ := cell3 HS0.out.low
    go_wp2_with (fail)
    obtain ⟨Wn, hWn⟩ : ∃ x, (wq.alloc e8O).alloc q9O = x := ⟨_, rfl⟩
    obtain ⟨g8, hg8⟩ : ∃ g, wq.heap.size = g := ⟨_, rfl⟩
    rw [hg8] at hlz HS0 ⊢
    rw [hWn] at HS0 x0 x1 x2 ⊢
    have HS := HS0
    have l8 : (w.alloc (pcO A n c A' m c' A2 q cq)).heap.size ≤ g8 := hlz
    have l9 : (w.alloc (pcO A n c A' m c' A2 q cq)).heap.size ≤ g8 + 1 := by omega
    have lw : w.heap.size < g8 := by simp at l8; omega
    have nq0 : ¬ w.heap.size = g8 := by omega
    have nq1 : ¬ w.heap.size = g8 + 1 := by omega
    have nq2 : ¬ g8 = g8 + 1 := by omega
    have nq3 : ¬ g8 + 1 = g8 := by omega
    clear T hg8 hWn HS0
    -- call 0: Plain
    refine (CC.out _ (HE.out _ HS.out.low).2).mono ?_
    rintro e wc ⟨Bc, dc, Bc', dc', Bc2, dc2, rfl, hPc, hbc⟩
    have T := bt HS.out.low hbc
    have HPc := Lib.hid hPc
    clear x0 x1 x2 hPc
    obtain ⟨x0, x1, x2⟩ := cell3 T
    go_wp2_with (fail)
    refine (K0.out _ _ _ _ _ _ _ HPc.out).mono ?_
    rintro e wp ⟨Y0, n0, d0, Y0', m0, d0', Z0, q0, f0, rfl, hO, hl⟩
    have hs1 := HS.out.below (bt hbc hl)
    have hz8 := (HS.out.b9.below hbc).lt
    have HSP := Lib.hid (hs1.put4 l8 l9 nq2 0 (.slice Y0 n0 d0) (.slice Y0' m0 d0') (.slice Z0 q0 f0) (.int .i64 0))
    have HG0' : Hid (PvG C S wp (g8 + 2) ⟨Y0, n0, d0, Y0', m0, d0', Z0, q0, f0⟩) := pvg_res hO (by omega) rfl V0.out.1 V0.out.2
    have hbl := bt hbc hl
    clear x0 x1 x2
    obtain ⟨x0, x1, x2⟩ := cell3 hs1.low
    have a0 := hs1.b9.cell 0
    have a1 := hs1.b9.cell 1
    have a2 := hs1.b9.cell 2
    have a3 := hs1.b8.cell 0
    simp at a0 a1 a2 a3
    have af0 := hs1.b9.frozen 0
    have af1 := hs1.b9.frozen 1
    have af2 := hs1.b9.frozen 2
    have af3 := hs1.b8.frozen 0
    have al9 := hs1.b9.lt
    have al8 := hs1.b8.lt
    have hlw : w.heap.size < wp.heap.size := by omega
    clear T hO hl hbl hs1 hz8 hbc
    go_wp2_with (fail)
    obtain ⟨Wx, hW⟩ : ∃ x, ((((wp.setCell ⟨g8 + 1, 0, none⟩ (.slice Y0 n0 d0)).setCell ⟨g8 + 1, 1, none⟩ (.slice Y0' m0 d0')).setCell ⟨g8 + 1, 2, none⟩ (.slice Z0 q0 f0)).setCell ⟨g8, 0, none⟩ (.int .i64 0)) = x := ⟨_, rfl⟩
    rw [hW]
    have HSN : Hid (PvT (w.alloc (pcO A n c A' m c' A2 q cq)) Wx g8 (g8 + 1) #[.int .i64 0, .int .i64 0, .int .i64 0, .int .i64 0, .int .i64 0, .int .i64 0] #[.slice Y0 n0 d0, .slice Y0' m0 d0', .slice Z0 q0 f0, .slice none 0 0, .slice none 0 0, .slice none 0 0, .slice none 0 0, .slice none 0 0, .slice none 0 0, .slice none 0 0, .slice none 0 0, .slice none 0 0, .slice none 0 0, .slice none 0 0, .slice none 0 0, .slice none 0 0, .slice none 0 0, .slice none 0 0]) := by
      unfold Hid
      rw [← hW]
      exact HSP.out
    have HGn : Hid (PvG C S Wx (g8 + 2) ⟨Y0, n0, d0, Y0', m0, d0', Z0, q0, f0⟩) := by
      unfold Hid
      rw [← hW]
      exact HG0'.out.put4 (by omega) (by omega) 0 (.slice Y0 n0 d0) (.slice Y0' m0 d0') (.slice Z0 q0 f0) (.int .i64 0)
    clear HG0'
    have HG0 := HGn
    clear HGn
    clear HS HSP hW a0 a1 a2 a3 af0 af1 af2 af3 al8 al9 x0 x1 x2 HPc
    have HS := HSN
    clear HSN
    obtain ⟨x0, x1, x2⟩ := cell3 HS.out.low
    go_wp2_with (fail)
    -- call 1: Terse
    refine (CC.out _ (HE.out _ HS.out.low).2).mono ?_
    rintro e wc ⟨Bc, dc, Bc', dc', Bc2, dc2, rfl, hPc, hbc⟩
    have T := bt HS.out.low hbc
    have HPc := Lib.hid hPc
    clear x0 x1 x2 hPc
    obtain ⟨x0, x1, x2⟩ := cell3 T
    go_wp2_with (fail)
    refine (K1.out _ _ _ _ _ _ _ HPc.out).mono ?_
    rintro e wp ⟨Y1, n1, d1, Y1', m1, d1', Z1, q1, f1, rfl, hO, hl⟩
    have hs1 := HS.out.below (bt hbc hl)
    have hz8 := (HS.out.b9.below hbc).lt
    have HSP := Lib.hid (hs1.put4 l8 l9 nq2 1 (.slice Y1 n1 d1) (.slice Y1' m1 d1') (.slice Z1 q1 f1) (.int .i64 0))
    have HG1' : Hid (PvG C S wp (g8 + 2) ⟨Y1, n1, d1, Y1', m1, d1', Z1, q1, f1⟩) := pvg_res hO (by omega) rfl V1.out.1 V1.out.2
    have hbl := bt hbc hl
    have HG0' : Hid (PvG C S wp (g8 + 2) ⟨Y0, n0, d0, Y0', m0, d0', Z0, q0, f0⟩) := HG0.out.below hbl
    clear x0 x1 x2
    obtain ⟨x0, x1, x2⟩ := cell3 hs1.low
    have a0 := hs1.b9.cell 3
    have a1 := hs1.b9.cell 4
    have a2 := hs1.b9.cell 5
    have a3 := hs1.b8.cell 1
    simp at a0 a1 a2 a3
    have af0 := hs1.b9.frozen 3
    have af1 := hs1.b9.frozen 4
    have af2 := hs1.b9.frozen 5
    have af3 := hs1.b8.frozen 1
    have al9 := hs1.b9.lt
    have al8 := hs1.b8.lt
    have hlw : w.heap.size < wp.heap.size := by omega
    clear T hO hl hbl hs1 hz8 hbc
    go_wp2_with (fail)
    obtain ⟨Wx, hW⟩ : ∃ x, ((((wp.setCell ⟨g8 + 1, 3, none⟩ (.slice Y1 n1 d1)).setCell ⟨g8 + 1, 4, none⟩ (.slice Y1' m1 d1')).setCell ⟨g8 + 1, 5, none⟩ (.slice Z1 q1 f1)).setCell ⟨g8, 1, none⟩ (.int .i64 0)) = x := ⟨_, rfl⟩
    rw [hW]
    have HSN : Hid (PvT (w.alloc (pcO A n c A' m c' A2 q cq)) Wx g8 (g8 + 1) #[.int .i64 0, .int .i64 0, .int .i64 0, .int .i64 0, .int .i64 0, .int .i64 0] #[.slice Y0 n0 d0, .slice Y0' m0 d0', .slice Z0 q0 f0, .slice Y1 n1 d1, .slice Y1' m1 d1', .slice Z1 q1 f1, .slice none 0 0, .slice none 0 0, .slice none 0 0, .slice none 0 0, .slice none 0 0, .slice none 0 0, .slice none 0 0, .slice none 0 0, .slice none 0 0, .slice none 0 0, .slice none 0 0, .slice none 0 0]) := by
      unfold Hid
      rw [← hW]
      exact HSP.out
    have HGn : Hid (PvG C S Wx (g8 + 2) ⟨Y0, n0, d0, Y0', m0, d0', Z0, q0, f0⟩) := by
      unfold Hid
      rw [← hW]
      exact HG0'.out.put4 (by omega) (by omega) 1 (.slice Y1 n1 d1) (.slice Y1' m1 d1') (.slice Z1 q1 f1) (.int .i64 0)
    clear HG0' HG0
    have HG0 := HGn
    clear HGn
    have HGn : Hid (PvG C S Wx (g8 + 2) ⟨Y1, n1, d1, Y1', m1, d1', Z1, q1, f1⟩) := by
      unfold Hid
      rw [← hW]
      exact HG1'.out.put4 (by omega) (by omega) 1 (.slice Y1 n1 d1) (.slice Y1' m1 d1') (.slice Z1 q1 f1) (.int .i64 0)
    clear HG1'
    have HG1 := HGn
    clear HGn
    clear HS HSP hW a0 a1 a2 a3 af0 af1 af2 af3 al8 al9 x0 x1 x2 HPc
    have HS := HSN
    clear HSN
    obtain ⟨x0, x1, x2⟩ := cell3 HS.out.low
    go_wp2_with (fail)
    -- call 2: Bare
    refine (CC.out _ (HE.out _ HS.out.low).2).mono ?_
    rintro e wc ⟨Bc, dc, Bc', dc', Bc2, dc2, rfl, hPc, hbc⟩
    have T := bt HS.out.low hbc
    have HPc := Lib.hid hPc
    clear x0 x1 x2 hPc
    obtain ⟨x0, x1, x2⟩ := cell3 T
    go_wp2_with (fail)
    refine (K2.out _ _ _ _ _ _ _ HPc.out).mono ?_
    rintro e wp ⟨Y2, n2, d2, Y2', m2, d2', Z2, q2, f2, rfl, hO, hl⟩
    have hs1 := HS.out.below (bt hbc hl)
    have hz8 := (HS.out.b9.below hbc).lt
    have HSP := Lib.hid (hs1.put4 l8 l9 nq2 2 (.slice Y2 n2 d2) (.slice Y2' m2 d2') (.slice Z2 q2 f2) (.int .i64 0))
    have HG2' : Hid (PvG C S wp (g8 + 2) ⟨Y2, n2, d2, Y2', m2, d2', Z2, q2, f2⟩) := pvg_res hO (by omega) rfl V2.out.1 V2.out.2
    have hbl := bt hbc hl
    have HG0' : Hid (PvG C S wp (g8 + 2) ⟨Y0, n0, d0, Y0', m0, d0', Z0, q0, f0⟩) := HG0.out.below hbl
    have HG1' : Hid (PvG C S wp (g8 + 2) ⟨Y1, n1, d1, Y1', m1, d1', Z1, q1, f1⟩) := HG1.out.below hbl
    clear x0 x1 x2
    obtain ⟨x0, x1, x2⟩ := cell3 hs1.low
    have a0 := hs1.b9.cell 6
    have a1 := hs1.b9.cell 7
    have a2 := hs1.b9.cell 8
    have a3 := hs1.b8.cell 2
    simp at a0 a1 a2 a3
    have af0 := hs1.b9.frozen 6
    have af1 := hs1.b9.frozen 7
    have af2 := hs1.b9.frozen 8
    have af3 := hs1.b8.frozen 2
    have al9 := hs1.b9.lt
    have al8 := hs1.b8.lt
    have hlw : w.heap.size < wp.heap.size := by omega
    clear T hO hl hbl hs1 hz8 hbc
    go_wp2_with (fail)
    obtain ⟨Wx, hW⟩ : ∃ x, ((((wp.setCell ⟨g8 + 1, 6, none⟩ (.slice Y2 n2 d2)).setCell ⟨g8 + 1, 7, none⟩ (.slice Y2' m2 d2')).setCell ⟨g8 + 1, 8, none⟩ (.slice Z2 q2 f2)).setCell ⟨g8, 2, none⟩ (.int .i64 0)) = x := ⟨_, rfl⟩
    rw [hW]
    have HSN : Hid (PvT (w.alloc (pcO A n c A' m c' A2 q cq)) Wx g8 (g8 + 1) #[.int .i64 0, .int .i64 0, .int .i64 0, .int .i64 0, .int .i64 0, .int .i64 0] #[.slice Y0 n0 d0, .slice Y0' m0 d0', .slice Z0 q0 f0, .slice Y1 n1 d1, .slice Y1' m1 d1', .slice Z1 q1 f1, .slice Y2 n2 d2, .slice Y2' m2 d2', .slice Z2 q2 f2, .slice none 0 0, .slice none 0 0, .slice none 0 0, .slice none 0 0, .slice none 0 0, .slice none 0 0, .slice none 0 0, .slice none 0 0, .slice none 0 0]) := by
      unfold Hid
      rw [← hW]
      exact HSP.out
    have HGn : Hid (PvG C S Wx (g8 + 2) ⟨Y0, n0, d0, Y0', m0, d0', Z0, q0, f0⟩) := by
      unfold Hid
      rw [← hW]
      exact HG0'.out.put4 (by omega) (by omega) 2 (.slice Y2 n2 d2) (.slice Y2' m2 d2') (.slice Z2 q2 f2) (.int .i64 0)
    clear HG0' HG0
    have HG0 := HGn
    clear HGn
    have HGn : Hid (PvG C S Wx (g8 + 2) ⟨Y1, n1, d1, Y1', m1, d1', Z1, q1, f1⟩) := by
      unfold Hid
      rw [← hW]
      exact HG1'.out.put4 (by omega) (by omega) 2 (.slice Y2 n2 d2) (.slice Y2' m2 d2') (.slice Z2 q2 f2) (.int .i64 0)
    clear HG1' HG1
    have HG1 := HGn
    clear HGn
    have HGn : Hid (PvG C S Wx (g8 + 2) ⟨Y2, n2, d2, Y2', m2, d2', Z2, q2, f2⟩) := by
      unfold Hid
      rw [← hW]
      exact HG2'.out.put4 (by omega) (by omega) 2 (.slice Y2 n2 d2) (.slice Y2' m2 d2') (.slice Z2 q2 f2) (.int .i64 0)
    clear HG2'
    have HG2 := HGn
    clear HGn
    clear HS HSP hW a0 a1 a2 a3 af0 af1 af2 af3 al8 al9 x0 x1 x2 HPc
    have HS := HSN
    clear HSN
    obtain ⟨x0, x1, x2⟩ := cell3 HS.out.low
    go_wp2_with (fail)
    -- call 3: Join
    refine (CC.out _ (HE.out _ HS.out.low).2).mono ?_
    rintro e wc ⟨Bc, dc, Bc', dc', Bc2, dc2, rfl, hPc, hbc⟩
    have T := bt HS.out.low hbc
    have HPc := Lib.hid hPc
    clear x0 x1 x2 hPc
    obtain ⟨x0, x1, x2⟩ := cell3 T
    go_wp2_with (fail)
    refine (K3.out _ _ _ _ _ _ _ HPc.out (HE.out _ T).1).mono ?_
    rintro e wp ⟨Y3, n3, d3, Y3', m3, d3', Z3, q3, f3, rfl, hO, hl⟩
    have hs1 := HS.out.below (bt hbc hl)
    have hz8 := (HS.out.b9.below hbc).lt
    have HSP := Lib.hid (hs1.put4 l8 l9 nq2 3 (.slice Y3 n3 d3) (.slice Y3' m3 d3') (.slice Z3 q3 f3) (.int .i64 0))
    have HG3' : Hid (PvG C S wp (g8 + 2) ⟨Y3, n3, d3, Y3', m3, d3', Z3, q3, f3⟩) := pvg_res hO (by omega) rfl V3.out.1 V3.out.2
    have hbl := bt hbc hl
    have HG0' : Hid (PvG C S wp (g8 + 2) ⟨Y0, n0, d0, Y0', m0, d0', Z0, q0, f0⟩) := HG0.out.below hbl
    have HG1' : Hid (PvG C S wp (g8 + 2) ⟨Y1, n1, d1, Y1', m1, d1', Z1, q1, f1⟩) := HG1.out.below hbl
    have HG2' : Hid (PvG C S wp (g8 + 2) ⟨Y2, n2, d2, Y2', m2, d2', Z2, q2, f2⟩) := HG2.out.below hbl
    clear x0 x1 x2
    obtain ⟨x0, x1, x2⟩ := cell3 hs1.low
    have a0 := hs1.b9.cell 9
    have a1 := hs1.b9.cell 10
    have a2 := hs1.b9.cell 11
    have a3 := hs1.b8.cell 3
    simp at a0 a1 a2 a3
    have af0 := hs1.b9.frozen 9
    have af1 := hs1.b9.frozen 10
    have af2 := hs1.b9.frozen 11
    have af3 := hs1.b8.frozen 3
    have al9 := hs1.b9.lt
    have al8 := hs1.b8.lt
    have hlw : w.heap.size < wp.heap.size := by omega
    clear T hO hl hbl hs1 hz8 hbc
    go_wp2_with (fail)
    obtain ⟨Wx, hW⟩ : ∃ x, ((((wp.setCell ⟨g8 + 1, 9, none⟩ (.slice Y3 n3 d3)).setCell ⟨g8 + 1, 10, none⟩ (.slice Y3' m3 d3')).setCell ⟨g8 + 1, 11, none⟩ (.slice Z3 q3 f3)).setCell ⟨g8, 3, none⟩ (.int .i64 0)) = x := ⟨_, rfl⟩
    rw [hW]
    have HSN : Hid (PvT (w.alloc (pcO A n c A' m c' A2 q cq)) Wx g8 (g8 + 1) #[.int .i64 0, .int .i64 0, .int .i64 0, .int .i64 0, .int .i64 0, .int .i64 0] #[.slice Y0 n0 d0, .slice Y0' m0 d0', .slice Z0 q0 f0, .slice Y1 n1 d1, .slice Y1' m1 d1', .slice Z1 q1 f1, .slice Y2 n2 d2, .slice Y2' m2 d2', .slice Z2 q2 f2, .slice Y3 n3 d3, .slice Y3' m3 d3', .slice Z3 q3 f3, .slice none 0 0, .slice none 0 0, .slice none 0 0, .slice none 0 0, .slice none 0 0, .slice none 0 0]) := by
      unfold Hid
      rw [← hW]
      exact HSP.out
    have HGn : Hid (PvG C S Wx (g8 + 2) ⟨Y0, n0, d0, Y0', m0, d0', Z0, q0, f0⟩) := by
      unfold Hid
      rw [← hW]
      exact HG0'.out.put4 (by omega) (by omega) 3 (.slice Y3 n3 d3) (.slice Y3' m3 d3') (.slice Z3 q3 f3) (.int .i64 0)
    clear HG0' HG0
    have HG0 := HGn
    clear HGn
    have HGn : Hid (PvG C S Wx (g8 + 2) ⟨Y1, n1, d1, Y1', m1, d1', Z1, q1, f1⟩) := by
      unfold Hid
      rw [← hW]
      exact HG1'.out.put4 (by omega) (by omega) 3 (.slice Y3 n3 d3) (.slice Y3' m3 d3') (.slice Z3 q3 f3) (.int .i64 0)
    clear HG1' HG1
    have HG1 := HGn
    clear HGn
    have HGn : Hid (PvG C S Wx (g8 + 2) ⟨Y2, n2, d2, Y2', m2, d2', Z2, q2, f2⟩) := by
      unfold Hid
      rw [← hW]
      exact HG2'.out.put4 (by omega) (by omega) 3 (.slice Y3 n3 d3) (.slice Y3' m3 d3') (.slice Z3 q3 f3) (.int .i64 0)
    clear HG2' HG2
    have HG2 := HGn
    clear HGn
    have HGn : Hid (PvG C S Wx (g8 + 2) ⟨Y3, n3, d3, Y3', m3, d3', Z3, q3, f3⟩) := by
      unfold Hid
      rw [← hW]
      exact HG3'.out.put4 (by omega) (by omega) 3 (.slice Y3 n3 d3) (.slice Y3' m3 d3') (.slice Z3 q3 f3) (.int .i64 0)
    clear HG3'
    have HG3 := HGn
    clear HGn
    clear HS HSP hW a0 a1 a2 a3 af0 af1 af2 af3 al8 al9 x0 x1 x2 HPc
    have HS := HSN
    clear HSN
    obtain ⟨x0, x1, x2⟩ := cell3 HS.out.low
    go_wp2_with (fail)
    -- call 4: Break
    refine (CC.out _ (HE.out _ HS.out.low).2).mono ?_
    rintro e wc ⟨Bc, dc, Bc', dc', Bc2, dc2, rfl, hPc, hbc⟩
    have T := bt HS.out.low hbc
    have HPc := Lib.hid hPc
    clear x0 x1 x2 hPc
    obtain ⟨x0, x1, x2⟩ := cell3 T
    go_wp2_with (fail)
    refine (K4.out _ _ _ _ _ _ _ HPc.out (HE.out _ T).1).mono ?_
    rintro e wp ⟨Y4, n4, d4, Y4', m4, d4', Z4, q4, f4, rfl, hO, hl⟩
    have hs1 := HS.out.below (bt hbc hl)
    have hz8 := (HS.out.b9.below hbc).lt
    have HSP := Lib.hid (hs1.put4 l8 l9 nq2 4 (.slice Y4 n4 d4) (.slice Y4' m4 d4') (.slice Z4 q4 f4) (.int .i64 E4))
    have HG4' : Hid (E4 = (0 : Int) → PvG C S wp (g8 + 2) ⟨Y4, n4, d4, Y4', m4, d4', Z4, q4, f4⟩) := fun h0 => pvg_res hO (by omega) h0 (V4.out h0).1 (V4.out h0).2
    have hbl := bt hbc hl
    have HG0' : Hid (PvG C S wp (g8 + 2) ⟨Y0, n0, d0, Y0', m0, d0', Z0, q0, f0⟩) := HG0.out.below hbl
    have HG1' : Hid (PvG C S wp (g8 + 2) ⟨Y1, n1, d1, Y1', m1, d1', Z1, q1, f1⟩) := HG1.out.below hbl
    have HG2' : Hid (PvG C S wp (g8 + 2) ⟨Y2, n2, d2, Y2', m2, d2', Z2, q2, f2⟩) := HG2.out.below hbl
    have HG3' : Hid (PvG C S wp (g8 + 2) ⟨Y3, n3, d3, Y3', m3, d3', Z3, q3, f3⟩) := HG3.out.below hbl
    clear x0 x1 x2
    obtain ⟨x0, x1, x2⟩ := cell3 hs1.low
    have a0 := hs1.b9.cell 12
    have a1 := hs1.b9.cell 13
    have a2 := hs1.b9.cell 14
    have a3 := hs1.b8.cell 4
    simp at a0 a1 a2 a3
    have af0 := hs1.b9.frozen 12
    have af1 := hs1.b9.frozen 13
    have af2 := hs1.b9.frozen 14
    have af3 := hs1.b8.frozen 4
    have al9 := hs1.b9.lt
    have al8 := hs1.b8.lt
    have hlw : w.heap.size < wp.heap.size := by omega
    clear T hO hl hbl hs1 hz8 hbc
    go_wp2_with (fail)
    obtain ⟨Wx, hW⟩ : ∃ x, ((((wp.setCell ⟨g8 + 1, 12, none⟩ (.slice Y4 n4 d4)).setCell ⟨g8 + 1, 13, none⟩ (.slice Y4' m4 d4')).setCell ⟨g8 + 1, 14, none⟩ (.slice Z4 q4 f4)).setCell ⟨g8, 4, none⟩ (.int .i64 E4)) = x := ⟨_, rfl⟩
    rw [hW]
    have HSN : Hid (PvT (w.alloc (pcO A n c A' m c' A2 q cq)) Wx g8 (g8 + 1) #[.int .i64 0, .int .i64 0, .int .i64 0, .int .i64 0, .int .i64 E4, .int .i64 0] #[.slice Y0 n0 d0, .slice Y0' m0 d0', .slice Z0 q0 f0, .slice Y1 n1 d1, .slice Y1' m1 d1', .slice Z1 q1 f1, .slice Y2 n2 d2, .slice Y2' m2 d2', .slice Z2 q2 f2, .slice Y3 n3 d3, .slice Y3' m3 d3', .slice Z3 q3 f3, .slice Y4 n4 d4, .slice Y4' m4 d4', .slice Z4 q4 f4, .slice none 0 0, .slice none 0 0, .slice none 0 0]) := by
      unfold Hid
      rw [← hW]
      exact HSP.out
    have HGn : Hid (PvG C S Wx (g8 + 2) ⟨Y0, n0, d0, Y0', m0, d0', Z0, q0, f0⟩) := by
      unfold Hid
      rw [← hW]
      exact HG0'.out.put4 (by omega) (by omega) 4 (.slice Y4 n4 d4) (.slice Y4' m4 d4') (.slice Z4 q4 f4) (.int .i64 E4)
    clear HG0' HG0
    have HG0 := HGn
    clear HGn
    have HGn : Hid (PvG C S Wx (g8 + 2) ⟨Y1, n1, d1, Y1', m1, d1', Z1, q1, f1⟩) := by
      unfold Hid
      rw [← hW]
      exact HG1'.out.put4 (by omega) (by omega) 4 (.slice Y4 n4 d4) (.slice Y4' m4 d4') (.slice Z4 q4 f4) (.int .i64 E4)
    clear HG1' HG1
    have HG1 := HGn
    clear HGn
    have HGn : Hid (PvG C S Wx (g8 + 2) ⟨Y2, n2, d2, Y2', m2, d2', Z2, q2, f2⟩) := by
      unfold Hid
      rw [← hW]
      exact HG2'.out.put4 (by omega) (by omega) 4 (.slice Y4 n4 d4) (.slice Y4' m4 d4') (.slice Z4 q4 f4) (.int .i64 E4)
    clear HG2' HG2
    have HG2 := HGn
    clear HGn
    have HGn : Hid (PvG C S Wx (g8 + 2) ⟨Y3, n3, d3, Y3', m3, d3', Z3, q3, f3⟩) := by
      unfold Hid
      rw [← hW]
      exact HG3'.out.put4 (by omega) (by omega) 4 (.slice Y4 n4 d4) (.slice Y4' m4 d4') (.slice Z4 q4 f4) (.int .i64 E4)
    clear HG3' HG3
    have HG3 := HGn
    clear HGn
    have HGn : Hid (E4 = (0 : Int) → PvG C S Wx (g8 + 2) ⟨Y4, n4, d4, Y4', m4, d4', Z4, q4, f4⟩) := fun h0 => by
      rw [← hW]
      exact (HG4'.out h0).put4 (by omega) (by omega) 4 (.slice Y4 n4 d4) (.slice Y4' m4 d4') (.slice Z4 q4 f4) (.int .i64 E4)
    clear HG4'
    have HG4 := HGn
    clear HGn
    clear HS HSP hW a0 a1 a2 a3 af0 af1 af2 af3 al8 al9 x0 x1 x2 HPc
    have HS := HSN
    clear HSN
    obtain ⟨x0, x1, x2⟩ := cell3 HS.out.low
    go_wp2_with (fail)
    -- call 5: Cut
    refine (CC.out _ (HE.out _ HS.out.low).2).mono ?_
    rintro e wc ⟨Bc, dc, Bc', dc', Bc2, dc2, rfl, hPc, hbc⟩
    have T := bt HS.out.low hbc
    have HPc := Lib.hid hPc
    clear x0 x1 x2 hPc
    obtain ⟨x0, x1, x2⟩ := cell3 T
    go_wp2_with (fail)
    refine (K5.out _ _ _ _ _ _ _ HPc.out).mono ?_
    rintro e wp ⟨Y5, n5, d5, Y5', m5, d5', Z5, q5, f5, rfl, hO, hl⟩
    have hs1 := HS.out.below (bt hbc hl)
    have hz8 := (HS.out.b9.below hbc).lt
    have HSP := Lib.hid (hs1.put4 l8 l9 nq2 5 (.slice Y5 n5 d5) (.slice Y5' m5 d5') (.slice Z5 q5 f5) (.int .i64 E5))
    have HG5' : Hid (E5 = (0 : Int) → PvG C S wp (g8 + 2) ⟨Y5, n5, d5, Y5', m5, d5', Z5, q5, f5⟩) := fun h0 => pvg_res hO (by omega) h0 (V5.out h0).1 (V5.out h0).2
    have hbl := bt hbc hl
    have HG0' : Hid (PvG C S wp (g8 + 2) ⟨Y0, n0, d0, Y0', m0, d0', Z0, q0, f0⟩) := HG0.out.below hbl
    have HG1' : Hid (PvG C S wp (g8 + 2) ⟨Y1, n1, d1, Y1', m1, d1', Z1, q1, f1⟩) := HG1.out.below hbl
    have HG2' : Hid (PvG C S wp (g8 + 2) ⟨Y2, n2, d2, Y2', m2, d2', Z2, q2, f2⟩) := HG2.out.below hbl
    have HG3' : Hid (PvG C S wp (g8 + 2) ⟨Y3, n3, d3, Y3', m3, d3', Z3, q3, f3⟩) := HG3.out.below hbl
    have HG4' : Hid (E4 = (0 : Int) → PvG C S wp (g8 + 2) ⟨Y4, n4, d4, Y4', m4, d4', Z4, q4, f4⟩) := fun h0 => (HG4.out h0).below hbl
    clear x0 x1 x2
    obtain ⟨x0, x1, x2⟩ := cell3 hs1.low
    have a0 := hs1.b9.cell 15
    have a1 := hs1.b9.cell 16
    have a2 := hs1.b9.cell 17
    have a3 := hs1.b8.cell 5
    simp at a0 a1 a2 a3
    have af0 := hs1.b9.frozen 15
    have af1 := hs1.b9.frozen 16
    have af2 := hs1.b9.frozen 17
    have af3 := hs1.b8.frozen 5
    have al9 := hs1.b9.lt
    have al8 := hs1.b8.lt
    have hlw : w.heap.size < wp.heap.size := by omega
    clear T hO hl hbl hs1 hz8 hbc
    go_wp2_with (fail)
    obtain ⟨Wx, hW⟩ : ∃ x, ((((wp.setCell ⟨g8 + 1, 15, none⟩ (.slice Y5 n5 d5)).setCell ⟨g8 + 1, 16, none⟩ (.slice Y5' m5 d5')).setCell ⟨g8 + 1, 17, none⟩ (.slice Z5 q5 f5)).setCell ⟨g8, 5, none⟩ (.int .i64 E5)) = x := ⟨_, rfl⟩
    rw [hW]
    have HSN : Hid (PvT (w.alloc (pcO A n c A' m c' A2 q cq)) Wx g8 (g8 + 1) #[.int .i64 0, .int .i64 0, .int .i64 0, .int .i64 0, .int .i64 E4, .int .i64 E5] #[.slice Y0 n0 d0, .slice Y0' m0 d0', .slice Z0 q0 f0, .slice Y1 n1 d1, .slice Y1' m1 d1', .slice Z1 q1 f1, .slice Y2 n2 d2, .slice Y2' m2 d2', .slice Z2 q2 f2, .slice Y3 n3 d3, .slice Y3' m3 d3', .slice Z3 q3 f3, .slice Y4 n4 d4, .slice Y4' m4 d4', .slice Z4 q4 f4, .slice Y5 n5 d5, .slice Y5' m5 d5', .slice Z5 q5 f5]) := by
      unfold Hid
      rw [← hW]
      exact HSP.out
    have HGn : Hid (PvG C S Wx (g8 + 2) ⟨Y0, n0, d0, Y0', m0, d0', Z0, q0, f0⟩) := by
      unfold Hid
      rw [← hW]
      exact HG0'.out.put4 (by omega) (by omega) 5 (.slice Y5 n5 d5) (.slice Y5' m5 d5') (.slice Z5 q5 f5) (.int .i64 E5)
    clear HG0' HG0
    have HG0 := HGn
    clear HGn
    have HGn : Hid (PvG C S Wx (g8 + 2) ⟨Y1, n1, d1, Y1', m1, d1', Z1, q1, f1⟩) := by
      unfold Hid
      rw [← hW]
      exact HG1'.out.put4 (by omega) (by omega) 5 (.slice Y5 n5 d5) (.slice Y5' m5 d5') (.slice Z5 q5 f5) (.int .i64 E5)
    clear HG1' HG1
    have HG1 := HGn
    clear HGn
    have HGn : Hid (PvG C S Wx (g8 + 2) ⟨Y2, n2, d2, Y2', m2, d2', Z2, q2, f2⟩) := by
      unfold Hid
      rw [← hW]
      exact HG2'.out.put4 (by omega) (by omega) 5 (.slice Y5 n5 d5) (.slice Y5' m5 d5') (.slice Z5 q5 f5) (.int .i64 E5)
    clear HG2' HG2
    have HG2 := HGn
    clear HGn
    have HGn : Hid (PvG C S Wx (g8 + 2) ⟨Y3, n3, d3, Y3', m3, d3', Z3, q3, f3⟩) := by
      unfold Hid
      rw [← hW]
      exact HG3'.out.put4 (by omega) (by omega) 5 (.slice Y5 n5 d5) (.slice Y5' m5 d5') (.slice Z5 q5 f5) (.int .i64 E5)
    clear HG3' HG3
    have HG3 := HGn
    clear HGn
    have HGn : Hid (E4 = (0 : Int) → PvG C S Wx (g8 + 2) ⟨Y4, n4, d4, Y4', m4, d4', Z4, q4, f4⟩) := fun h0 => by
      rw [← hW]
      exact (HG4'.out h0).put4 (by omega) (by omega) 5 (.slice Y5 n5 d5) (.slice Y5' m5 d5') (.slice Z5 q5 f5) (.int .i64 E5)
    clear HG4' HG4
    have HG4 := HGn
    clear HGn
    have HGn : Hid (E5 = (0 : Int) → PvG C S Wx (g8 + 2) ⟨Y5, n5, d5, Y5', m5, d5', Z5, q5, f5⟩) := fun h0 => by
      rw [← hW]
      exact (HG5'.out h0).put4 (by omega) (by omega) 5 (.slice Y5 n5 d5) (.slice Y5' m5 d5') (.slice Z5 q5 f5) (.int .i64 E5)
    clear HG5'
    have HG5 := HGn
    clear HGn
    clear HS HSP hW a0 a1 a2 a3 af0 af1 af2 af3 al8 al9 x0 x1 x2 HPc
    have HS := HSN
    clear HSN
    obtain ⟨x0, x1, x2⟩ := cell3 HS.out.low
    go_wp2_with (fail)
    have HX : Hid (∀ k, k < 6 → ∃ (x : Pv) (ek : Int), Wx.cell? ⟨g8, k, none⟩ = some (.int .i64 ek) ∧ (Wx.cell? ⟨g8 + 1, k * 3, none⟩ = some (.slice x.A x.n x.c) ∧ Wx.cell? ⟨g8 + 1, k * 3 + 1, none⟩ = some (.slice x.A' x.m x.c') ∧ Wx.cell? ⟨g8 + 1, k * 3 + 2, none⟩ = some (.slice x.A2 x.q x.cq)) ∧ (k < 4 → ek = 0) ∧ (ek = 0 → PvG C S Wx (g8 + 2) x)) := by
      intro k hk
      have hc : k = 0 ∨ k = 1 ∨ k = 2 ∨ k = 3 ∨ k = 4 ∨ k = 5 := by omega
      rcases hc with rfl | rfl | rfl | rfl | rfl | rfl
      · exact ⟨⟨Y0, n0, d0, Y0', m0, d0', Z0, q0, f0⟩, 0, (HS.out.b8.cell 0).trans rfl, ⟨(HS.out.b9.cell 0).trans rfl, (HS.out.b9.cell 1).trans rfl, (HS.out.b9.cell 2).trans rfl⟩, fun _ => rfl, fun _ => HG0.out⟩
      · exact ⟨⟨Y1, n1, d1, Y1', m1, d1', Z1, q1, f1⟩, 0, (HS.out.b8.cell 1).trans rfl, ⟨(HS.out.b9.cell 3).trans rfl, (HS.out.b9.cell 4).trans rfl, (HS.out.b9.cell 5).trans rfl⟩, fun _ => rfl, fun _ => HG1.out⟩
      · exact ⟨⟨Y2, n2, d2, Y2', m2, d2', Z2, q2, f2⟩, 0, (HS.out.b8.cell 2).trans rfl, ⟨(HS.out.b9.cell 6).trans rfl, (HS.out.b9.cell 7).trans rfl, (HS.out.b9.cell 8).trans rfl⟩, fun _ => rfl, fun _ => HG2.out⟩
      · exact ⟨⟨Y3, n3, d3, Y3', m3, d3', Z3, q3, f3⟩, 0, (HS.out.b8.cell 3).trans rfl, ⟨(HS.out.b9.cell 9).trans rfl, (HS.out.b9.cell 10).trans rfl, (HS.out.b9.cell 11).trans rfl⟩, fun _ => rfl, fun _ => HG3.out⟩
      · exact ⟨⟨Y4, n4, d4, Y4', m4, d4', Z4, q4, f4⟩, E4, (HS.out.b8.cell 4).trans rfl, ⟨(HS.out.b9.cell 12).trans rfl, (HS.out.b9.cell 13).trans rfl, (HS.out.b9.cell 14).trans rfl⟩, fun h => by omega, HG4.out⟩
      · exact ⟨⟨Y5, n5, d5, Y5', m5, d5', Z5, q5, f5⟩, E5, (HS.out.b8.cell 5).trans rfl, ⟨(HS.out.b9.cell 15).trans rfl, (HS.out.b9.cell 16).trans rfl, (HS.out.b9.cell 17).trans rfl⟩, fun h => by omega, HG5.out⟩
    obtain ⟨i0, ii1, ii2, ii3, ii4⟩ := info_parts Tryd.infoPc
    have lt8 : g8 < Wx.heap.size := HS.out.b8.lt
    have lt9 : g8 + 1 < Wx.heap.size := HS.out.b9.lt
    have HLOW := Lib.hid HS.out.low
    clear HS HG0 HG1 HG2 HG3 HG4 HG5 K0 K1 K2 K3 K4 K5 V0 V1 V2 V3 V4 V5 CC CK x0 x1 x2
    go_loopw [10, 7] (fun iv lv wr => ∃ (k : Nat) (Ax : Option Addr) (cx : Nat) (X : List Pv), k ≤ 6 ∧ iv = .int .i64 k ∧ lv = .slice Ax X.length cx ∧ X.length ≤ k ∧ Own1 Wx wr 28 3 Ax X.length cx (X.flatMap pvC) ∧ ∀ x ∈ X, PvG C S Wx (g8 + 2) x) (fun i _ _ => 6 - (intOf i).toNat)
    case atStart => exact ⟨0, none, 0, [], by omega, rfl, rfl, Nat.le_refl _, Own1.start (Below.refl _ _) _ _, fun x hx => by cases hx⟩
    case round =>
      obtain ⟨k, Ax, cx, X, hk, rfl, rfl, hXk, hO, hG⟩ := hrel
      have HO := Lib.hid hO
      have HG := Lib.hid hG
      clear hO hG
      obtain ⟨N, hN⟩ : ∃ N, X.length = N := ⟨_, rfl⟩
      rw [hN] at HO hXk ⊢
      have HN := Lib.hid hN
      clear hN
      by_cases hlt : k < 6
      · have hkn : (k : Int) < 6 := by omega
        have hkn2 : (k : Nat) < 6 := hlt
        obtain ⟨x, ek, e0, ⟨y0, y1, y2⟩, h4, hg⟩ := HX.out k hlt
        obtain ⟨xA, xn, xc, xA', xm, xc', xA2, xq, xcq⟩ := x
        dsimp only at y0 y1 y2
        have hb8 := HO.out.low.block g8 lt8
        have hb9 := HO.out.low.block (g8 + 1) lt9
        replace e0 := cell_same hb8 e0
        replace y0 := cell_same hb9 y0
        replace y1 := cell_same hb9 y1
        replace y2 := cell_same hb9 y2
        clear hb8 hb9
        have hml : N + 1 ≤ maxLen := by unfold maxLen; omega
        have hw1 : IntKind.i64.wrap ((k : Int) + 1) = (k : Int) + 1 := IntWalk.i64_in _ ⟨by omega, by omega⟩
        have HD : Hid ((∀ j u, ([.slice xA xn xc, .slice xA' xm xc', .slice xA2 xq xcq] : List Value)[j]? = some u → (wr.alloc (pcO xA xn xc xA' xm xc' xA2 xq xcq)).cell? (Addr.add ⟨wr.heap.size, 0, none⟩ j) = some u) ∧ (∀ u ∈ ([.slice xA xn xc, .slice xA' xm xc', .slice xA2 xq xcq] : List Value), u.oneCell' = true)) := by
          refine ⟨?_, ?_⟩
          · have := World.news_of_block (cs := #[.slice xA xn xc, .slice xA' xm xc', .slice xA2 xq xcq]) (t := 28) (fr := (0, 0)) (heap_alloc_new wr _)
            simpa using this
          · intro u hu
            simp at hu
            rcases hu with rfl | rfl | rfl <;> rfl
        by_cases hek : ek = 0
        · subst hek
          have HGX := Lib.hid (hg rfl)
          clear hg h4
          by_cases hk4 : k < 4
          · have hd1 : decide ((k : Int) < 4) = true := decide_eq_true (by omega)
            have hd2 : decide (k < 4) = true := decide_eq_true hk4
            go_wp2_with (at_builtin; go_loud (refine wpList_append_own _ rfl _ _ 52 rfl Wx.heap.size 28 i0 _ 3 72 Tryd.underlying52 ii1 ii2 ii3 ii4 rfl (by decide) (.slice Ax N cx) N _ rfl (HO.out.own.alloc _) ⟨wr.heap.size, 0, none⟩ 1 1 [.slice xA xn xc, .slice xA' xm xc', .slice xA2 xq xcq] rfl rfl HD.out.1 HD.out.2 hml (by omega) (by have := HO.out.low.size; simp; omega) ?_))
            intro v' w7 hown' hgrow _
            obtain ⟨B3, d3, rfl, hO3, _⟩ := Own1.step HO.out (Below.refl _ _) rfl hown' hgrow
            have HX8 := Lib.hid hO3
            clear hown' hgrow hO3
            go_wp2_with (fail)
            go_roundw
            case rel => exact ⟨k + 1, B3, d3, X ++ [⟨xA, xn, xc, xA', xm, xc', xA2, xq, xcq⟩], by omega, by first | rfl | go_num, by rw [List.length_append, HN.out]; rfl, by rw [List.length_append, HN.out]; simp; omega, by rw [List.length_append, List.flatMap_append, HN.out]; exact HX8.out, fun z hz => (List.mem_append.1 hz).elim (HG.out z) (fun h => (show z = _ by simpa using h) ▸ HGX.out)⟩
            case measure => simp [intOf]; omega
          · have hd1 : decide ((k : Int) < 4) = false := decide_eq_false (by omega)
            have hd2 : decide (k < 4) = false := decide_eq_false hk4
            go_wp2_with (at_builtin; go_loud (refine wpList_append_own _ rfl _ _ 52 rfl Wx.heap.size 28 i0 _ 3 72 Tryd.underlying52 ii1 ii2 ii3 ii4 rfl (by decide) (.slice Ax N cx) N _ rfl (HO.out.own.alloc _) ⟨wr.heap.size, 0, none⟩ 1 1 [.slice xA xn xc, .slice xA' xm xc', .slice xA2 xq xcq] rfl rfl HD.out.1 HD.out.2 hml (by omega) (by have := HO.out.low.size; simp; omega) ?_))
            intro v' w7 hown' hgrow _
            obtain ⟨B3, d3, rfl, hO3, _⟩ := Own1.step HO.out (Below.refl _ _) rfl hown' hgrow
            have HX8 := Lib.hid hO3
            clear hown' hgrow hO3
            go_wp2_with (fail)
            go_roundw
            case rel => exact ⟨k + 1, B3, d3, X ++ [⟨xA, xn, xc, xA', xm, xc', xA2, xq, xcq⟩], by omega, by first | rfl | go_num, by rw [List.length_append, HN.out]; rfl, by rw [List.length_append, HN.out]; simp; omega, by rw [List.length_append, List.flatMap_append, HN.out]; exact HX8.out, fun z hz => (List.mem_append.1 hz).elim (HG.out z) (fun h => (show z = _ by simpa using h) ▸ HGX.out)⟩
            case measure => simp [intOf]; omega
        · have hk4 : ¬ k < 4 := fun h => hek (h4 h)
          have hd1 : decide ((k : Int) < 4) = false := decide_eq_false (by omega)
          have hd2 : decide (k < 4) = false := decide_eq_false hk4
          have hd3 : (ek == 0) = false := by simpa using hek
          clear hg h4
          go_wp2_with (fail)
          go_roundw
          case rel => exact ⟨k + 1, Ax, cx, X, by omega, by first | rfl | go_num, by rw [HN.out], by rw [HN.out]; omega, by rw [HN.out]; exact HO.out, HG.out⟩
          case measure => simp [intOf]; omega
      · have hkn : ¬ (k : Int) < 6 := by omega
        have HT := Lib.hid (bt HLOW.out HO.out.low)
        have HSL := Lib.hid HO.out.sl
        have HGW : Hid (∀ x ∈ X, PvG C S wr 0 x) := fun x hx => ((HG.out x hx).below HO.out.low).zero
        have hN6 : N ≤ 6 := by omega
        clear HO HG HX lt8 lt9
        go_wp2_with (fail)
        go_loopw [11] (fun iv wr2 => ∃ k2 : Nat, k2 ≤ N ∧ iv = .int .i64 k2 ∧ Below wr.heap.size wr wr2) (fun i _ => N - (intOf i).toNat)
        case atStart => exact ⟨0, by omega, rfl, Below.refl _ _⟩
        case round =>
          obtain ⟨k2, hk2, rfl, hbw⟩ := hrel
          have HW := Lib.hid hbw
          clear hbw
          by_cases hl2 : k2 < N
          · have hkn2 : (k2 : Int) < (N : Int) := by omega
            obtain ⟨bl, ol, rfl, hBl, hcl⟩ := HSL.out.2.2 (by omega)
            obtain ⟨x, hx⟩ : ∃ x, X[k2]? = some x := ⟨_, List.getElem?_eq_getElem (by rw [HN.out]; exact hl2)⟩
            have HGX := Lib.hid ((HGW.out x (List.mem_of_getElem? hx)).below HW.out)
            obtain ⟨p0, p1, p2⟩ := pvC_at X k2 x hx
            have hbb := HW.out.block bl hBl
            have y0 := cell_same hbb (hcl _ _ p0)
            have y1 := cell_same hbb (hcl _ _ p1)
            have y2 := cell_same hbb (hcl _ _ p2)
            rw [← Nat.add_assoc] at y1 y2
            obtain ⟨x0, x1, x2⟩ := cell3 (bt HT.out HW.out)
            have lbl : bl < wr.heap.size := Nat.lt_of_lt_of_le hBl HW.out.size
            have lw2 : w.heap.size < wr.heap.size := by have := (bt HT.out HW.out).size; simp at this; omega
            have HW2 := Lib.hid (bt HT.out HW.out)
            clear hx p0 p1 p2 hbb hcl
            have HCX := Lib.hid (fun w' h => HCK2.out x w' h)
            have HSX := Lib.hid (fun w' h => HSM.out x w' h)
            obtain ⟨xA, xn, xc, xA', xm, xc', xA2, xq, xcq⟩ := x
            dsimp only at y0 y1 y2
            have HC2 : Hid (∀ w', Below wr.heap.size wr w' → (w'.cell? ⟨bl, ol + k2 * 3, none⟩ = some (.slice xA xn xc) ∧ w'.cell? ⟨bl, ol + k2 * 3 + 1, none⟩ = some (.slice xA' xm xc') ∧ w'.cell? ⟨bl, ol + k2 * 3 + 2, none⟩ = some (.slice xA2 xq xcq)) ∧ (w'.cell? ⟨w.heap.size, 0, none⟩ = some (.slice A n c) ∧ w'.cell? ⟨w.heap.size, 1, none⟩ = some (.slice A' m c'))) := fun w' h =>
              have h1 := h.block bl lbl
              have h2 := h.block w.heap.size lw2
              ⟨⟨cell_same h1 y0, cell_same h1 y1, cell_same h1 y2⟩, cell_same h2 x0, cell_same h2 x1⟩
            go_wp2_with (fail)
            have T := (Below.refl wr.heap.size wr).drew
            go_region_held3 (fun w' => (w'.cell? ⟨bl, ol + k2 * 3, none⟩ = some (.slice xA xn xc) ∧ w'.cell? ⟨bl, ol + k2 * 3 + 1, none⟩ = some (.slice xA' xm xc') ∧ w'.cell? ⟨bl, ol + k2 * 3 + 2, none⟩ = some (.slice xA2 xq xcq)) ∧ (w'.cell? ⟨w.heap.size, 0, none⟩ = some (.slice A n c) ∧ w'.cell? ⟨w.heap.size, 1, none⟩ = some (.slice A' m c')))
              (exact HC2.out _ T)
              (first
                | (go_at_call 23; refine (HCX.out _ (HGX.out.below T)).mono ?_; rintro e wz ⟨rfl, hbz⟩; replace T := bt T hbz)
                | (go_at_call 28; refine (HSX.out _ (HGX.out.below T) (HE.out _ (bt HW2.out T)).2).mono ?_; rintro e wz ⟨rfl, hbz⟩; replace T := bt T hbz))
            have HT2 := Lib.hid T
            clear T
            go_wp2_with (fail)
            go_roundw
            case rel => exact ⟨k2 + 1, by omega, by first | rfl | go_num, bt HW.out HT2.out⟩
            case measure => simp [intOf]; omega
          · have hkn2 : ¬ (k2 : Int) < (N : Int) := by omega
            have T := bt HT.out HW.out
            go_wp2_with (go_at_call 9; refine (works2 _ (HE.out _ T).1).mono ?_; rintro e wz ⟨rfl, hbz⟩)
            go_ret
            exact ⟨rfl, bx (bt T hbz)⟩

end Go.Proofs.YtdhjigaocamglaaDoor
