/- The law PieceRewrites returns true for every piece. -/
import Derived.Test.YtjobablfojnppaaDoorRj2
import Derived.Test.YtjobablfojnppaaDoorSameI2
import Derived.Test.YtjobablfojnppaaDoorWorks2
namespace Go.Proofs.YtjobablfojnppaaDoor
open Go Go.RowKit

theorem rwO_unit (st : Unit → TmP → Unit × EvP) (X : List TmP) : (rwO st () X).1 = X.map fun p => (st () p).2 := by
  have : ∀ (X : List TmP) (o : List EvP), (X.foldl (fun a p => (a.1 ++ [(st a.2 p).2], (st a.2 p).1)) (o, ())).1 = o ++ X.map fun p => (st () p).2 := by
    intro X
    induction X with
    | nil => intro o; simp
    | cons p r ih =>
      intro o
      rw [List.foldl_cons]
      show (List.foldl _ (o ++ [(st () p).2], ()) r).1 = _
      rw [ih]
      simp
  unfold rwO
  rw [this]
  simp
theorem tmPL_map : ∀ (P : List EvP) (n : Nat) (v : Int) (d t : Bool) (fm : Int), (tmPL P n v d t fm).map TmP.y = P
  | [], _, _, _, _, _ => rfl
  | y :: r, n, v, d, t, fm => by
    unfold tmPL
    split <;> simp [tmPL_map r]
theorem bare_out (P : List EvP) : (rwO bareSt () (tpL P)).1 = P.map bareE := by
  rw [rwO_unit]
  have := tmPL_map P 0 0 false false 0
  conv => rhs; rw [← this]
  rw [List.map_map]
  rfl
theorem setG_Lb {P : List EvP} {F : List Sg} {N : Nat} (h : ∀ y ∈ P, y.L.length ≤ N) : ∀ y ∈ setG P F, y.L.length ≤ N := fun y hy => by
  have h1 : y.L ∈ (setG P F).map EvP.L := List.mem_map_of_mem hy
  rw [setG_mapL] at h1
  obtain ⟨z, hz, he⟩ := List.mem_map.1 h1
  rw [← he]
  exact h z hz
theorem mvL_Lb {B : List Int} {P : List EvP} {N : Nat} (h : ∀ y ∈ P, y.L.length ≤ N) : ∀ (k : Nat) (Q : List EvP), (∀ y ∈ Q, y.L.length ≤ N) → ∀ y ∈ mvL B P k Q, y.L.length ≤ N
  | 0, Q, hQ => hQ
  | k + 1, Q, hQ => fun y hy => by
    have ih := mvL_Lb (B := B) h k Q hQ
    unfold mvL at hy
    split at hy
    · exact ih y hy
    · rename_i hn
      rcases List.mem_or_eq_of_mem_set hy with hy | rfl
      · exact ih y hy
      · show ((P.getD k z6).L.map (mvS B k)).length ≤ N
        rw [List.length_map]
        by_cases hk : k < P.length
        · exact h _ (by rw [List.getD_eq_getElem?_getD, List.getElem?_eq_getElem hk]; exact List.getElem_mem hk)
        · rw [List.getD_eq_getElem?_getD, List.getElem?_eq_none (by omega)]
          simp [z6]
theorem PcOw.atPq {w : World} {b : Nat} {A A' A2 : Option Addr} {n c m c' q cq : Nat} {C : List Cr} {S : List Int} {P : List EvP} (h : PcOw w b A n c A' m c' A2 q cq C S P) {g : Nat} {cs : Array Value} (hb : Blk w g 28 cs) (i : Nat) (u : Value) : PcOw (w.setCell ⟨g, i, none⟩ u) b A n c A' m c' A2 q cq C S P :=
  h.blkB (fun _ _ _ _ hT h2 => h2.setOther (h2.ne hb hT) _ _)
theorem PcOw.put3 {w : World} {b : Nat} {A A' A2 : Option Addr} {n c m c' q cq : Nat} {C : List Cr} {S : List Int} {P : List EvP} (h : PcOw w b A n c A' m c' A2 q cq C S P) {g : Nat} {v0 v1 v2 : Value} (hb : Blk w g 28 #[v0, v1, v2]) (u0 u1 u2 : Value) : PcOw (((w.setCell ⟨g, 0, none⟩ u0).setCell ⟨g, 1, none⟩ u1).setCell ⟨g, 2, none⟩ u2) b A n c A' m c' A2 q cq C S P :=
  ((h.atPq hb 0 u0).atPq (hb.set_ 0 u0) 1 u1).atPq ((hb.set_ 0 u0).set_ 1 u1) 2 u2
theorem Blk.put3 {w : World} {g : Nat} {v0 v1 v2 : Value} (h : Blk w g 28 #[v0, v1, v2]) (u0 u1 u2 : Value) : Blk (((w.setCell ⟨g, 0, none⟩ u0).setCell ⟨g, 1, none⟩ u1).setCell ⟨g, 2, none⟩ u2) g 28 #[u0, u1, u2] := by
  have := ((h.set_ 0 u0).set_ 1 u1).set_ 2 u2
  simpa using this
theorem Blk.far3 {w : World} {g g' : Nat} {cs : Array Value} (h : Blk w g 28 cs) (hne : g ≠ g') (u0 u1 u2 : Value) : Blk (((w.setCell ⟨g', 0, none⟩ u0).setCell ⟨g', 1, none⟩ u1).setCell ⟨g', 2, none⟩ u2) g 28 cs :=
  ((h.setOther hne _ _).setOther hne _ _).setOther hne _ _
/-- What the law keeps: the given piece, its box, and the boxes of the two results. -/
structure RwT (W0 W : World) (b gg ga gb : Nat) (a0 a1 a2 b0 b1 b2 : Value) (A : Option Addr) (n c : Nat) (A' : Option Addr) (m c' : Nat) (A2 : Option Addr) (q cq : Nat) (C : List Cr) (S : List Int) (P : List EvP) : Prop where
  low : Below W0.heap.size W0 W
  giv : PcOw W b A n c A' m c' A2 q cq C S P
  bg : Blk W gg 28 #[.slice A n c, .slice A' m c', .slice A2 q cq]
  ba : Blk W ga 28 #[a0, a1, a2]
  bb : Blk W gb 28 #[b0, b1, b2]
theorem RwT.below {W0 W W' : World} {b gg ga gb : Nat} {a0 a1 a2 b0 b1 b2 : Value} {A : Option Addr} {n c : Nat} {A' : Option Addr} {m c' : Nat} {A2 : Option Addr} {q cq : Nat} {C : List Cr} {S : List Int} {P : List EvP}
    (h : RwT W0 W b gg ga gb a0 a1 a2 b0 b1 b2 A n c A' m c' A2 q cq C S P) (hb : Below W.heap.size W W') : RwT W0 W' b gg ga gb a0 a1 a2 b0 b1 b2 A n c A' m c' A2 q cq C S P :=
  ⟨bt h.low hb, h.giv.below hb, h.bg.below hb, h.ba.below hb, h.bb.below hb⟩
theorem RwT.putA {W0 W : World} {b gg ga gb : Nat} {a0 a1 a2 b0 b1 b2 : Value} {A : Option Addr} {n c : Nat} {A' : Option Addr} {m c' : Nat} {A2 : Option Addr} {q cq : Nat} {C : List Cr} {S : List Int} {P : List EvP} {b' : Nat} {B : Option Addr} {n2 d : Nat} {B' : Option Addr} {m2 d' : Nat} {B2 : Option Addr} {q2 d2 : Nat} {D : List Cr} {U : List Int} {Q : List EvP}
    (h : RwT W0 W b gg ga gb a0 a1 a2 b0 b1 b2 A n c A' m c' A2 q cq C S P) (ho : PcOw W b' B n2 d B' m2 d' B2 q2 d2 D U Q) (hl : W0.heap.size ≤ ga) (hg : gg ≠ ga) (hab : gb ≠ ga) (u0 u1 u2 : Value) :
    RwT W0 (((W.setCell ⟨ga, 0, none⟩ u0).setCell ⟨ga, 1, none⟩ u1).setCell ⟨ga, 2, none⟩ u2) b gg ga gb u0 u1 u2 b0 b1 b2 A n c A' m c' A2 q cq C S P ∧ PcOw (((W.setCell ⟨ga, 0, none⟩ u0).setCell ⟨ga, 1, none⟩ u1).setCell ⟨ga, 2, none⟩ u2) b' B n2 d B' m2 d' B2 q2 d2 D U Q :=
  ⟨⟨((h.low.setCell (p := ⟨ga, 0, none⟩) hl _).setCell (p := ⟨ga, 1, none⟩) hl _).setCell (p := ⟨ga, 2, none⟩) hl _, h.giv.put3 h.ba _ _ _, h.bg.far3 hg _ _ _, h.ba.put3 _ _ _, h.bb.far3 hab _ _ _⟩, ho.put3 h.ba _ _ _⟩
theorem RwT.putB {W0 W : World} {b gg ga gb : Nat} {a0 a1 a2 b0 b1 b2 : Value} {A : Option Addr} {n c : Nat} {A' : Option Addr} {m c' : Nat} {A2 : Option Addr} {q cq : Nat} {C : List Cr} {S : List Int} {P : List EvP} {b' : Nat} {B : Option Addr} {n2 d : Nat} {B' : Option Addr} {m2 d' : Nat} {B2 : Option Addr} {q2 d2 : Nat} {D : List Cr} {U : List Int} {Q : List EvP} {b3 : Nat} {B3 : Option Addr} {n3 d3 : Nat} {B3' : Option Addr} {m3 d3' : Nat} {B4 : Option Addr} {q3 d4 : Nat} {D3 : List Cr} {U3 : List Int} {Q3 : List EvP}
    (h : RwT W0 W b gg ga gb a0 a1 a2 b0 b1 b2 A n c A' m c' A2 q cq C S P) (ho : PcOw W b' B n2 d B' m2 d' B2 q2 d2 D U Q) (ha : PcOw W b3 B3 n3 d3 B3' m3 d3' B4 q3 d4 D3 U3 Q3) (hl : W0.heap.size ≤ gb) (hg : gg ≠ gb) (hab : ga ≠ gb) (u0 u1 u2 : Value) :
    RwT W0 (((W.setCell ⟨gb, 0, none⟩ u0).setCell ⟨gb, 1, none⟩ u1).setCell ⟨gb, 2, none⟩ u2) b gg ga gb a0 a1 a2 u0 u1 u2 A n c A' m c' A2 q cq C S P ∧ PcOw (((W.setCell ⟨gb, 0, none⟩ u0).setCell ⟨gb, 1, none⟩ u1).setCell ⟨gb, 2, none⟩ u2) b3 B3 n3 d3 B3' m3 d3' B4 q3 d4 D3 U3 Q3 ∧ PcOw (((W.setCell ⟨gb, 0, none⟩ u0).setCell ⟨gb, 1, none⟩ u1).setCell ⟨gb, 2, none⟩ u2) b' B n2 d B' m2 d' B2 q2 d2 D U Q :=
  ⟨⟨((h.low.setCell (p := ⟨gb, 0, none⟩) hl _).setCell (p := ⟨gb, 1, none⟩) hl _).setCell (p := ⟨gb, 2, none⟩) hl _, h.giv.put3 h.bb _ _ _, h.bg.far3 hg _ _ _, h.ba.far3 hab _ _ _, h.bb.put3 _ _ _⟩, ha.put3 h.bb _ _ _, ho.put3 h.bb _ _ _⟩
theorem PcOw.bd {w : World} {b : Nat} {A A' A2 : Option Addr} {n c m c' q cq : Nat} {C : List Cr} {S : List Int} {P : List EvP} (h : PcOw w b A n c A' m c' A2 q cq C S P) (h1 : C.length ≤ 65536) (h2 : S.length ≤ 65536) (h3 : P.length ≤ 65536) : n ≤ 65536 ∧ m ≤ 65536 ∧ q ≤ 65536 :=
  ⟨by rw [h.hn]; exact h1, by rw [h.hm]; exact h2, by rw [h.hq]; exact h3⟩

set_option maxRecDepth 100000 in
set_option maxHeartbeats 16000000 in
theorem law_prw (A : Option Addr) (n c : Nat) (A' : Option Addr) (m c' : Nat) (A2 : Option Addr) (q cq : Nat) (C : List Cr) (S : List Int) (P : List EvP) (w : World) (hT : SgT w) (hP : PcIn w A n c A' m c' A2 q cq C S P) :
    Calls Tryd.prog 3 #[pcV A n c A' m c' A2 q cq] w fun e w' => e = .returned (.bool true) ∧ Below w.heap.size w w' := by
  have HE : Hid (∀ w', Below (w.alloc (pcO A n c A' m c' A2 q cq)).heap.size (w.alloc (pcO A n c A' m c' A2 q cq)) w' → SgT w' ∧ PcIn w' A n c A' m c' A2 q cq C S P) :=
    fun w' h => ⟨(hT.below (ba _ _)).below h, (hP.below (ba _ _)).below h⟩
  have hql := hP.es.hq
  have hnl := hP.hn
  have hml := hP.hm
  have HI := Lib.hid (HE.out _ (Below.refl _ _)).2
  clear hT hP
  cases hbg : pbigB n m P with
  | true =>
    have HB := Lib.hid hbg
    clear hbg hql hnl hml
    go_enter Tryd.func3, Tryd.ntmps3
    go_wp2_with (first | (go_at_call 14; refine (pbig_any A n c A' m c' A2 q cq P _ HI.out.es).mono ?_; rintro e w1 ⟨rfl, hb1⟩; rw [HB.out]; have T := hb1; clear hb1; obtain ⟨x0, x1, x2⟩ := cell3 T) | (go_at_call 15; refine (works2 _ (HE.out _ T).1).mono ?_; rintro e wz ⟨rfl, hbz⟩))
    go_ret
    exact ⟨rfl, bx (bt T hbz)⟩
  | false =>
    have HB := Lib.hid hbg
    obtain ⟨l1, l2, l3, l4⟩ := pbigB_no hbg
    have b1 : n ≤ 65536 := by omega
    have b2 : m ≤ 65536 := by omega
    have b3 : q ≤ 65536 := by omega
    have HST : Hid (∀ y ∈ P, y.L.length ≤ 65536) := fun y hy => Nat.le_trans (l4 y hy) (by omega)
    have HSU : Hid (∀ y ∈ P, y.L.length ≤ 1000000) := fun y hy => Nat.le_trans (l4 y hy) (by omega)
    have CC := Lib.hid (fun w' (h : PcIn w' A n c A' m c' A2 q cq C S P) => pcopyO_any A n c A' m c' A2 q cq C S P w' h b1 b2 b3 HST.out)
    obtain ⟨X, hX⟩ : ∃ X, pcErr C S P = X := ⟨_, rfl⟩
    have lC : (oC X C).length ≤ 65536 := Nat.le_trans (oC_len _ _) (by omega)
    have lS : (oC X S).length ≤ 65536 := Nat.le_trans (oC_len _ _) (by omega)
    have lP : P.length ≤ 65536 := by omega
    have HBN : Hid (n ≤ 65536 ∧ m ≤ 65536 ∧ q ≤ 65536) := ⟨b1, b2, b3⟩
    have HSP : Hid (∀ y ∈ P, y.L.length ≤ 1000000) := HSU.out
    have HR1 : Hid ((oC X (setG P (frcL s0g P))).length ≤ 65536 ∧ ∀ y ∈ oC X (setG P (frcL s0g P)), y.L.length ≤ 1000000) := ⟨Nat.le_trans (oC_len _ _) (by rw [setG_len]; exact lP), fun y hy => setG_Lb HSU.out y (oC_mem hy)⟩
    have HR2 : Hid ((oC X (setG P (terG false s0g (frcL s0g P)))).length ≤ 65536 ∧ ∀ y ∈ oC X (setG P (terG false s0g (frcL s0g P))), y.L.length ≤ 1000000) := ⟨Nat.le_trans (oC_len _ _) (by rw [setG_len]; exact lP), fun y hy => setG_Lb HSU.out y (oC_mem hy)⟩
    have HR3 : Hid ((oC X (P.map bareE)).length ≤ 65536 ∧ ∀ y ∈ oC X (P.map bareE), y.L.length ≤ 1000000) := ⟨Nat.le_trans (oC_len _ _) (by rw [List.length_map]; exact lP), fun y hy => by
      obtain ⟨z, hz, rfl⟩ := List.mem_map.1 (oC_mem hy)
      unfold bareE
      dsimp only
      rw [List.length_map]
      exact HSU.out z hz⟩
    have HR4 : Hid ((oC X (jnRes P)).length ≤ 65536 ∧ ∀ y ∈ oC X (jnRes P), y.L.length ≤ 1000000) := by
      by_cases h0 : X = 0
      · have hj := jn_take (hX.trans h0) P.length (Nat.le_refl _)
        rw [List.take_of_length_le (by rw [tmPL_len]; exact Nat.le_refl _)] at hj
        rw [h0, oC_ok]
        refine ⟨?_, mvL_Lb HSU.out _ _ (fun y hy => by rw [hj.eL y hy]; simp)⟩
        unfold jnRes
        rw [mvL_len]
        exact Nat.le_trans hj.el lP
      · unfold Hid
        rw [oC_no h0]
        exact ⟨by simp, fun y hy => by simp at hy⟩
    have PA1 : Hid (∀ (B : Option Addr) (e : Nat) (B' : Option Addr) (e' : Nat) (B2 : Option Addr) (e2 : Nat) w' (_ : PcIn w' B n e B' m e' B2 q e2 C S P), Calls Tryd.prog 17 #[pcV B n e B' m e' B2 q e2] w' (PcRes X C S (setG P (frcL s0g P)) w')) := fun B e B' e' B2 e2 w' h => by
      refine (plain_any B n e B' m e' B2 q e2 C S P w' h (by omega) (by omega) b3 HSU.out).mono (fun e w2 hr => ?_)
      rw [hX] at hr
      exact hr.sub (fun h0 => plain_out (sgr_of (hX.trans h0)))
    have PB1 : Hid (∀ w' (_ : PcIn w' A n c A' m c' A2 q cq C S P), Calls Tryd.prog 18 #[pcV A n c A' m c' A2 q cq] w' (PcRes X C S (setG P (frcL s0g P)) w')) := fun w' h => by
      refine (rplain_any A n c A' m c' A2 q cq C S P w' h b1 b2 b3 HST.out).mono (fun e w2 hr => ?_)
      rwa [hX] at hr
    have PA2 : Hid (∀ (B : Option Addr) (e : Nat) (B' : Option Addr) (e' : Nat) (B2 : Option Addr) (e2 : Nat) w' (_ : PcIn w' B n e B' m e' B2 q e2 C S P), Calls Tryd.prog 20 #[pcV B n e B' m e' B2 q e2] w' (PcRes X C S (setG P (terG false s0g (frcL s0g P))) w')) := fun B e B' e' B2 e2 w' h => by
      refine (terse_any B n e B' m e' B2 q e2 C S P w' h (by omega) (by omega) b3 HSU.out).mono (fun e w2 hr => ?_)
      rw [hX] at hr
      exact hr.sub (fun h0 => terse_out (hX.trans h0))
    have PB2 : Hid (∀ w' (_ : PcIn w' A n c A' m c' A2 q cq C S P), Calls Tryd.prog 21 #[pcV A n c A' m c' A2 q cq] w' (PcRes X C S (setG P (terG false s0g (frcL s0g P))) w')) := fun w' h => by
      refine (rterse_any A n c A' m c' A2 q cq C S P w' h b1 b2 b3 HST.out).mono (fun e w2 hr => ?_)
      rwa [hX] at hr
    have PA3 : Hid (∀ (B : Option Addr) (e : Nat) (B' : Option Addr) (e' : Nat) (B2 : Option Addr) (e2 : Nat) w' (_ : PcIn w' B n e B' m e' B2 q e2 C S P), Calls Tryd.prog 22 #[pcV B n e B' m e' B2 q e2] w' (PcRes X C S (P.map bareE) w')) := fun B e B' e' B2 e2 w' h => by
      refine (bare_any B n e B' m e' B2 q e2 C S P w' h (by omega) (by omega) b3 HSU.out).mono (fun e w2 hr => ?_)
      rw [hX] at hr
      exact hr.sub (fun h0 => bare_out P)
    have PB3 : Hid (∀ w' (_ : PcIn w' A n c A' m c' A2 q cq C S P), Calls Tryd.prog 23 #[pcV A n c A' m c' A2 q cq] w' (PcRes X C S (P.map bareE) w')) := fun w' h => by
      refine (rbare_any A n c A' m c' A2 q cq C S P w' h b1 b2 b3 HST.out).mono (fun e w2 hr => ?_)
      rwa [hX] at hr
    have PA4 : Hid (∀ (B : Option Addr) (e : Nat) (B' : Option Addr) (e' : Nat) (B2 : Option Addr) (e2 : Nat) w' (_ : PcIn w' B n e B' m e' B2 q e2 C S P) (hT' : SgT w'), Calls Tryd.prog 24 #[pcV B n e B' m e' B2 q e2] w' (PcRes X C S (jnRes P) w')) := fun B e B' e' B2 e2 w' h hT' => by
      refine (pjoin_any B n e B' m e' B2 q e2 C S P w' h hT' (by omega) (by omega) b3 HSU.out).mono (fun e w2 hr => ?_)
      rw [hX] at hr
      exact hr
    have PB4 : Hid (∀ w' (_ : PcIn w' A n c A' m c' A2 q cq C S P), Calls Tryd.prog 25 #[pcV A n c A' m c' A2 q cq] w' (PcRes X C S (jnRes P) w')) := fun w' h => by
      refine (rjoin_any A n c A' m c' A2 q cq C S P w' h b1 b2 b3 HST.out).mono (fun e w2 hr => ?_)
      rwa [hX] at hr
    clear hbg l1 l2 l3 l4 hql hnl hml hX lP
    generalize setG P (frcL s0g P) = R1 at *
    generalize setG P (terG false s0g (frcL s0g P)) = R2 at *
    generalize P.map bareE = R3 at *
    generalize jnRes P = R4 at *
    unfold PcRes at PA1 PA2 PA3 PA4 PB1 PB2 PB3 PB4
    go_enter Tryd.func3, Tryd.ntmps3
    go_wp2_with (go_at_call 14; refine (pbig_any A n c A' m c' A2 q cq P _ HI.out.es).mono ?_; rintro e w1 ⟨rfl, hb1⟩; rw [HB.out]; have T := hb1; clear hb1; obtain ⟨x0, x1, x2⟩ := cell3 T)
    refine (CC.out _ (HE.out _ T).2).mono ?_
    rintro e wc ⟨Bg, dg, Bg', dg', Bg2, dg2, Eg, rfl, hOg, hlg⟩
    clear x0 x1 x2
    have T2 := bt T (bt hlg (ba wc (.cells #[.slice Bg n dg, .slice Bg' m dg', .slice Bg2 q dg2] 28)))
    obtain ⟨x0, x1, x2⟩ := cell3 T2
    have hgl := heap_alloc_new wc (.cells #[.slice Bg n dg, .slice Bg' m dg', .slice Bg2 q dg2] 28)
    have hgo := (hOg.pcOw.more (Nat.zero_le _)).below (ba wc (.cells #[.slice Bg n dg, .slice Bg' m dg', .slice Bg2 q dg2] 28))
    have hcl := (bt T hlg).size
    go_wp2_with (fail)
    obtain ⟨gg, hgg⟩ : ∃ g, wc.heap.size = g := ⟨_, rfl⟩
    obtain ⟨Wc, hWc⟩ : ∃ W, wc.alloc (.cells #[.slice Bg n dg, .slice Bg' m dg', .slice Bg2 q dg2] 28) = W := ⟨_, rfl⟩
    rw [hgg] at hgl hcl ⊢
    rw [hWc] at T2 hgl hgo x0 x1 x2 ⊢
    have hgb : Blk Wc gg 28 #[.slice Bg n dg, .slice Bg' m dg', .slice Bg2 q dg2] := hgl
    have hggl := hgb.lt
    clear hgl hWc hgg hOg hlg T
    refine (PA1.out _ _ _ _ _ _ _ hgo.pcIn).mono ?_
    rintro e wa ⟨Ba1, na1, da1, Ba1', ma1, da1', Ba12, qa1, da12, rfl, hOa1, hla1⟩
    have hba := ba wa (.cells #[.slice Ba1 na1 da1, .slice Ba1' ma1 da1', .slice Ba12 qa1 da12] 28)
    have T3 := bt T2 (bt hla1 hba)
    clear x0 x1 x2
    obtain ⟨x0, x1, x2⟩ := cell3 T3
    go_wp2_with (fail)
    have hal := heap_alloc_new wa (.cells #[.slice Ba1 na1 da1, .slice Ba1' ma1 da1', .slice Ba12 qa1 da12] 28)
    replace hgo := hgo.below (bt hla1 hba)
    replace hgb := hgb.below (bt hla1 hba)
    have hoa := (hOa1.more (Nat.zero_le _)).below hba
    have hsa := hla1.size
    obtain ⟨ga, hga⟩ : ∃ g, wa.heap.size = g := ⟨_, rfl⟩
    obtain ⟨Wa, hWa⟩ : ∃ W, wa.alloc (.cells #[.slice Ba1 na1 da1, .slice Ba1' ma1 da1', .slice Ba12 qa1 da12] 28) = W := ⟨_, rfl⟩
    rw [hga] at hal hsa ⊢
    rw [hWa] at T3 hgo hgb hoa hal ⊢
    have hblka : Blk Wa ga 28 #[.slice Ba1 na1 da1, .slice Ba1' ma1 da1', .slice Ba12 qa1 da12] := hal
    have hgal := hblka.lt
    clear hal hWa hOa1 hla1 hba T2 x0 x1 x2
    have hgga : gg ≠ ga := by omega
    have hlga : (w.alloc (pcO A n c A' m c' A2 q cq)).heap.size ≤ ga := by omega
    clear hga
    refine (PB1.out _ (HE.out _ T3).2).mono ?_
    rintro e wb ⟨Bb1, nb1, db1, Bb1', mb1, db1', Bb12, qb1, db12, rfl, hOb1, hlb1⟩
    have hbb := ba wb (.cells #[.slice Bb1 nb1 db1, .slice Bb1' mb1 db1', .slice Bb12 qb1 db12] 28)
    have T4 := bt T3 (bt hlb1 hbb)
    obtain ⟨x0, x1, x2⟩ := cell3 T4
    have hal := heap_alloc_new wb (.cells #[.slice Bb1 nb1 db1, .slice Bb1' mb1 db1', .slice Bb12 qb1 db12] 28)
    replace hgo := hgo.below (bt hlb1 hbb)
    replace hgb := hgb.below (bt hlb1 hbb)
    replace hoa := hoa.below (bt hlb1 hbb)
    replace hblka := hblka.below (bt hlb1 hbb)
    have a0 := hblka.cell 0
    have a1 := hblka.cell 1
    have a2 := hblka.cell 2
    simp at a0 a1 a2
    have hsb := hlb1.size
    go_wp2_with (fail)
    obtain ⟨gb, hgb'⟩ : ∃ g, wb.heap.size = g := ⟨_, rfl⟩
    obtain ⟨Wb1, hWb⟩ : ∃ W, wb.alloc (.cells #[.slice Bb1 nb1 db1, .slice Bb1' mb1 db1', .slice Bb12 qb1 db12] 28) = W := ⟨_, rfl⟩
    have hob := (hOb1.more (Nat.zero_le _)).below hbb
    rw [hgb'] at hal hsb ⊢
    rw [hWb] at T4 hgo hgb hoa hob hblka hal ⊢
    have hblkb : Blk Wb1 gb 28 #[.slice Bb1 nb1 db1, .slice Bb1' mb1 db1', .slice Bb12 qb1 db12] := hal
    have hggb : gg ≠ gb := by omega
    have hab : ga ≠ gb := by omega
    have hba' : gb ≠ ga := by omega
    have hlgb : (w.alloc (pcO A n c A' m c' A2 q cq)).heap.size ≤ gb := by omega
    have nq0 : ¬w.heap.size = ga := by have := hlga; simp at this; omega
    have nq1 : ¬w.heap.size = gb := by have := hlgb; simp at this; omega
    have nq2 : ¬gg = ga := by omega
    have nq3 : ¬gg = gb := by omega
    have nq4 : ¬ga = gb := by omega
    have nq5 : ¬gb = ga := by omega
    have HP3 : Hid ((RwT (w.alloc (pcO A n c A' m c' A2 q cq)) Wb1 0 gg ga gb (.slice Ba1 na1 da1) (.slice Ba1' ma1 da1') (.slice Ba12 qa1 da12) (.slice Bb1 nb1 db1) (.slice Bb1' mb1 db1') (.slice Bb12 qb1 db12) Bg n dg Bg' m dg' Bg2 q dg2 C S P) ∧ PcOw Wb1 0 Ba1 na1 da1 Ba1' ma1 da1' Ba12 qa1 da12 (oC X C) (oC X S) (oC X R1) ∧ PcOw Wb1 0 Bb1 nb1 db1 Bb1' mb1 db1' Bb12 qb1 db12 (oC X C) (oC X S) (oC X R1)) := ⟨⟨T4, hgo, hgb, hblka, hblkb⟩, hoa, hob⟩
    clear hal hWb hgb' hOb1 hlb1 hbb T3 T4 hgo hgb hoa hob hblka hblkb a0 a1 a2 x0 x1 x2 hsa hsb hggl hgal
    refine (same_true HP3.out.2.1.pcIn HP3.out.2.2.pcIn (HP3.out.2.1.bd lC lS HR1.out.1) (HP3.out.2.2.bd lC lS HR1.out.1) HR1.out.2).mono ?_
    rintro e ws1 ⟨rfl, hls⟩
    have HS := Lib.hid (HP3.out.1.below hls)
    clear HP3 hls
    obtain ⟨x0, x1, x2⟩ := cell3 HS.out.low
    have g0 := HS.out.bg.cell 0
    have g1 := HS.out.bg.cell 1
    have g2 := HS.out.bg.cell 2
    simp at g0 g1 g2
    have a0 := HS.out.ba.cell 0
    have a1 := HS.out.ba.cell 1
    have a2 := HS.out.ba.cell 2
    have af0 := HS.out.ba.frozen 0
    have af1 := HS.out.ba.frozen 1
    have af2 := HS.out.ba.frozen 2
    have al := HS.out.ba.lt
    simp at a0 a1 a2
    have b0 := HS.out.bb.cell 0
    have b1 := HS.out.bb.cell 1
    have b2 := HS.out.bb.cell 2
    have bf0 := HS.out.bb.frozen 0
    have bf1 := HS.out.bb.frozen 1
    have bf2 := HS.out.bb.frozen 2
    have bl := HS.out.bb.lt
    simp at b0 b1 b2
    have hxx : (X != X) = false := by simp
    have hxe : (X == X) = true := by simp
    go_wp2_with (fail)
    refine (PA2.out _ _ _ _ _ _ _ HS.out.giv.pcIn).mono ?_
    rintro e wa ⟨Ba2, na2, da2, Ba2', ma2, da2', Ba22, qa2, da22, rfl, hOa2, hla2⟩
    have hs1 := HS.out.below hla2
    have HP1 := Lib.hid (hs1.putA (hOa2.more (Nat.zero_le _)) hlga hgga hba' (.slice Ba2 na2 da2) (.slice Ba2' ma2 da2') (.slice Ba22 qa2 da22))
    clear hOa2 hla2 HS
    clear x0 x1 x2 a0 a1 a2 af0 af1 af2 al b0 b1 b2 bf0 bf1 bf2 bl g0 g1 g2
    obtain ⟨x0, x1, x2⟩ := cell3 hs1.low
    have g0 := hs1.bg.cell 0
    have g1 := hs1.bg.cell 1
    have g2 := hs1.bg.cell 2
    simp at g0 g1 g2
    have a0 := hs1.ba.cell 0
    have a1 := hs1.ba.cell 1
    have a2 := hs1.ba.cell 2
    have af0 := hs1.ba.frozen 0
    have af1 := hs1.ba.frozen 1
    have af2 := hs1.ba.frozen 2
    have al := hs1.ba.lt
    simp at a0 a1 a2
    have b0 := hs1.bb.cell 0
    have b1 := hs1.bb.cell 1
    have b2 := hs1.bb.cell 2
    have bf0 := hs1.bb.frozen 0
    have bf1 := hs1.bb.frozen 1
    have bf2 := hs1.bb.frozen 2
    have bl := hs1.bb.lt
    simp at b0 b1 b2
    clear hs1
    go_wp2_with (fail)
    obtain ⟨Wa2, hW⟩ : ∃ W, ((((wa.setCell ⟨ga, 0, none⟩ (.slice Ba2 na2 da2)).setCell ⟨ga, 1, none⟩ (.slice Ba2' ma2 da2')).setCell ⟨ga, 2, none⟩ (.slice Ba22 qa2 da22))) = W := ⟨_, rfl⟩
    rw [hW]
    have HP2 := HP1.out
    rw [hW] at HP2
    replace HP2 := Lib.hid HP2
    clear hW HP1
    refine (PB2.out _ (HE.out _ HP2.out.1.low).2).mono ?_
    rintro e wb ⟨Bb2, nb2, db2, Bb2', mb2, db2', Bb22, qb2, db22, rfl, hOb2, hlb2⟩
    have hs1 := HP2.out.1.below hlb2
    have hoa := HP2.out.2.below hlb2
    have HP1 := Lib.hid (hs1.putB (hOb2.more (Nat.zero_le _)) hoa hlgb hggb hab (.slice Bb2 nb2 db2) (.slice Bb2' mb2 db2') (.slice Bb22 qb2 db22))
    clear hOb2 hlb2 hoa
    clear x0 x1 x2 a0 a1 a2 af0 af1 af2 al b0 b1 b2 bf0 bf1 bf2 bl g0 g1 g2
    obtain ⟨x0, x1, x2⟩ := cell3 hs1.low
    have g0 := hs1.bg.cell 0
    have g1 := hs1.bg.cell 1
    have g2 := hs1.bg.cell 2
    simp at g0 g1 g2
    have a0 := hs1.ba.cell 0
    have a1 := hs1.ba.cell 1
    have a2 := hs1.ba.cell 2
    have af0 := hs1.ba.frozen 0
    have af1 := hs1.ba.frozen 1
    have af2 := hs1.ba.frozen 2
    have al := hs1.ba.lt
    simp at a0 a1 a2
    have b0 := hs1.bb.cell 0
    have b1 := hs1.bb.cell 1
    have b2 := hs1.bb.cell 2
    have bf0 := hs1.bb.frozen 0
    have bf1 := hs1.bb.frozen 1
    have bf2 := hs1.bb.frozen 2
    have bl := hs1.bb.lt
    simp at b0 b1 b2
    clear hs1
    go_wp2_with (fail)
    obtain ⟨Wb2, hW⟩ : ∃ W, ((((wb.setCell ⟨gb, 0, none⟩ (.slice Bb2 nb2 db2)).setCell ⟨gb, 1, none⟩ (.slice Bb2' mb2 db2')).setCell ⟨gb, 2, none⟩ (.slice Bb22 qb2 db22))) = W := ⟨_, rfl⟩
    rw [hW]
    have HP3 := HP1.out
    rw [hW] at HP3
    replace HP3 := Lib.hid HP3
    clear hW HP1 HP2
    refine (same_true HP3.out.2.1.pcIn HP3.out.2.2.pcIn (HP3.out.2.1.bd lC lS HR2.out.1) (HP3.out.2.2.bd lC lS HR2.out.1) HR2.out.2).mono ?_
    rintro e ws2 ⟨rfl, hls⟩
    have HS := Lib.hid (HP3.out.1.below hls)
    clear HP3 hls
    obtain ⟨x0, x1, x2⟩ := cell3 HS.out.low
    have g0 := HS.out.bg.cell 0
    have g1 := HS.out.bg.cell 1
    have g2 := HS.out.bg.cell 2
    simp at g0 g1 g2
    have a0 := HS.out.ba.cell 0
    have a1 := HS.out.ba.cell 1
    have a2 := HS.out.ba.cell 2
    have af0 := HS.out.ba.frozen 0
    have af1 := HS.out.ba.frozen 1
    have af2 := HS.out.ba.frozen 2
    have al := HS.out.ba.lt
    simp at a0 a1 a2
    have b0 := HS.out.bb.cell 0
    have b1 := HS.out.bb.cell 1
    have b2 := HS.out.bb.cell 2
    have bf0 := HS.out.bb.frozen 0
    have bf1 := HS.out.bb.frozen 1
    have bf2 := HS.out.bb.frozen 2
    have bl := HS.out.bb.lt
    simp at b0 b1 b2
    have hxx : (X != X) = false := by simp
    have hxe : (X == X) = true := by simp
    go_wp2_with (fail)
    refine (PA3.out _ _ _ _ _ _ _ HS.out.giv.pcIn).mono ?_
    rintro e wa ⟨Ba3, na3, da3, Ba3', ma3, da3', Ba32, qa3, da32, rfl, hOa3, hla3⟩
    have hs1 := HS.out.below hla3
    have HP1 := Lib.hid (hs1.putA (hOa3.more (Nat.zero_le _)) hlga hgga hba' (.slice Ba3 na3 da3) (.slice Ba3' ma3 da3') (.slice Ba32 qa3 da32))
    clear hOa3 hla3 HS
    clear x0 x1 x2 a0 a1 a2 af0 af1 af2 al b0 b1 b2 bf0 bf1 bf2 bl g0 g1 g2
    obtain ⟨x0, x1, x2⟩ := cell3 hs1.low
    have g0 := hs1.bg.cell 0
    have g1 := hs1.bg.cell 1
    have g2 := hs1.bg.cell 2
    simp at g0 g1 g2
    have a0 := hs1.ba.cell 0
    have a1 := hs1.ba.cell 1
    have a2 := hs1.ba.cell 2
    have af0 := hs1.ba.frozen 0
    have af1 := hs1.ba.frozen 1
    have af2 := hs1.ba.frozen 2
    have al := hs1.ba.lt
    simp at a0 a1 a2
    have b0 := hs1.bb.cell 0
    have b1 := hs1.bb.cell 1
    have b2 := hs1.bb.cell 2
    have bf0 := hs1.bb.frozen 0
    have bf1 := hs1.bb.frozen 1
    have bf2 := hs1.bb.frozen 2
    have bl := hs1.bb.lt
    simp at b0 b1 b2
    clear hs1
    go_wp2_with (fail)
    obtain ⟨Wa3, hW⟩ : ∃ W, ((((wa.setCell ⟨ga, 0, none⟩ (.slice Ba3 na3 da3)).setCell ⟨ga, 1, none⟩ (.slice Ba3' ma3 da3')).setCell ⟨ga, 2, none⟩ (.slice Ba32 qa3 da32))) = W := ⟨_, rfl⟩
    rw [hW]
    have HP2 := HP1.out
    rw [hW] at HP2
    replace HP2 := Lib.hid HP2
    clear hW HP1
    refine (PB3.out _ (HE.out _ HP2.out.1.low).2).mono ?_
    rintro e wb ⟨Bb3, nb3, db3, Bb3', mb3, db3', Bb32, qb3, db32, rfl, hOb3, hlb3⟩
    have hs1 := HP2.out.1.below hlb3
    have hoa := HP2.out.2.below hlb3
    have HP1 := Lib.hid (hs1.putB (hOb3.more (Nat.zero_le _)) hoa hlgb hggb hab (.slice Bb3 nb3 db3) (.slice Bb3' mb3 db3') (.slice Bb32 qb3 db32))
    clear hOb3 hlb3 hoa
    clear x0 x1 x2 a0 a1 a2 af0 af1 af2 al b0 b1 b2 bf0 bf1 bf2 bl g0 g1 g2
    obtain ⟨x0, x1, x2⟩ := cell3 hs1.low
    have g0 := hs1.bg.cell 0
    have g1 := hs1.bg.cell 1
    have g2 := hs1.bg.cell 2
    simp at g0 g1 g2
    have a0 := hs1.ba.cell 0
    have a1 := hs1.ba.cell 1
    have a2 := hs1.ba.cell 2
    have af0 := hs1.ba.frozen 0
    have af1 := hs1.ba.frozen 1
    have af2 := hs1.ba.frozen 2
    have al := hs1.ba.lt
    simp at a0 a1 a2
    have b0 := hs1.bb.cell 0
    have b1 := hs1.bb.cell 1
    have b2 := hs1.bb.cell 2
    have bf0 := hs1.bb.frozen 0
    have bf1 := hs1.bb.frozen 1
    have bf2 := hs1.bb.frozen 2
    have bl := hs1.bb.lt
    simp at b0 b1 b2
    clear hs1
    go_wp2_with (fail)
    obtain ⟨Wb3, hW⟩ : ∃ W, ((((wb.setCell ⟨gb, 0, none⟩ (.slice Bb3 nb3 db3)).setCell ⟨gb, 1, none⟩ (.slice Bb3' mb3 db3')).setCell ⟨gb, 2, none⟩ (.slice Bb32 qb3 db32))) = W := ⟨_, rfl⟩
    rw [hW]
    have HP3 := HP1.out
    rw [hW] at HP3
    replace HP3 := Lib.hid HP3
    clear hW HP1 HP2
    refine (same_true HP3.out.2.1.pcIn HP3.out.2.2.pcIn (HP3.out.2.1.bd lC lS HR3.out.1) (HP3.out.2.2.bd lC lS HR3.out.1) HR3.out.2).mono ?_
    rintro e ws3 ⟨rfl, hls⟩
    have HS := Lib.hid (HP3.out.1.below hls)
    clear HP3 hls
    obtain ⟨x0, x1, x2⟩ := cell3 HS.out.low
    have g0 := HS.out.bg.cell 0
    have g1 := HS.out.bg.cell 1
    have g2 := HS.out.bg.cell 2
    simp at g0 g1 g2
    have a0 := HS.out.ba.cell 0
    have a1 := HS.out.ba.cell 1
    have a2 := HS.out.ba.cell 2
    have af0 := HS.out.ba.frozen 0
    have af1 := HS.out.ba.frozen 1
    have af2 := HS.out.ba.frozen 2
    have al := HS.out.ba.lt
    simp at a0 a1 a2
    have b0 := HS.out.bb.cell 0
    have b1 := HS.out.bb.cell 1
    have b2 := HS.out.bb.cell 2
    have bf0 := HS.out.bb.frozen 0
    have bf1 := HS.out.bb.frozen 1
    have bf2 := HS.out.bb.frozen 2
    have bl := HS.out.bb.lt
    simp at b0 b1 b2
    have hxx : (X != X) = false := by simp
    have hxe : (X == X) = true := by simp
    go_wp2_with (fail)
    refine (PA4.out _ _ _ _ _ _ _ HS.out.giv.pcIn (HE.out _ HS.out.low).1).mono ?_
    rintro e wa ⟨Ba4, na4, da4, Ba4', ma4, da4', Ba42, qa4, da42, rfl, hOa4, hla4⟩
    have hs1 := HS.out.below hla4
    have HP1 := Lib.hid (hs1.putA (hOa4.more (Nat.zero_le _)) hlga hgga hba' (.slice Ba4 na4 da4) (.slice Ba4' ma4 da4') (.slice Ba42 qa4 da42))
    clear hOa4 hla4 HS
    clear x0 x1 x2 a0 a1 a2 af0 af1 af2 al b0 b1 b2 bf0 bf1 bf2 bl g0 g1 g2
    obtain ⟨x0, x1, x2⟩ := cell3 hs1.low
    have g0 := hs1.bg.cell 0
    have g1 := hs1.bg.cell 1
    have g2 := hs1.bg.cell 2
    simp at g0 g1 g2
    have a0 := hs1.ba.cell 0
    have a1 := hs1.ba.cell 1
    have a2 := hs1.ba.cell 2
    have af0 := hs1.ba.frozen 0
    have af1 := hs1.ba.frozen 1
    have af2 := hs1.ba.frozen 2
    have al := hs1.ba.lt
    simp at a0 a1 a2
    have b0 := hs1.bb.cell 0
    have b1 := hs1.bb.cell 1
    have b2 := hs1.bb.cell 2
    have bf0 := hs1.bb.frozen 0
    have bf1 := hs1.bb.frozen 1
    have bf2 := hs1.bb.frozen 2
    have bl := hs1.bb.lt
    simp at b0 b1 b2
    clear hs1
    go_wp2_with (fail)
    obtain ⟨Wa4, hW⟩ : ∃ W, ((((wa.setCell ⟨ga, 0, none⟩ (.slice Ba4 na4 da4)).setCell ⟨ga, 1, none⟩ (.slice Ba4' ma4 da4')).setCell ⟨ga, 2, none⟩ (.slice Ba42 qa4 da42))) = W := ⟨_, rfl⟩
    rw [hW]
    have HP2 := HP1.out
    rw [hW] at HP2
    replace HP2 := Lib.hid HP2
    clear hW HP1
    refine (PB4.out _ (HE.out _ HP2.out.1.low).2).mono ?_
    rintro e wb ⟨Bb4, nb4, db4, Bb4', mb4, db4', Bb42, qb4, db42, rfl, hOb4, hlb4⟩
    have hs1 := HP2.out.1.below hlb4
    have hoa := HP2.out.2.below hlb4
    have HP1 := Lib.hid (hs1.putB (hOb4.more (Nat.zero_le _)) hoa hlgb hggb hab (.slice Bb4 nb4 db4) (.slice Bb4' mb4 db4') (.slice Bb42 qb4 db42))
    clear hOb4 hlb4 hoa
    clear x0 x1 x2 a0 a1 a2 af0 af1 af2 al b0 b1 b2 bf0 bf1 bf2 bl g0 g1 g2
    obtain ⟨x0, x1, x2⟩ := cell3 hs1.low
    have g0 := hs1.bg.cell 0
    have g1 := hs1.bg.cell 1
    have g2 := hs1.bg.cell 2
    simp at g0 g1 g2
    have a0 := hs1.ba.cell 0
    have a1 := hs1.ba.cell 1
    have a2 := hs1.ba.cell 2
    have af0 := hs1.ba.frozen 0
    have af1 := hs1.ba.frozen 1
    have af2 := hs1.ba.frozen 2
    have al := hs1.ba.lt
    simp at a0 a1 a2
    have b0 := hs1.bb.cell 0
    have b1 := hs1.bb.cell 1
    have b2 := hs1.bb.cell 2
    have bf0 := hs1.bb.frozen 0
    have bf1 := hs1.bb.frozen 1
    have bf2 := hs1.bb.frozen 2
    have bl := hs1.bb.lt
    simp at b0 b1 b2
    clear hs1
    go_wp2_with (fail)
    obtain ⟨Wb4, hW⟩ : ∃ W, ((((wb.setCell ⟨gb, 0, none⟩ (.slice Bb4 nb4 db4)).setCell ⟨gb, 1, none⟩ (.slice Bb4' mb4 db4')).setCell ⟨gb, 2, none⟩ (.slice Bb42 qb4 db42))) = W := ⟨_, rfl⟩
    rw [hW]
    have HP3 := HP1.out
    rw [hW] at HP3
    replace HP3 := Lib.hid HP3
    clear hW HP1 HP2
    refine (same_true HP3.out.2.1.pcIn HP3.out.2.2.pcIn (HP3.out.2.1.bd lC lS HR4.out.1) (HP3.out.2.2.bd lC lS HR4.out.1) HR4.out.2).mono ?_
    rintro e ws4 ⟨rfl, hls⟩
    have HS := Lib.hid (HP3.out.1.below hls)
    clear HP3 hls
    obtain ⟨x0, x1, x2⟩ := cell3 HS.out.low
    have g0 := HS.out.bg.cell 0
    have g1 := HS.out.bg.cell 1
    have g2 := HS.out.bg.cell 2
    simp at g0 g1 g2
    have a0 := HS.out.ba.cell 0
    have a1 := HS.out.ba.cell 1
    have a2 := HS.out.ba.cell 2
    have af0 := HS.out.ba.frozen 0
    have af1 := HS.out.ba.frozen 1
    have af2 := HS.out.ba.frozen 2
    have al := HS.out.ba.lt
    simp at a0 a1 a2
    have b0 := HS.out.bb.cell 0
    have b1 := HS.out.bb.cell 1
    have b2 := HS.out.bb.cell 2
    have bf0 := HS.out.bb.frozen 0
    have bf1 := HS.out.bb.frozen 1
    have bf2 := HS.out.bb.frozen 2
    have bl := HS.out.bb.lt
    simp at b0 b1 b2
    have hxx : (X != X) = false := by simp
    have hxe : (X == X) = true := by simp
    go_wp2_with (fail)
    refine (same_true HS.out.giv.pcIn (HE.out _ HS.out.low).2 HBN.out HBN.out HSP.out).mono ?_
    rintro e wy ⟨rfl, hly⟩
    replace HS := Lib.hid (HS.out.below hly)
    go_wp2_with (fail)
    refine (works2 _ (HE.out _ HS.out.low).1).mono ?_
    rintro e wz ⟨rfl, hbz⟩
    go_wp2_with (fail)
    go_ret
    exact ⟨rfl, bx (bt HS.out.low hbz)⟩

end Go.Proofs.YtjobablfojnppaaDoor
