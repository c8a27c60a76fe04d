/- Pieces: Append of the program. -/
import Derived.Test.YtjobablfojnppaaDoorAp1
import Derived.Test.YtjobablfojnppaaDoorSameM
import Derived.Deep.RegionHeldLaw
namespace Go.Proofs.YtjobablfojnppaaDoor
open Go Go.RowKit

theorem ap_cells {w : World} {g : Nat} {a b c : Value} (h : Blk w g 28 #[a, b, c]) : w.cell? ⟨g, 0, none⟩ = some a ∧ w.cell? ⟨g, 1, none⟩ = some b ∧ w.cell? ⟨g, 2, none⟩ = some c :=
  ⟨by simpa using h.cell 0, by simpa using h.cell 1, by simpa using h.cell 2⟩
def appErr (X1 X2 : Int) (sm : Bool) (k : Nat) : Int := if X1 ≠ 0 then X1 else if X2 ≠ 0 then X2 else if sm = false then 11 else if 400 < k then 2 else 0
theorem appErr1 {X1 X2 : Int} {sm : Bool} {k : Nat} (h : X1 ≠ 0) : appErr X1 X2 sm k = X1 := if_pos h
theorem appErr2 {X2 : Int} {sm : Bool} {k : Nat} (h : X2 ≠ 0) : appErr 0 X2 sm k = X2 := by unfold appErr; rw [if_neg (by simp), if_pos h]
theorem appErr3 {k : Nat} : appErr 0 0 false k = 11 := by unfold appErr; rw [if_neg (by simp), if_neg (by simp), if_pos rfl]
theorem appErr4 {k : Nat} (h : 400 < k) : appErr 0 0 true k = 2 := by unfold appErr; rw [if_neg (by simp), if_neg (by simp), if_neg (by simp), if_pos h]
theorem appErr5 {k : Nat} (h : ¬ 400 < k) : appErr 0 0 true k = 0 := by unfold appErr; rw [if_neg (by simp), if_neg (by simp), if_neg (by simp), if_neg h]
theorem ap_new (W : World) (a b : Value) : Blk (W.alloc (.cells #[a, b] 26)) W.heap.size 26 #[a, b] := heap_alloc_new W _

set_option maxRecDepth 100000 in
set_option maxHeartbeats 6400000 in
theorem append_any (A : Option Addr) (n c : Nat) (A' : Option Addr) (m c' : Nat) (A2 : Option Addr) (q cq : Nat) (B : Option Addr) (n2 d : Nat) (B' : Option Addr) (m2 d' : Nat) (B2 : Option Addr) (q2 dq : Nat) (C : List Cr) (S : List Int) (P : List EvP) (D : List Cr) (U : List Int) (Q : List EvP) (w : World)
    (hP : PcIn w A n c A' m c' A2 q cq C S P) (hQ : PcIn w B n2 d B' m2 d' B2 q2 dq D U Q) (b1 : n ≤ 65536) (b2 : m ≤ 65536) (b3 : q ≤ 65536) (b4 : n2 ≤ 65536) (b5 : m2 ≤ 65536) (b6 : q2 ≤ 65536) (hsp : ∀ y ∈ P, y.L.length ≤ 65536) (hsq : ∀ y ∈ Q, y.L.length ≤ 65536) :
    Calls Tryd.prog 38 #[pcV A n c A' m c' A2 q cq, pcV B n2 d B' m2 d' B2 q2 dq] w (PcRes (appErr (pcErr C S P) (pcErr D U Q) (sameB C S D U) (q + q2)) C S (P ++ Q) w) := by
  have hsp1 : ∀ y ∈ P, y.L.length ≤ 1000000 := fun y hy => Nat.le_trans (hsp y hy) (by omega)
  have hsq1 : ∀ y ∈ Q, y.L.length ≤ 1000000 := fun y hy => Nat.le_trans (hsq y hy) (by omega)
  have HBX := Lib.hid (box3 w #[.slice A n c, .slice A' m c', .slice A2 q cq] #[.slice B n2 d, .slice B' m2 d', .slice B2 q2 dq] #[.slice none 0 0, .slice none 0 0, .slice none 0 0] 28 28 28)
  have HE : Hid (∀ w', Below (((w.alloc (pcO A n c A' m c' A2 q cq)).alloc (pcO B n2 d B' m2 d' B2 q2 dq)).alloc (pcO none 0 0 none 0 0 none 0 0)).heap.size (((w.alloc (pcO A n c A' m c' A2 q cq)).alloc (pcO B n2 d B' m2 d' B2 q2 dq)).alloc (pcO none 0 0 none 0 0 none 0 0)) w' → PcIn w' A n c A' m c' A2 q cq C S P ∧ PcIn w' B n2 d B' m2 d' B2 q2 dq D U Q) :=
    fun w' h => ⟨(hP.below HBX.out.2.2.2).below h, (hQ.below HBX.out.2.2.2).below h⟩
  have HC : Hid (∀ w', Below (((w.alloc (pcO A n c A' m c' A2 q cq)).alloc (pcO B n2 d B' m2 d' B2 q2 dq)).alloc (pcO none 0 0 none 0 0 none 0 0)).heap.size (((w.alloc (pcO A n c A' m c' A2 q cq)).alloc (pcO B n2 d B' m2 d' B2 q2 dq)).alloc (pcO none 0 0 none 0 0 none 0 0)) w' → (w'.cell? ⟨w.heap.size, 0, none⟩ = some (.slice A n c) ∧ w'.cell? ⟨w.heap.size, 1, none⟩ = some (.slice A' m c') ∧ w'.cell? ⟨w.heap.size, 2, none⟩ = some (.slice A2 q cq)) ∧ (w'.cell? ⟨w.heap.size + 1, 0, none⟩ = some (.slice B n2 d) ∧ w'.cell? ⟨w.heap.size + 1, 1, none⟩ = some (.slice B' m2 d') ∧ w'.cell? ⟨w.heap.size + 1, 2, none⟩ = some (.slice B2 q2 dq)) ∧ (w'.cell? ⟨w.heap.size + 2, 0, none⟩ = some (.slice none 0 0) ∧ w'.cell? ⟨w.heap.size + 2, 1, none⟩ = some (.slice none 0 0) ∧ w'.cell? ⟨w.heap.size + 2, 2, none⟩ = some (.slice none 0 0)) ∧ (w'.frozen? ⟨w.heap.size + 2, 0, none⟩ = false ∧ w'.frozen? ⟨w.heap.size + 2, 1, none⟩ = false ∧ w'.frozen? ⟨w.heap.size + 2, 2, none⟩ = false ∧ w.heap.size + 2 < w'.heap.size)) := fun w' hb => by
    have k1 := HBX.out.1.below hb
    have k2 := HBX.out.2.1.below hb
    have k3 := HBX.out.2.2.1.below hb
    exact ⟨ap_cells k1, ap_cells k2, ap_cells k3, k3.frozen 0, k3.frozen 1, k3.frozen 2, k3.lt⟩
  have OA := Lib.hid (fun w' (h : PcIn w' A n c A' m c' A2 q cq C S P) => pcheck_any A n c A' m c' A2 q cq C S P w' h (by omega) (by omega) (by omega) hsp1)
  have OB := Lib.hid (fun w' (h : PcIn w' B n2 d B' m2 d' B2 q2 dq D U Q) => pcheck_any B n2 d B' m2 d' B2 q2 dq D U Q w' h (by omega) (by omega) (by omega) hsq1)
  have CI := Lib.hid (fun w' (h : PcIn w' A n c A' m c' A2 q cq C S P ∧ PcIn w' B n2 d B' m2 d' B2 q2 dq D U Q) => same_any A n c A' m c' B n2 d B' m2 d' C S D U w' h.1.crs h.1.stp h.2.crs h.2.stp h.1.hn h.1.hm h.2.hn h.2.hm b1 b2 b4 b5)
  have HSP := Lib.hid (And.intro hsp hsp1)
  have HSQ := Lib.hid (And.intro hsq hsq1)
  have HQP := Lib.hid (And.intro hP.hn (And.intro hP.hm hP.es.hq))
  have HQQ := Lib.hid hQ.es.hq
  clear hP hQ hsp hsq hsp1 hsq1
  have CL := Lib.hid (fun w' (h : PcIn w' A n c A' m c' A2 q cq C S P) => cloneInst_any A A' n c m c' C S w' h.crs h.stp (by omega) (by omega))
  unfold CopyPost at CL
  have CO : Hid (∀ W g, Blk W g 26 #[.slice A2 q cq, .slice B2 q2 dq] → Below (((w.alloc (pcO A n c A' m c' A2 q cq)).alloc (pcO B n2 d B' m2 d' B2 q2 dq)).alloc (pcO none 0 0 none 0 0 none 0 0)).heap.size (((w.alloc (pcO A n c A' m c' A2 q cq)).alloc (pcO B n2 d B' m2 d' B2 q2 dq)).alloc (pcO none 0 0 none 0 0 none 0 0)) W → Calls Tryd.prog 84 #[.slice (some ⟨g, 0, none⟩) 2 2] W fun e w' => ∃ R k, e = .returned (.slice R (q + q2) k) ∧ EsIn w' R (q + q2) k (P ++ Q) ∧ Below W.heap.size W w') := fun W g h1 h2 =>
    concatE_any g A2 q cq B2 q2 dq P Q W h1.lt (by simpa using h1.cell 0) (by simpa using h1.cell 1) (HE.out _ h2).1.es (HE.out _ h2).2.es b3 b6
  have CH : Hid (∀ W R k, EsIn W R (q + q2) k (P ++ Q) → Calls Tryd.prog 83 #[.slice R (q + q2) k, .func (.func 85) #[] #[]] W fun e w' => ∃ B d E, e = .returned (.slice B (q + q2) d) ∧ E.length = (P ++ Q).length ∧ CpE w' W.heap.size E (P ++ Q) ∧ Ow w' W.heap.size 41 6 B (q + q2) d (evC E) ∧ Below W.heap.size W w') := fun W R k h =>
    changedE_any R (q + q2) k (P ++ Q) W h (by omega) (fun y hy => by
      rcases List.mem_append.1 hy with hy | hy
      · exact HSP.out.2 y hy
      · exact HSQ.out.2 y hy)
  have T := Below.refl (((w.alloc (pcO A n c A' m c' A2 q cq)).alloc (pcO B n2 d B' m2 d' B2 q2 dq)).alloc (pcO none 0 0 none 0 0 none 0 0)).heap.size (((w.alloc (pcO A n c A' m c' A2 q cq)).alloc (pcO B n2 d B' m2 d' B2 q2 dq)).alloc (pcO none 0 0 none 0 0 none 0 0))
  obtain ⟨⟨x0, x1, x2⟩, ⟨y0, y1, y2⟩, ⟨r0, r1, r2⟩, f0, f1, f2, hz⟩ := HC.out _ T
  obtain ⟨X1, hX1⟩ : ∃ X, pcErr C S P = X := ⟨_, rfl⟩
  obtain ⟨X2, hX2⟩ : ∃ X, pcErr D U Q = X := ⟨_, rfl⟩
  rw [hX1] at OA ⊢
  rw [hX2] at OB ⊢
  clear hX1 hX2
  by_cases g1 : X1 = 0
  rotate_left
  · have hxc : (X1 != 0) = true := bne_iff_ne.2 g1
    rw [appErr1 g1]
    have HG := Lib.hid g1
    clear g1
    go_enter Tryd.func38, Tryd.ntmps38
    go_wp2_with (first
          | (go_at_call 40; (with_reducible refine (OA.out _ (HE.out _ T).1).mono ?_); rintro e w1 ⟨rfl, hb1⟩; replace T := bt T hb1; clear hb1; clear x0 x1 x2 y0 y1 y2 r0 r1 r2 f0 f1 f2 hz; obtain ⟨⟨x0, x1, x2⟩, ⟨y0, y1, y2⟩, ⟨r0, r1, r2⟩, f0, f1, f2, hz⟩ := HC.out _ T)
          | (go_at_call 40; (with_reducible refine (OB.out _ (HE.out _ T).2).mono ?_); rintro e w2 ⟨rfl, hb2⟩; replace T := bt T hb2; clear hb2; clear x0 x1 x2 y0 y1 y2 r0 r1 r2 f0 f1 f2 hz; obtain ⟨⟨x0, x1, x2⟩, ⟨y0, y1, y2⟩, ⟨r0, r1, r2⟩, f0, f1, f2, hz⟩ := HC.out _ T)
          | (go_at_call 68; (with_reducible refine (CI.out _ (HE.out _ T)).mono ?_); rintro e w3 ⟨rfl, hb3⟩; replace T := bt T hb3; clear hb3; clear x0 x1 x2 y0 y1 y2 r0 r1 r2 f0 f1 f2 hz; obtain ⟨⟨x0, x1, x2⟩, ⟨y0, y1, y2⟩, ⟨r0, r1, r2⟩, f0, f1, f2, hz⟩ := HC.out _ T))
    exact err_retR w _ _ (show w.heap.size ≤ w.heap.size + 2 by omega) X1 (bt HBX.out.2.2.2 T) HG.out (by simp [results, Tryd.results38, go_sem, World.cell?_setCell_same', World.cell?_setCell_other, r0, r1, r2])
  subst g1
  by_cases g2 : X2 = 0
  rotate_left
  · have hxc : (X2 != 0) = true := bne_iff_ne.2 g2
    rw [appErr2 g2]
    have HG := Lib.hid g2
    clear g2
    go_enter Tryd.func38, Tryd.ntmps38
    go_wp2_with (first
          | (go_at_call 40; (with_reducible refine (OA.out _ (HE.out _ T).1).mono ?_); rintro e w1 ⟨rfl, hb1⟩; replace T := bt T hb1; clear hb1; clear x0 x1 x2 y0 y1 y2 r0 r1 r2 f0 f1 f2 hz; obtain ⟨⟨x0, x1, x2⟩, ⟨y0, y1, y2⟩, ⟨r0, r1, r2⟩, f0, f1, f2, hz⟩ := HC.out _ T)
          | (go_at_call 40; (with_reducible refine (OB.out _ (HE.out _ T).2).mono ?_); rintro e w2 ⟨rfl, hb2⟩; replace T := bt T hb2; clear hb2; clear x0 x1 x2 y0 y1 y2 r0 r1 r2 f0 f1 f2 hz; obtain ⟨⟨x0, x1, x2⟩, ⟨y0, y1, y2⟩, ⟨r0, r1, r2⟩, f0, f1, f2, hz⟩ := HC.out _ T)
          | (go_at_call 68; (with_reducible refine (CI.out _ (HE.out _ T)).mono ?_); rintro e w3 ⟨rfl, hb3⟩; replace T := bt T hb3; clear hb3; clear x0 x1 x2 y0 y1 y2 r0 r1 r2 f0 f1 f2 hz; obtain ⟨⟨x0, x1, x2⟩, ⟨y0, y1, y2⟩, ⟨r0, r1, r2⟩, f0, f1, f2, hz⟩ := HC.out _ T))
    exact err_retR w _ _ (show w.heap.size ≤ w.heap.size + 2 by omega) X2 (bt HBX.out.2.2.2 T) HG.out (by simp [results, Tryd.results38, go_sem, World.cell?_setCell_same', World.cell?_setCell_other, r0, r1, r2])
  subst g2
  cases g3 : sameB C S D U with
  | false =>
    rw [g3] at CI
    rw [appErr3]
    clear g3
    go_enter Tryd.func38, Tryd.ntmps38
    go_wp2_with (first
          | (go_at_call 40; (with_reducible refine (OA.out _ (HE.out _ T).1).mono ?_); rintro e w1 ⟨rfl, hb1⟩; replace T := bt T hb1; clear hb1; clear x0 x1 x2 y0 y1 y2 r0 r1 r2 f0 f1 f2 hz; obtain ⟨⟨x0, x1, x2⟩, ⟨y0, y1, y2⟩, ⟨r0, r1, r2⟩, f0, f1, f2, hz⟩ := HC.out _ T)
          | (go_at_call 40; (with_reducible refine (OB.out _ (HE.out _ T).2).mono ?_); rintro e w2 ⟨rfl, hb2⟩; replace T := bt T hb2; clear hb2; clear x0 x1 x2 y0 y1 y2 r0 r1 r2 f0 f1 f2 hz; obtain ⟨⟨x0, x1, x2⟩, ⟨y0, y1, y2⟩, ⟨r0, r1, r2⟩, f0, f1, f2, hz⟩ := HC.out _ T)
          | (go_at_call 68; (with_reducible refine (CI.out _ (HE.out _ T)).mono ?_); rintro e w3 ⟨rfl, hb3⟩; replace T := bt T hb3; clear hb3; clear x0 x1 x2 y0 y1 y2 r0 r1 r2 f0 f1 f2 hz; obtain ⟨⟨x0, x1, x2⟩, ⟨y0, y1, y2⟩, ⟨r0, r1, r2⟩, f0, f1, f2, hz⟩ := HC.out _ T))
    exact err_retR w _ _ (show w.heap.size ≤ w.heap.size + 2 by omega) 11 (bt HBX.out.2.2.2 T) (by omega) (by simp [results, Tryd.results38, go_sem, World.cell?_setCell_same', World.cell?_setCell_other, r0, r1, r2])
  | true =>
    rw [g3] at CI
    clear g3
    by_cases g4 : 400 < q + q2
    · rw [appErr4 g4]
      have g5 : (400 : Int) < (q : Int) + (q2 : Int) := by omega
      clear g4
      go_enter Tryd.func38, Tryd.ntmps38
      go_wp2_with (first
            | (go_at_call 40; (with_reducible refine (OA.out _ (HE.out _ T).1).mono ?_); rintro e w1 ⟨rfl, hb1⟩; replace T := bt T hb1; clear hb1; clear x0 x1 x2 y0 y1 y2 r0 r1 r2 f0 f1 f2 hz; obtain ⟨⟨x0, x1, x2⟩, ⟨y0, y1, y2⟩, ⟨r0, r1, r2⟩, f0, f1, f2, hz⟩ := HC.out _ T)
            | (go_at_call 40; (with_reducible refine (OB.out _ (HE.out _ T).2).mono ?_); rintro e w2 ⟨rfl, hb2⟩; replace T := bt T hb2; clear hb2; clear x0 x1 x2 y0 y1 y2 r0 r1 r2 f0 f1 f2 hz; obtain ⟨⟨x0, x1, x2⟩, ⟨y0, y1, y2⟩, ⟨r0, r1, r2⟩, f0, f1, f2, hz⟩ := HC.out _ T)
            | (go_at_call 68; (with_reducible refine (CI.out _ (HE.out _ T)).mono ?_); rintro e w3 ⟨rfl, hb3⟩; replace T := bt T hb3; clear hb3; clear x0 x1 x2 y0 y1 y2 r0 r1 r2 f0 f1 f2 hz; obtain ⟨⟨x0, x1, x2⟩, ⟨y0, y1, y2⟩, ⟨r0, r1, r2⟩, f0, f1, f2, hz⟩ := HC.out _ T))
      exact err_retR w _ _ (show w.heap.size ≤ w.heap.size + 2 by omega) 2 (bt HBX.out.2.2.2 T) (by omega) (by simp [results, Tryd.results38, go_sem, World.cell?_setCell_same', World.cell?_setCell_other, r0, r1, r2])
    · rw [appErr5 g4]
      have g5 : ¬ ((400 : Int) < (q : Int) + (q2 : Int)) := by omega
      go_enter Tryd.func38, Tryd.ntmps38
      go_wp2_with (first
      | (go_at_call 40; (with_reducible refine (OA.out _ (HE.out _ T).1).mono ?_); rintro e w1 ⟨rfl, hb1⟩; replace T := bt T hb1; clear hb1; clear x0 x1 x2 y0 y1 y2 r0 r1 r2 f0 f1 f2 hz; obtain ⟨⟨x0, x1, x2⟩, ⟨y0, y1, y2⟩, ⟨r0, r1, r2⟩, f0, f1, f2, hz⟩ := HC.out _ T)
      | (go_at_call 40; (with_reducible refine (OB.out _ (HE.out _ T).2).mono ?_); rintro e w2 ⟨rfl, hb2⟩; replace T := bt T hb2; clear hb2; clear x0 x1 x2 y0 y1 y2 r0 r1 r2 f0 f1 f2 hz; obtain ⟨⟨x0, x1, x2⟩, ⟨y0, y1, y2⟩, ⟨r0, r1, r2⟩, f0, f1, f2, hz⟩ := HC.out _ T)
      | (go_at_call 68; (with_reducible refine (CI.out _ (HE.out _ T)).mono ?_); rintro e w3 ⟨rfl, hb3⟩; replace T := bt T hb3; clear hb3; clear x0 x1 x2 y0 y1 y2 r0 r1 r2 f0 f1 f2 hz; obtain ⟨⟨x0, x1, x2⟩, ⟨y0, y1, y2⟩, ⟨r0, r1, r2⟩, f0, f1, f2, hz⟩ := HC.out _ T))
      have HT0 := Lib.hid T
      replace T := T.drew
      clear x0 x1 x2 y0 y1 y2 r0 r1 r2 f0 f1 f2 hz
      go_region_held_law (fun w' => (w'.cell? ⟨w.heap.size, 0, none⟩ = some (.slice A n c) ∧ w'.cell? ⟨w.heap.size, 1, none⟩ = some (.slice A' m c') ∧ w'.cell? ⟨w.heap.size, 2, none⟩ = some (.slice A2 q cq)) ∧ (w'.cell? ⟨w.heap.size + 1, 0, none⟩ = some (.slice B n2 d) ∧ w'.cell? ⟨w.heap.size + 1, 1, none⟩ = some (.slice B' m2 d') ∧ w'.cell? ⟨w.heap.size + 1, 2, none⟩ = some (.slice B2 q2 dq)))
        (first | exact ⟨(HC.out _ T).1, (HC.out _ T).2.1⟩ | exact ⟨(HC.out _ (bt T (ba _ _))).1, (HC.out _ (bt T (ba _ _))).2.1⟩ | exact ⟨(HC.out _ (bt HT0.out (ba _ _).drew)).1, (HC.out _ (bt HT0.out (ba _ _).drew)).2.1⟩ | (obtain ⟨⟨x0, x1, x2⟩, ⟨y0, y1, y2⟩, _⟩ := HC.out _ T; simp [World.cell?_setCell_other, x0, x1, x2, y0, y1, y2]))
        (first
          | (go_at_call 60; (with_reducible refine (CL.out _ (HE.out _ T).1).mono ?_); rintro e wa ⟨Ba, na, Ba', na', rfl, ho1, ho2, hba⟩; have hs := (bt HBX.out.2.2.2 T).size; replace T := bt T hba; have HI := Lib.hid (And.intro (ho1.more hs) (ho2.more hs)); clear ho1 ho2 hba hs)
          | (go_at_call 60; (with_reducible refine (CL.out _ (HE.out _ (bt HT0.out (ba _ _).drew)).1).mono ?_); rintro e wa ⟨Ba, na, Ba', na', rfl, ho1, ho2, hba⟩; have hs := (bt HBX.out.2.2.2 (bt HT0.out (ba _ (.cells #[.slice A2 q cq, .slice B2 q2 dq] 26)).drew)).size; have HG := Lib.hid (Blk.below (Blk.below (ap_new w3 (.slice A2 q cq) (.slice B2 q2 dq)) (Below.refl _ _).drew) hba); clear T; have T := bt (bt HT0.out (ba w3 (.cells #[.slice A2 q cq, .slice B2 q2 dq] 26)).drew) hba; have HI := Lib.hid (And.intro (ho1.more hs) (ho2.more hs)); clear ho1 ho2 hba hs)
          | (go_at_call 84; refine (CO.out _ _ HG.out T).mono ?_; rintro e wb ⟨R, k, rfl, hes, hbb⟩; have TI := hbb; replace T := bt T hbb; have HES := Lib.hid hes; clear hes hbb)
          | (go_at_call 84; refine (CO.out _ _ (ap_new _ _ _) (bt T (ba _ _))).mono ?_; rintro e wb ⟨R, k, rfl, hes, hbb⟩; have TI := bt (ba wa _) hbb; replace T := bt (bt T (ba _ _)) hbb; have HES := Lib.hid hes; clear hes hbb)
          | (go_at_call 83; (with_reducible refine (CH.out _ _ _ HES.out).mono ?_); rintro e wd ⟨Bd, dd, Ed, rfl, hel, hcp, how, hbd⟩; have hs2 := (bt HBX.out.2.2.2 T).size; replace T := bt T hbd; replace TI := bt TI hbd; have HO : Hid (PcOw wd w.heap.size Ba n na Ba' m na' Bd (q + q2) dd C S (P ++ Q)) := ⟨HI.out.1.below TI, HI.out.2.below TI, HQP.out.1, HQP.out.2.1, by rw [List.length_append, ← HQP.out.2.2, ← HQQ.out], Ed, hel, hcp.more hs2, how.more hs2⟩; obtain ⟨_, _, ⟨r0, r1, r2⟩, f0, f1, f2, hz⟩ := HC.out _ T; clear hel hcp how hbd hs2 TI))
      all_goals
        go_wp2_with (fail)
        have hR := HBX.out.2.2.1.below T
        have hR3 := ((hR.set_ 0 (.slice Ba n na)).set_ 1 (.slice Ba' m na')).set_ 2 (.slice Bd (q + q2) dd)
        have z0 := hR3.cell 0
        have z1 := hR3.cell 1
        have z2 := hR3.cell 2
        have HR := Lib.hid hR
        clear hR hR3
        refine bodyPost_ret (v := .tuple #[pcV Ba n na Ba' m na' Bd (q + q2) dd, .int .i64 0]) ?_ rfl ?_
        · simp at z0 z1 z2
          simp [results, Tryd.results38, go_sem, z0, z1, z2]
        · refine ⟨Ba, n, na, Ba', m, na', Bd, q + q2, dd, rfl, ?_, (((bt HBX.out.2.2.2 T).setCell (p := ⟨w.heap.size + 2, 0, none⟩) (by simp) _).setCell (p := ⟨w.heap.size + 2, 1, none⟩) (by simp) _).setCell (p := ⟨w.heap.size + 2, 2, none⟩) (by simp) _⟩
          rw [oC_ok, oC_ok, oC_ok]
          exact HO.out.blkB (fun g T cs _ hT h2 => ((h2.setOther (h2.ne HR.out hT) _ _).setOther (h2.ne HR.out hT) _ _).setOther (h2.ne HR.out hT) _ _)

end Go.Proofs.YtjobablfojnppaaDoor
