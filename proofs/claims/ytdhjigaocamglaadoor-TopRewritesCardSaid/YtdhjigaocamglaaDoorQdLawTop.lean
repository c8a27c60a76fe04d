/- The law TopRewrites returns true for every piece and list of rewritings. -/
import Derived.Test.YtdhjigaocamglaaDoorQdTpR
import Derived.Test.YtdhjigaocamglaaDoorQdAp2
import Derived.Test.YtdhjigaocamglaaDoorQdRr2
import Derived.Deep.CutRange
import Derived.Deep.RegionHeld3
namespace Go.Proofs.YtdhjigaocamglaaDoor
open Go Go.RowKit

theorem scl_scl (X : List Stk) (a b : Int) : (X.map (scl a)).map (scl b) = X.map (scl (a * b)) := by
  rw [List.map_map]
  refine List.map_congr_left (fun x _ => ?_)
  simp [scl, Int.mul_assoc]
/-- The strokes and the end of two pieces, each with its factor. -/
structure TpE (P Q : List EvP) (wa zn : Int) : Prop where
  st : (skD P).map (scl wa) = (skD Q).map (scl zn)
  en : onT P P.length * wa = onT Q Q.length * zn
theorem TpE.same {P Q R : List EvP} {wa zn K : Int} {C : List Cr} {S : List Int} (h : TpE P Q wa zn) (hF : RwF K 0 C S Q R) (h5 : K ≠ 5) (h6 : K ≠ 6) : TpE P R wa zn := by
  obtain ⟨e1, e2⟩ := hF.same rfl h5 h6
  exact ⟨by rw [e1]; exact h.st, by rw [e2]; exact h.en⟩
theorem TpE.dbl {P Q R : List EvP} {wa zn : Int} {C : List Cr} {S : List Int} (h : TpE P Q wa zn) (hF : RwF 5 0 C S Q R) : TpE P R (wa * 2) zn := by
  obtain ⟨e1, e2⟩ := hF.dbl rfl rfl
  refine ⟨?_, ?_⟩
  · rw [e1, scl_scl, Int.mul_comm 2 zn, ← scl_scl, ← scl_scl, h.st]
  · rw [e2, ← Int.mul_assoc, h.en, Int.mul_assoc, Int.mul_assoc, Int.mul_comm zn 2]
theorem TpE.hlv {P Q R : List EvP} {wa zn : Int} {C : List Cr} {S : List Int} (h : TpE P Q wa zn) (hF : RwF 6 0 C S Q R) : TpE P R wa (zn * 2) := by
  obtain ⟨e1, e2⟩ := hF.hlv rfl rfl
  refine ⟨?_, ?_⟩
  · rw [h.st, e1, scl_scl, Int.mul_comm 2 zn]
  · rw [h.en, e2, Int.mul_assoc, Int.mul_comm 2 zn]
theorem TpE.stL {P Q : List EvP} {wa zn : Int} (h : TpE P Q wa zn) : stL wa P = stL zn Q := by
  rw [stL_sk, stL_sk, h.st, h.en]
theorem pairs_len (L : List St) : (L.flatMap fun s => [s.c, s.f]).length = 2 * L.length := by
  induction L with
  | nil => rfl
  | cons s r ih => simp at ih ⊢; omega
theorem stP_len {f : Int} {P : List EvP} (h : ∀ k, k < P.length → (P.getD k z6).L.length ≤ 14) : ∀ k, k ≤ P.length → (stP f P k).length ≤ 30 * k
  | 0, _ => by simp [stP, pre]
  | k + 1, hk => by
    have ih := stP_len (f := f) h k (by omega)
    have h1 := h k (by omega)
    by_cases h0 : (P.getD k z6).L.length = 0
    · rw [stP_none h0]; omega
    · rw [stP_some h0, List.length_append, List.length_append, pairs_len]
      simp only [List.length_cons, List.length_nil]
      omega
theorem stL_len {f : Int} {P : List EvP} (h : ∀ y ∈ P, y.L.length ≤ 14) : (stL f P).length ≤ 30 * P.length + 1 := by
  have := stP_len (f := f) (P := P) (fun k hk => h _ (by rw [List.getD_eq_getElem?_getD, List.getElem?_eq_getElem hk]; exact List.getElem_mem hk)) P.length (Nat.le_refl _)
  unfold stL
  rw [List.length_append]
  simp only [List.length_cons, List.length_nil]
  omega
def pw : Nat → Int
  | 0 => 1
  | k + 1 => pw k * 2
theorem pw_le : ∀ k, k < 9 → pw k ≤ 256 := by decide
theorem Sl_blk {W : World} {b : Nat} {T : TypeId} {cs : Array Value} (h : Blk W b T cs) (size n : Nat) (hs : cs.size = n * size) : Sl W W.heap.size size (some ⟨b, 0, none⟩) n n cs.toList :=
  ⟨Nat.le_refl _, by simpa using hs, fun _ => ⟨b, 0, rfl, h.lt, fun j u hu => by rw [Nat.zero_add, h.cell j]; simpa using hu⟩⟩
abbrev oneC : List Cr := [⟨60, 0, false⟩]
abbrev oneP : List EvP := [⟨false, 4, false, false, false, [⟨1, 0, 0, 0, 0⟩]⟩]
theorem one_in {W : World} {a s e : Nat} (ha : Blk W a 60 #[.int .i64 60, .int .i64 0, .bool false]) (hs : Blk W s 62 #[.int .i64 1, .int .i64 0, .int .i64 0, .int .i64 0, .int .i64 0])
    (he : Blk W e 51 #[.bool false, .int .i64 4, .bool false, .bool false, .bool false, .slice (some ⟨s, 0, none⟩) 1 1]) : PcIn W (some ⟨a, 0, none⟩) 1 1 none 0 0 (some ⟨e, 0, none⟩) 1 1 oneC [] oneP :=
  ⟨Sl_blk ha 3 1 rfl, Sl.none_ _ _ _, rfl, rfl, rfl, [⟨false, 4, false, false, false, some ⟨s, 0, none⟩, 1, 1⟩], ⟨rfl, fun k x y hx hy => by
    cases k with
    | zero =>
      simp at hx hy
      subst hx hy
      exact ⟨⟨rfl, rfl, rfl, rfl, rfl, rfl⟩, Sl_blk hs 5 1 rfl⟩
    | succ k => simp at hx⟩, Sl_blk he 6 1 rfl⟩
theorem sameTop_two (A B : Option Addr) (n c n2 d : Nat) (L : List Int) (w : World) (hA : Sl w w.heap.size 1 A n c (intC L)) (hB : Sl w w.heap.size 1 B n2 d (intC L)) (hn : n = L.length) (hn2 : n2 = L.length) (hb : n ≤ 9223372036854775807) :
    Calls Tryd.prog 31 #[.slice A n c, .slice B n2 d] w fun e w' => e = .returned (.bool true) ∧ Below w.heap.size w w' := by
  obtain rfl := hn.trans hn2.symm
  exact sameTop_eq A B n c d L w hA hB hn hb
theorem one_ok : pcErr oneC [] oneP = 0 := by decide
theorem one_err : brErr 0 24 oneP = 0 := by decide
theorem one_two : (brRes 24 oneP).length = 2 := by decide

theorem PcOw.tpPc {w : World} {b : Nat} {A A' A2 : Option Addr} {n c m c' q cq : Nat} {C : List Cr} {S : List Int} {P : List EvP} (h : PcOw w b A n c A' m c' A2 q cq C S P) {g : Nat} {cs : Array Value} (hb : Blk w g 28 cs) (i : Nat) (u : Value) : PcOw (w.setCell ⟨g, i, none⟩ u) b A n c A' m c' A2 q cq C S P :=
  h.blkB (fun _ _ _ _ hT h2 => h2.setOther (h2.ne hb hT) _ _)
/-- A box with a piece of its own. -/
def TopR (W2 : World) (wx : World) (g7 : Nat) (Bb : Option Addr) (nb db : Nat) (Bb' : Option Addr) (mb db' : Nat) (Bb2 : Option Addr) (qb db2 : Nat) (C : List Cr) (S : List Int) (P : List EvP) : Prop :=
  Blk wx g7 28 #[.slice Bb nb db, .slice Bb' mb db', .slice Bb2 qb db2] ∧ (∃ b1, PcOw wx b1 Bb nb db Bb' mb db' Bb2 qb db2 C S P) ∧ W2.heap.size ≤ g7 ∧ Below W2.heap.size W2 wx
theorem top_leaf {W2 wx : World} {g7 b1 : Nat} {v0 v1 v2 : Value} {Bb : Option Addr} {nb db : Nat} {Bb' : Option Addr} {mb db' : Nat} {Bb2 : Option Addr} {qb db2 : Nat} {C : List Cr} {S : List Int} {P : List EvP}
    (lo7 : W2.heap.size ≤ g7) (bk7 : Blk wx g7 28 #[v0, v1, v2]) (hpa : PcOw wx b1 Bb nb db Bb' mb db' Bb2 qb db2 C S P) (hs : Below W2.heap.size W2 wx) :
    TopR W2 (((wx.setCell ⟨g7, 0, none⟩ (.slice Bb nb db)).setCell ⟨g7, 1, none⟩ (.slice Bb' mb db')).setCell ⟨g7, 2, none⟩ (.slice Bb2 qb db2)) g7 Bb nb db Bb' mb db' Bb2 qb db2 C S P := by
  have a1 := bk7.set_ 0 (.slice Bb nb db)
  have a2 := a1.set_ 1 (.slice Bb' mb db')
  have a3 := a2.set_ 2 (.slice Bb2 qb db2)
  exact ⟨by simpa using a3, ⟨b1, ((hpa.tpPc bk7 0 (.slice Bb nb db)).tpPc a1 1 (.slice Bb' mb db')).tpPc a2 2 (.slice Bb2 qb db2)⟩, lo7, ((hs.setCell (p := ⟨g7, 0, none⟩) lo7 _).setCell (p := ⟨g7, 1, none⟩) lo7 _).setCell (p := ⟨g7, 2, none⟩) lo7 _⟩

set_option maxRecDepth 100000 in
set_option maxHeartbeats 16000000 in
theorem law_top (A : Option Addr) (n c : Nat) (A' : Option Addr) (m c' : Nat) (A2 : Option Addr) (q cq : Nat) (C : List Cr) (S : List Int) (P : List EvP) (As : Option Addr) (ns cs : Nat) (Z : List (Int × Int)) (w : World) (hT : SgT w) (hP : PcIn w A n c A' m c' A2 q cq C S P)
    (hLm : ∀ y ∈ P, y.L.length ≤ maxLen) (hZ : Sl w w.heap.size 2 As ns cs (rwC Z)) (hz : ns = Z.length) (hk0 : ∀ x ∈ Z, 0 ≤ x.1) :
    Calls Tryd.prog 7 #[pcV A n c A' m c' A2 q cq, .slice As ns cs] w fun e w' => e = .returned (.bool true) ∧ Below w.heap.size w w' := by
  have HE : Hid (∀ w', Below (w.alloc (pcO A n c A' m c' A2 q cq)).heap.size (w.alloc (pcO A n c A' m c' A2 q cq)) w' → SgT w' ∧ PcIn w' A n c A' m c' A2 q cq C S P ∧ Sl w' w'.heap.size 2 As ns cs (rwC Z)) :=
    fun w' h => ⟨(hT.below (ba _ _)).below h, (hP.below (ba _ _)).below h, (hZ.below (ba _ _)).below h⟩
  have HL9 : Hid (∀ y ∈ P, y.L.length ≤ 9223372036854775807) := fun y hy => Nat.le_trans (hLm y hy) (by decide)
  have HW1 : Hid (Below (w.alloc (pcO A n c A' m c' A2 q cq)).heap.size (w.alloc (pcO A n c A' m c' A2 q cq)) ((((((w.alloc (pcO A n c A' m c' A2 q cq))).alloc (.cells #[.int .i64 60, .int .i64 0, .bool false] 60)).alloc (.cells #[.int .i64 1, .int .i64 0, .int .i64 0, .int .i64 0, .int .i64 0] 62)).alloc (.cells #[.bool false, .int .i64 4, .bool false, .bool false, .bool false, .slice (some ⟨w.heap.size + 1 + 1, 0, none⟩) 1 1] 51)).alloc (pcO (some ⟨w.heap.size + 1, 0, none⟩) 1 1 none 0 0 (some ⟨w.heap.size + 1 + 1 + 1, 0, none⟩) 1 1))) := bt (bt (ba _ _) (ba _ _)) (bt (ba _ _) (ba _ _))
  have HON : Hid (PcIn ((((((w.alloc (pcO A n c A' m c' A2 q cq))).alloc (.cells #[.int .i64 60, .int .i64 0, .bool false] 60)).alloc (.cells #[.int .i64 1, .int .i64 0, .int .i64 0, .int .i64 0, .int .i64 0] 62)).alloc (.cells #[.bool false, .int .i64 4, .bool false, .bool false, .bool false, .slice (some ⟨w.heap.size + 1 + 1, 0, none⟩) 1 1] 51)).alloc (pcO (some ⟨w.heap.size + 1, 0, none⟩) 1 1 none 0 0 (some ⟨w.heap.size + 1 + 1 + 1, 0, none⟩) 1 1)) (some ⟨w.heap.size + 1, 0, none⟩) 1 1 none 0 0 (some ⟨w.heap.size + 1 + 1 + 1, 0, none⟩) 1 1 oneC [] oneP ∧ SgT ((((((w.alloc (pcO A n c A' m c' A2 q cq))).alloc (.cells #[.int .i64 60, .int .i64 0, .bool false] 60)).alloc (.cells #[.int .i64 1, .int .i64 0, .int .i64 0, .int .i64 0, .int .i64 0] 62)).alloc (.cells #[.bool false, .int .i64 4, .bool false, .bool false, .bool false, .slice (some ⟨w.heap.size + 1 + 1, 0, none⟩) 1 1] 51)).alloc (pcO (some ⟨w.heap.size + 1, 0, none⟩) 1 1 none 0 0 (some ⟨w.heap.size + 1 + 1 + 1, 0, none⟩) 1 1))) := by
    refine ⟨one_in (s := w.heap.size + 1 + 1) ?_ ?_ ?_, (HE.out _ HW1.out).1⟩
    · have := heap_alloc_new (w.alloc (pcO A n c A' m c' A2 q cq)) (.cells #[.int .i64 60, .int .i64 0, .bool false] 60)
      rw [World.size_alloc] at this
      exact Blk.below (Blk.below (Blk.below this (ba _ (.cells #[.int .i64 1, .int .i64 0, .int .i64 0, .int .i64 0, .int .i64 0] 62))) (ba _ (.cells #[.bool false, .int .i64 4, .bool false, .bool false, .bool false, .slice (some ⟨w.heap.size + 1 + 1, 0, none⟩) 1 1] 51))) (ba _ _)
    · have := heap_alloc_new ((w.alloc (pcO A n c A' m c' A2 q cq)).alloc (.cells #[.int .i64 60, .int .i64 0, .bool false] 60)) (.cells #[.int .i64 1, .int .i64 0, .int .i64 0, .int .i64 0, .int .i64 0] 62)
      rw [World.size_alloc, World.size_alloc] at this
      exact Blk.below (Blk.below this (ba _ (.cells #[.bool false, .int .i64 4, .bool false, .bool false, .bool false, .slice (some ⟨w.heap.size + 1 + 1, 0, none⟩) 1 1] 51))) (ba _ _)
    · have := heap_alloc_new (((w.alloc (pcO A n c A' m c' A2 q cq)).alloc (.cells #[.int .i64 60, .int .i64 0, .bool false] 60)).alloc (.cells #[.int .i64 1, .int .i64 0, .int .i64 0, .int .i64 0, .int .i64 0] 62)) (.cells #[.bool false, .int .i64 4, .bool false, .bool false, .bool false, .slice (some ⟨w.heap.size + 1 + 1, 0, none⟩) 1 1] 51)
      rw [World.size_alloc, World.size_alloc, World.size_alloc] at this
      exact Blk.below this (ba _ _)
  have BR : Hid (∀ w', PcIn w' (some ⟨w.heap.size + 1, 0, none⟩) 1 1 none 0 0 (some ⟨w.heap.size + 1 + 1 + 1, 0, none⟩) 1 1 oneC [] oneP ∧ SgT w' → Calls Tryd.prog 21 #[pcV (some ⟨w.heap.size + 1, 0, none⟩) 1 1 none 0 0 (some ⟨w.heap.size + 1 + 1 + 1, 0, none⟩) 1 1, .int .i64 24] w' (PcRes 0 oneC [] (brRes 24 oneP) w')) := fun w' h => by
    have := break_any (some ⟨w.heap.size + 1, 0, none⟩) 1 1 none 0 0 (some ⟨w.heap.size + 1 + 1 + 1, 0, none⟩) 1 1 oneC [] oneP 24 w' h.1 h.2 (by decide) (by decide) (by decide) (by intro y hy; simp at hy; subst hy; decide)
    rwa [one_ok, one_err] at this
  unfold PcRes at BR
  have HQ := Lib.hid hP.es.hq
  have HZL := Lib.hid hz
  have HZ0 := Lib.hid hk0
  clear hT hP hLm hZ hz hk0
  cases hsb : smB n m C S P with
  | false =>
    have HSB := Lib.hid hsb
    clear hsb
    go_enter Tryd.func7, Tryd.ntmps7
    go_wp2_with (first
      | (go_at_call 21; (with_reducible refine (BR.out _ HON.out).mono ?_); rintro e wb ⟨B1, n1, d1, B1', m1, d1', B12, q1, d12, rfl, hO1, hb1⟩; have hq1 := hO1.hq; rw [oC_ok, one_two] at hq1; subst hq1; have T := bt HW1.out (bt hb1 (ba wb (pcO B1 n1 d1 B1' m1 d1' B12 2 d12))); clear hO1 hb1; obtain ⟨x0, x1, x2⟩ := cell3 T)
      | (go_at_call 29; refine (small_any A n c A' m c' A2 q cq C S P _ (HE.out _ T).2.1 HL9.out).mono ?_; rintro e ws ⟨rfl, hbs⟩; rw [HSB.out]; replace T := bt T hbs; clear hbs; clear x0 x1 x2; obtain ⟨x0, x1, x2⟩ := cell3 T))
    go_ret
    exact ⟨rfl, bx T⟩
  | true =>
    have HSB := Lib.hid hsb
    by_cases h8 : 8 < ns
    · have h8' : (8 : Int) < (ns : Int) := by omega
      clear hsb
      go_enter Tryd.func7, Tryd.ntmps7
      go_wp2_with (first
        | (go_at_call 21; (with_reducible refine (BR.out _ HON.out).mono ?_); rintro e wb ⟨B1, n1, d1, B1', m1, d1', B12, q1, d12, rfl, hO1, hb1⟩; have hq1 := hO1.hq; rw [oC_ok, one_two] at hq1; subst hq1; have T := bt HW1.out (bt hb1 (ba wb (pcO B1 n1 d1 B1' m1 d1' B12 2 d12))); clear hO1 hb1; obtain ⟨x0, x1, x2⟩ := cell3 T)
        | (go_at_call 29; refine (small_any A n c A' m c' A2 q cq C S P _ (HE.out _ T).2.1 HL9.out).mono ?_; rintro e ws ⟨rfl, hbs⟩; rw [HSB.out]; replace T := bt T hbs; clear hbs; clear x0 x1 x2; obtain ⟨x0, x1, x2⟩ := cell3 T))
      go_ret
      exact ⟨rfl, bx T⟩
    have h8' : ¬ (8 : Int) < (ns : Int) := by omega
    simp only [smB, Bool.and_eq_true, decide_eq_true_eq] at hsb
    obtain ⟨⟨⟨l1, l2⟩, l3⟩, hX⟩ := hsb
    have l1q : q ≤ 40 := by have := HQ.out; omega
    have HX := Lib.hid hX
    have HST : Hid (∀ y ∈ P, y.L.length ≤ 14) := tp_evLen hX
    have CC := Lib.hid (fun w' (h : PcIn w' A n c A' m c' A2 q cq C S P) => pcopyO_any A n c A' m c' A2 q cq C S P w' h (by omega) (by omega) (by omega) (fun y hy => Nat.le_trans (HST.out y hy) (by decide)))
    clear hX l1
    go_enter Tryd.func7, Tryd.ntmps7
    go_wp2_with (first
      | (go_at_call 21; (with_reducible refine (BR.out _ HON.out).mono ?_); rintro e wb ⟨B1, n1, d1, B1', m1, d1', B12, q1, d12, rfl, hO1, hb1⟩; have hq1 := hO1.hq; rw [oC_ok, one_two] at hq1; subst hq1; have T := bt HW1.out (bt hb1 (ba wb (pcO B1 n1 d1 B1' m1 d1' B12 2 d12))); clear hO1 hb1; obtain ⟨x0, x1, x2⟩ := cell3 T)
      | (go_at_call 29; refine (small_any A n c A' m c' A2 q cq C S P _ (HE.out _ T).2.1 HL9.out).mono ?_; rintro e ws ⟨rfl, hbs⟩; rw [HSB.out]; replace T := bt T hbs; clear hbs; clear x0 x1 x2; obtain ⟨x0, x1, x2⟩ := cell3 T)
      | (go_at_call 10; refine (CC.out _ (HE.out _ T).2.1).mono ?_; rintro e wy ⟨B, d, B', d', B2, d2, E, rfl, hPc, hbc⟩; have TC := Lib.hid (bt T hbc); have HPc := Lib.hid (hPc.pcOw.below (ba wy (pcO B n d B' m d' B2 q d2))); have HBq := Lib.hid (heap_alloc_new wy (pcO B n d B' m d' B2 q d2)); replace T := bt TC.out (ba wy (pcO B n d B' m d' B2 q d2)); clear hPc hbc; clear x0 x1 x2; obtain ⟨x0, x1, x2⟩ := cell3 T))
    obtain ⟨gq, hgq⟩ : ∃ g, wy.heap.size = g := ⟨_, rfl⟩
    obtain ⟨W2, hW2⟩ : ∃ x, World.alloc wy (pcO B n d B' m d' B2 q d2) = x := ⟨_, rfl⟩
    have HGQ : Hid (wy.heap.size ≤ gq) := Nat.le_of_eq hgq
    have TW : Hid (Below wy.heap.size wy W2) := by unfold Hid; rw [← hW2]; exact ba _ _
    rw [hW2] at HPc HBq ⊢
    rw [hgq] at HBq ⊢
    clear hW2 hgq T x0 x1 x2
    go_loopw [11, 9, 10, 12, 13] (fun i a z _ _ wr => ∃ (k : Nat) (wa zn : Int) (Q : List EvP) (b1 : Nat) (B : Option Addr) (n1 d : Nat) (B' : Option Addr) (m1 d' : Nat) (B2 : Option Addr) (q1 d2 : Nat), k ≤ ns ∧ i = .int .i64 k ∧ a = .int .i64 wa ∧ z = .int .i64 zn ∧ (1 ≤ wa ∧ wa ≤ pw k ∧ 1 ≤ zn ∧ zn ≤ pw k) ∧ Blk wr gq 28 #[.slice B n1 d, .slice B' m1 d', .slice B2 q1 d2] ∧ PcOw wr b1 B n1 d B' m1 d' B2 q1 d2 C S Q ∧ Hid (pcErr C S Q = 0) ∧ Hid (TpE P Q wa zn) ∧ Below wy.heap.size wy wr) (fun i _ _ _ _ _ => ns - (intOf i).toNat)
    case atStart => exact ⟨0, 1, 1, P, _, B, n, d, B', m, d', B2, q, d2, by omega, rfl, rfl, rfl, ⟨by decide, by decide, by decide, by decide⟩, HBq.out, HPc.out, HX.out, ⟨rfl, rfl⟩, TW.out⟩
    case round =>
      obtain ⟨k, wa, zn, Q, b1, Bq, n1, dq, Bq', m1, dq', Bq2, q1, dq2, hk, rfl, rfl, rfl, ⟨hw1, hw2, hz1, hz2⟩, hBk, hOw, HXQ, HTE, hlo⟩ := hrel
      have HBk := Lib.hid hBk
      have HOw := Lib.hid hOw
      have HLO := Lib.hid hlo
      obtain ⟨v1, v2, v3, v4⟩ := vb_bds hOw.pcIn HXQ.out
      have HV4 := Lib.hid v4
      clear hBk hOw hlo v4
      by_cases hlt : k < ns
      · have hkn : (k : Int) < (ns : Int) := by omega
        have hp8 := pw_le (k + 1) (by omega)
        have hp9 : pw (k + 1) = pw k * 2 := rfl
        obtain ⟨bs, os, rfl, hbs, hcs⟩ := (HE.out _ TC.out).2.2.2.2 (by omega)
        obtain ⟨i0, i1⟩ := rwC_at Z k (by have := HZL.out; omega)
        have hkd : 0 ≤ (Z.getD k (0, 0)).1 := HZ0.out _ (by have : k < Z.length := (by have := HZL.out; omega); rw [List.getD_eq_getElem?_getD, List.getElem?_eq_getElem this]; exact List.getElem_mem this)
        have s0 := hcs _ _ i0
        have s1 := hcs _ _ i1
        rw [← Nat.add_assoc] at s1
        clear hcs i0 i1
        generalize Z.getD k (0, 0) = x at *
        obtain ⟨kd, bb⟩ := x
        dsimp only at s0 s1 hkd
        have CQ : Hid (∀ w', PcIn w' Bq n1 dq Bq' m1 dq' Bq2 q1 dq2 C S Q → Calls Tryd.prog 10 #[pcV Bq n1 dq Bq' m1 dq' Bq2 q1 dq2] w' fun e w2 => ∃ F f F' f' F2 f2, e = .returned (pcV F n1 f F' m1 f' F2 q1 f2) ∧ PcIn w2 F n1 f F' m1 f' F2 q1 f2 C S Q ∧ Below w'.heap.size w' w2) := fun w' h => pcopy_any Bq n1 dq Bq' m1 dq' Bq2 q1 dq2 C S Q w' h (by omega) (by omega) (by omega) (fun y hy => Nat.le_trans (HV4.out y hy) (by decide))
        obtain ⟨K, hK⟩ : ∃ K, kd % 7 = K := ⟨_, rfl⟩
        have hT7 : kd.tmod 7 = K := by rw [Int.tmod_eq_emod_of_nonneg hkd]; exact hK
        have RW : Hid (∀ (F : Option Addr) (f : Nat) (F' : Option Addr) (f' : Nat) (F2 : Option Addr) (f2 : Nat) w', PcIn w' F n1 f F' m1 f' F2 q1 f2 C S Q → SgT w' → Calls Tryd.prog 30 #[pcV F n1 f F' m1 f' F2 q1 f2, .agg #[.int .u8 kd, .int .i64 bb]] w' (RwPt K C S Q w')) := fun F f F' f' F2 f2 w' h hs => by
          have := rewritten_any F n1 f F' m1 f' F2 q1 f2 C S Q kd bb hkd w' h HXQ.out hs
          rwa [hK] at this
        have hK7 : 0 ≤ K ∧ K < 7 := by omega
        clear hK
        unfold RwPt PcRes at RW
        have HP0 : Hid (∀ w', Below wr.heap.size wr w' → SgT w' ∧ PcIn w' Bq n1 dq Bq' m1 dq' Bq2 q1 dq2 C S Q) := fun w' h => ⟨(HE.out _ (bt TC.out (bt HLO.out h))).1, HOw.out.pcIn.below h⟩
        have hbk := HBk.out.lt
        have HC0 : Hid (∀ w', Below wr.heap.size wr w' → (w'.cell? ⟨gq, 0, none⟩ = some (.slice Bq n1 dq) ∧ w'.cell? ⟨gq, 1, none⟩ = some (.slice Bq' m1 dq') ∧ w'.cell? ⟨gq, 2, none⟩ = some (.slice Bq2 q1 dq2)) ∧ w'.cell? ⟨bs, os + k * 2, none⟩ = some (.int .u8 kd) ∧ w'.cell? ⟨bs, os + k * 2 + 1, none⟩ = some (.int .i64 bb)) := fun w' h => ⟨ap_cells (HBk.out.below h), cell_same ((bt HLO.out h).block bs hbs) s0, cell_same ((bt HLO.out h).block bs hbs) s1⟩
        have hbg : bs < gq := Nat.lt_of_lt_of_le hbs HGQ.out
        have hbg1 : bs ≠ gq := by omega
        have hbg2 : gq ≠ bs := by omega
        clear s0 s1
        obtain ⟨⟨x0, x1, x2⟩, s0, s1⟩ := HC0.out _ (Below.refl _ _)
        go_wp2_with (fail)
        obtain ⟨W2, hW2⟩ : ∃ x : World, x = wr := ⟨_, rfl⟩
        subst hW2
        go_cut [12, 13] from 52 to 61 (fun s7 s8 wx => ∃ g7 er R Bb nb db Bb' mb db' Bb2 qb db2, s7 = .pointer (some ⟨g7, 0, none⟩) ∧ s8 = .int .i64 er ∧ Hid (RwF K er C S Q R) ∧ Hid (TopR W2 wx g7 Bb nb db Bb' mb db' Bb2 qb db2 (oC er C) (oC er S) (oC er R)))
        case first =>
          have hs : Below W2.heap.size W2 W2.drew := (Below.refl _ _).drew
          refine wp_region_held_drew (S := fun w' => Below W2.heap.size W2 w') (by kernel_rfl) hs (fun hHeld => ?_)
          change wpAnyH _ _ _ _ _ 13 #[false, false, false, false, false, false, false, false, false, false, false, false, false] _ _
          refine wpAnyH_take (i := 0) (v := ?_) rfl (by kernel_rfl) (by kernel_rfl) (by kernel_rfl) (fun _ _ _ h => h) (Or.inl ⟨by rfl, ?_⟩) (by assumption) ?_
          rotate_left
          · intro w' hSw
            obtain ⟨⟨x0, x1, x2⟩, s0, s1⟩ := HC0.out _ hSw
            go_simp
            try with_reducible rfl
          (try simp only [Act.put, List.getElem_toArray, List.getElem_cons_zero, List.setIfInBounds_toArray, List.set_cons_zero, List.set_cons_succ])
          refine wpAnyH_take (i := 2) (v := ?_) rfl (by kernel_rfl) (by kernel_rfl) (by kernel_rfl) (fun _ _ _ h => h) (Or.inl ⟨by rfl, ?_⟩) (by assumption) ?_
          rotate_left
          · intro w' hSw
            obtain ⟨⟨x0, x1, x2⟩, s0, s1⟩ := HC0.out _ hSw
            go_simp
            try with_reducible rfl
          (try simp only [Act.put, List.getElem_toArray, List.getElem_cons_succ, List.getElem_cons_zero, List.setIfInBounds_toArray, List.set_cons_zero, List.set_cons_succ])
          refine wpAnyH_take (i := 3) (v := ?_) rfl (by kernel_rfl) (by kernel_rfl) (by kernel_rfl) (fun _ _ _ h => h) (Or.inl ⟨by rfl, ?_⟩) (by assumption) ?_
          rotate_left
          · intro w' hSw
            obtain ⟨⟨x0, x1, x2⟩, s0, s1⟩ := HC0.out _ hSw
            go_simp
            try with_reducible rfl
          (try simp only [Act.put, List.getElem_toArray, List.getElem_cons_succ, List.getElem_cons_zero, List.setIfInBounds_toArray, List.set_cons_zero, List.set_cons_succ])
          refine wpAnyH_take (i := 4) (v := ?_) rfl (by kernel_rfl) (by kernel_rfl) (by kernel_rfl) (fun _ _ _ h => h) (Or.inl ⟨by rfl, ?_⟩) (by assumption) ?_
          rotate_left
          · intro w' hSw
            obtain ⟨⟨x0, x1, x2⟩, s0, s1⟩ := HC0.out _ hSw
            go_simp
            try with_reducible rfl
          (try simp only [Act.put, List.getElem_toArray, List.getElem_cons_succ, List.getElem_cons_zero, List.setIfInBounds_toArray, List.set_cons_zero, List.set_cons_succ])
          refine wpAnyH_take (i := 5) (v := ?_) rfl (by kernel_rfl) (by kernel_rfl) (by kernel_rfl) (fun _ _ _ h => h) (Or.inl ⟨by rfl, ?_⟩) (by assumption) ?_
          rotate_left
          · intro w' hSw
            obtain ⟨⟨x0, x1, x2⟩, s0, s1⟩ := HC0.out _ hSw
            go_simp
            try with_reducible rfl
          (try simp only [Act.put, List.getElem_toArray, List.getElem_cons_succ, List.getElem_cons_zero, List.setIfInBounds_toArray, List.set_cons_zero, List.set_cons_succ])
          clear hHeld
          obtain ⟨W_0, hW_0⟩ : ∃ W, W2.drew = W := ⟨_, rfl⟩
          rw [hW_0] at hs ⊢
          clear hW_0
          refine wpAnyH_ready (rs := [1, 10]) (by kernel_rfl) (by simp) ?_
          refine AllReadyH.cons rfl (fun K_ hK => ?_) ?_
          · go_simp
            go_wp2_with (go_at_call 10; (with_reducible refine (CQ.out W_0 (HP0.out _ hs).2).mono ?_); rintro e W_1 ⟨Bc1, dc1, Bc1', dc1', Bc12, dc12, rfl, hp1, hst⟩)
            refine hK.out _ _ (bt hs hst) (fun hHeld => ?_)
            clear hK K_
            (try simp only [List.setIfInBounds_toArray, List.set_cons_zero, List.set_cons_succ])
            have hsn := bt hs hst
            clear hs hHeld
            have hs := hsn
            clear hsn hst
            refine wpAnyH_ready (rs := [6, 10]) (by kernel_rfl) (by simp) ?_
            refine AllReadyH.cons rfl (fun K_ hK => ?_) ?_
            · go_simp
              go_wp2_with (go_at_call 30; (with_reducible refine (RW.out _ _ _ _ _ _ W_1 hp1 (HP0.out _ hs).1).mono ?_); rintro e W_2 ⟨er, R, hF, Bb, nb, db, Bb', mb, db', Bb2, qb, db2, rfl, hpo, hst⟩)
              refine hK.out _ _ (bt hs hst) (fun hHeld => ?_)
              clear hK K_
              (try simp only [List.setIfInBounds_toArray, List.set_cons_zero, List.set_cons_succ])
              replace hp1 := hp1.below hst
              have hsn := bt hs hst
              clear hs hHeld hp1
              have hs := hsn
              clear hsn hst
              refine wpAnyH_take (i := 7) (v := ?_) rfl (by kernel_rfl) (by kernel_rfl) (by kernel_rfl) (fun _ _ _ h => h) (Or.inl ⟨by rfl, ?_⟩) (by assumption) ?_
              rotate_left
              · intro w' hSw
                obtain ⟨⟨x0, x1, x2⟩, s0, s1⟩ := HC0.out _ hSw
                go_simp
                try with_reducible rfl
              (try simp only [Act.put, List.getElem_toArray, List.getElem_cons_succ, List.getElem_cons_zero, List.setIfInBounds_toArray, List.set_cons_zero, List.set_cons_succ])
              refine wpAnyH_take (i := 8) (v := ?_) rfl (by kernel_rfl) (by kernel_rfl) (by kernel_rfl) (fun _ _ _ h => h) (Or.inl ⟨by rfl, ?_⟩) (by assumption) ?_
              rotate_left
              · intro w' hSw
                obtain ⟨⟨x0, x1, x2⟩, s0, s1⟩ := HC0.out _ hSw
                go_simp
                try with_reducible rfl
              (try simp only [Act.put, List.getElem_toArray, List.getElem_cons_succ, List.getElem_cons_zero, List.setIfInBounds_toArray, List.set_cons_zero, List.set_cons_succ])
              refine wpAnyH_take (i := 9) (v := ?_) rfl (by kernel_rfl) (by kernel_rfl) (by kernel_rfl) (fun _ _ _ h => h) (Or.inl ⟨by rfl, ?_⟩) (by assumption) ?_
              rotate_left
              · intro w' hSw
                obtain ⟨⟨x0, x1, x2⟩, s0, s1⟩ := HC0.out _ hSw
                go_simp
                try with_reducible rfl
              (try simp only [Act.put, List.getElem_toArray, List.getElem_cons_succ, List.getElem_cons_zero, List.setIfInBounds_toArray, List.set_cons_zero, List.set_cons_succ])
              refine wpAnyH_ready (rs := [10]) (by kernel_rfl) (by simp) ?_
              refine AllReadyH.cons rfl (fun K_ hK => ?_) ?_
              · go_simp
                refine hK.out _ _ (bt hs (ba _ _)) (fun hHeld => ?_)
                clear hK K_
                (try simp only [List.setIfInBounds_toArray, List.set_cons_zero, List.set_cons_succ])
                have nb7 := heap_alloc_new W_2 zPcO
                have lo7 := hs.size
                have hsn := bt hs (ba W_2 zPcO)
                have hst := ba W_2 zPcO
                replace hpo := hpo.below hst
                obtain ⟨g7, hg7⟩ : ∃ g, W_2.heap.size = g := ⟨_, rfl⟩
                obtain ⟨W_3, hW⟩ : ∃ W, W_2.alloc zPcO = W := ⟨_, rfl⟩
                rw [hW] at nb7 hsn hpo ⊢
                rw [hg7] at nb7 lo7 ⊢
                have bk7 : Blk W_3 g7 28 #[.slice none 0 0, .slice none 0 0, .slice none 0 0] := nb7
                clear nb7 hst hs hHeld
                have hs := hsn
                clear hsn hW hg7
                have c50 := bk7.cell 0
                have c51 := bk7.cell 1
                have c52 := bk7.cell 2
                have f50 := bk7.frozen 0
                have f51 := bk7.frozen 1
                have f52 := bk7.frozen 2
                simp at c50 c51 c52
                have HLF := Lib.hid (top_leaf lo7 bk7 hpo hs)
                refine wpAnyH_ready (rs := [11]) (by kernel_rfl) (by simp) ?_
                refine AllReadyH.cons rfl (fun K_ hK => ?_) ?_
                · go_simp
                  refine hK.out _ _ HLF.out.2.2.2 (fun hHeld => ?_)
                  clear hK K_
                  (try simp only [List.setIfInBounds_toArray, List.set_cons_zero, List.set_cons_succ])
                  refine wpAnyH_ready (rs := [12]) (by kernel_rfl) (by simp) ?_
                  refine AllReadyH.cons rfl (fun K_ hK => ?_) ?_
                  · go_simp
                    refine hK.out _ _ HLF.out.2.2.2 (fun hHeld => ?_)
                    clear hK K_
                    (try simp only [List.setIfInBounds_toArray, List.set_cons_zero, List.set_cons_succ])
                    refine wpAnyH_done (by kernel_rfl) ?_ _
                    go_wp2_with (fail)
                    go_meet
                    exact ⟨g7, er, R, Bb, nb, db, Bb', mb, db', Bb2, qb, db2, rfl, rfl, hF, HLF.out⟩
                  exact AllReadyH.nil
                exact AllReadyH.nil
              exact AllReadyH.nil
            refine AllReadyH.cons rfl (fun K_ hK => ?_) ?_
            · go_simp
              refine hK.out _ _ (bt hs (ba _ _)) (fun hHeld => ?_)
              clear hK K_
              (try simp only [List.setIfInBounds_toArray, List.set_cons_zero, List.set_cons_succ])
              have nb7 := heap_alloc_new W_1 zPcO
              have lo7 := hs.size
              have hsn := bt hs (ba W_1 zPcO)
              have hst := ba W_1 zPcO
              replace hp1 := hp1.below hst
              obtain ⟨g7, hg7⟩ : ∃ g, W_1.heap.size = g := ⟨_, rfl⟩
              obtain ⟨W_2, hW⟩ : ∃ W, W_1.alloc zPcO = W := ⟨_, rfl⟩
              rw [hW] at nb7 hsn hp1 ⊢
              rw [hg7] at nb7 lo7 ⊢
              have bk7 : Blk W_2 g7 28 #[.slice none 0 0, .slice none 0 0, .slice none 0 0] := nb7
              clear nb7 hst hs hHeld
              have hs := hsn
              clear hsn hW hg7
              refine wpAnyH_ready (rs := [6]) (by kernel_rfl) (by simp) ?_
              refine AllReadyH.cons rfl (fun K_ hK => ?_) ?_
              · go_simp
                go_wp2_with (go_at_call 30; (with_reducible refine (RW.out _ _ _ _ _ _ W_2 hp1 (HP0.out _ hs).1).mono ?_); rintro e W_3 ⟨er, R, hF, Bb, nb, db, Bb', mb, db', Bb2, qb, db2, rfl, hpo, hst⟩)
                refine hK.out _ _ (bt hs hst) (fun hHeld => ?_)
                clear hK K_
                (try simp only [List.setIfInBounds_toArray, List.set_cons_zero, List.set_cons_succ])
                replace bk7 := Blk.below bk7 hst
                replace hp1 := hp1.below hst
                have hsn := bt hs hst
                clear hs hHeld hp1
                have hs := hsn
                clear hsn hst
                refine wpAnyH_take (i := 7) (v := ?_) rfl (by kernel_rfl) (by kernel_rfl) (by kernel_rfl) (fun _ _ _ h => h) (Or.inl ⟨by rfl, ?_⟩) (by assumption) ?_
                rotate_left
                · intro w' hSw
                  obtain ⟨⟨x0, x1, x2⟩, s0, s1⟩ := HC0.out _ hSw
                  go_simp
                  try with_reducible rfl
                (try simp only [Act.put, List.getElem_toArray, List.getElem_cons_succ, List.getElem_cons_zero, List.setIfInBounds_toArray, List.set_cons_zero, List.set_cons_succ])
                refine wpAnyH_take (i := 8) (v := ?_) rfl (by kernel_rfl) (by kernel_rfl) (by kernel_rfl) (fun _ _ _ h => h) (Or.inl ⟨by rfl, ?_⟩) (by assumption) ?_
                rotate_left
                · intro w' hSw
                  obtain ⟨⟨x0, x1, x2⟩, s0, s1⟩ := HC0.out _ hSw
                  go_simp
                  try with_reducible rfl
                (try simp only [Act.put, List.getElem_toArray, List.getElem_cons_succ, List.getElem_cons_zero, List.setIfInBounds_toArray, List.set_cons_zero, List.set_cons_succ])
                refine wpAnyH_take (i := 9) (v := ?_) rfl (by kernel_rfl) (by kernel_rfl) (by kernel_rfl) (fun _ _ _ h => h) (Or.inl ⟨by rfl, ?_⟩) (by assumption) ?_
                rotate_left
                · intro w' hSw
                  obtain ⟨⟨x0, x1, x2⟩, s0, s1⟩ := HC0.out _ hSw
                  go_simp
                  try with_reducible rfl
                (try simp only [Act.put, List.getElem_toArray, List.getElem_cons_succ, List.getElem_cons_zero, List.setIfInBounds_toArray, List.set_cons_zero, List.set_cons_succ])
                have c50 := bk7.cell 0
                have c51 := bk7.cell 1
                have c52 := bk7.cell 2
                have f50 := bk7.frozen 0
                have f51 := bk7.frozen 1
                have f52 := bk7.frozen 2
                simp at c50 c51 c52
                have HLF := Lib.hid (top_leaf lo7 bk7 hpo hs)
                refine wpAnyH_ready (rs := [11]) (by kernel_rfl) (by simp) ?_
                refine AllReadyH.cons rfl (fun K_ hK => ?_) ?_
                · go_simp
                  refine hK.out _ _ HLF.out.2.2.2 (fun hHeld => ?_)
                  clear hK K_
                  (try simp only [List.setIfInBounds_toArray, List.set_cons_zero, List.set_cons_succ])
                  refine wpAnyH_ready (rs := [12]) (by kernel_rfl) (by simp) ?_
                  refine AllReadyH.cons rfl (fun K_ hK => ?_) ?_
                  · go_simp
                    refine hK.out _ _ HLF.out.2.2.2 (fun hHeld => ?_)
                    clear hK K_
                    (try simp only [List.setIfInBounds_toArray, List.set_cons_zero, List.set_cons_succ])
                    refine wpAnyH_done (by kernel_rfl) ?_ _
                    go_wp2_with (fail)
                    go_meet
                    exact ⟨g7, er, R, Bb, nb, db, Bb', mb, db', Bb2, qb, db2, rfl, rfl, hF, HLF.out⟩
                  exact AllReadyH.nil
                exact AllReadyH.nil
              exact AllReadyH.nil
            exact AllReadyH.nil
          refine AllReadyH.cons rfl (fun K_ hK => ?_) ?_
          · go_simp
            refine hK.out _ _ (bt hs (ba _ _)) (fun hHeld => ?_)
            clear hK K_
            (try simp only [List.setIfInBounds_toArray, List.set_cons_zero, List.set_cons_succ])
            have nb7 := heap_alloc_new W_0 zPcO
            have lo7 := hs.size
            have hsn := bt hs (ba W_0 zPcO)
            have hst := ba W_0 zPcO
            obtain ⟨g7, hg7⟩ : ∃ g, W_0.heap.size = g := ⟨_, rfl⟩
            obtain ⟨W_1, hW⟩ : ∃ W, W_0.alloc zPcO = W := ⟨_, rfl⟩
            rw [hW] at nb7 hsn  ⊢
            rw [hg7] at nb7 lo7 ⊢
            have bk7 : Blk W_1 g7 28 #[.slice none 0 0, .slice none 0 0, .slice none 0 0] := nb7
            clear nb7 hst hs hHeld
            have hs := hsn
            clear hsn hW hg7
            refine wpAnyH_ready (rs := [1]) (by kernel_rfl) (by simp) ?_
            refine AllReadyH.cons rfl (fun K_ hK => ?_) ?_
            · go_simp
              go_wp2_with (go_at_call 10; (with_reducible refine (CQ.out W_1 (HP0.out _ hs).2).mono ?_); rintro e W_2 ⟨Bc1, dc1, Bc1', dc1', Bc12, dc12, rfl, hp1, hst⟩)
              refine hK.out _ _ (bt hs hst) (fun hHeld => ?_)
              clear hK K_
              (try simp only [List.setIfInBounds_toArray, List.set_cons_zero, List.set_cons_succ])
              replace bk7 := Blk.below bk7 hst
              have hsn := bt hs hst
              clear hs hHeld
              have hs := hsn
              clear hsn hst
              refine wpAnyH_ready (rs := [6]) (by kernel_rfl) (by simp) ?_
              refine AllReadyH.cons rfl (fun K_ hK => ?_) ?_
              · go_simp
                go_wp2_with (go_at_call 30; (with_reducible refine (RW.out _ _ _ _ _ _ W_2 hp1 (HP0.out _ hs).1).mono ?_); rintro e W_3 ⟨er, R, hF, Bb, nb, db, Bb', mb, db', Bb2, qb, db2, rfl, hpo, hst⟩)
                refine hK.out _ _ (bt hs hst) (fun hHeld => ?_)
                clear hK K_
                (try simp only [List.setIfInBounds_toArray, List.set_cons_zero, List.set_cons_succ])
                replace bk7 := Blk.below bk7 hst
                replace hp1 := hp1.below hst
                have hsn := bt hs hst
                clear hs hHeld hp1
                have hs := hsn
                clear hsn hst
                refine wpAnyH_take (i := 7) (v := ?_) rfl (by kernel_rfl) (by kernel_rfl) (by kernel_rfl) (fun _ _ _ h => h) (Or.inl ⟨by rfl, ?_⟩) (by assumption) ?_
                rotate_left
                · intro w' hSw
                  obtain ⟨⟨x0, x1, x2⟩, s0, s1⟩ := HC0.out _ hSw
                  go_simp
                  try with_reducible rfl
                (try simp only [Act.put, List.getElem_toArray, List.getElem_cons_succ, List.getElem_cons_zero, List.setIfInBounds_toArray, List.set_cons_zero, List.set_cons_succ])
                refine wpAnyH_take (i := 8) (v := ?_) rfl (by kernel_rfl) (by kernel_rfl) (by kernel_rfl) (fun _ _ _ h => h) (Or.inl ⟨by rfl, ?_⟩) (by assumption) ?_
                rotate_left
                · intro w' hSw
                  obtain ⟨⟨x0, x1, x2⟩, s0, s1⟩ := HC0.out _ hSw
                  go_simp
                  try with_reducible rfl
                (try simp only [Act.put, List.getElem_toArray, List.getElem_cons_succ, List.getElem_cons_zero, List.setIfInBounds_toArray, List.set_cons_zero, List.set_cons_succ])
                refine wpAnyH_take (i := 9) (v := ?_) rfl (by kernel_rfl) (by kernel_rfl) (by kernel_rfl) (fun _ _ _ h => h) (Or.inl ⟨by rfl, ?_⟩) (by assumption) ?_
                rotate_left
                · intro w' hSw
                  obtain ⟨⟨x0, x1, x2⟩, s0, s1⟩ := HC0.out _ hSw
                  go_simp
                  try with_reducible rfl
                (try simp only [Act.put, List.getElem_toArray, List.getElem_cons_succ, List.getElem_cons_zero, List.setIfInBounds_toArray, List.set_cons_zero, List.set_cons_succ])
                have c50 := bk7.cell 0
                have c51 := bk7.cell 1
                have c52 := bk7.cell 2
                have f50 := bk7.frozen 0
                have f51 := bk7.frozen 1
                have f52 := bk7.frozen 2
                simp at c50 c51 c52
                have HLF := Lib.hid (top_leaf lo7 bk7 hpo hs)
                refine wpAnyH_ready (rs := [11]) (by kernel_rfl) (by simp) ?_
                refine AllReadyH.cons rfl (fun K_ hK => ?_) ?_
                · go_simp
                  refine hK.out _ _ HLF.out.2.2.2 (fun hHeld => ?_)
                  clear hK K_
                  (try simp only [List.setIfInBounds_toArray, List.set_cons_zero, List.set_cons_succ])
                  refine wpAnyH_ready (rs := [12]) (by kernel_rfl) (by simp) ?_
                  refine AllReadyH.cons rfl (fun K_ hK => ?_) ?_
                  · go_simp
                    refine hK.out _ _ HLF.out.2.2.2 (fun hHeld => ?_)
                    clear hK K_
                    (try simp only [List.setIfInBounds_toArray, List.set_cons_zero, List.set_cons_succ])
                    refine wpAnyH_done (by kernel_rfl) ?_ _
                    go_wp2_with (fail)
                    go_meet
                    exact ⟨g7, er, R, Bb, nb, db, Bb', mb, db', Bb2, qb, db2, rfl, rfl, hF, HLF.out⟩
                  exact AllReadyH.nil
                exact AllReadyH.nil
              exact AllReadyH.nil
            exact AllReadyH.nil
          exact AllReadyH.nil
        case rest =>
          obtain ⟨g7, er, R, Bb, nb, db, Bb', mb, db', Bb2, qb, db2, rfl, rfl, HF, HTR⟩ := hcut
          obtain ⟨hBR, ⟨b7, hR⟩, _, T⟩ := HTR.out
          obtain ⟨a0, a1, a2⟩ := ap_cells hBR
          clear x0 x1 x2 s0 s1
          obtain ⟨⟨x0, x1, x2⟩, s0, s1⟩ := HC0.out _ T
          have lr := hBR.lt
          have lq := (HBk.out.below T).lt
          have gq0 := (HBk.out.below T).frozen 0
          have gq1 := (HBk.out.below T).frozen 1
          have gq2 := (HBk.out.below T).frozen 2
          by_cases he : er = 0
          · subst he
            have HBR := Lib.hid hBR
            have TR := Below.refl wc.heap.size wc
            rw [oC_ok, oC_ok, oC_ok] at hR
            have HR := Lib.hid hR
            clear hBR hR HTR CQ RW
            by_cases h5 : K = 5
            · subst h5
              have w64 : IntKind.i64.wrap (wa * 2) = wa * 2 := IntWalk.i64_in _ ⟨by omega, by omega⟩
              have HVR := Lib.hid (HF.out.val rfl)
              have HTE2 := Lib.hid (HTE.out.dbl HF.out)
              have CK : Hid (∀ w', PcIn w' Bb nb db Bb' mb db' Bb2 qb db2 C S R → Calls Tryd.prog 23 #[pcV Bb nb db Bb' mb db' Bb2 qb db2] w' fun e w2 => e = .returned (.int .i64 0) ∧ Below w'.heap.size w' w2) := fun w' h => by
                obtain ⟨y1, y2, y3, y4⟩ := vb_bds h HVR.out
                have := rpcheck_wide Bb nb db Bb' mb db' Bb2 qb db2 C S R w' h (by omega) (by omega) (by omega) (fun y hy => Nat.le_trans (y4 y hy) (by decide))
                rwa [HVR.out] at this
              go_wp2_with (first
                | (go_at_call 23; (with_reducible refine (CK.out _ (HR.out.pcIn.below TR)).mono ?_); rintro e wk ⟨rfl, hbk2⟩; replace T := bt T hbk2; replace TR := bt TR hbk2; clear hbk2; clear x0 x1 x2 s0 s1 a0 a1 a2; obtain ⟨⟨x0, x1, x2⟩, s0, s1⟩ := HC0.out _ T; obtain ⟨a0, a1, a2⟩ := ap_cells (HBR.out.below TR); clear gq0 gq1 gq2 lq lr; have lq := (HBk.out.below T).lt; have lr := (HBR.out.below TR).lt; have gq0 := (HBk.out.below T).frozen 0; have gq1 := (HBk.out.below T).frozen 1; have gq2 := (HBk.out.below T).frozen 2))
              have HBW := Lib.hid (HBk.out.below T)
              have HLF := Lib.hid (top_leaf (W2 := wy) HGQ.out HBW.out (HR.out.below TR) (bt HLO.out T))
              obtain ⟨b9, hb9⟩ := HLF.out.2.1
              go_roundw
              case rel => exact ⟨k + 1, wa * 2, zn, R, b9, Bb, nb, db, Bb', mb, db', Bb2, qb, db2, by omega, by first | rfl | go_num, by first | rfl | go_num, by first | rfl | go_num, ⟨by omega, by rw [hp9]; omega, by omega, by rw [hp9]; omega⟩, HLF.out.1, hb9, HVR.out, HTE2.out, HLF.out.2.2.2⟩
              case measure => simp [intOf]; omega
            by_cases h6 : K = 6
            · subst h6
              have w64 : IntKind.i64.wrap (zn * 2) = zn * 2 := IntWalk.i64_in _ ⟨by omega, by omega⟩
              have HVR := Lib.hid (HF.out.val rfl)
              have HTE2 := Lib.hid (HTE.out.hlv HF.out)
              have CK : Hid (∀ w', PcIn w' Bb nb db Bb' mb db' Bb2 qb db2 C S R → Calls Tryd.prog 23 #[pcV Bb nb db Bb' mb db' Bb2 qb db2] w' fun e w2 => e = .returned (.int .i64 0) ∧ Below w'.heap.size w' w2) := fun w' h => by
                obtain ⟨y1, y2, y3, y4⟩ := vb_bds h HVR.out
                have := rpcheck_wide Bb nb db Bb' mb db' Bb2 qb db2 C S R w' h (by omega) (by omega) (by omega) (fun y hy => Nat.le_trans (y4 y hy) (by decide))
                rwa [HVR.out] at this
              go_wp2_with (first
                | (go_at_call 23; (with_reducible refine (CK.out _ (HR.out.pcIn.below TR)).mono ?_); rintro e wk ⟨rfl, hbk2⟩; replace T := bt T hbk2; replace TR := bt TR hbk2; clear hbk2; clear x0 x1 x2 s0 s1 a0 a1 a2; obtain ⟨⟨x0, x1, x2⟩, s0, s1⟩ := HC0.out _ T; obtain ⟨a0, a1, a2⟩ := ap_cells (HBR.out.below TR); clear gq0 gq1 gq2 lq lr; have lq := (HBk.out.below T).lt; have lr := (HBR.out.below TR).lt; have gq0 := (HBk.out.below T).frozen 0; have gq1 := (HBk.out.below T).frozen 1; have gq2 := (HBk.out.below T).frozen 2))
              have HBW := Lib.hid (HBk.out.below T)
              have HLF := Lib.hid (top_leaf (W2 := wy) HGQ.out HBW.out (HR.out.below TR) (bt HLO.out T))
              obtain ⟨b9, hb9⟩ := HLF.out.2.1
              go_roundw
              case rel => exact ⟨k + 1, wa, zn * 2, R, b9, Bb, nb, db, Bb', mb, db', Bb2, qb, db2, by omega, by first | rfl | go_num, by first | rfl | go_num, by first | rfl | go_num, ⟨by omega, by rw [hp9]; omega, by omega, by rw [hp9]; omega⟩, HLF.out.1, hb9, HVR.out, HTE2.out, HLF.out.2.2.2⟩
              case measure => simp [intOf]; omega
            have h5b : (K == 5) = false := by simpa using h5
            have h6b : (K == 6) = false := by simpa using h6
            by_cases h4 : K < 4
            · 
              have HVR := Lib.hid (HF.out.val rfl)
              have HTE2 := Lib.hid (HTE.out.same HF.out h5 h6)
              have CK : Hid (∀ w', PcIn w' Bb nb db Bb' mb db' Bb2 qb db2 C S R → Calls Tryd.prog 23 #[pcV Bb nb db Bb' mb db' Bb2 qb db2] w' fun e w2 => e = .returned (.int .i64 0) ∧ Below w'.heap.size w' w2) := fun w' h => by
                obtain ⟨y1, y2, y3, y4⟩ := vb_bds h HVR.out
                have := rpcheck_wide Bb nb db Bb' mb db' Bb2 qb db2 C S R w' h (by omega) (by omega) (by omega) (fun y hy => Nat.le_trans (y4 y hy) (by decide))
                rwa [HVR.out] at this
              go_wp2_with (first
                | (go_at_call 23; (with_reducible refine (CK.out _ (HR.out.pcIn.below TR)).mono ?_); rintro e wk ⟨rfl, hbk2⟩; replace T := bt T hbk2; replace TR := bt TR hbk2; clear hbk2; clear x0 x1 x2 s0 s1 a0 a1 a2; obtain ⟨⟨x0, x1, x2⟩, s0, s1⟩ := HC0.out _ T; obtain ⟨a0, a1, a2⟩ := ap_cells (HBR.out.below TR); clear gq0 gq1 gq2 lq lr; have lq := (HBk.out.below T).lt; have lr := (HBR.out.below TR).lt; have gq0 := (HBk.out.below T).frozen 0; have gq1 := (HBk.out.below T).frozen 1; have gq2 := (HBk.out.below T).frozen 2))
              have HBW := Lib.hid (HBk.out.below T)
              have HLF := Lib.hid (top_leaf (W2 := wy) HGQ.out HBW.out (HR.out.below TR) (bt HLO.out T))
              obtain ⟨b9, hb9⟩ := HLF.out.2.1
              go_roundw
              case rel => exact ⟨k + 1, wa, zn, R, b9, Bb, nb, db, Bb', mb, db', Bb2, qb, db2, by omega, by first | rfl | go_num, by first | rfl | go_num, by first | rfl | go_num, ⟨by omega, by rw [hp9]; omega, by omega, by rw [hp9]; omega⟩, HLF.out.1, hb9, HVR.out, HTE2.out, HLF.out.2.2.2⟩
              case measure => simp [intOf]; omega
            
            have HVR := Lib.hid (HF.out.val rfl)
            have HTE2 := Lib.hid (HTE.out.same HF.out h5 h6)
            have CK : Hid (∀ w', PcIn w' Bb nb db Bb' mb db' Bb2 qb db2 C S R → Calls Tryd.prog 23 #[pcV Bb nb db Bb' mb db' Bb2 qb db2] w' fun e w2 => e = .returned (.int .i64 0) ∧ Below w'.heap.size w' w2) := fun w' h => by
              obtain ⟨y1, y2, y3, y4⟩ := vb_bds h HVR.out
              have := rpcheck_wide Bb nb db Bb' mb db' Bb2 qb db2 C S R w' h (by omega) (by omega) (by omega) (fun y hy => Nat.le_trans (y4 y hy) (by decide))
              rwa [HVR.out] at this
            go_wp2_with (first
              | (go_at_call 23; (with_reducible refine (CK.out _ (HR.out.pcIn.below TR)).mono ?_); rintro e wk ⟨rfl, hbk2⟩; replace T := bt T hbk2; replace TR := bt TR hbk2; clear hbk2; clear x0 x1 x2 s0 s1 a0 a1 a2; obtain ⟨⟨x0, x1, x2⟩, s0, s1⟩ := HC0.out _ T; obtain ⟨a0, a1, a2⟩ := ap_cells (HBR.out.below TR); clear gq0 gq1 gq2 lq lr; have lq := (HBk.out.below T).lt; have lr := (HBR.out.below TR).lt; have gq0 := (HBk.out.below T).frozen 0; have gq1 := (HBk.out.below T).frozen 1; have gq2 := (HBk.out.below T).frozen 2))
            have HBW := Lib.hid (HBk.out.below T)
            have HLF := Lib.hid (top_leaf (W2 := wy) HGQ.out HBW.out (HR.out.below TR) (bt HLO.out T))
            obtain ⟨b9, hb9⟩ := HLF.out.2.1
            go_roundw
            case rel => exact ⟨k + 1, wa, zn, R, b9, Bb, nb, db, Bb', mb, db', Bb2, qb, db2, by omega, by first | rfl | go_num, by first | rfl | go_num, by first | rfl | go_num, ⟨by omega, by rw [hp9]; omega, by omega, by rw [hp9]; omega⟩, HLF.out.1, hb9, HVR.out, HTE2.out, HLF.out.2.2.2⟩
            case measure => simp [intOf]; omega
          · have h4 : ¬ K < 4 := fun h => he (HF.out.low h)
            have heb : (er == 0) = false := by simpa using he
            have hne : (er != 0) = true := by simpa using he
            clear hBR hR HTR CQ RW
            
            go_wp2_with (fail)
            go_roundw
            case rel => exact ⟨k + 1, wa, zn, Q, b1, Bq, n1, dq, Bq', m1, dq', Bq2, q1, dq2, by omega, by first | rfl | go_num, rfl, rfl, ⟨by omega, by rw [hp9]; omega, by omega, by rw [hp9]; omega⟩, HBk.out.below T, HOw.out.below T, HXQ, HTE, bt HLO.out T⟩
            case measure => simp [intOf]; omega
      · have hkn : ¬ ((k : Int) < (ns : Int)) := by omega
        have hp8 := pw_le k (by omega)
        have HC2 : Hid (∀ w', Below wr.heap.size wr w' → (w'.cell? ⟨w.heap.size, 0, none⟩ = some (.slice A n c) ∧ w'.cell? ⟨w.heap.size, 1, none⟩ = some (.slice A' m c') ∧ w'.cell? ⟨w.heap.size, 2, none⟩ = some (.slice A2 q cq)) ∧ (w'.cell? ⟨gq, 0, none⟩ = some (.slice Bq n1 dq) ∧ w'.cell? ⟨gq, 1, none⟩ = some (.slice Bq' m1 dq') ∧ w'.cell? ⟨gq, 2, none⟩ = some (.slice Bq2 q1 dq2))) := fun w' h => ⟨cell3 (bt TC.out (bt HLO.out h)), ap_cells (HBk.out.below h)⟩
        have SP := Lib.hid (fun w' (h : PcIn w' A n c A' m c' A2 q cq C S P) => strokes_any A n c A' m c' A2 q cq C S P wa w' h (by omega) HST.out (by omega) (by omega))
        have SQ := Lib.hid (fun w' (h : PcIn w' Bq n1 dq Bq' m1 dq' Bq2 q1 dq2 C S Q) => strokes_any Bq n1 dq Bq' m1 dq' Bq2 q1 dq2 C S Q zn w' h (by omega) HV4.out (by omega) (by omega))
        have HLN : Hid ((stL zn Q).length ≤ 1000000) := by
          have := stL_len (f := zn) HV4.out
          have := HOw.out.hq
          unfold Hid
          omega
        have HPP : Hid (∀ w', Below wr.heap.size wr w' → PcIn w' A n c A' m c' A2 q cq C S P ∧ PcIn w' Bq n1 dq Bq' m1 dq' Bq2 q1 dq2 C S Q) := fun w' h => ⟨(HE.out _ (bt TC.out (bt HLO.out h))).2.1, HOw.out.pcIn.below h⟩
        rw [HTE.out.stL] at SP
        have HFIN : Hid (∀ w', Below wr.heap.size wr w' → Below w.heap.size w w') := fun w' h => bx (bt TC.out (bt HLO.out h))
        generalize stL zn Q = L at *
        clear HE BR HON HW1 CC HPc HBq HZ0 HL9 HST HV4 HXQ HTE HX
        go_wp2_with (fail)
        have T := (Below.refl wr.heap.size wr).drew
        go_region_held3 (fun w' => (w'.cell? ⟨w.heap.size, 0, none⟩ = some (.slice A n c) ∧ w'.cell? ⟨w.heap.size, 1, none⟩ = some (.slice A' m c') ∧ w'.cell? ⟨w.heap.size, 2, none⟩ = some (.slice A2 q cq)) ∧ (w'.cell? ⟨gq, 0, none⟩ = some (.slice Bq n1 dq) ∧ w'.cell? ⟨gq, 1, none⟩ = some (.slice Bq' m1 dq') ∧ w'.cell? ⟨gq, 2, none⟩ = some (.slice Bq2 q1 dq2)))
          (exact HC2.out _ T)
          (first
            | (go_at_call 32; (with_reducible refine (SP.out _ (HPP.out _ T).1).mono ?_); rintro e wp ⟨Bp, mp, dp, rfl, hmp, hsp, hbp⟩; replace T := bt T hbp; (try replace TQ := bt TQ hbp); have TP := Below.refl wp.heap.size wp; have HSP := Lib.hid (And.intro hmp hsp); clear hmp hsp)
            | (go_at_call 32; (with_reducible refine (SQ.out _ (HPP.out _ T).2).mono ?_); rintro e wq ⟨Bz, mz, dz, rfl, hmq, hsq, hbq⟩; replace T := bt T hbq; (try replace TP := bt TP hbq); have TQ := Below.refl wq.heap.size wq; have HSQ := Lib.hid (And.intro hmq hsq); clear hmq hsq)
            | (go_at_call 31; (with_reducible refine (sameTop_two _ _ _ _ _ _ L _ (HSP.out.2.below TP) (HSQ.out.2.below TQ) HSP.out.1 HSQ.out.1 (by have := HSP.out.1; have := HLN.out; omega)).mono ?_); rintro e we ⟨rfl, hbe⟩; replace T := bt T hbe))
        all_goals (
          have HT := Lib.hid T
          go_wp2_with (fail)
          go_ret
          exact ⟨rfl, HFIN.out _ HT.out⟩)

end Go.Proofs.YtdhjigaocamglaaDoor
