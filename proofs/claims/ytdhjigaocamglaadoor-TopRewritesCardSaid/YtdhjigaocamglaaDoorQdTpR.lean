/- One rewriting of a valid piece: what comes out of it. -/
import Derived.Test.YtdhjigaocamglaaDoorQdTpS
import Derived.Test.YtdhjigaocamglaaDoorQdRw6
import Derived.Test.YtdhjigaocamglaaDoorQdRw8
import Derived.Test.YtdhjigaocamglaaDoorQdSameI2
import Derived.Test.YtdhjigaocamglaaDoorQdRefFew
import Derived.Test.YtdhjigaocamglaaDoorQdBk5
import Derived.Test.YtdhjigaocamglaaDoorQdTrnC
import Derived.Test.YtdhjigaocamglaaDoorQdLawPRw
namespace Go.Proofs.YtdhjigaocamglaaDoor
open Go Go.RowKit

/-- What one rewriting makes of a piece: its error, its strokes, its end. -/
structure RwF (K er : Int) (C : List Cr) (S : List Int) (Q R : List EvP) : Prop where
  low : K < 4 → er = 0
  val : er = 0 → pcErr C S R = 0
  same : er = 0 → K ≠ 5 → K ≠ 6 → skD R = skD Q ∧ onT R R.length = onT Q Q.length
  dbl : er = 0 → K = 5 → skD R = (skD Q).map (scl 2) ∧ onT R R.length = onT Q Q.length * 2
  hlv : er = 0 → K = 6 → skD Q = (skD R).map (scl 2) ∧ onT Q Q.length = onT R R.length * 2
def RwPt (K : Int) (C : List Cr) (S : List Int) (Q : List EvP) (w : World) (e : Ending) (w' : World) : Prop := ∃ er R, RwF K er C S Q R ∧ PcRes er C S R w e w'
theorem aug_all {b : Int} {f : Bool} (hb : ¬ (b < -6 ∨ 6 < b)) (h : augErr 0 b f = 0) : f = true := by
  rw [augErr3 hb] at h
  cases f with
  | true => rfl
  | false => simp at h
theorem vb_bds {w : World} {A : Option Addr} {n c : Nat} {A' : Option Addr} {m c' : Nat} {A2 : Option Addr} {q cq : Nat} {C : List Cr} {S : List Int} {P : List EvP} (hP : PcIn w A n c A' m c' A2 q cq C S P) (hX : pcErr C S P = 0) : n ≤ 14 ∧ m ≤ 18 ∧ q ≤ 400 ∧ ∀ y ∈ P, y.L.length ≤ 14 := by
  obtain ⟨h1, h2, _⟩ := pcErr_ok hX
  obtain ⟨h3, h4, _⟩ := chk_ok h1
  exact ⟨by rw [hP.hn]; exact h3, by rw [hP.hm]; exact h4, by rw [hP.es.hq]; exact h2, tp_evLen hX⟩
theorem v14 {P : List EvP} (h : ∀ y ∈ P, y.L.length ≤ 14) : ∀ y ∈ P, y.L.length ≤ 1000000 := fun y hy => Nat.le_trans (h y hy) (by decide)
theorem rwf_same {K : Int} {C : List Cr} {S : List Int} {Q R : List EvP} (er : Int) (hl : K < 4 → er = 0) (hv : er = 0 → pcErr C S R = 0) (hs : er = 0 → skD R = skD Q ∧ onT R R.length = onT Q Q.length) (h5 : K ≠ 5) (h6 : K ≠ 6) : RwF K er C S Q R :=
  ⟨hl, hv, fun h _ _ => hs h, fun _ h => absurd h h5, fun _ h => absurd h h6⟩
theorem rc_plain (A : Option Addr) (n c : Nat) (A' : Option Addr) (m c' : Nat) (A2 : Option Addr) (q cq : Nat) (C : List Cr) (S : List Int) (P : List EvP) (w : World) (hP : PcIn w A n c A' m c' A2 q cq C S P) (hX : pcErr C S P = 0) :
    Calls Tryd.prog 11 #[pcV A n c A' m c' A2 q cq] w (RwPt 0 C S P w) := by
  obtain ⟨b1, b2, b3, b4⟩ := vb_bds hP hX
  refine (plain_any A n c A' m c' A2 q cq C S P w hP (by omega) (by omega) (by omega) (v14 b4)).mono (fun e w2 hr => ?_)
  rw [hX] at hr
  exact ⟨0, _, rwf_same 0 (fun _ => rfl) (fun _ => plain_valid hX) (fun _ => sk_setG (frc_setF P _ s0g (frcL_len _ _) (frc_ok0 hX))) (by decide) (by decide), hr.sub (fun _ => plain_out (sgr_of hX))⟩
theorem rc_terse (A : Option Addr) (n c : Nat) (A' : Option Addr) (m c' : Nat) (A2 : Option Addr) (q cq : Nat) (C : List Cr) (S : List Int) (P : List EvP) (w : World) (hP : PcIn w A n c A' m c' A2 q cq C S P) (hX : pcErr C S P = 0) :
    Calls Tryd.prog 14 #[pcV A n c A' m c' A2 q cq] w (RwPt 1 C S P w) := by
  obtain ⟨b1, b2, b3, b4⟩ := vb_bds hP hX
  refine (terse_any A n c A' m c' A2 q cq C S P w hP (by omega) (by omega) (by omega) (v14 b4)).mono (fun e w2 hr => ?_)
  rw [hX] at hr
  exact ⟨0, _, rwf_same 0 (fun _ => rfl) (fun _ => terse_valid hX) (fun _ => sk_setG (frc_ter P _ s0g false (frcL_len _ _) (frc_ok0 hX))) (by decide) (by decide), hr.sub (fun _ => terse_out hX)⟩
theorem rc_bare (A : Option Addr) (n c : Nat) (A' : Option Addr) (m c' : Nat) (A2 : Option Addr) (q cq : Nat) (C : List Cr) (S : List Int) (P : List EvP) (w : World) (hP : PcIn w A n c A' m c' A2 q cq C S P) (hX : pcErr C S P = 0) :
    Calls Tryd.prog 16 #[pcV A n c A' m c' A2 q cq] w (RwPt 2 C S P w) := by
  obtain ⟨b1, b2, b3, b4⟩ := vb_bds hP hX
  refine (bare_any A n c A' m c' A2 q cq C S P w hP (by omega) (by omega) (by omega) (v14 b4)).mono (fun e w2 hr => ?_)
  rw [hX] at hr
  exact ⟨0, _, rwf_same 0 (fun _ => rfl) (fun _ => bare_valid hX) (fun _ => sk_bare P) (by decide) (by decide), hr.sub (fun _ => bare_out P)⟩
theorem rc_join (A : Option Addr) (n c : Nat) (A' : Option Addr) (m c' : Nat) (A2 : Option Addr) (q cq : Nat) (C : List Cr) (S : List Int) (P : List EvP) (w : World) (hP : PcIn w A n c A' m c' A2 q cq C S P) (hX : pcErr C S P = 0) (hT : SgT w) :
    Calls Tryd.prog 18 #[pcV A n c A' m c' A2 q cq] w (RwPt 3 C S P w) := by
  obtain ⟨b1, b2, b3, b4⟩ := vb_bds hP hX
  refine (pjoin_any A n c A' m c' A2 q cq C S P w hP hT (by omega) (by omega) (by omega) (v14 b4)).mono (fun e w2 hr => ?_)
  rw [hX] at hr
  exact ⟨0, _, rwf_same 0 (fun _ => rfl) (fun _ => join_valid hX) (fun _ => sk_join hX) (by decide) (by decide), hr⟩
theorem rc_break (A : Option Addr) (n c : Nat) (A' : Option Addr) (m c' : Nat) (A2 : Option Addr) (q cq : Nat) (C : List Cr) (S : List Int) (P : List EvP) (b : Int) (w : World) (hP : PcIn w A n c A' m c' A2 q cq C S P) (hX : pcErr C S P = 0) (hT : SgT w) :
    Calls Tryd.prog 21 #[pcV A n c A' m c' A2 q cq, .int .i64 b] w (RwPt 4 C S P w) := by
  obtain ⟨b1, b2, b3, b4⟩ := vb_bds hP hX
  refine (break_any A n c A' m c' A2 q cq C S P b w hP hT (by omega) (by omega) (by omega) (v14 b4)).mono (fun e w2 hr => ?_)
  rw [hX] at hr
  exact ⟨_, _, rwf_same _ (fun h => absurd h (by decide)) (fun h => break_valid hX h) (fun h => sk_break hX h) (by decide) (by decide), hr⟩
theorem rc_dbl (A : Option Addr) (n c : Nat) (A' : Option Addr) (m c' : Nat) (A2 : Option Addr) (q cq : Nat) (C : List Cr) (S : List Int) (P : List EvP) (w : World) (hP : PcIn w A n c A' m c' A2 q cq C S P) (hX : pcErr C S P = 0) :
    Calls Tryd.prog 60 #[pcV A n c A' m c' A2 q cq, .int .i64 1] w (RwPt 5 C S P w) := by
  obtain ⟨b1, b2, b3, b4⟩ := vb_bds hP hX
  refine (augment_any A n c A' m c' A2 q cq C S P 1 w hP (by omega) (by omega) (by omega) (v14 b4)).mono (fun e w2 hr => ?_)
  rw [aug_out, hX] at hr
  exact ⟨_, _, ⟨fun h => absurd h (by decide), fun h => augB_valid hX (aug_all (by decide) h), fun _ h => absurd rfl h, fun h _ => sk_aug hX (aug_all (by decide) h), fun _ h => absurd h (by decide)⟩, hr⟩
theorem rc_hlv (A : Option Addr) (n c : Nat) (A' : Option Addr) (m c' : Nat) (A2 : Option Addr) (q cq : Nat) (C : List Cr) (S : List Int) (P : List EvP) (w : World) (hP : PcIn w A n c A' m c' A2 q cq C S P) (hX : pcErr C S P = 0) :
    Calls Tryd.prog 60 #[pcV A n c A' m c' A2 q cq, .int .i64 (-1)] w (RwPt 6 C S P w) := by
  obtain ⟨b1, b2, b3, b4⟩ := vb_bds hP hX
  refine (augment_any A n c A' m c' A2 q cq C S P (-1) w hP (by omega) (by omega) (by omega) (v14 b4)).mono (fun e w2 hr => ?_)
  rw [aug_out, hX] at hr
  exact ⟨_, _, ⟨fun h => absurd h (by decide), fun h => augB_valid hX (aug_all (by decide) h), fun _ _ h => absurd rfl h, fun _ h => absurd h (by decide), fun h _ => sk_halve hX (aug_all (by decide) h)⟩, hr⟩

set_option maxRecDepth 100000 in
set_option maxHeartbeats 3200000 in
theorem rw_is0 (A : Option Addr) (n c : Nat) (A' : Option Addr) (m c' : Nat) (A2 : Option Addr) (q cq : Nat) (C : List Cr) (S : List Int) (P : List EvP) (kd b : Int) (hK : kd % 7 = 0) (h0 : 0 ≤ kd) (w : World) (hP : PcIn w A n c A' m c' A2 q cq C S P) (hX : pcErr C S P = 0) :
    Calls Tryd.prog 30 #[pcV A n c A' m c' A2 q cq, .agg #[.int .u8 kd, .int .i64 b]] w (RwPt 0 C S P w) := by
  have HBX := Lib.hid (box3 w #[.slice A n c, .slice A' m c', .slice A2 q cq] #[.int .u8 kd, .int .i64 b] #[.slice none 0 0, .slice none 0 0, .slice none 0 0] 28 65 28)
  have CT := Lib.hid (rc_plain A n c A' m c' A2 q cq C S P _ (hP.below HBX.out.2.2.2) hX)
  have hT7 : kd.tmod 7 = 0 := by rw [Int.tmod_eq_emod_of_nonneg h0]; exact hK
  clear hP hX hK
  unfold RwPt at CT
  go_enter Tryd.func30, Tryd.ntmps30
  go_wp2_with (go_at_call 11; refine CT.out.mono ?_; rintro e W1 ⟨er, R, hF, B, n1, d, B', m1, d', B2, q1, d2, rfl, hO, hb1⟩; have hR1 := HBX.out.2.2.1.below hb1; have r0 := hR1.cell 0; have r1 := hR1.cell 1; have r2 := hR1.cell 2; have f0 := hR1.frozen 0; have f1 := hR1.frozen 1; have f2 := hR1.frozen 2; simp at r0 r1 r2; have HB1 := Lib.hid (And.intro hR1 (And.intro hb1 (And.intro hF hO))); clear hR1 hb1 hF hO)
  have hR3 := ((HB1.out.1.set_ 0 (.slice B n1 d)).set_ 1 (.slice B' m1 d')).set_ 2 (.slice B2 q1 d2)
  have z0 := hR3.cell 0
  have z1 := hR3.cell 1
  have z2 := hR3.cell 2
  simp at z0 z1 z2
  have hbw : Below w.heap.size w W1 := bt HBX.out.2.2.2 HB1.out.2.1
  have hlr : w.heap.size + 2 < (((w.alloc (.cells #[.slice A n c, .slice A' m c', .slice A2 q cq] 28)).alloc (.cells #[.int .u8 kd, .int .i64 b] 65)).alloc (.cells #[.slice none 0 0, .slice none 0 0, .slice none 0 0] 28)).heap.size := by simp
  refine bodyPost_ret (v := .tuple #[pcV B n1 d B' m1 d' B2 q1 d2, .int .i64 er]) (by simp [results, Tryd.results30, go_sem, z0, z1, z2]) rfl ⟨er, R, HB1.out.2.2.1, B, n1, d, B', m1, d', B2, q1, d2, rfl, ?_, ((hbw.setCell (p := ⟨w.heap.size + 2, 0, none⟩) (by simp) _).setCell (p := ⟨w.heap.size + 2, 1, none⟩) (by simp) _).setCell (p := ⟨w.heap.size + 2, 2, none⟩) (by simp) _⟩
  exact (((HB1.out.2.2.2.other hlr _ _).other hlr _ _).other hlr _ _).more (by simp; omega)

set_option maxRecDepth 100000 in
set_option maxHeartbeats 3200000 in
theorem rw_is1 (A : Option Addr) (n c : Nat) (A' : Option Addr) (m c' : Nat) (A2 : Option Addr) (q cq : Nat) (C : List Cr) (S : List Int) (P : List EvP) (kd b : Int) (hK : kd % 7 = 1) (h0 : 0 ≤ kd) (w : World) (hP : PcIn w A n c A' m c' A2 q cq C S P) (hX : pcErr C S P = 0) :
    Calls Tryd.prog 30 #[pcV A n c A' m c' A2 q cq, .agg #[.int .u8 kd, .int .i64 b]] w (RwPt 1 C S P w) := by
  have HBX := Lib.hid (box3 w #[.slice A n c, .slice A' m c', .slice A2 q cq] #[.int .u8 kd, .int .i64 b] #[.slice none 0 0, .slice none 0 0, .slice none 0 0] 28 65 28)
  have CT := Lib.hid (rc_terse A n c A' m c' A2 q cq C S P _ (hP.below HBX.out.2.2.2) hX)
  have hT7 : kd.tmod 7 = 1 := by rw [Int.tmod_eq_emod_of_nonneg h0]; exact hK
  clear hP hX hK
  unfold RwPt at CT
  go_enter Tryd.func30, Tryd.ntmps30
  go_wp2_with (go_at_call 14; refine CT.out.mono ?_; rintro e W1 ⟨er, R, hF, B, n1, d, B', m1, d', B2, q1, d2, rfl, hO, hb1⟩; have hR1 := HBX.out.2.2.1.below hb1; have r0 := hR1.cell 0; have r1 := hR1.cell 1; have r2 := hR1.cell 2; have f0 := hR1.frozen 0; have f1 := hR1.frozen 1; have f2 := hR1.frozen 2; simp at r0 r1 r2; have HB1 := Lib.hid (And.intro hR1 (And.intro hb1 (And.intro hF hO))); clear hR1 hb1 hF hO)
  have hR3 := ((HB1.out.1.set_ 0 (.slice B n1 d)).set_ 1 (.slice B' m1 d')).set_ 2 (.slice B2 q1 d2)
  have z0 := hR3.cell 0
  have z1 := hR3.cell 1
  have z2 := hR3.cell 2
  simp at z0 z1 z2
  have hbw : Below w.heap.size w W1 := bt HBX.out.2.2.2 HB1.out.2.1
  have hlr : w.heap.size + 2 < (((w.alloc (.cells #[.slice A n c, .slice A' m c', .slice A2 q cq] 28)).alloc (.cells #[.int .u8 kd, .int .i64 b] 65)).alloc (.cells #[.slice none 0 0, .slice none 0 0, .slice none 0 0] 28)).heap.size := by simp
  refine bodyPost_ret (v := .tuple #[pcV B n1 d B' m1 d' B2 q1 d2, .int .i64 er]) (by simp [results, Tryd.results30, go_sem, z0, z1, z2]) rfl ⟨er, R, HB1.out.2.2.1, B, n1, d, B', m1, d', B2, q1, d2, rfl, ?_, ((hbw.setCell (p := ⟨w.heap.size + 2, 0, none⟩) (by simp) _).setCell (p := ⟨w.heap.size + 2, 1, none⟩) (by simp) _).setCell (p := ⟨w.heap.size + 2, 2, none⟩) (by simp) _⟩
  exact (((HB1.out.2.2.2.other hlr _ _).other hlr _ _).other hlr _ _).more (by simp; omega)

set_option maxRecDepth 100000 in
set_option maxHeartbeats 3200000 in
theorem rw_is2 (A : Option Addr) (n c : Nat) (A' : Option Addr) (m c' : Nat) (A2 : Option Addr) (q cq : Nat) (C : List Cr) (S : List Int) (P : List EvP) (kd b : Int) (hK : kd % 7 = 2) (h0 : 0 ≤ kd) (w : World) (hP : PcIn w A n c A' m c' A2 q cq C S P) (hX : pcErr C S P = 0) :
    Calls Tryd.prog 30 #[pcV A n c A' m c' A2 q cq, .agg #[.int .u8 kd, .int .i64 b]] w (RwPt 2 C S P w) := by
  have HBX := Lib.hid (box3 w #[.slice A n c, .slice A' m c', .slice A2 q cq] #[.int .u8 kd, .int .i64 b] #[.slice none 0 0, .slice none 0 0, .slice none 0 0] 28 65 28)
  have CT := Lib.hid (rc_bare A n c A' m c' A2 q cq C S P _ (hP.below HBX.out.2.2.2) hX)
  have hT7 : kd.tmod 7 = 2 := by rw [Int.tmod_eq_emod_of_nonneg h0]; exact hK
  clear hP hX hK
  unfold RwPt at CT
  go_enter Tryd.func30, Tryd.ntmps30
  go_wp2_with (go_at_call 16; refine CT.out.mono ?_; rintro e W1 ⟨er, R, hF, B, n1, d, B', m1, d', B2, q1, d2, rfl, hO, hb1⟩; have hR1 := HBX.out.2.2.1.below hb1; have r0 := hR1.cell 0; have r1 := hR1.cell 1; have r2 := hR1.cell 2; have f0 := hR1.frozen 0; have f1 := hR1.frozen 1; have f2 := hR1.frozen 2; simp at r0 r1 r2; have HB1 := Lib.hid (And.intro hR1 (And.intro hb1 (And.intro hF hO))); clear hR1 hb1 hF hO)
  have hR3 := ((HB1.out.1.set_ 0 (.slice B n1 d)).set_ 1 (.slice B' m1 d')).set_ 2 (.slice B2 q1 d2)
  have z0 := hR3.cell 0
  have z1 := hR3.cell 1
  have z2 := hR3.cell 2
  simp at z0 z1 z2
  have hbw : Below w.heap.size w W1 := bt HBX.out.2.2.2 HB1.out.2.1
  have hlr : w.heap.size + 2 < (((w.alloc (.cells #[.slice A n c, .slice A' m c', .slice A2 q cq] 28)).alloc (.cells #[.int .u8 kd, .int .i64 b] 65)).alloc (.cells #[.slice none 0 0, .slice none 0 0, .slice none 0 0] 28)).heap.size := by simp
  refine bodyPost_ret (v := .tuple #[pcV B n1 d B' m1 d' B2 q1 d2, .int .i64 er]) (by simp [results, Tryd.results30, go_sem, z0, z1, z2]) rfl ⟨er, R, HB1.out.2.2.1, B, n1, d, B', m1, d', B2, q1, d2, rfl, ?_, ((hbw.setCell (p := ⟨w.heap.size + 2, 0, none⟩) (by simp) _).setCell (p := ⟨w.heap.size + 2, 1, none⟩) (by simp) _).setCell (p := ⟨w.heap.size + 2, 2, none⟩) (by simp) _⟩
  exact (((HB1.out.2.2.2.other hlr _ _).other hlr _ _).other hlr _ _).more (by simp; omega)

set_option maxRecDepth 100000 in
set_option maxHeartbeats 3200000 in
theorem rw_is3 (A : Option Addr) (n c : Nat) (A' : Option Addr) (m c' : Nat) (A2 : Option Addr) (q cq : Nat) (C : List Cr) (S : List Int) (P : List EvP) (kd b : Int) (hK : kd % 7 = 3) (h0 : 0 ≤ kd) (w : World) (hP : PcIn w A n c A' m c' A2 q cq C S P) (hX : pcErr C S P = 0) (hT : SgT w) :
    Calls Tryd.prog 30 #[pcV A n c A' m c' A2 q cq, .agg #[.int .u8 kd, .int .i64 b]] w (RwPt 3 C S P w) := by
  have HBX := Lib.hid (box3 w #[.slice A n c, .slice A' m c', .slice A2 q cq] #[.int .u8 kd, .int .i64 b] #[.slice none 0 0, .slice none 0 0, .slice none 0 0] 28 65 28)
  have CT := Lib.hid (rc_join A n c A' m c' A2 q cq C S P _ (hP.below HBX.out.2.2.2) hX (hT.below HBX.out.2.2.2))
  have hT7 : kd.tmod 7 = 3 := by rw [Int.tmod_eq_emod_of_nonneg h0]; exact hK
  clear hP hX hT hK
  unfold RwPt at CT
  go_enter Tryd.func30, Tryd.ntmps30
  go_wp2_with (go_at_call 18; refine CT.out.mono ?_; rintro e W1 ⟨er, R, hF, B, n1, d, B', m1, d', B2, q1, d2, rfl, hO, hb1⟩; have hR1 := HBX.out.2.2.1.below hb1; have r0 := hR1.cell 0; have r1 := hR1.cell 1; have r2 := hR1.cell 2; have f0 := hR1.frozen 0; have f1 := hR1.frozen 1; have f2 := hR1.frozen 2; simp at r0 r1 r2; have HB1 := Lib.hid (And.intro hR1 (And.intro hb1 (And.intro hF hO))); clear hR1 hb1 hF hO)
  have hR3 := ((HB1.out.1.set_ 0 (.slice B n1 d)).set_ 1 (.slice B' m1 d')).set_ 2 (.slice B2 q1 d2)
  have z0 := hR3.cell 0
  have z1 := hR3.cell 1
  have z2 := hR3.cell 2
  simp at z0 z1 z2
  have hbw : Below w.heap.size w W1 := bt HBX.out.2.2.2 HB1.out.2.1
  have hlr : w.heap.size + 2 < (((w.alloc (.cells #[.slice A n c, .slice A' m c', .slice A2 q cq] 28)).alloc (.cells #[.int .u8 kd, .int .i64 b] 65)).alloc (.cells #[.slice none 0 0, .slice none 0 0, .slice none 0 0] 28)).heap.size := by simp
  refine bodyPost_ret (v := .tuple #[pcV B n1 d B' m1 d' B2 q1 d2, .int .i64 er]) (by simp [results, Tryd.results30, go_sem, z0, z1, z2]) rfl ⟨er, R, HB1.out.2.2.1, B, n1, d, B', m1, d', B2, q1, d2, rfl, ?_, ((hbw.setCell (p := ⟨w.heap.size + 2, 0, none⟩) (by simp) _).setCell (p := ⟨w.heap.size + 2, 1, none⟩) (by simp) _).setCell (p := ⟨w.heap.size + 2, 2, none⟩) (by simp) _⟩
  exact (((HB1.out.2.2.2.other hlr _ _).other hlr _ _).other hlr _ _).more (by simp; omega)

set_option maxRecDepth 100000 in
set_option maxHeartbeats 3200000 in
theorem rw_is4 (A : Option Addr) (n c : Nat) (A' : Option Addr) (m c' : Nat) (A2 : Option Addr) (q cq : Nat) (C : List Cr) (S : List Int) (P : List EvP) (kd b : Int) (hK : kd % 7 = 4) (h0 : 0 ≤ kd) (w : World) (hP : PcIn w A n c A' m c' A2 q cq C S P) (hX : pcErr C S P = 0) (hT : SgT w) :
    Calls Tryd.prog 30 #[pcV A n c A' m c' A2 q cq, .agg #[.int .u8 kd, .int .i64 b]] w (RwPt 4 C S P w) := by
  have HBX := Lib.hid (box3 w #[.slice A n c, .slice A' m c', .slice A2 q cq] #[.int .u8 kd, .int .i64 b] #[.slice none 0 0, .slice none 0 0, .slice none 0 0] 28 65 28)
  have CT := Lib.hid (rc_break A n c A' m c' A2 q cq C S P b _ (hP.below HBX.out.2.2.2) hX (hT.below HBX.out.2.2.2))
  have hT7 : kd.tmod 7 = 4 := by rw [Int.tmod_eq_emod_of_nonneg h0]; exact hK
  clear hP hX hT hK
  unfold RwPt at CT
  go_enter Tryd.func30, Tryd.ntmps30
  go_wp2_with (go_at_call 21; refine CT.out.mono ?_; rintro e W1 ⟨er, R, hF, B, n1, d, B', m1, d', B2, q1, d2, rfl, hO, hb1⟩; have hR1 := HBX.out.2.2.1.below hb1; have r0 := hR1.cell 0; have r1 := hR1.cell 1; have r2 := hR1.cell 2; have f0 := hR1.frozen 0; have f1 := hR1.frozen 1; have f2 := hR1.frozen 2; simp at r0 r1 r2; have HB1 := Lib.hid (And.intro hR1 (And.intro hb1 (And.intro hF hO))); clear hR1 hb1 hF hO)
  have hR3 := ((HB1.out.1.set_ 0 (.slice B n1 d)).set_ 1 (.slice B' m1 d')).set_ 2 (.slice B2 q1 d2)
  have z0 := hR3.cell 0
  have z1 := hR3.cell 1
  have z2 := hR3.cell 2
  simp at z0 z1 z2
  have hbw : Below w.heap.size w W1 := bt HBX.out.2.2.2 HB1.out.2.1
  have hlr : w.heap.size + 2 < (((w.alloc (.cells #[.slice A n c, .slice A' m c', .slice A2 q cq] 28)).alloc (.cells #[.int .u8 kd, .int .i64 b] 65)).alloc (.cells #[.slice none 0 0, .slice none 0 0, .slice none 0 0] 28)).heap.size := by simp
  refine bodyPost_ret (v := .tuple #[pcV B n1 d B' m1 d' B2 q1 d2, .int .i64 er]) (by simp [results, Tryd.results30, go_sem, z0, z1, z2]) rfl ⟨er, R, HB1.out.2.2.1, B, n1, d, B', m1, d', B2, q1, d2, rfl, ?_, ((hbw.setCell (p := ⟨w.heap.size + 2, 0, none⟩) (by simp) _).setCell (p := ⟨w.heap.size + 2, 1, none⟩) (by simp) _).setCell (p := ⟨w.heap.size + 2, 2, none⟩) (by simp) _⟩
  exact (((HB1.out.2.2.2.other hlr _ _).other hlr _ _).other hlr _ _).more (by simp; omega)

set_option maxRecDepth 100000 in
set_option maxHeartbeats 3200000 in
theorem rw_is5 (A : Option Addr) (n c : Nat) (A' : Option Addr) (m c' : Nat) (A2 : Option Addr) (q cq : Nat) (C : List Cr) (S : List Int) (P : List EvP) (kd b : Int) (hK : kd % 7 = 5) (h0 : 0 ≤ kd) (w : World) (hP : PcIn w A n c A' m c' A2 q cq C S P) (hX : pcErr C S P = 0) :
    Calls Tryd.prog 30 #[pcV A n c A' m c' A2 q cq, .agg #[.int .u8 kd, .int .i64 b]] w (RwPt 5 C S P w) := by
  have HBX := Lib.hid (box3 w #[.slice A n c, .slice A' m c', .slice A2 q cq] #[.int .u8 kd, .int .i64 b] #[.slice none 0 0, .slice none 0 0, .slice none 0 0] 28 65 28)
  have CT := Lib.hid (rc_dbl A n c A' m c' A2 q cq C S P _ (hP.below HBX.out.2.2.2) hX)
  have hT7 : kd.tmod 7 = 5 := by rw [Int.tmod_eq_emod_of_nonneg h0]; exact hK
  clear hP hX hK
  unfold RwPt at CT
  go_enter Tryd.func30, Tryd.ntmps30
  go_wp2_with (go_at_call 60; refine CT.out.mono ?_; rintro e W1 ⟨er, R, hF, B, n1, d, B', m1, d', B2, q1, d2, rfl, hO, hb1⟩; have hR1 := HBX.out.2.2.1.below hb1; have r0 := hR1.cell 0; have r1 := hR1.cell 1; have r2 := hR1.cell 2; have f0 := hR1.frozen 0; have f1 := hR1.frozen 1; have f2 := hR1.frozen 2; simp at r0 r1 r2; have HB1 := Lib.hid (And.intro hR1 (And.intro hb1 (And.intro hF hO))); clear hR1 hb1 hF hO)
  have hR3 := ((HB1.out.1.set_ 0 (.slice B n1 d)).set_ 1 (.slice B' m1 d')).set_ 2 (.slice B2 q1 d2)
  have z0 := hR3.cell 0
  have z1 := hR3.cell 1
  have z2 := hR3.cell 2
  simp at z0 z1 z2
  have hbw : Below w.heap.size w W1 := bt HBX.out.2.2.2 HB1.out.2.1
  have hlr : w.heap.size + 2 < (((w.alloc (.cells #[.slice A n c, .slice A' m c', .slice A2 q cq] 28)).alloc (.cells #[.int .u8 kd, .int .i64 b] 65)).alloc (.cells #[.slice none 0 0, .slice none 0 0, .slice none 0 0] 28)).heap.size := by simp
  refine bodyPost_ret (v := .tuple #[pcV B n1 d B' m1 d' B2 q1 d2, .int .i64 er]) (by simp [results, Tryd.results30, go_sem, z0, z1, z2]) rfl ⟨er, R, HB1.out.2.2.1, B, n1, d, B', m1, d', B2, q1, d2, rfl, ?_, ((hbw.setCell (p := ⟨w.heap.size + 2, 0, none⟩) (by simp) _).setCell (p := ⟨w.heap.size + 2, 1, none⟩) (by simp) _).setCell (p := ⟨w.heap.size + 2, 2, none⟩) (by simp) _⟩
  exact (((HB1.out.2.2.2.other hlr _ _).other hlr _ _).other hlr _ _).more (by simp; omega)

set_option maxRecDepth 100000 in
set_option maxHeartbeats 3200000 in
theorem rw_is6 (A : Option Addr) (n c : Nat) (A' : Option Addr) (m c' : Nat) (A2 : Option Addr) (q cq : Nat) (C : List Cr) (S : List Int) (P : List EvP) (kd b : Int) (hK : kd % 7 = 6) (h0 : 0 ≤ kd) (w : World) (hP : PcIn w A n c A' m c' A2 q cq C S P) (hX : pcErr C S P = 0) :
    Calls Tryd.prog 30 #[pcV A n c A' m c' A2 q cq, .agg #[.int .u8 kd, .int .i64 b]] w (RwPt 6 C S P w) := by
  have HBX := Lib.hid (box3 w #[.slice A n c, .slice A' m c', .slice A2 q cq] #[.int .u8 kd, .int .i64 b] #[.slice none 0 0, .slice none 0 0, .slice none 0 0] 28 65 28)
  have CT := Lib.hid (rc_hlv A n c A' m c' A2 q cq C S P _ (hP.below HBX.out.2.2.2) hX)
  have hT7 : kd.tmod 7 = 6 := by rw [Int.tmod_eq_emod_of_nonneg h0]; exact hK
  clear hP hX hK
  unfold RwPt at CT
  go_enter Tryd.func30, Tryd.ntmps30
  go_wp2_with (go_at_call 60; refine CT.out.mono ?_; rintro e W1 ⟨er, R, hF, B, n1, d, B', m1, d', B2, q1, d2, rfl, hO, hb1⟩; have hR1 := HBX.out.2.2.1.below hb1; have r0 := hR1.cell 0; have r1 := hR1.cell 1; have r2 := hR1.cell 2; have f0 := hR1.frozen 0; have f1 := hR1.frozen 1; have f2 := hR1.frozen 2; simp at r0 r1 r2; have HB1 := Lib.hid (And.intro hR1 (And.intro hb1 (And.intro hF hO))); clear hR1 hb1 hF hO)
  have hR3 := ((HB1.out.1.set_ 0 (.slice B n1 d)).set_ 1 (.slice B' m1 d')).set_ 2 (.slice B2 q1 d2)
  have z0 := hR3.cell 0
  have z1 := hR3.cell 1
  have z2 := hR3.cell 2
  simp at z0 z1 z2
  have hbw : Below w.heap.size w W1 := bt HBX.out.2.2.2 HB1.out.2.1
  have hlr : w.heap.size + 2 < (((w.alloc (.cells #[.slice A n c, .slice A' m c', .slice A2 q cq] 28)).alloc (.cells #[.int .u8 kd, .int .i64 b] 65)).alloc (.cells #[.slice none 0 0, .slice none 0 0, .slice none 0 0] 28)).heap.size := by simp
  refine bodyPost_ret (v := .tuple #[pcV B n1 d B' m1 d' B2 q1 d2, .int .i64 er]) (by simp [results, Tryd.results30, go_sem, z0, z1, z2]) rfl ⟨er, R, HB1.out.2.2.1, B, n1, d, B', m1, d', B2, q1, d2, rfl, ?_, ((hbw.setCell (p := ⟨w.heap.size + 2, 0, none⟩) (by simp) _).setCell (p := ⟨w.heap.size + 2, 1, none⟩) (by simp) _).setCell (p := ⟨w.heap.size + 2, 2, none⟩) (by simp) _⟩
  exact (((HB1.out.2.2.2.other hlr _ _).other hlr _ _).other hlr _ _).more (by simp; omega)

theorem rewritten_any (A : Option Addr) (n c : Nat) (A' : Option Addr) (m c' : Nat) (A2 : Option Addr) (q cq : Nat) (C : List Cr) (S : List Int) (P : List EvP) (kd b : Int) (h0 : 0 ≤ kd) (w : World) (hP : PcIn w A n c A' m c' A2 q cq C S P) (hX : pcErr C S P = 0) (hT : SgT w) :
    Calls Tryd.prog 30 #[pcV A n c A' m c' A2 q cq, .agg #[.int .u8 kd, .int .i64 b]] w (RwPt (kd % 7) C S P w) := by
  have : kd % 7 = 0 ∨ kd % 7 = 1 ∨ kd % 7 = 2 ∨ kd % 7 = 3 ∨ kd % 7 = 4 ∨ kd % 7 = 5 ∨ kd % 7 = 6 := by omega
  rcases this with h | h | h | h | h | h | h
  · rw [h]; exact rw_is0 A n c A' m c' A2 q cq C S P kd b h h0 w hP hX
  · rw [h]; exact rw_is1 A n c A' m c' A2 q cq C S P kd b h h0 w hP hX
  · rw [h]; exact rw_is2 A n c A' m c' A2 q cq C S P kd b h h0 w hP hX
  · rw [h]; exact rw_is3 A n c A' m c' A2 q cq C S P kd b h h0 w hP hX hT
  · rw [h]; exact rw_is4 A n c A' m c' A2 q cq C S P kd b h h0 w hP hX hT
  · rw [h]; exact rw_is5 A n c A' m c' A2 q cq C S P kd b h h0 w hP hX
  · rw [h]; exact rw_is6 A n c A' m c' A2 q cq C S P kd b h h0 w hP hX

end Go.Proofs.YtdhjigaocamglaaDoor
