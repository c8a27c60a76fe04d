/- Pieces: the reference's Break, for any piece and distance. -/
import Derived.Test.YtdhjigaocamglaaDoorQcBk8
import Derived.Deep.RegionHeld3
namespace Go.Proofs.YtdhjigaocamglaaDoor
open Go Go.RowKit

/-- The second loop: what it keeps. -/
structure BkP (w : World) (b ob qb : Nat) (A : Option Addr) (n c : Nat) (A' : Option Addr) (m c' : Nat) (A2 : Option Addr) (l cq : Nat) (C : List Cr) (S : List Int) (Q : List EvP) (X : List EvT) (E : List EvT) (B2 : Option Addr) (q d2 : Nat) (Bf : Option Addr) (cf : Nat) (bc : List Int) (wr : World) : Prop where
  pc : PcOE wr b A n c A' m c' A2 l cq C S Q X
  o : Blk wr ob 28 #[.slice A n c, .slice A' m c', .slice A2 l cq]
  x : Blk wr qb 28 #[.slice A n c, .slice A' m c', .slice B2 q d2]
  qe : Ow wr b 51 6 B2 q d2 (evC E)
  fr : Ow wr b 3 1 Bf bc.length cf (intC bc)
  fst : ∀ (j : Nat) (z : EvT), j < bc.length → E[j]? = some z → ∃ x, X[(bc.getD j 0).toNat]? = some x ∧ x.sa = z.sa ∧ x.sn = z.sn ∧ x.sc = z.sc
  rs : Blk wr (w.heap.size + 1) 28 #[.slice none 0 0, .slice none 0 0, .slice none 0 0]
  lo : Below w.heap.size w wr
theorem BkP.below {w : World} {b ob qb : Nat} {A : Option Addr} {n c : Nat} {A' : Option Addr} {m c' : Nat} {A2 : Option Addr} {l cq : Nat} {C : List Cr} {S : List Int} {Q : List EvP} {X E : List EvT} {B2 : Option Addr} {q d2 : Nat} {Bf : Option Addr} {cf : Nat} {bc : List Int} {wr wx : World}
    (h : BkP w b ob qb A n c A' m c' A2 l cq C S Q X E B2 q d2 Bf cf bc wr) (hb : Below wr.heap.size wr wx) : BkP w b ob qb A n c A' m c' A2 l cq C S Q X E B2 q d2 Bf cf bc wx :=
  ⟨h.pc.below hb, h.o.below hb, h.x.below hb, h.qe.blkB (fun _ _ _ h => h.below hb), h.fr.blkB (fun _ _ _ h => h.below hb), h.fst, h.rs.below hb, bt h.lo hb⟩
theorem Ow.cellB {w : World} {B : Nat} {t : TypeId} {size : Nat} {A : Option Addr} {n c : Nat} {xs : List Value} (h : Ow w B t size A n c xs) (hn : 0 < n) : ∃ g, A = some ⟨g, 0, none⟩ ∧ g < w.heap.size ∧ (∃ cs, Blk w g t cs) ∧ ∀ (j : Nat) (u : Value), xs[j]? = some u → w.cell? ⟨g, j, none⟩ = some u := by
  obtain ⟨g, cur, e1, _, e3, _, e5⟩ := h.2.2 hn
  exact ⟨g, e1, e3.lt, ⟨_, e3⟩, fun j u hu => e3.cellOf e5 hu⟩
theorem BkP.stop {w : World} {b ob qb : Nat} {A : Option Addr} {n c : Nat} {A' : Option Addr} {m c' : Nat} {A2 : Option Addr} {l cq : Nat} {C : List Cr} {S : List Int} {Q : List EvP} {X E : List EvT} {B2 : Option Addr} {q d2 : Nat} {Bf : Option Addr} {cf : Nat} {bc : List Int} {wr : World}
    (h : BkP w b ob qb A n c A' m c' A2 l cq C S Q X E B2 q d2 Bf cf bc wr) (hb : w.heap.size ≤ b) {i k : Nat} {y : EvP} {s : St} {z : EvT} (hy : Q[(bc.getD i 0).toNat]? = some y) (hs : y.L[k]? = some s) (hz : E[i]? = some z) (hi : i < bc.length) (hq : 0 < q) :
    ∃ ge gq g sc, A2 = some ⟨ge, 0, none⟩ ∧ B2 = some ⟨gq, 0, none⟩ ∧ ge < wr.heap.size ∧ gq < wr.heap.size ∧ g < wr.heap.size ∧ wr.cell? ⟨ge, (bc.getD i 0).toNat * 6 + 5, none⟩ = some (.slice (some ⟨g, 0, none⟩) y.L.length sc) ∧ wr.cell? ⟨gq, i * 6 + 5, none⟩ = some (.slice (some ⟨g, 0, none⟩) y.L.length sc) ∧
      (g ≠ ob ∧ ob ≠ g ∧ g ≠ qb ∧ qb ≠ g ∧ g ≠ ge ∧ ge ≠ g ∧ g ≠ gq ∧ gq ≠ g) ∧ wr.cell? ⟨g, k * 5 + 4, none⟩ = some (.int .i64 s.h) ∧ (∀ j, wr.frozen? ⟨g, j, none⟩ = false) ∧
      (∀ v : Int, BkP w b ob qb A n c A' m c' A2 l cq C S (Q.set (bc.getD i 0).toNat { y with L := y.L.set k ⟨s.c, s.f, s.r, s.g, v⟩ }) X E B2 q d2 Bf cf bc (wr.setCell ⟨g, k * 5 + 4, none⟩ (.int .i64 v))) := by
  obtain ⟨ge, x, g, rfl, hbe, hle, hx, c5, hbg, hlg, n1, n2, cc, hf, ⟨cs, hB⟩, _, ht⟩ := h.pc.stop hy hs
  obtain ⟨x', f1, f2, f3, f4⟩ := h.fst i z hi hz
  rw [hx] at f1
  injection f1 with f1
  subst f1
  obtain ⟨gq, rfl, hlq, ⟨csq, hBq⟩, hcq⟩ := h.qe.cellB hq
  obtain ⟨_, _, _, _, _, i5⟩ := evC_at E i z hz
  have q5 := hcq _ _ i5
  have hsa : x.sa = some ⟨g, 0, none⟩ ∧ x.sn = y.L.length := by
    obtain ⟨ge2, x2, e1, _, _, hx2, ⟨_, _, _, _, _, d5⟩, _⟩ := h.pc.sign hy
    injection e1 with e1
    injection e1 with e1
    subst e1
    rw [hx] at hx2
    injection hx2 with hx2
    subst hx2
    rw [c5] at d5
    injection d5 with d5
    injection d5 with d5
    exact ⟨d5.symm, (h.pc.e2 _ _ _ hx hy).1.2.2.2.2.2⟩
  rw [← f2, ← f3, ← f4, hsa.1, hsa.2] at q5
  have ho := hB.ne h.o (by decide)
  have hq' := hB.ne h.x (by decide)
  have hr := hB.ne h.rs (by decide)
  have hgq := hB.ne hBq (by decide)
  have hkb : ∀ (v : Int) (g2 : Nat) (T : TypeId) (cs2 : Array Value), T ≠ 62 → Blk wr g2 T cs2 → Blk (wr.setCell ⟨g, k * 5 + 4, none⟩ (.int .i64 v)) g2 T cs2 := fun v g2 T cs2 hT h2 => h2.setOther (h2.ne hB hT) _ _
  exact ⟨ge, gq, g, x.sc, rfl, rfl, hle, hlq, hlg, c5, q5, ⟨ho, fun e => ho e.symm, hq', fun e => hq' e.symm, n2, n1, hgq, fun e => hgq e.symm⟩, cc.2.2.2.2, hf, fun v =>
    ⟨ht v, h.o.setOther (fun e => ho e.symm) _ _, h.x.setOther (fun e => hq' e.symm) _ _, h.qe.blkB (fun g2 cs2 _ h2 => hkb v g2 _ cs2 (by decide) h2), h.fr.blkB (fun g2 cs2 _ h2 => hkb v g2 _ cs2 (by decide) h2), h.fst, h.rs.setOther (fun e => hr e.symm) _ _, h.lo.setCell (p := ⟨g, k * 5 + 4, none⟩) (Nat.le_trans hb hbg) _⟩⟩
/-- Behind the first loop. -/
theorem BrO.toP {w W5 : World} {b ob qb : Nat} {A : Option Addr} {n c : Nat} {A' : Option Addr} {m c' : Nat} {v bv : Value} {E : List EvT} {i : Nat} {Q : List EvP} {X : List EvT} {bc : List Int} {W : World} {B2 : Option Addr} {q1 d2 : Nat} {C : List Cr} {S : List Int} {G : List EvP}
    (h : BrO W5 b ob (.slice A n c) (.slice A' m c') v bv E i Q X bc W) (hO : PcOE W5 b A n c A' m c' B2 q1 d2 C S G E) (hb5 : b ≤ W5.heap.size) (hx : Blk W5 qb 28 #[.slice A n c, .slice A' m c', .slice B2 q1 d2]) (hqo : qb ≠ ob) {co : Array Value} (h0 : Blk W5 ob 28 co)
    (hr : Blk W5 (w.heap.size + 1) 28 #[.slice none 0 0, .slice none 0 0, .slice none 0 0]) (hro : w.heap.size + 1 ≠ ob) (hlo : Below w.heap.size w W5) (hwo : w.heap.size ≤ ob) (hfb : ∀ j, j < bc.length → (bc.getD j 0).toNat < X.length) :
    ∃ A2 cq Bf cf, v = .slice A2 Q.length cq ∧ bv = .slice Bf bc.length cf ∧ BkP w b ob qb A n c A' m c' A2 Q.length cq C S Q X E B2 q1 d2 Bf cf bc W := by
  have hkk : ∀ g : Nat, g < W5.heap.size → g ≠ ob → W.heap[g]? = W5.heap[g]? := fun g h1 h2 => h.kx.block g h1 h2
  have hkb : ∀ (g : Nat) (T : TypeId) (cs : Array Value), T ≠ 28 → Blk W5 g T cs → Blk W g T cs := fun g T cs h2 hB => (hkk g hB.lt (hB.ne h0 h2)).trans hB
  obtain ⟨A2, cq, rfl⟩ := own_slice h.row
  obtain ⟨Bf, cf, rfl⟩ := own_slice h.brow
  refine ⟨A2, cq, Bf, cf, rfl, rfl, ⟨⟨hO.o3.crs.blk (fun g cs h2 => hkb g _ cs (by decide) h2), hO.o3.stp.blk (fun g cs h2 => hkb g _ cs (by decide) h2), hO.o3.hn, hO.o3.hm, rfl⟩, h.xl, h.cp.blk (fun g cs h2 => hkb g _ cs (by decide) h2), (Ow.of_own h.row).more hb5, h.dst⟩, h.o, (hkk qb hx.lt hqo).trans hx, hO.e3.blk (fun g cs h2 => hkb g _ cs (by decide) h2), (Ow.of_own h.brow).more hb5, fun j z hj hE => h.fst j z hj hE (hfb j hj), (hkk _ hr.lt hro).trans hr, hlo.trans ?_⟩
  exact ⟨h.kx.os, h.kx.tape, h.kx.output, h.kx.size, fun k hk => h.kx.block k (Nat.lt_of_lt_of_le hk hlo.size) (fun e => by omega)⟩
theorem zero_box2 {w W1 : World} {g : Nat} {u0 u1 u2 : Value} (h : Blk W1 g 28 #[u0, u1, u2]) (hb : Below w.heap.size w W1) (hg : w.heap.size ≤ g) :
    Below w.heap.size w (((W1.setCell ⟨g, 0, none⟩ (.slice none 0 0)).setCell ⟨g, 1, none⟩ (.slice none 0 0)).setCell ⟨g, 2, none⟩ (.slice none 0 0)) ∧
    Blk (((W1.setCell ⟨g, 0, none⟩ (.slice none 0 0)).setCell ⟨g, 1, none⟩ (.slice none 0 0)).setCell ⟨g, 2, none⟩ (.slice none 0 0)) g 28 #[.slice none 0 0, .slice none 0 0, .slice none 0 0] := by
  refine ⟨((hb.setCell (p := ⟨g, 0, none⟩) hg _).setCell (p := ⟨g, 1, none⟩) hg _).setCell (p := ⟨g, 2, none⟩) hg _, ?_⟩
  have := ((h.set_ 0 (.slice none 0 0)).set_ 1 (.slice none 0 0)).set_ 2 (.slice none 0 0)
  simpa using this

set_option maxRecDepth 100000 in
set_option maxHeartbeats 6400000 in
theorem rbreak_any (A : Option Addr) (n c : Nat) (A' : Option Addr) (m c' : Nat) (A2 : Option Addr) (q cq : Nat) (C : List Cr) (S : List Int) (P : List EvP) (bi : Int) (w : World) (hP : PcIn w A n c A' m c' A2 q cq C S P) (hnb : n ≤ 65536) (hmb : m ≤ 65536) (hqb : q ≤ 65536) (hst : ∀ y ∈ P, y.L.length ≤ 65536) :
    Calls Tryd.prog 22 #[pcV A n c A' m c' A2 q cq, .int .i64 bi] w (PcRes (brErr (pcErr C S P) bi P) C S (brRes bi P) w) := by
  have HP : Hid (∀ w', Below w.heap.size w w' → PcIn w' A n c A' m c' A2 q cq C S P) := fun w' hb => hP.below hb
  have HST := Lib.hid hst
  have HL := Lib.hid hP.es.hq
  have HLC := Lib.hid (And.intro hP.hn hP.hm)
  have HBX := Lib.hid (pbox w A n c A' m c' A2 q cq)
  obtain ⟨X, hX⟩ : ∃ X, pcErr C S P = X := ⟨_, rfl⟩
  have PL : Hid (∀ w', PcIn w' A n c A' m c' A2 q cq C S P → Calls Tryd.prog 12 #[pcV A n c A' m c' A2 q cq] w' (PcResO X C S (setG P (frcL s0g P)) w')) := fun w' h => by
    have := rplainO_any A n c A' m c' A2 q cq C S P w' h hnb hmb hqb hst
    rwa [hX] at this
  rw [hX]
  by_cases hX0 : X = 0
  rotate_left
  · have hXb : (X != 0) = true := by simpa using hX0
    have HX0 := Lib.hid hX0
    have hbe : brErr X bi P = X := by unfold brErr; rw [if_pos hX0]
    rw [hbe]
    clear hX0 hX hP hst hbe
    generalize setG P (frcL s0g P) = G at *
    generalize brRes bi P = R at *
    go_enter Tryd.func22, Tryd.ntmps22
    go_wp2_with (go_at_call 12; (with_reducible refine (PL.out _ (HP.out _ HBX.out.2.2.1)).mono ?_); rintro e W1 ⟨B, n1, d, B', m1, d', B2, q1, d2, E, rfl, hO, hb1⟩; obtain ⟨r0, r1, r2⟩ := HP0.cells (HBX.out.2.1.below hb1); have f0 := (HBX.out.2.1.below hb1).frozen 0; have f1 := (HBX.out.2.1.below hb1).frozen 1; have f2 := (HBX.out.2.1.below hb1).frozen 2; have hlr := (HBX.out.2.1.below hb1).lt; have HRB := Lib.hid (HBX.out.2.1.below hb1); have HB1 := Lib.hid hb1; clear hb1 hO)
    obtain ⟨hW, hZ⟩ := zero_box (w := w) (O := pcO B n1 d B' m1 d' B2 q1 d2) HRB.out (bt HBX.out.2.2.1 HB1.out) (by omega)
    obtain ⟨z0, z1, z2⟩ := HP0.cells hZ
    refine err_retW w _ X hW HX0.out ?_
    simp [results, Tryd.results22, go_sem, z0, z1, z2]
  subst hX0
  by_cases hbr : bi < 1 ∨ 4608 < bi
  · have hbe : brErr 0 bi P = 1 := by unfold brErr; rw [if_neg (by simp), if_pos hbr]
    rw [hbe]
    clear hX hP hst hbe
    generalize setG P (frcL s0g P) = G at *
    generalize brRes bi P = R at *
    by_cases hb1 : bi < 1
    · have hd1 : decide (bi < 1) = true := decide_eq_true hb1
      clear hbr
      go_enter Tryd.func22, Tryd.ntmps22
      go_wp2_with (go_at_call 12; (with_reducible refine (PL.out _ (HP.out _ HBX.out.2.2.1)).mono ?_); rintro e W1 ⟨B, n1, d, B', m1, d', B2, q1, d2, E, rfl, hO, hb1⟩; obtain ⟨r0, r1, r2⟩ := HP0.cells (HBX.out.2.1.below hb1); have f0 := (HBX.out.2.1.below hb1).frozen 0; have f1 := (HBX.out.2.1.below hb1).frozen 1; have f2 := (HBX.out.2.1.below hb1).frozen 2; have hlr := (HBX.out.2.1.below hb1).lt; have HRB := Lib.hid (HBX.out.2.1.below hb1); have HB1 := Lib.hid hb1; clear hb1 hO)
      obtain ⟨hW, hZ⟩ := zero_box (w := w) (O := pcO B n1 d B' m1 d' B2 q1 d2) HRB.out (bt HBX.out.2.2.1 HB1.out) (by omega)
      obtain ⟨z0, z1, z2⟩ := HP0.cells hZ
      refine err_retW w _ 1 hW (by decide) ?_
      simp [results, Tryd.results22, go_sem, z0, z1, z2]
    · have hd1 : decide (bi < 1) = false := decide_eq_false hb1
      have hd2 : decide (4608 < bi) = true := decide_eq_true (by omega)
      clear hbr
      go_enter Tryd.func22, Tryd.ntmps22
      go_wp2_with (go_at_call 12; (with_reducible refine (PL.out _ (HP.out _ HBX.out.2.2.1)).mono ?_); rintro e W1 ⟨B, n1, d, B', m1, d', B2, q1, d2, E, rfl, hO, hb1⟩; obtain ⟨r0, r1, r2⟩ := HP0.cells (HBX.out.2.1.below hb1); have f0 := (HBX.out.2.1.below hb1).frozen 0; have f1 := (HBX.out.2.1.below hb1).frozen 1; have f2 := (HBX.out.2.1.below hb1).frozen 2; have hlr := (HBX.out.2.1.below hb1).lt; have HRB := Lib.hid (HBX.out.2.1.below hb1); have HB1 := Lib.hid hb1; clear hb1 hO)
      obtain ⟨hW, hZ⟩ := zero_box (w := w) (O := pcO B n1 d B' m1 d' B2 q1 d2) HRB.out (bt HBX.out.2.2.1 HB1.out) (by omega)
      obtain ⟨z0, z1, z2⟩ := HP0.cells hZ
      refine err_retW w _ 1 hW (by decide) ?_
      simp [results, Tryd.results22, go_sem, z0, z1, z2]
  have hb1 : 1 ≤ bi := by omega
  have hb2 : bi ≤ 4608 := by omega
  obtain ⟨b, rfl⟩ := Int.eq_ofNat_of_zero_le (show 0 ≤ bi by omega)
  have hbN1 : 1 ≤ b := by omega
  have hbN2 : b ≤ 4608 := by omega
  have hd1 : decide ((b : Int) < 1) = false := decide_eq_false (by omega)
  have hd2 : decide ((4608 : Int) < (b : Int)) = false := decide_eq_false (by omega)
  have hn1 : ¬ (b : Int) < 1 := by omega
  have hn2 : ¬ (4608 : Int) < (b : Int) := by omega
  have hn3 : ¬ b = 0 := by omega
  have hn4 : ¬ 4608 < b := by omega
  have hn5 : ¬ b < 1 := by omega
  have hq4 : P.length ≤ 400 := (pcErr_ok hX).2.1
  have hFok := frc_ok0 hX
  have hgl : (setG P (frcL s0g P)).length = q := by rw [setG_len, HL.out]
  have hfg : frcL s0g (setG P (frcL s0g P)) = frcL s0g P := frc_setF P (frcL s0g P) s0g (frcL_len s0g P) hFok
  -- what the events of the plain piece are
  have HGE : Hid (∀ i, i < q → ∃ p y, (tpL P)[i]? = some p ∧ (setG P (frcL s0g P))[i]? = some y ∧ y.L = p.y.L ∧ y.tie = p.y.tie ∧ y.bar = p.y.bar ∧ restB y = restB p.y ∧ (P.getD i z6).L = p.y.L ∧ okB y.v y.d y.t = true ∧ tkV y.v y.d y.t = p.to - p.fm ∧ p.fm = onT P i ∧ p.to = onT P (i + 1) ∧ 0 ≤ p.fm ∧ p.fm < p.to ∧ p.to ≤ 240000) := fun i hi => by
    have hiP : i < P.length := by have := HL.out; omega
    have hlt : i < (tpL P).length := by rw [tmPL_len]; exact hiP
    have hp := List.getElem?_eq_getElem hlt
    have hx := tmPL_yv P 0 0 false false 0 i _ hp
    obtain ⟨f, hFi⟩ : ∃ f, (frcL s0g P)[i]? = some f := ⟨_, List.getElem?_eq_getElem (by rw [frcL_len]; exact hiP)⟩
    have hy : (setG P (frcL s0g P))[i]? = some (upS (tpL P)[i].y f) := by rw [setG_at P (frcL s0g P) i (frcL_len s0g P), hx, hFi]; rfl
    obtain ⟨t1, t2⟩ := tp_time (sgr_of hX) hp
    have t3 := tm_pos hX _ (List.mem_of_getElem? hp)
    have t4 : onT P (i + 1) = onT P i + tkS f := by
      unfold onT
      have := (sumL_at (frcL s0g P) 0 i (by rw [frcL_len]; exact hiP)).2
      rw [getD_get this, getD_get hFi]
    have t5 := sumL_bd (frcL s0g P) 0 (i + 1) (by omega) (by rw [frcL_len]; omega)
    have t6 := sumL_bd (frcL s0g P) 0 i (by omega) (by rw [frcL_len]; omega)
    refine ⟨_, _, hp, hy, rfl, rfl, rfl, rfl, by rw [getD_get hx], hFok _ (List.mem_of_getElem? hFi), ?_, t1, t2, ?_, t3.1, ?_⟩
    · rw [t1, t2, t4]
      show tkS _ = _
      omega
    · rw [t1]; exact t6.1
    · rw [t2]
      have : onT P (i + 1) ≤ 0 + 576 * ((i + 1 : Nat) : Int) := t5.2
      omega
  have HX := Lib.hid hX
  have HFG := Lib.hid hfg
  have HLS : Hid (∀ y ∈ P, y.L.length ≤ 65536) := hst
  clear hP hst hX hFok hfg hbr
  obtain ⟨G, hG⟩ : ∃ G, setG P (frcL s0g P) = G := ⟨_, rfl⟩
  rw [hG] at PL hgl HGE HFG
  have HGL := Lib.hid hgl
  have hq4' : q ≤ 400 := by have := HL.out; omega
  clear hG hgl hq4
  obtain ⟨i0, ii1, ii2, ii3, ii4⟩ := info_parts Tryd.infoEv
  obtain ⟨j0, jj1, jj2, jj3, jj4⟩ := info_parts (show (Tryd.prog.info? 3).map (fun i => (i.zero, i.size, i.bytes)) = some (some (.int .i64 0), 1, 8) by kernel_rfl)
  go_enter Tryd.func22, Tryd.ntmps22
  go_wp2_with (first
    | (go_at_call 12; (with_reducible refine (PL.out _ (HP.out _ HBX.out.2.2.1)).mono ?_); rintro e W1 ⟨B, n1, d, B', m1, d', B2, q1, d2, E, rfl, hO, hb1⟩; rw [oC_ok, oC_ok, oC_ok] at hO; obtain rfl : n1 = n := hO.o3.hn.trans HLC.out.1.symm; obtain rfl : m1 = m := hO.o3.hm.trans HLC.out.2.symm; obtain rfl : q1 = q := hO.o3.hq.trans HGL.out; have hlr := (HBX.out.2.1.below hb1).lt; have HB1 := Lib.hid (And.intro (HBX.out.1.below hb1) (And.intro (HBX.out.2.1.below hb1) (And.intro hO (bt HBX.out.2.2.1 hb1)))); have HQB := Lib.hid (heap_alloc_new W1 (pcO B n1 d B' m1 d' B2 q1 d2)); clear hb1 hO))
  refine (rTimes_any _ _ _ _ _ _ _ _ _ G _ (HB1.out.2.2.1.below (ba W1 (pcO B n1 d B' m1 d' B2 q1 d2))).pcOw.pcIn.es hqb).mono ?_
  rintro e W2 ⟨Bt, dt, rfl, hOt, hbt⟩
  rw [HFG.out] at hOt
  obtain ⟨q0, q1', q2'⟩ := HP0.cells (Blk.below HQB.out hbt)
  have HB2 := Lib.hid (And.intro hOt hbt)
  have hz12 := hbt.size
  clear hOt hbt
  have hqo : W1.heap.size < W2.heap.size := by simp at hz12; omega
  have hbbw : w.heap.size + 2 ≤ W1.heap.size := by have := HB1.out.2.2.2.size; have := HBX.out.2.2.2; have := HB1.out.2.1.lt; have h5 := HBX.out.2.2.2; have h6 := HBX.out.2.1.lt; omega
  go_wp2_with (fail)
  obtain ⟨W5, hW5⟩ : ∃ x, W2.alloc (pcO B n1 d B' m1 d' none 0 0) = x := ⟨_, rfl⟩
  rw [hW5]
  have hU5 : Blk W5 W2.heap.size 28 #[.slice B n1 d, .slice B' m1 d', .slice none 0 0] := by rw [← hW5]; exact heap_alloc_new _ _
  have hb25 : Below W2.heap.size W2 W5 := by rw [← hW5]; exact ba _ _
  have hb15 : Below W1.heap.size W1 W5 := bt (ba W1 (pcO B n1 d B' m1 d' B2 q1 d2)) (bt HB2.out.2 hb25)
  have HQ5 : Hid (Blk W5 W1.heap.size 28 #[.slice B n1 d, .slice B' m1 d', .slice B2 q1 d2]) := Blk.below (Blk.below HQB.out HB2.out.2) hb25
  have HO5 := Lib.hid (HB1.out.2.2.1.below hb15)
  have HT5 := Lib.hid (HB2.out.1.blkB (fun _ _ _ h => h.below hb25))
  have HRS := Lib.hid (HB1.out.2.1.below hb15)
  have HLO := Lib.hid (bt HB1.out.2.2.2 hb15)
  obtain ⟨ob, hob⟩ : ∃ g, W2.heap.size = g := ⟨_, rfl⟩
  obtain ⟨bb, hbb⟩ : ∃ bb, ((w.alloc (pcO A n1 c A' m1 c' A2 q1 cq)).alloc zPcO).heap.size = bb := ⟨_, rfl⟩
  have hbb2 : bb = w.heap.size + 2 := by rw [← hbb]; exact HBX.out.2.2.2
  rw [hbb] at HO5
  rw [hob] at hU5 hqo ⊢
  have hob5 : ob < W5.heap.size := hU5.lt
  have HU5 := Lib.hid hU5
  have HBB := Lib.hid hbb2
  clear hW5 hb25 hb15 hob hbb hbb2 hU5 q0 q1' q2' hz12 hlr
  have hbb3 : bb ≤ W1.heap.size := by have := HBB.out; omega
  have hR0 : BrO W5 bb ob (.slice B n1 d) (.slice B' m1 d') (.slice none 0 0) (.slice none 0 0) E 0 [] [] [] W5 :=
    ⟨HU5.out, World.ownsRow_nil _ _ _ _, rfl, World.ownsRow_nil _ _ _ _, fun j x y hx _ => by simp at hx, fun k x hx => by simp at hx, fun i j x y _ hx => by simp at hx, fun j z hj => by simp at hj, Kx.refl _ _ _⟩
  have HR0 := Lib.hid hR0
  clear hR0
  go_loopw [11, 10] (fun iv fv wr => ∃ (i : Nat) (v bv : Value) (X : List EvT) (Q : List EvP) (a : BrS), i ≤ q1 ∧ iv = .int .i64 i ∧ fv = bv ∧ Hid (BrO W5 bb ob (.slice B n1 d) (.slice B' m1 d') v bv E i Q X a.bc wr) ∧ Hid (brGo b ((tpL P).take i) ⟨[], []⟩ = some a ∧ AtI ((tpL P).take i) a Q ∧ BrI ((tpL P).take i) a)) (fun iv _ _ => q1 - (intOf iv).toNat)
  case atStart => exact ⟨0, _, _, [], [], ⟨[], []⟩, by omega, rfl, rfl, HR0.out, by rw [List.take_zero]; exact ⟨rfl, atI_nil, brI_nil⟩⟩
  case round =>
    obtain ⟨i, v, bv, X, Q, a, hi, rfl, rfl, HR, HA⟩ := hrel
    have hqx : Blk wr W1.heap.size 28 #[.slice B n1 d, .slice B' m1 d', .slice B2 q1 d2] := (HR.out.kx.block W1.heap.size (by omega) (by omega)).trans HQ5.out
    obtain ⟨q0, q1', q2⟩ := HP0.cells hqx
    obtain ⟨o0, o1, o2⟩ := HP0.cells HR.out.o
    have lqx := hqx.lt
    clear hqx
    by_cases hlt : i < q1
    · have hin : (i : Int) < (q1 : Int) := by omega
      obtain ⟨p, y, hp, hy, e1, e2, e3, e4, e5, e6, e7, e8, e9, e10, e11, e12⟩ := HGE.out i hlt
      obtain ⟨ge, x, hB2, hge1, hge2, hx, ⟨c0, c1, c2, c3, c4, c5⟩, _, ⟨cse, hBe⟩, _, _⟩ := HO5.out.sign hy
      subst hB2
      have hne1 : ge ≠ ob := hBe.ne HU5.out (by decide)
      obtain ⟨gt, hgt, hgtl, ⟨cst, hBt⟩, hct⟩ := HT5.out.cellB (by omega)
      subst hgt
      have hne2 : gt ≠ ob := hBt.ne HU5.out (by decide)
      have hkb1 := HR.out.kx.block ge hge2 hne1
      have hkb2 := HR.out.kx.block gt hgtl hne2
      replace c0 := cell_same hkb1 c0
      replace c1 := cell_same hkb1 c1
      replace c2 := cell_same hkb1 c2
      replace c3 := cell_same hkb1 c3
      replace c4 := cell_same hkb1 c4
      replace c5 := cell_same hkb1 c5
      have hTl : (0 :: sumL 0 (frcL s0g P)).length = q1 + 1 := by rw [List.length_cons, sumL_len, frcL_len, ← HL.out]
      have t0 := cell_same hkb2 (hct _ _ (intC_at _ i (by rw [hTl]; omega)))
      have t1 := cell_same hkb2 (hct _ _ (intC_at _ (i + 1) (by rw [hTl]; omega)))
      have f0 : (0 :: sumL 0 (frcL s0g P)).getD i 0 = p.fm := e8.symm
      have f1 : (0 :: sumL 0 (frcL s0g P)).getD (i + 1) 0 = p.to := e9.symm
      rw [f0] at t0
      rw [f1] at t1
      have hsz := HR.out.kx.size
      have lge : ge < wr.heap.size := by omega
      have lgt : gt < wr.heap.size := by omega
      obtain ⟨R, hR⟩ : ∃ R, sgAll (ptA b p.fm p.to) = R := ⟨_, rfl⟩
      have PC : Hid (∀ W', Calls Tryd.prog 54 #[evV y.bar y.v y.d y.t y.tie x.sa y.L.length x.sc, .int .i64 p.fm, .int .i64 p.to, .int .i64 b] W' fun e w' => ∃ A c L E, e = .returned (.tuple #[.slice A (List.length L) c, .int .i64 E]) ∧ (∀ S, R = some S → L = hdT y.tie x.sa y.L.length x.sc ((brS (!restB ⟨y.bar, y.v, y.d, y.t, y.tie, y.L⟩) b p.fm S).map zT) ∧ E = 0) ∧ (R = none → L = [] ∧ E = 25) ∧ Ow w' W'.heap.size 51 6 A L.length c (evC L) ∧ Below W'.heap.size W' w') :=
        fun W' => pieces_any y.bar y.v y.d y.t y.tie y.L x.sa x.sc p.fm p.to b W' hbN1 hbN2 e10 e11 (by omega) e6 e7 R hR
      have HYF := Lib.hid (And.intro hp (And.intro hy (And.intro e1 (And.intro e2 (And.intro e4 (And.intro hR (And.intro e11 (And.intro hx (And.intro e10 e12)))))))))
      clear hp hy e1 e2 e3 e4 e5 e6 e7 e8 e9 e10 e11 e12 hR f0 f1 hTl hct hBt hBe hkb1 hkb2 hne1 hne2 hge1 hge2 hgtl hx
      have hw1 : IntKind.i64.wrap ((i : Int) + 1) = (i : Int) + 1 := IntWalk.i64_in _ ⟨by omega, by omega⟩
      have hit : (i : Int) < (q1 : Int) + 1 := by omega
      have hit1 : (i : Int) + 1 < (q1 : Int) + 1 := by omega
      have hit2 : (0 : Int) ≤ (i : Int) := by omega
      have hit3 : (0 : Int) ≤ (i : Int) + 1 := by omega
      have hit4 : i < q1 + 1 := by omega
      have HC2 : Hid (∀ w', Below wr.heap.size wr w' → w'.cell? ⟨W1.heap.size, 2, none⟩ = some (.slice (some ⟨ge, 0, none⟩) q1 d2) ∧ (w'.cell? ⟨ge, i * 6, none⟩ = some (.bool y.bar) ∧ w'.cell? ⟨ge, i * 6 + 1, none⟩ = some (.int .i64 y.v) ∧ w'.cell? ⟨ge, i * 6 + 2, none⟩ = some (.bool y.d) ∧ w'.cell? ⟨ge, i * 6 + 3, none⟩ = some (.bool y.t) ∧ w'.cell? ⟨ge, i * 6 + 4, none⟩ = some (.bool y.tie) ∧ w'.cell? ⟨ge, i * 6 + 5, none⟩ = some (.slice x.sa y.L.length x.sc)) ∧ (w'.cell? ⟨gt, i, none⟩ = some (.int .i64 p.fm) ∧ w'.cell? ⟨gt, i + 1, none⟩ = some (.int .i64 p.to))) := fun w' h =>
        have h0 := h.block _ lqx
        have h1 := h.block ge lge
        have h2 := h.block gt lgt
        ⟨cell_same h0 q2, ⟨cell_same h1 c0, cell_same h1 c1, cell_same h1 c2, cell_same h1 c3, cell_same h1 c4, cell_same h1 c5⟩, cell_same h2 t0, cell_same h2 t1⟩
      go_wp2_with (fail)
      have T := (Below.refl wr.heap.size wr).drew
      go_region_held3 (fun w' => w'.cell? ⟨W1.heap.size, 2, none⟩ = some (.slice (some ⟨ge, 0, none⟩) q1 d2) ∧ (w'.cell? ⟨ge, i * 6, none⟩ = some (.bool y.bar) ∧ w'.cell? ⟨ge, i * 6 + 1, none⟩ = some (.int .i64 y.v) ∧ w'.cell? ⟨ge, i * 6 + 2, none⟩ = some (.bool y.d) ∧ w'.cell? ⟨ge, i * 6 + 3, none⟩ = some (.bool y.t) ∧ w'.cell? ⟨ge, i * 6 + 4, none⟩ = some (.bool y.tie) ∧ w'.cell? ⟨ge, i * 6 + 5, none⟩ = some (.slice x.sa y.L.length x.sc)) ∧ (w'.cell? ⟨gt, i, none⟩ = some (.int .i64 p.fm) ∧ w'.cell? ⟨gt, i + 1, none⟩ = some (.int .i64 p.to)))
        (exact HC2.out _ T)
        (first | (go_at_call 54; (with_reducible refine (PC.out _).mono ?_); rintro e wz ⟨Al, cl, L, E25, rfl, hS1, hS2, hOl, hbz⟩; replace T := bt T hbz))
      have HRZ := Lib.hid (HR.out.below T)
      have hZ : Blk wz (w.heap.size + 1) 28 #[.slice none 0 0, .slice none 0 0, .slice none 0 0] := by
        have h1 := HRS.out
        exact Blk.below ((HR.out.kx.block (w.heap.size + 1) h1.lt (by omega)).trans h1) T
      have HZ := Lib.hid hZ
      have HBW : Hid (Below w.heap.size w wz) := by
        have h1 := HRZ.out.kx
        exact HLO.out.trans ⟨h1.os, h1.tape, h1.output, h1.size, fun k hk => h1.block k (Nat.lt_of_lt_of_le hk HLO.out.size) (by omega)⟩
      obtain ⟨r0, r1, r2⟩ := HP0.cells hZ
      have rf0 := hZ.frozen 0
      have rf1 := hZ.frozen 1
      have rf2 := hZ.frozen 2
      have rl := hZ.lt
      clear hZ hbz q0 q1' q2 o0 o1 o2 c0 c1 c2 c3 c4 c5 t0 t1 HC2
      cases R with
      | none =>
        obtain ⟨hL, hE⟩ := hS2 rfl
        subst hL hE
        clear hS1 hS2
        have hbe : brErr 0 b P = 25 := by
          have hf : brF b p = none := by
            unfold brF
            rw [HYF.out.2.2.2.2.2.1]
            rfl
          unfold brErr
          rw [if_neg (by simp), if_neg (by omega), brAll_none HA.out.1 HYF.out.1 hf]
        go_wp2_with (fail)
        obtain ⟨hW, hZ2⟩ := zero_box2 (w := w) HZ.out HBW.out (by omega)
        obtain ⟨z0, z1, z2⟩ := HP0.cells hZ2
        refine err_retW w _ 25 hW (by decide) ?_
        simp [results, Tryd.results22, go_sem, z0, z1, z2]
      | some Sg =>
        obtain ⟨hL, hE⟩ := hS1 Sg rfl
        subst hL hE
        clear hS1 hS2
        obtain ⟨Av, cv, rfl⟩ := own_slice HRZ.out.row
        obtain ⟨Ab, cb, rfl⟩ := own_slice HRZ.out.brow
        have hiP : i < P.length := by have := HL.out; omega
        have hQl : Q.length ≤ 57600 := by rw [HA.out.2.1.len]; exact brLen HX.out hb1 (by omega) HA.out.1
        have hbl : a.bc.length = i := by rw [HA.out.2.2.bl, List.length_take, tmPL_len]; omega
        have hxl := HRZ.out.xl
        have hfl : brF b p = some (tie1 p.y.tie (brS (!restB p.y) b p.fm Sg)) := by
          unfold brF
          rw [HYF.out.2.2.2.2.2.1]
          rfl
        obtain ⟨hl1, hl2, _⟩ := brF_len hb1 HYF.out.2.2.2.2.2.2.1 hfl
        have hLlen : (hdT y.tie x.sa y.L.length x.sc ((brS (!restB ⟨y.bar, y.v, y.d, y.t, y.tie, y.L⟩) b p.fm Sg).map zT)).length = (tie1 p.y.tie (brS (!restB p.y) b p.fm Sg)).length := by
          rw [hdT_len, List.length_map, tie1_len, brS_len, brS_len]
        have hLmax : (hdT y.tie x.sa y.L.length x.sc ((brS (!restB ⟨y.bar, y.v, y.d, y.t, y.tie, y.L⟩) b p.fm Sg).map zT)).length ≤ 60000 := by
          rw [hLlen]
          have g1 := HYF.out.2.2.2.2.2.2.2.2.1
          have g2 := HYF.out.2.2.2.2.2.2.2.2.2
          omega
        have HLX : Hid (∃ lx : List EvT, lx = hdT y.tie x.sa y.L.length x.sc ((brS (!restB ⟨y.bar, y.v, y.d, y.t, y.tie, y.L⟩) b p.fm Sg).map zT)) := ⟨_, rfl⟩
        obtain ⟨lx, hlx⟩ := HLX.out
        rw [← hlx] at hLlen hLmax hOl ⊢
        have HLX := Lib.hid hlx
        have HLL := Lib.hid hLlen
        have HXL := Lib.hid hxl
        have HBL := Lib.hid hbl
        have HFL := Lib.hid (And.intro hfl hl1)
        have HOL := Lib.hid hOl
        obtain ⟨o0, o1, o2⟩ := HP0.cells HRZ.out.o
        have oloc := HRZ.out.o.lt
        clear hlx hLlen hxl hbl hfl hl1 hl2 hOl r0 r1 r2 rf0 rf1 rf2 rl
        have hml : a.bc.length + 1 ≤ maxLen := by have := HBL.out; unfold maxLen; omega
        have hbl4 : a.bc.length ≤ 400 := by have := HBL.out; omega
        go_wp2_with (at_builtin; go_loud (refine wpList_append_own _ rfl _ _ 23 rfl W5.heap.size 3 j0 _ 1 8 Tryd.underlying23 jj1 jj2 jj3 jj4 rfl (by decide) (.slice Ab a.bc.length cb) a.bc.length _ rfl (HRZ.out.brow.alloc _) ⟨wz.heap.size, 0, none⟩ 1 1 [.int .i64 ((Q.length : Nat) : Int)] rfl rfl (cell_one_new _ _ _) (by simp [Value.oneCell']) hml (by omega) (by have := HRZ.out.kx.size; simp; omega) ?_))
        intro v6 w6 hown6 hgrow6 _
        obtain ⟨Ab6, cb6, rfl⟩ := own_slice hown6
        rw [← HXL.out] at hown6
        have HR6 := Lib.hid (HRZ.out.first hown6 hgrow6)
        have hz6 : wz.heap.size ≤ w6.heap.size := by have := hgrow6.size; simp at this; omega
        have HS6 : Hid (Sl w6 w6.heap.size 6 Al lx.length cl (evC lx)) :=
          (HOL.out.blkB (fun g cs _ hB => (Blk.below hB (ba wz _)).grown hgrow6 (blk_apart hB HRZ.out.brow (by decide)))).sl
        clear hown6 hgrow6 o0 o1 o2 oloc
        obtain ⟨o0, o1, o2⟩ := HP0.cells HR6.out.o
        have oloc := HR6.out.o.lt
        have hml2 : Q.length + lx.length ≤ maxLen := by unfold maxLen; omega
        go_wp2_with (at_builtin; go_loud (refine wpList_append_sl rfl _ _ 26 rfl W5.heap.size 51 i0 _ 6 56 Tryd.underlying26 ii1 ii2 ii3 ii4 rfl (by decide) (.slice Av Q.length cv) Q.length _ rfl HR6.out.row Al lx.length cl (evC lx) rfl HS6.out (evC_one lx) hml2 (by omega) (by have := HR6.out.kx.size; omega) ?_))
        intro v7 w7 hown7 hgrow7
        obtain ⟨Av7, cv7, rfl⟩ := own_slice hown7
        have hcp : CpE W5 bb lx (stH p.y.L (tie1 p.y.tie (brS (!restB p.y) b p.fm Sg))) := by
          have hO := (HO5.out.e2 i x y HYF.out.2.2.2.2.2.2.2.1 HYF.out.2.1).2
          rw [HLX.out, ← HYF.out.2.2.2.1, ← HYF.out.2.2.1]
          have hr : restB ⟨y.bar, y.v, y.d, y.t, y.tie, y.L⟩ = restB p.y := HYF.out.2.2.2.2.1
          rw [hr]
          exact cpe_blk hO (brS_L _ _ _ _)
        obtain ⟨ho7, hR7⟩ := HR6.out.events (lx := lx) (lq := stH p.y.L (tie1 p.y.tie (brS (!restB p.y) b p.fm Sg))) HYF.out.2.2.2.2.2.2.2.1 HO5.out.dst HBL.out (fun j hj => by
            have h1 := HA.out.2.2.bd j (by rw [← HA.out.2.2.bl]; exact hj)
            have h2 := HA.out.2.1.len
            have h3 := HXL.out
            omega) (by rw [stH_len]; exact HLL.out) (by rw [HLL.out]; exact HFL.out.2) hcp (fun k z hz => by rw [HLX.out] at hz; rcases hdT_at k z hz with ⟨g1, g2, g3, g4⟩ | g1; exact .inl ⟨g1, g2, g3.trans (HO5.out.e2 i x y HYF.out.2.2.2.2.2.2.2.1 HYF.out.2.1).1.2.2.2.2.2.symm, g4⟩; exact .inr g1) hown7 hgrow7 hob5
        have HR7 := Lib.hid hR7
        have HST7 : Hid (brGo b ((tpL P).take (i + 1)) ⟨[], []⟩ = some ⟨a.ev ++ tie1 p.y.tie (brS (!restB p.y) b p.fm Sg), a.bc ++ [(a.ev.length : Int)]⟩ ∧ AtI ((tpL P).take (i + 1)) ⟨a.ev ++ tie1 p.y.tie (brS (!restB p.y) b p.fm Sg), a.bc ++ [(a.ev.length : Int)]⟩ (Q ++ stH p.y.L (tie1 p.y.tie (brS (!restB p.y) b p.fm Sg))) ∧ BrI ((tpL P).take (i + 1)) ⟨a.ev ++ tie1 p.y.tie (brS (!restB p.y) b p.fm Sg), a.bc ++ [(a.ev.length : Int)]⟩) := by
          unfold Hid
          rw [take_snocB HYF.out.1]
          refine ⟨?_, atI_step hb1 HYF.out.2.2.2.2.2.2.1 HA.out.2.2 HA.out.2.1 HFL.out.1, brI_step hb1 HYF.out.2.2.2.2.2.2.1 HA.out.2.2 HFL.out.1⟩
          rw [brGo_snoc HA.out.1, HFL.out.1]
        have HXE : Hid (X.length = a.ev.length) := by unfold Hid; rw [HXL.out, HA.out.2.1.len]
        obtain ⟨p0, p1, p2⟩ := HP0.cells ho7
        have pf2 := ho7.frozen 2
        have pl7 := ho7.lt
        clear ho7 hR7 hown7 hgrow7 hcp o0 o1 o2 oloc
        go_wp2_with (fail)
        go_roundw
        case rel =>
          have h := HR7.out
          rw [HXE.out] at h
          exact ⟨i + 1, .slice Av7 (Q.length + lx.length) cv7, _, X ++ lx, Q ++ stH p.y.L (tie1 p.y.tie (brS (!restB p.y) b p.fm Sg)), ⟨a.ev ++ tie1 p.y.tie (brS (!restB p.y) b p.fm Sg), a.bc ++ [(a.ev.length : Int)]⟩, by omega, by first | rfl | go_num, rfl, h, HST7.out⟩
        case measure => simp [intOf]; omega
    · obtain rfl : q1 = i := by omega
      have hTt : (tpL P).take q1 = tpL P := List.take_of_length_le (by rw [tmPL_len, ← HL.out]; exact Nat.le_refl _)
      rw [hTt] at HA
      have HAL : Hid (brAll b P = some a) := HA.out.1
      obtain ⟨Av, cv, rfl⟩ := own_slice HR.out.row
      obtain ⟨Ab, cb, rfl⟩ := own_slice HR.out.brow
      have hQl : Q.length ≤ 57600 := by rw [HA.out.2.1.len]; exact brLen HX.out hb1 (k := q1) (by have := HL.out; omega) (by rw [hTt]; exact HA.out.1)
      have hZ : Blk wr (w.heap.size + 1) 28 #[.slice none 0 0, .slice none 0 0, .slice none 0 0] := by
        have h1 := HRS.out
        exact (HR.out.kx.block (w.heap.size + 1) h1.lt (by omega)).trans h1
      have HZ := Lib.hid hZ
      have HBW : Hid (Below w.heap.size w wr) := by
        have h1 := HR.out.kx
        exact HLO.out.trans ⟨h1.os, h1.tape, h1.output, h1.size, fun k hk => h1.block k (Nat.lt_of_lt_of_le hk HLO.out.size) (by omega)⟩
      have hbe : brErr 0 b P = if 400 < Q.length then 2 else if (mvL a.bc P P.length a.ev).any htE then 24 else 0 := by
        unfold brErr
        rw [if_neg (by simp), if_neg (by omega), HAL.out]
        dsimp only
        rw [HA.out.2.1.len]
      have hbq : brRes b P = mvL a.bc P P.length a.ev := by
        unfold brRes
        rw [HAL.out]
      have HBE := Lib.hid hbe
      have HBQ := Lib.hid hbq
      have hin : ¬ (q1 : Int) < (q1 : Int) := by omega
      have hfb : ∀ j, j < a.bc.length → (a.bc.getD j 0).toNat < X.length := fun j hj => by
        have h1 := HA.out.2.2.bd j (by rw [← HA.out.2.2.bl]; exact hj)
        have h2 := HA.out.2.1.len
        have h3 := HR.out.xl
        omega
      obtain ⟨A5, c5, Bf, cf, he1, he2, hPP⟩ := HR.out.toP (w := w) HO5.out (by omega) HQ5.out (by omega) HU5.out HRS.out (by omega) HLO.out (by omega) hfb
      injection he1 with he1 _ he3
      subst he1 he3
      injection he2 with he2 _ he4
      subst he2 he4
      have HPP := Lib.hid hPP
      have HHO := Lib.hid (hoI_start HA.out.2.1)
      have HBD : Hid (a.bc.length = q1 ∧ ∀ j, j < q1 → 0 ≤ a.bc.getD j 0 ∧ a.bc.getD j 0 ≤ 57600) := by
        have e : a.bc.length = q1 := by rw [HA.out.2.2.bl, tmPL_len, ← HL.out]
        refine ⟨e, fun j hj => ?_⟩
        have h1 := HA.out.2.2.bd j (by rw [tmPL_len, ← HL.out]; exact hj)
        have h2 := HA.out.2.1.len
        omega
      clear hbe hbq hfb hPP hTt
      obtain ⟨r0, r1, r2⟩ := HP0.cells hZ
      have rf0 := hZ.frozen 0
      have rf1 := hZ.frozen 1
      have rf2 := hZ.frozen 2
      have rl := hZ.lt
      have oloc := HR.out.o.lt
      clear hZ
      by_cases h400 : 400 < Q.length
      · have hd4 : decide ((400 : Int) < ((Q.length : Nat) : Int)) = true := decide_eq_true (by omega)
        have hd5 : decide (400 < Q.length) = true := decide_eq_true h400
        have hbe : brErr 0 b P = 2 := by rw [HBE.out, if_pos h400]
        go_wp2_with (fail)
        obtain ⟨hW, hZ2⟩ := zero_box2 (w := w) HZ.out HBW.out (by omega)
        obtain ⟨z0, z1, z2⟩ := HP0.cells hZ2
        refine err_retW w _ 2 hW (by decide) ?_
        simp [results, Tryd.results22, go_sem, z0, z1, z2]
      · have hd4 : decide ((400 : Int) < ((Q.length : Nat) : Int)) = false := decide_eq_false (by omega)
        have hd5 : decide (400 < Q.length) = false := decide_eq_false h400
        clear r0 r1 r2 rf0 rf1 rf2 rl
        go_wp2_with (fail)
        obtain ⟨lq, hlq⟩ : ∃ l, Q.length = l := ⟨_, rfl⟩
        rw [hlq] at HPP HBE hQl h400 hd4 hd5 ⊢
        have HLQ := Lib.hid hlq
        clear hlq
        have HNB : Hid (brErr 0 b P = if (mvL a.bc P P.length a.ev).any htE then 24 else 0) := by
          unfold Hid
          rw [HBE.out, if_neg (by omega)]
        go_loopw [14] (fun iv wx => ∃ (i : Nat) (Qc : List EvP), i ≤ q1 ∧ iv = .int .i64 i ∧ Hid (BkP w bb ob W1.heap.size B n1 d B' m1 d' Av lq cv C S Qc X E B2 q1 d2 Ab cb a.bc wx) ∧ Hid (HoI P a i 0 Qc) ∧ Hid (∀ (i' k : Nat) (s : St), i' < i → (P.getD i' z6).L[k]? = some s → a.bc.getD (i' + s.h.toNat) 0 - a.bc.getD i' 0 ≤ 15)) (fun iv _ => q1 - (intOf iv).toNat)
        case atStart => exact ⟨0, Q, by omega, rfl, HPP.out, HHO.out, fun i' k s h => by omega⟩
        case round =>
          obtain ⟨i, Qc, hi, rfl, HS, HH, HK⟩ := hrel
          clear o0 o1 o2 q0 q1' q2
          obtain ⟨q0, q1', q2⟩ := HP0.cells HS.out.x
          obtain ⟨o0, o1, o2⟩ := HP0.cells HS.out.o
          have lqx := HS.out.x.lt
          have lox := HS.out.o.lt
          by_cases hlt : i < q1
          · have hin2 : (i : Int) < (q1 : Int) := by omega
            have hiP : i < P.length := by have := HL.out; omega
            obtain ⟨z, hz⟩ : ∃ z, E[i]? = some z := ⟨_, List.getElem?_eq_getElem (by rw [HO5.out.e1, HGL.out]; exact hlt)⟩
            obtain ⟨p, y, hp, hy, g1, _, _, _, g5, _⟩ := HGE.out i hlt
            have hzn : z.sn = (P.getD i z6).L.length := by rw [(HO5.out.e2 i z y hz hy).1.2.2.2.2.2, g1, g5]
            obtain ⟨gq, hgq, lgq, _, hcq⟩ := HS.out.qe.cellB (by omega)
            subst hgq
            obtain ⟨_, _, _, _, _, i5⟩ := evC_at E i z hz
            have v5 := hcq _ _ i5
            rw [hzn] at v5
            have HZE := Lib.hid hz
            have HSTL := Lib.hid (HLS.out _ (show P.getD i z6 ∈ P by rw [getD_get (List.getElem?_eq_getElem hiP)]; exact List.getElem_mem hiP))
            have HIN := Lib.hid (hold_in HX.out hiP)
            clear hz hp hy g1 g5 hcq i5 hzn
            obtain ⟨LL, hLL⟩ : ∃ l, (P.getD i z6).L = l := ⟨_, rfl⟩
            rw [hLL] at v5 HSTL HIN
            have HLLe := Lib.hid hLL
            clear hLL
            have hLm : LL.length ≤ 65536 := HSTL.out
            go_wp2_with (fail)
            obtain ⟨N, hN⟩ : ∃ l, LL.length = l := ⟨_, rfl⟩
            rw [hN] at v5 hLm
            have HN := Lib.hid hN
            clear hN
            go_loopw [15] (fun kv wx => ∃ (k : Nat) (Qk : List EvP), k ≤ N ∧ kv = .int .i64 k ∧ Hid (BkP w bb ob W1.heap.size B n1 d B' m1 d' Av lq cv C S Qk X E (some ⟨gq, 0, none⟩) q1 d2 Ab cb a.bc wx) ∧ Hid (HoI P a i k Qk) ∧ Hid (∀ (k' : Nat) (s : St), k' < k → LL[k']? = some s → a.bc.getD (i + s.h.toNat) 0 - a.bc.getD i 0 ≤ 15)) (fun kv _ => N - (intOf kv).toNat)
            case atStart => exact ⟨0, Qc, by omega, rfl, HS.out, HH.out, fun k' s h => by omega⟩
            case round =>
              obtain ⟨k, Qk, hk, rfl, HS2, HH2, HK2⟩ := hrel
              clear o0 o1 o2 q0 q1' q2 lqx lox v5 lgq
              obtain ⟨q0, q1', q2⟩ := HP0.cells HS2.out.x
              obtain ⟨o0, o1, o2⟩ := HP0.cells HS2.out.o
              have lqx := HS2.out.x.lt
              have lox := HS2.out.o.lt
              by_cases hltk : k < N
              · have hkn : (k : Int) < (N : Int) := by omega
                obtain ⟨y1, s, hy1, hyl, hs, hys, hnext⟩ := hoI_set HX.out hb1 HAL.out HH2.out hiP (show k < (P.getD i z6).L.length by rw [HLLe.out, HN.out]; exact hltk)
                obtain ⟨ge, gq', g, sc, hA, hB2, l1, l2, l3, c5o, c5q, ⟨n1', n2', n3', n4', n5', n6', n7', n8'⟩, ch, hfz, hnx⟩ := HS2.out.stop (by have := HBB.out; omega) hy1 hys HZE.out (by rw [HBD.out.1]; exact hlt) (by omega)
                subst hA
                injection hB2 with hB2
                injection hB2 with hB2
                subst hB2
                rw [hyl, HLLe.out, HN.out] at c5o c5q
                rw [HLLe.out] at hs
                obtain ⟨h0, h1⟩ := HIN.out s (List.mem_of_getElem? hs)
                obtain ⟨hn, hhn⟩ := Int.eq_ofNat_of_zero_le h0
                have hnl : i + hn < q1 := by have := HL.out; rw [hhn] at h1; omega
                obtain ⟨gf, hgf, lgf, ⟨csf, hBf⟩, hcf⟩ := HS2.out.fr.cellB (by rw [HBD.out.1]; omega)
                subst hgf
                have t0 := hcf _ _ (intC_at a.bc i (by rw [HBD.out.1]; exact hlt))
                have t1 := hcf _ _ (intC_at a.bc (i + hn) (by rw [HBD.out.1]; exact hnl))
                rw [hhn] at ch
                have hb0 := HBD.out.2 i hlt
                have hbn := HBD.out.2 (i + hn) hnl
                have HNX : Hid (∀ v, v = a.bc.getD (i + hn) 0 - a.bc.getD i 0 → BkP w bb ob W1.heap.size B n1 d B' m1 d' (some ⟨ge, 0, none⟩) lq cv C S (Qk.set (a.bc.getD i 0).toNat { y1 with L := y1.L.set k (mvS a.bc i s) }) X E (some ⟨gq, 0, none⟩) q1 d2 (some ⟨gf, 0, none⟩) cb a.bc (wr.setCell ⟨g, k * 5 + 4, none⟩ (.int .i64 v))) := fun v hv => by
                  have h := hnx v
                  have e : (⟨s.c, s.f, s.r, s.g, v⟩ : St) = mvS a.bc i s := by
                    unfold mvS
                    rw [hv, hhn]
                    rfl
                  rw [e] at h
                  exact h
                have HHN := Lib.hid hnext
                have HSK : Hid (LL[k]? = some s ∧ s.h.toNat = hn) := ⟨hs, by rw [hhn]; rfl⟩
                have hf4 := hfz (k * 5 + 4)
                obtain ⟨B0, hB0⟩ : ∃ x, a.bc.getD i 0 = x := ⟨_, rfl⟩
                obtain ⟨B1, hB1⟩ : ∃ x, a.bc.getD (i + hn) 0 = x := ⟨_, rfl⟩
                rw [hB0] at t0 hb0 c5o HHN HNX
                rw [hB1] at t1 hbn HNX
                have HB0 := Lib.hid hB0
                have HB1' := Lib.hid hB1
                obtain ⟨j0', rfl⟩ := Int.eq_ofNat_of_zero_le hb0.1
                obtain ⟨j1', rfl⟩ := Int.eq_ofNat_of_zero_le hbn.1
                rw [Int.toNat_natCast] at c5o HHN HNX
                have hjl : j0' < lq := by
                  have h1 := HA.out.2.2.bd i (by rw [tmPL_len, ← HL.out]; exact hlt)
                  have h2 := HA.out.2.1.len
                  have h3 := HLQ.out
                  rw [hB0] at h1
                  omega
                have hw1 : IntKind.i64.wrap ((i : Int) + (hn : Int)) = (((i + hn : Nat) : Nat) : Int) := (IntWalk.i64_in _ ⟨by omega, by omega⟩).trans (by omega)
                have hw2 : IntKind.i64.wrap ((j1' : Int) - (j0' : Int)) = (j1' : Int) - (j0' : Int) := IntWalk.i64_in _ ⟨by omega, by omega⟩
                have hk1 : (((i + hn : Nat) : Nat) : Int) < (a.bc.length : Int) := by rw [HBD.out.1]; omega
                have hk2 : (i : Int) < (a.bc.length : Int) := by rw [HBD.out.1]; omega
                have hk3 : i + hn < a.bc.length := by rw [HBD.out.1]; exact hnl
                have hk4 : i < a.bc.length := by rw [HBD.out.1]; exact hlt
                have hk5 : (j0' : Int) < (lq : Int) := by omega
                have hd6 : (0 : Int) ≤ (((i + hn : Nat) : Nat) : Int) := by omega
                clear hB0 hB1 hnx hnext hfz hs hys hyl hy1 h0 h1 hhn hcf hBf hb0 hbn
                by_cases hh : 15 < (j1' : Int) - (j0' : Int)
                · have hd7 : decide (15 < (j1' : Int) - (j0' : Int)) = true := decide_eq_true hh
                  have hbe : brErr 0 b P = 24 := by
                    rw [HNB.out, if_pos]
                    have e := HSK.out.2
                    have g1 := HB0.out
                    have g2 := HB1'.out
                    exact ht_any HX.out hb1 HAL.out hiP (show (P.getD i z6).L[k]? = some s by rw [HLLe.out]; exact HSK.out.1) (by rw [e, g1, g2]; exact hh)
                  obtain ⟨r0, r1, r2⟩ := HP0.cells HS2.out.rs
                  have rf0 := HS2.out.rs.frozen 0
                  have rf1 := HS2.out.rs.frozen 1
                  have rf2 := HS2.out.rs.frozen 2
                  have rl := HS2.out.rs.lt
                  go_wp2_with (fail)
                  go_quiet (fail)
                  go_wp2_with (fail)
                  have hdn := bd (Below.refl wr.heap.size wr) nq
                  obtain ⟨hW, hZ2⟩ := zero_box2 (w := w) (Blk.below HS2.out.rs hdn) (bt HS2.out.lo hdn) (by omega)
                  obtain ⟨z0, z1, z2⟩ := HP0.cells hZ2
                  rw [hbe]
                  refine err_retW w _ 24 hW (by decide) ?_
                  simp [results, Tryd.results22, go_sem, z0, z1, z2]
                · have hd7 : decide (15 < (j1' : Int) - (j0' : Int)) = false := decide_eq_false hh
                  have HKN : Hid (∀ (k' : Nat) (s : St), k' < k + 1 → LL[k']? = some s → a.bc.getD (i + s.h.toNat) 0 - a.bc.getD i 0 ≤ 15) := fun k' s' hk' hs' => by
                    by_cases e : k' = k
                    · subst e
                      have e1 := HSK.out.1
                      rw [hs'] at e1
                      injection e1 with e1
                      subst e1
                      rw [HSK.out.2, HB0.out, HB1'.out]
                      omega
                    · exact HK2.out k' s' (by omega) hs'
                  go_wp2_with (fail)
                  go_quiet (fail)
                  go_wp2_with (fail)
                  obtain ⟨wd, hwd⟩ : ∃ x, x = wr.drewN nq := ⟨_, rfl⟩
                  rw [← hwd]
                  have hdn : Below wr.heap.size wr wd := by rw [hwd]; exact bd (Below.refl _ _) _
                  have hgb : ∀ g' : Nat, g' < wr.heap.size → wd.heap[g']? = wr.heap[g']? := fun g' hg' => hdn.block g' hg'
                  replace o2 := cell_same (hgb ob lox) o2
                  replace t0 := cell_same (hgb gf lgf) t0
                  replace c5o := cell_same (hgb ge l1) c5o
                  replace ch := cell_same (hgb g l3) ch
                  replace hf4 := (frozen_same (hgb g l3)).trans hf4
                  have l3' : g < wd.heap.size := Nat.lt_of_lt_of_le l3 hdn.size
                  have HN2 : Hid (BkP w bb ob W1.heap.size B n1 d B' m1 d' (some ⟨ge, 0, none⟩) lq cv C S (Qk.set j0' { y1 with L := y1.L.set k (mvS a.bc i s) }) X E (some ⟨gq, 0, none⟩) q1 d2 (some ⟨gf, 0, none⟩) cb a.bc ((wd.setCell ⟨g, k * 5 + 4, none⟩ (.int .i64 ((j1' : Int) - (j0' : Int)))).drew)) := by
                    have h := HNX.out _ rfl
                    have e : (wd.setCell ⟨g, k * 5 + 4, none⟩ (.int .i64 ((j1' : Int) - (j0' : Int)))).heap = (wr.setCell ⟨g, k * 5 + 4, none⟩ (.int .i64 ((j1' : Int) - (j0' : Int)))).heap := by
                      rw [hwd]
                      rfl
                    have hb : Below (wr.setCell ⟨g, k * 5 + 4, none⟩ (.int .i64 ((j1' : Int) - (j0' : Int)))).heap.size (wr.setCell ⟨g, k * 5 + 4, none⟩ (.int .i64 ((j1' : Int) - (j0' : Int)))) (wd.setCell ⟨g, k * 5 + 4, none⟩ (.int .i64 ((j1' : Int) - (j0' : Int)))).drew :=
                      Below.drew ⟨hdn.os, hdn.tape, hdn.output, by rw [e]; exact Nat.le_refl _, fun k _ => by rw [e]⟩
                    exact h.below hb
                  clear hwd hdn hgb q0 q1' q2 o0 o1
                  go_still_tail 13, (by kernel_rfl)
                  go_wp2_with (fail)
                  go_roundw
                  case rel => exact ⟨k + 1, _, by omega, by first | rfl | go_num, HN2.out, HHN.out, HKN.out⟩
                  case measure => simp [intOf]; omega
              · obtain rfl : k = N := by omega
                obtain ⟨gq', hgq, lgq, _, hcq⟩ := HS2.out.qe.cellB (by omega)
                injection hgq with hgq
                injection hgq with hgq
                subst hgq
                obtain ⟨_, _, _, _, _, i5⟩ := evC_at E i z HZE.out
                have v5 := hcq _ _ i5
                obtain ⟨p, y, hp, hy, g1, _, _, _, g5, _⟩ := HGE.out i hlt
                have hzn : z.sn = k := by rw [(HO5.out.e2 i z y HZE.out hy).1.2.2.2.2.2, g1, ← g5, HLLe.out, HN.out]
                rw [hzn] at v5
                have HHE := Lib.hid (hoI_next HH2.out (by rw [HLLe.out, HN.out]; exact Nat.le_refl _))
                have HKE : Hid (∀ (i' k : Nat) (s : St), i' < i + 1 → (P.getD i' z6).L[k]? = some s → a.bc.getD (i' + s.h.toNat) 0 - a.bc.getD i' 0 ≤ 15) := fun i' k' s' hi' hs' => by
                  by_cases e : i' = i
                  · subst e
                    rw [HLLe.out] at hs'
                    have hkl := (List.getElem?_eq_some_iff.1 hs').1
                    have := HN.out
                    exact HK2.out k' s' (by omega) hs'
                  · exact HK.out i' k' s' (by omega) hs'
                clear hcq i5 hp hy g1 g5 hzn
                go_wp2_with (fail)
                go_roundw
                case rel => exact ⟨i + 1, _, by omega, by first | rfl | go_num, HS2.out, HHE.out, HKE.out⟩
                case measure => simp [intOf]; omega
          · obtain rfl : q1 = i := by omega
            have hqp : q1 = P.length := HL.out
            have HQE : Hid (Qc = brRes b P) := by
              unfold Hid
              rw [HBQ.out]
              have h := HH.out
              rw [hqp] at h
              exact hoI_end HX.out hb1 HAL.out h
            have hbe : brErr 0 b P = 0 := by
              rw [HNB.out, ht_none HX.out hb1 HAL.out (fun i' k' s' h1 h2 => HK.out i' k' s' (by omega) h2)]
              rfl
            have r0 := HS.out.rs.cell 0
            have r1 := HS.out.rs.cell 1
            have r2 := HS.out.rs.cell 2
            have f0 := HS.out.rs.frozen 0
            have f1 := HS.out.rs.frozen 1
            have f2 := HS.out.rs.frozen 2
            have hlr2 := HS.out.rs.lt
            simp at r0 r1 r2
            clear hqp
            go_wp2_with (fail)
            have hR3 := ((HS.out.rs.set_ 0 (.slice B n1 d)).set_ 1 (.slice B' m1 d')).set_ 2 (.slice Av lq cv)
            have z0 := hR3.cell 0
            have z1 := hR3.cell 1
            have z2 := hR3.cell 2
            try rw [hbe]
            refine bodyPost_ret (v := .tuple #[pcV B n1 d B' m1 d' Av lq cv, .int .i64 0]) ?_ rfl ?_
            · simp at z0 z1 z2
              simp [results, Tryd.results22, go_sem, z0, z1, z2]
            · refine ⟨B, n1, d, B', m1, d', Av, lq, cv, rfl, ?_, ((HS.out.lo.setCell (p := ⟨w.heap.size + 1, 0, none⟩) (by simp) _).setCell (p := ⟨w.heap.size + 1, 1, none⟩) (by simp) _).setCell (p := ⟨w.heap.size + 1, 2, none⟩) (by simp) _⟩
              rw [oC_ok, oC_ok, oC_ok, ← HQE.out]
              have hlt2 : w.heap.size + 1 < bb := by have := HBB.out; omega
              exact (((HS.out.pc.pcOw.other (by omega) _ _).other (by omega) _ _).other (by omega) _ _).more (by have := HBB.out; omega)

end Go.Proofs.YtdhjigaocamglaaDoor
