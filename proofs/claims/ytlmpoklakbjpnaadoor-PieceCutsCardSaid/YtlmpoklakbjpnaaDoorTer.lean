/- Pieces: the reference's Terse. -/
import Derived.Test.YtlmpoklakbjpnaaDoorRr2
import Derived.Test.YtlmpoklakbjpnaaDoorCmp9
namespace Go.Proofs.YtlmpoklakbjpnaaDoor
open Go Go.RowKit

def sgE (a b : Sg) : Bool := a.v == b.v && (a.d == b.d && a.t == b.t)
theorem sgE_eq {a b : Sg} (h : sgE a b = true) : a.v = b.v ∧ a.d = b.d ∧ a.t = b.t := by simpa [sgE] using h
/-- The signs of a terse piece, out of those in force. -/
def terG : Bool → Sg → List Sg → List Sg
  | _, _, [] => []
  | b, pv, s :: r => (if (b && sgE s pv) = true then s0g else s) :: terG true s r
theorem terG_at0 : ∀ (F : List Sg) (s : Sg), F[0]? = some s → (terG false s0g F)[0]? = some s
  | [], s, h => by simp at h
  | x :: r, s, h => by
    obtain rfl : x = s := by simpa using h
    rfl
theorem terG_at1 : ∀ (F : List Sg) (j : Nat) (b : Bool) (pv s t : Sg), F[j]? = some s → F[j + 1]? = some t → (terG b pv F)[j + 1]? = some (if sgE t s = true then s0g else t)
  | [], j, b, pv, s, t, h, _ => by simp at h
  | x :: r, 0, b, pv, s, t, h1, h2 => by
    obtain rfl : x = s := by simpa using h1
    cases r with
    | nil => simp at h2
    | cons y r =>
      obtain rfl : y = t := by simpa using h2
      simp [terG]
  | x :: r, j + 1, b, pv, s, t, h1, h2 => by
    have := terG_at1 r j true x s t (by simpa using h1) (by simpa using h2)
    simpa [terG] using this
theorem RpR.drewN {w : World} {b qb : Nat} {u0 u1 u2 : Value} {A : Option Addr} {n c : Nat} {A' : Option Addr} {m c' : Nat} {A2 : Option Addr} {q cq : Nat} {C : List Cr} {S : List Int} {P : List EvP} {Bf : Option Addr} {df : Nat} {F : List Sg} {wr : World}
    (h : RpR w b qb u0 u1 u2 A n c A' m c' A2 q cq C S P Bf df F wr) (k : Nat) : RpR w b qb u0 u1 u2 A n c A' m c' A2 q cq C S P Bf df F (wr.drewN k) := by
  obtain ⟨E, hE⟩ := h.pc
  have hb : Below wr.heap.size wr (wr.drewN k) := bd (Below.refl _ _) k
  exact ⟨⟨E, hE.below hb⟩, h.fs.below hb, h.qx.below hb, h.rs.below hb, bt h.lo hb⟩

set_option maxRecDepth 100000 in
set_option maxHeartbeats 6400000 in
theorem rterse_any (A : Option Addr) (n c : Nat) (A' : Option Addr) (m c' : Nat) (A2 : Option Addr) (q cq : Nat) (C : List Cr) (S : List Int) (P : List EvP) (w : World) (hP : PcIn w A n c A' m c' A2 q cq C S P) (hnb : n ≤ 65536) (hmb : m ≤ 65536) (hqb : q ≤ 65536) (hst : ∀ y ∈ P, y.L.length ≤ 65536) :
    Calls Tryd.prog 21 #[pcV A n c A' m c' A2 q cq] w (PcRes (pcErr C S P) C S (setG P (terG false s0g (frcL s0g P))) w) := by
  have HP : Hid (∀ w', Below w.heap.size w w' → PcIn w' A n c A' m c' A2 q cq C S P) := fun w' hb => hP.below hb
  have HST := Lib.hid hst
  have HST2 : Hid (∀ y ∈ P, y.L.length ≤ 1000000) := fun y hy => Nat.le_trans (hst y hy) (by omega)
  have HL := Lib.hid hP.es.hq
  have HBX := Lib.hid (pbox w A n c A' m c' A2 q cq)
  obtain ⟨X, hX⟩ : ∃ X, pcErr C S P = X := ⟨_, rfl⟩
  have HX := Lib.hid hX
  rw [hX]
  clear hX hP hst
  by_cases hX0 : X = 0
  rotate_left
  · have hXb : (X != 0) = true := by simpa using hX0
    have HX0 := Lib.hid hX0
    clear hX0
    go_enter Tryd.func21, Tryd.ntmps21
    go_wp2_with (go_at_call 26; refine (rpcheck_any A n c A' m c' A2 q cq C S P _ (HP.out _ HBX.out.2.2.1) (by omega) (by omega) (by omega) HST2.out).mono ?_; rintro e W1 ⟨rfl, hb1⟩; rw [HX.out]; have hR1 := HBX.out.2.1.below hb1; have r0 := hR1.cell 0; have r1 := hR1.cell 1; have r2 := hR1.cell 2; have f0 := hR1.frozen 0; have f1 := hR1.frozen 1; have f2 := hR1.frozen 2; simp at r0 r1 r2; have HB1 := Lib.hid hb1; clear hR1 hb1)
    exact err_ret w W1 X (bt HBX.out.2.2.1 HB1.out) HX0.out (by simp [results, Tryd.results21, go_sem, World.cell?_setCell_same', World.cell?_setCell_other, r0, r1, r2])
  subst hX0
  obtain ⟨F, hF⟩ : ∃ F, frcL s0g P = F := ⟨_, rfl⟩
  have HF := Lib.hid hF
  have HFL : Hid (F.length = q) := by unfold Hid; rw [← hF, frcL_len, HL.out]
  rw [hF]
  clear hF
  obtain ⟨G, hG⟩ : ∃ G, terG false s0g F = G := ⟨_, rfl⟩
  have HG := Lib.hid hG
  rw [hG]
  clear hG
  go_enter Tryd.func21, Tryd.ntmps21
  go_wp2_with (first
    | (go_at_call 26; refine (rpcheck_any A n c A' m c' A2 q cq C S P _ (HP.out _ HBX.out.2.2.1) (by omega) (by omega) (by omega) HST2.out).mono ?_; rintro e W1 ⟨rfl, hb1⟩; rw [HX.out]; have hR1 := HBX.out.2.1.below hb1; have hP1 := HBX.out.1.below hb1; have p0 := hP1.cell 0; have p1 := hP1.cell 1; have p2 := hP1.cell 2; simp at p0 p1 p2; have HB1 := Lib.hid (And.intro hP1 (And.intro hR1 (bt HBX.out.2.2.1 hb1))); clear hR1 hP1 hb1)
    | (go_at_call 16; refine (pcopyO_any A n c A' m c' A2 q cq C S P _ (HP.out _ HB1.out.2.2) hnb hmb hqb HST.out).mono ?_; rintro e W2 ⟨B, d, B', d', B2, d2, E, rfl, hO, hb2⟩; have hP2 := (HB1.out.1.below hb2).below (ba W2 (pcO B n d B' m d' B2 q d2)); have p0 := hP2.cell 0; have p1 := hP2.cell 1; have p2 := hP2.cell 2; simp at p0 p1 p2; have HB2 := Lib.hid (And.intro (hO.below (ba W2 (pcO B n d B' m d' B2 q d2))) (And.intro (Blk.below (HB1.out.2.1.below hb2) (ba W2 (pcO B n d B' m d' B2 q d2))) (And.intro (heap_alloc_new W2 (pcO B n d B' m d' B2 q d2)) (And.intro (bt HB1.out.2.2 (bt hb2 (ba W2 (pcO B n d B' m d' B2 q d2)))) hb2.size)))); clear hO hb2 hP2)
    | (go_at_call 54; refine (rForces_any A n c A' m c' A2 q cq P _ (HP.out _ HB2.out.2.2.2.1).es hqb).mono ?_; rintro e W3 ⟨Bf, df, rfl, hO3, hb3⟩; rw [HF.out] at hO3; have HR0 : Hid (RpR w W1.heap.size W2.heap.size (.slice none 0 0) (.slice none 0 0) (.slice none 0 0) B n d B' m d' B2 q d2 C S P Bf df F W3) := ⟨⟨_, HB2.out.1.below hb3⟩, hO3.more (by have := HB2.out.2.2.2.2; simp; omega), Blk.below HB2.out.2.2.1 hb3, HB2.out.2.1.below hb3, bt HB2.out.2.2.2.1 hb3⟩; clear hO3 hb3))
  have hz12 : w.heap.size ≤ W1.heap.size := HB1.out.2.2.size
  go_loopw [7] (fun i wr => ∃ k : Nat, k ≤ q ∧ i = .int .i64 k ∧ Hid (RpR w W1.heap.size W2.heap.size (.slice none 0 0) (.slice none 0 0) (.slice none 0 0) B n d B' m d' B2 q d2 C S (setK k P G) Bf df F wr)) (fun i _ => q - (intOf i).toNat)
  case atStart => exact ⟨0, by omega, rfl, HR0.out⟩
  case round =>
    obtain ⟨k, hk, rfl, HR⟩ := hrel
    by_cases hlt : k < q
    · have hkn : (k : Int) < (q : Int) := by omega
      have hPk : P[k]? = some (P.getD k z6) := by
        have : k < P.length := by have := HL.out; omega
        simp [List.getD_eq_getElem?_getD, List.getElem?_eq_getElem this]
      obtain ⟨g, rfl, hg, ⟨c1, c2, c3⟩, hfz, hgq, hqg, hnext⟩ := HR.out.sign hz12 (show (setK k P G)[k]? = some (P.getD k z6) by rw [setK_at k P G k (Nat.le_refl _)]; exact hPk)
      obtain ⟨gf, rfl, hgf, hFk, s0, s1, s2⟩ := sg_at HR.out.fs hlt HFL.out
      have HN := Lib.hid (hnext (F.getD k s0g))
      have q2 := HR.out.qx.cell 2
      simp at q2
      have z1 := hfz (k * 6 + 1)
      have z2 := hfz (k * 6 + 2)
      have z3 := hfz (k * 6 + 3)
      have HPK := Lib.hid hPk
      have HFK := Lib.hid hFk
      clear hfz hnext hPk hFk
      generalize F.getD k s0g = s at *
      generalize P.getD k z6 = y at *
      obtain ⟨sv, sd, st⟩ := s
      dsimp only at s0 s1 s2 HN
      have HEND : Hid (∀ (s' : Sg), G[k]? = some s' → ∀ wx, RpR w W1.heap.size W2.heap.size (.slice none 0 0) (.slice none 0 0) (.slice none 0 0) B n d B' m d' (some ⟨g, 0, none⟩) q d2 C S ((setK k P G).set k (upS y s')) (some ⟨gf, 0, none⟩) df F wx → RpR w W1.heap.size W2.heap.size (.slice none 0 0) (.slice none 0 0) (.slice none 0 0) B n d B' m d' (some ⟨g, 0, none⟩) q d2 C S (setK (k + 1) P G) (some ⟨gf, 0, none⟩) df F wx) := fun s' hs wx h => by
        rw [setK_set k P G _ _ HPK.out hs] at h
        exact h
      go_wp2_with (fail)
      go_still_tail 7, (by kernel_rfl)
      go_wp2_with (fail)
      have HN9 := Lib.hid HN.out.drew
      obtain ⟨w9, hw9⟩ : ∃ w9, (((wr.setCell ⟨g, k * 6 + 1, none⟩ (.int .i64 sv)).setCell ⟨g, k * 6 + 1 + 1, none⟩ (.bool sd)).setCell ⟨g, k * 6 + 1 + 2, none⟩ (.bool st)).drew = w9 := ⟨_, rfl⟩
      rw [hw9]
      replace HN9 : Hid (RpR w W1.heap.size W2.heap.size (.slice none 0 0) (.slice none 0 0) (.slice none 0 0) B n d B' m d' (some ⟨g, 0, none⟩) q d2 C S ((setK k P G).set k (upS y ⟨sv, sd, st⟩)) (some ⟨gf, 0, none⟩) df F w9) := by rw [← hw9]; exact HN9.out
      clear hw9 HN c1 c2 c3 z1 z2 z3 s0 s1 s2 q2
      by_cases hk0 : k = 0
      · have HT : Hid (G[k]? = some ⟨sv, sd, st⟩) := by
          have hf := HFK.out
          subst hk0
          unfold Hid
          rw [← HG.out, terG_at0 F _ hf]
        have hd0 : decide ((0 : Int) < (k : Int)) = false := by simp [hk0]
        have hd1 : decide (0 < k) = false := by simp [hk0]
        clear hk0
        go_quiet (fail)
        go_wp2_with (fail)
        go_roundw
        case rel => exact ⟨k + 1, by omega, by first | rfl | go_num, HEND.out ⟨sv, sd, st⟩ HT.out _ (RpR.drewN HN9.out _)⟩
        case measure => simp [intOf]; omega
      have hd0 : decide ((0 : Int) < (k : Int)) = true := by simp; omega
      have hd1 : decide (0 < k) = true := by simp; omega
      have hk1 : 1 ≤ k := by omega
      obtain ⟨j, hj⟩ : ∃ j, k = j + 1 := ⟨k - 1, by omega⟩
      have hw1 : IntKind.i64.wrap ((k : Int) - 1) = (j : Int) := by rw [show (k : Int) - 1 = (j : Int) by omega]; exact IntWalk.i64_in _ ⟨by omega, by omega⟩
      have hj1 : (j : Int) < (q : Int) := by omega
      have hj2 : (0 : Int) ≤ (j : Int) := by omega
      have hj3 : j < q := by omega
      have HJ := Lib.hid hj
      clear hk0 hj
      obtain ⟨gf', hgf', hgf2, hFJ, t0, t1, t2⟩ := sg_at HN9.out.fs hj3 HFL.out
      injection hgf' with hgf'
      injection hgf' with hgf'
      subst hgf'
      have HFJ := Lib.hid hFJ
      obtain ⟨gf'', hgf'', _, hFK2, s0, s1, s2⟩ := sg_at HN9.out.fs hlt HFL.out
      injection hgf'' with hgf''
      injection hgf'' with hgf''
      subst hgf''
      have hks : F.getD k s0g = ⟨sv, sd, st⟩ := by
        have := HFK.out
        rw [hFK2] at this
        injection this
      rw [hks] at s0 s1 s2
      clear hFJ hFK2 hks
      generalize F.getD j s0g = pv at *
      obtain ⟨pv, pd, pt⟩ := pv
      dsimp only at t0 t1 t2 s0 s1 s2
      by_cases g1 : sv = pv
      rotate_left
      · have hxb : (sv == pv) = false := beq_eq_false_iff_ne.2 g1
        have HT : Hid (G[k]? = some ⟨sv, sd, st⟩) := by
          unfold Hid
          rw [← HG.out, HJ.out, terG_at1 F j false s0g _ _ HFJ.out (by rw [← HJ.out]; exact HFK.out), if_neg (fun h => g1 (sgE_eq h).1)]
        clear g1
        go_quiet (fail)
        go_wp2_with (fail)
        go_roundw
        case rel => exact ⟨k + 1, by omega, by first | rfl | go_num, HEND.out ⟨sv, sd, st⟩ HT.out _ (RpR.drewN HN9.out _)⟩
        case measure => simp [intOf]; omega
      subst g1
      by_cases g2 : sd = pd
      rotate_left
      · have hxb : (sd == pd) = false := beq_eq_false_iff_ne.2 g2
        have HT : Hid (G[k]? = some ⟨sv, sd, st⟩) := by
          unfold Hid
          rw [← HG.out, HJ.out, terG_at1 F j false s0g _ _ HFJ.out (by rw [← HJ.out]; exact HFK.out), if_neg (fun h => g2 (sgE_eq h).2.1)]
        clear g2
        go_quiet (fail)
        go_wp2_with (fail)
        go_roundw
        case rel => exact ⟨k + 1, by omega, by first | rfl | go_num, HEND.out ⟨sv, sd, st⟩ HT.out _ (RpR.drewN HN9.out _)⟩
        case measure => simp [intOf]; omega
      subst g2
      by_cases g3 : st = pt
      rotate_left
      · have hxb : (st == pt) = false := beq_eq_false_iff_ne.2 g3
        have HT : Hid (G[k]? = some ⟨sv, sd, st⟩) := by
          unfold Hid
          rw [← HG.out, HJ.out, terG_at1 F j false s0g _ _ HFJ.out (by rw [← HJ.out]; exact HFK.out), if_neg (fun h => g3 (sgE_eq h).2.2)]
        clear g3
        go_quiet (fail)
        go_wp2_with (fail)
        go_roundw
        case rel => exact ⟨k + 1, by omega, by first | rfl | go_num, HEND.out ⟨sv, sd, st⟩ HT.out _ (RpR.drewN HN9.out _)⟩
        case measure => simp [intOf]; omega
      subst g3
      have HT : Hid (G[k]? = some s0g) := by
        unfold Hid
        rw [← HG.out, HJ.out, terG_at1 F j false s0g _ _ HFJ.out (by rw [← HJ.out]; exact HFK.out), if_pos (by simp [sgE])]
      have hPk9 : Hid (((setK k P G).set k (upS y ⟨sv, sd, st⟩))[k]? = some (upS y ⟨sv, sd, st⟩)) := by
        unfold Hid
        rw [List.getElem?_set_self (by rw [setK_len]; have := HL.out; omega)]
      obtain ⟨g2, hg2, hgl, ⟨c1, c2, c3⟩, hfz, _, _, _⟩ := HN9.out.sign hz12 hPk9.out
      injection hg2 with hg2
      injection hg2 with hg2
      subst hg2
      have z1 := hfz (k * 6 + 1)
      have z2 := hfz (k * 6 + 2)
      have z3 := hfz (k * 6 + 3)
      have q2 := HN9.out.qx.cell 2
      simp at q2
      clear hfz
      go_quiet (fail)
      go_wp2_with (fail)
      go_roundw
      case rel =>
        obtain ⟨g3, hg3, _, _, _, _, _, hnx⟩ := (RpR.drewN HN9.out nq).sign hz12 hPk9.out
        injection hg3 with hg3
        injection hg3 with hg3
        subst hg3
        have hN := hnx s0g
        rw [List.set_set] at hN
        exact ⟨k + 1, by omega, by first | rfl | go_num, HEND.out s0g HT.out _ hN⟩
      case measure => simp [intOf]; omega
    · obtain rfl : k = q := by omega
      obtain ⟨E', hE'⟩ := HR.out.pc
      rw [setK_all k P G (Nat.le_of_eq HL.out.symm)] at hE'
      have HE := Lib.hid hE'
      have q0 := HR.out.qx.cell 0
      have q1 := HR.out.qx.cell 1
      have q2 := HR.out.qx.cell 2
      have r0 := HR.out.rs.cell 0
      have r1 := HR.out.rs.cell 1
      have r2 := HR.out.rs.cell 2
      have f0 := HR.out.rs.frozen 0
      have f1 := HR.out.rs.frozen 1
      have f2 := HR.out.rs.frozen 2
      have hlr := HB1.out.2.1.lt
      simp at q0 q1 q2 r0 r1 r2
      clear hE'
      go_wp2_with (fail)
      have hR3 := ((HR.out.rs.set_ 0 (.slice B n d)).set_ 1 (.slice B' m d')).set_ 2 (.slice B2 k d2)
      have z0 := hR3.cell 0
      have z1 := hR3.cell 1
      have z2 := hR3.cell 2
      refine bodyPost_ret (v := .tuple #[pcV B n d B' m d' B2 k d2, .int .i64 0]) ?_ rfl ?_
      · simp at z0 z1 z2
        simp [results, Tryd.results21, go_sem, z0, z1, z2]
      · refine ⟨B, n, d, B', m, d', B2, k, d2, rfl, ?_, ((HR.out.lo.setCell (p := ⟨w.heap.size + 1, 0, none⟩) (by simp) _).setCell (p := ⟨w.heap.size + 1, 1, none⟩) (by simp) _).setCell (p := ⟨w.heap.size + 1, 2, none⟩) (by simp) _⟩
        rw [oC_ok, oC_ok, oC_ok]
        exact (((HE.out.pcOw.other hlr _ _).other hlr _ _).other hlr _ _).more hz12

end Go.Proofs.YtlmpoklakbjpnaaDoor

/- Pieces, plain: Plain and Terse change the signs alone and undo each other. -/
namespace Go.Proofs.YtlmpoklakbjpnaaDoor
open Go Go.RowKit

def okS (s : Sg) : Bool := okB s.v s.d s.t
theorem okS_ne {s : Sg} (h : okS s = true) : s.v ≠ 0 ∧ 1 ≤ s.v ∧ s.v ≤ 7 := by
  simp [okS, okB] at h
  omega
/-- Each sign is right; one that is none has the value 0. -/
def SgR (P : List EvP) : Prop := ∀ y ∈ P, wrB y.v y.d y.t = !decide (y.v = 0) ∧ (y.v ≠ 0 → okB y.v y.d y.t = true)
theorem sgr_of {C : List Cr} {S : List Int} {P : List EvP} (h : pcErr C S P = 0) : SgR P := fun y hy => by
  obtain ⟨j, hj⟩ := List.mem_iff_getElem?.1 hy
  have hs := ((pcErr_ok h).2.2 j _ hj).1
  refine ⟨sgn_wr hs, fun hv => ?_⟩
  have hw := sgn_wr hs
  unfold sgnB at hs
  rw [hw] at hs
  cases hk : okB y.v y.d y.t with
  | true => rfl
  | false => rw [hk] at hs; simp [hv] at hs
theorem sgr_head {C : List Cr} {S : List Int} {y : EvP} {P : List EvP} (h : pcErr C S (y :: P) = 0) : y.v ≠ 0 := by
  have hs := ((pcErr_ok h).2.2 0 y rfl).1
  intro e
  unfold sgnB at hs
  cases hw : wrB y.v y.d y.t with
  | true => rw [hw] at hs; simp [okB, e] at hs
  | false => rw [hw] at hs; simp at hs
theorem frc_ok : ∀ (P : List EvP) (s : Sg), SgR P → okS s = true → ∀ x ∈ frcL s P, okS x = true
  | [], _, _, _, x, hx => by simp [frcL] at hx
  | y :: P, s, hP, hs, x, hx => by
    have hg : okS (sgF y s) = true := by
      unfold sgF
      split
      · exact hs
      · rename_i h
        exact (hP y List.mem_cons_self).2 h
    rw [frcL] at hx
    rcases List.mem_cons.1 hx with rfl | hx
    · exact hg
    · exact frc_ok P _ (fun z hz => hP z (List.mem_cons_of_mem _ hz)) hg x hx
theorem frc_ok0 {C : List Cr} {S : List Int} {P : List EvP} (h : pcErr C S P = 0) : ∀ x ∈ frcL s0g P, okS x = true := by
  cases P with
  | nil => intro x hx; simp [frcL] at hx
  | cons y P =>
    have hR := sgr_of h
    have hv := sgr_head h
    have hg : okS (sgF y s0g) = true := by
      unfold sgF
      rw [if_neg hv]
      exact (hR y List.mem_cons_self).2 hv
    intro x hx
    rw [frcL] at hx
    rcases List.mem_cons.1 hx with rfl | hx
    · exact hg
    · exact frc_ok P _ (fun z hz => hR z (List.mem_cons_of_mem _ hz)) hg x hx

/-! ### What the program's functions make, as lists -/
theorem rwO_plain (X : List TmP) : (rwO plainSt () X).1 = X.map fun p => upS p.y ⟨p.v, p.d, p.t⟩ := by
  have : ∀ (X : List TmP) (o : List EvP), (X.foldl (fun a p => (a.1 ++ [(plainSt a.2 p).2], (plainSt a.2 p).1)) (o, ())).1 = o ++ X.map fun p => upS p.y ⟨p.v, p.d, p.t⟩ := by
    intro X
    induction X with
    | nil => intro o; simp
    | cons p r ih =>
      intro o
      rw [List.foldl_cons]
      show (List.foldl _ (o ++ [(plainSt () p).2], ()) r).1 = _
      rw [ih]
      simp [plainSt, upS]
  unfold rwO
  rw [this]
  simp
theorem tm_plain : ∀ (P : List EvP) (n : Nat) (v : Int) (d t : Bool) (fm : Int), SgR P → (tmPL P n v d t fm).map (fun p => upS p.y ⟨p.v, p.d, p.t⟩) = setG P (frcL ⟨v, d, t⟩ P)
  | [], _, _, _, _, _, _ => rfl
  | y :: P, n, v, d, t, fm, hP => by
    have hw := (hP y List.mem_cons_self).1
    have hP' : SgR P := fun z hz => hP z (List.mem_cons_of_mem _ hz)
    by_cases h0 : y.v = 0
    · have e : sgF y ⟨v, d, t⟩ = ⟨v, d, t⟩ := if_pos h0
      rw [tmPL, if_neg (by rw [hw]; simp [h0]), List.map_cons, tm_plain P _ v d t _ hP', frcL, e]
      rfl
    · have e : sgF y ⟨v, d, t⟩ = ⟨y.v, y.d, y.t⟩ := if_neg h0
      rw [tmPL, if_pos (by rw [hw]; simp [h0]), List.map_cons, tm_plain P _ y.v y.d y.t _ hP', frcL, e]
      rfl
theorem plain_out {P : List EvP} (hP : SgR P) : (rwO plainSt () (tpL P)).1 = setG P (frcL s0g P) := by
  rw [rwO_plain, tm_plain P 0 0 false false 0 hP]
  rfl
theorem terSt_eq (s : Sg) (p : TmP) : terseSt s p = (⟨p.v, p.d, p.t⟩, if sgE ⟨p.v, p.d, p.t⟩ s = true then upS p.y s0g else p.y) := by
  unfold terseSt
  by_cases h : p.v = s.v ∧ p.d = s.d ∧ p.t = s.t
  · rw [if_pos h, if_pos (by simp [sgE, h])]
    rfl
  · rw [if_neg h, if_neg (fun e => h (sgE_eq e))]
theorem tm_terse : ∀ (P : List EvP) (n : Nat) (v : Int) (d t : Bool) (fm : Int) (o : List EvP), SgR P →
    ((tmPL P n v d t fm).foldl (fun a p => (a.1 ++ [(terseSt a.2 p).2], (terseSt a.2 p).1)) (o, (⟨v, d, t⟩ : Sg))).1 = o ++ setG P (terG true ⟨v, d, t⟩ (frcL ⟨v, d, t⟩ P))
  | [], _, _, _, _, _, o, _ => by simp [tmPL, setG]
  | y :: P, n, v, d, t, fm, o, hP => by
    have hw := (hP y List.mem_cons_self).1
    have hP' : SgR P := fun z hz => hP z (List.mem_cons_of_mem _ hz)
    by_cases h0 : y.v = 0
    · have e : sgF y ⟨v, d, t⟩ = ⟨v, d, t⟩ := if_pos h0
      rw [tmPL, if_neg (by rw [hw]; simp [h0]), List.foldl_cons]
      simp only [terSt_eq]
      have hs : sgE ⟨v, d, t⟩ ⟨v, d, t⟩ = true := by simp [sgE]
      have := tm_terse P (n + 1) v d t (fm + tkV v d t) (o ++ [upS y s0g]) hP'
      simp only [terSt_eq] at this
      rw [if_pos hs, this, frcL, e, terG, hs]
      simp [setG]
    · have e : sgF y ⟨v, d, t⟩ = ⟨y.v, y.d, y.t⟩ := if_neg h0
      rw [tmPL, if_pos (by rw [hw]; simp [h0]), List.foldl_cons]
      simp only [terSt_eq]
      by_cases hs : sgE ⟨y.v, y.d, y.t⟩ ⟨v, d, t⟩ = true
      · have := tm_terse P (n + 1) y.v y.d y.t (fm + tkV y.v y.d y.t) (o ++ [upS y s0g]) hP'
        simp only [terSt_eq] at this
        rw [if_pos hs, this, frcL, e, terG, hs]
        simp [setG]
      · have hs' : sgE ⟨y.v, y.d, y.t⟩ ⟨v, d, t⟩ = false := by simpa using hs
        have := tm_terse P (n + 1) y.v y.d y.t (fm + tkV y.v y.d y.t) (o ++ [y]) hP'
        simp only [terSt_eq] at this
        rw [if_neg hs, this, frcL, e, terG, hs']
        simp [setG, upS]
theorem terse_out {C : List Cr} {S : List Int} {P : List EvP} (h : pcErr C S P = 0) : (rwO terseSt s0g (tpL P)).1 = setG P (terG false s0g (frcL s0g P)) := by
  have hR := sgr_of h
  unfold rwO
  cases P with
  | nil => rfl
  | cons y P =>
    have hv := sgr_head h
    have hw := (hR y List.mem_cons_self).1
    have hP' : SgR P := fun z hz => hR z (List.mem_cons_of_mem _ hz)
    have e : sgF y s0g = ⟨y.v, y.d, y.t⟩ := if_neg hv
    have hs : sgE ⟨y.v, y.d, y.t⟩ s0g = false := by simp [sgE, s0g, hv]
    show (List.foldl _ ([], s0g) (tmPL (y :: P) 0 0 false false 0)).1 = _
    rw [tmPL, if_pos (by rw [hw]; simp [hv]), List.foldl_cons]
    simp only [terSt_eq]
    have := tm_terse P (0 + 1) y.v y.d y.t (0 + tkV y.v y.d y.t) ([] ++ [y]) hP'
    simp only [terSt_eq] at this
    rw [if_neg (by rw [hs]; simp), this, frcL, e, terG, hs]
    simp [setG, upS]

/-! ### Signs in force of the results -/
theorem terG_len : ∀ (F : List Sg) (b : Bool) (s : Sg), (terG b s F).length = F.length
  | [], _, _ => rfl
  | x :: r, b, s => by simp [terG, terG_len r]
theorem setG_setG : ∀ (P : List EvP) (G F : List Sg), G.length = P.length → F.length = P.length → setG (setG P G) F = setG P F
  | [], [], [], _, _ => rfl
  | [], _ :: _, _, h, _ => by simp at h
  | [], [], _ :: _, _, h => by simp at h
  | _ :: _, [], _, h, _ => by simp at h
  | _ :: _, _ :: _, [], _, h => by simp at h
  | y :: P, g :: G, f :: F, h1, h2 => by
    show upS (upS y g) f :: setG (setG P G) F = upS y f :: setG P F
    rw [setG_setG P G F (by simpa using h1) (by simpa using h2)]
    rfl
theorem frc_setF : ∀ (P : List EvP) (F : List Sg) (s : Sg), F.length = P.length → (∀ x ∈ F, okS x = true) → frcL s (setG P F) = F
  | [], [], _, _, _ => rfl
  | [], _ :: _, _, h, _ => by simp at h
  | _ :: _, [], _, h, _ => by simp at h
  | y :: P, f :: F, s, h, hF => by
    have hf := (okS_ne (hF f List.mem_cons_self)).1
    have e : sgF (upS y f) s = f := if_neg (show ¬ (upS y f).v = 0 from hf)
    show frcL s (upS y f :: setG P F) = f :: F
    rw [frcL, e, frc_setF P F f (by simpa using h) (fun x hx => hF x (List.mem_cons_of_mem _ hx))]
theorem frc_ter : ∀ (P : List EvP) (F : List Sg) (s : Sg) (b : Bool), F.length = P.length → (∀ x ∈ F, okS x = true) → frcL s (setG P (terG b s F)) = F
  | [], [], _, _, _, _ => rfl
  | [], _ :: _, _, _, h, _ => by simp at h
  | _ :: _, [], _, _, h, _ => by simp at h
  | y :: P, f :: F, s, b, h, hF => by
    have hf := (okS_ne (hF f List.mem_cons_self)).1
    have ih := frc_ter P F f true (by simpa using h) (fun x hx => hF x (List.mem_cons_of_mem _ hx))
    by_cases hb : (b && sgE f s) = true
    · have e : sgF (upS y s0g) s = s := if_pos rfl
      have hfs : f = s := by
        rw [Bool.and_eq_true] at hb
        obtain ⟨e1, e2, e3⟩ := sgE_eq hb.2
        cases f; cases s; simp_all
      show frcL s (upS y (if (b && sgE f s) = true then s0g else f) :: setG P (terG true f F)) = f :: F
      rw [if_pos hb, frcL, e, ← hfs, ih]
    · have e : sgF (upS y f) s = f := if_neg (show ¬ (upS y f).v = 0 from hf)
      show frcL s (upS y (if (b && sgE f s) = true then s0g else f) :: setG P (terG true f F)) = f :: F
      rw [if_neg hb, frcL, e, ih]
theorem setG_at : ∀ (P : List EvP) (G : List Sg) (j : Nat), G.length = P.length → (setG P G)[j]? = (P[j]?).bind fun y => (G[j]?).map fun g => upS y g
  | [], [], _, _ => by simp [setG]
  | [], _ :: _, _, h => by simp at h
  | _ :: _, [], _, h => by simp at h
  | y :: P, g :: G, 0, _ => by simp [setG]
  | y :: P, g :: G, j + 1, h => by simpa [setG] using setG_at P G j (by simpa using h)
theorem sgn_ok {j : Nat} {y : EvP} {g : Sg} (h : okS g = true) : sgnB j (upS y g) = false := by
  have hv := (okS_ne h).1
  unfold sgnB
  have hw : wrB (upS y g).v (upS y g).d (upS y g).t = true := by simp [wrB, upS, hv]
  have hk : okB (upS y g).v (upS y g).d (upS y g).t = true := h
  rw [hw, hk]
  simp
theorem sgn_zero {j : Nat} {y : EvP} : sgnB (j + 1) (upS y s0g) = false := by simp [sgnB, upS, s0g, wrB]
/-- A piece with its signs changed to these is valid. -/
theorem set_valid {C : List Cr} {S : List Int} {P : List EvP} (h : pcErr C S P = 0) {G : List Sg} (hl : G.length = P.length) (hG : ∀ (j : Nat) (g : Sg), G[j]? = some g → okS g = true ∨ (g = s0g ∧ 0 < j)) : pcErr C S (setG P G) = 0 := by
  refine pcErr_keep h (setG_len P G).symm (fun j x y hx hy => ?_)
  have hj : j < G.length := by rw [hl]; exact (List.getElem?_eq_some_iff.1 hx).1
  rw [setG_at P G j hl, hx, List.getElem?_eq_getElem hj] at hy
  obtain rfl : upS x G[j] = y := by simpa using hy
  refine ⟨rfl, rfl, ?_⟩
  rcases hG j _ (List.getElem?_eq_getElem hj) with h1 | ⟨h1, h2⟩
  · exact sgn_ok h1
  · rw [h1]
    obtain ⟨i, rfl⟩ : ∃ i, j = i + 1 := ⟨j - 1, by omega⟩
    exact sgn_zero
theorem terG_ok : ∀ (F : List Sg) (b : Bool) (s : Sg), (∀ x ∈ F, okS x = true) → ∀ (j : Nat) (g : Sg), (terG b s F)[j]? = some g → okS g = true ∨ (g = s0g ∧ (b = true ∨ 0 < j))
  | [], _, _, _, j, g, h => by simp [terG] at h
  | x :: F, b, s, hF, 0, g, h => by
    rw [terG] at h
    obtain rfl : (if (b && sgE x s) = true then s0g else x) = g := by simpa using h
    by_cases hb : (b && sgE x s) = true
    · rw [if_pos hb]
      rw [Bool.and_eq_true] at hb
      exact .inr ⟨rfl, .inl hb.1⟩
    · rw [if_neg hb]
      exact .inl (hF x List.mem_cons_self)
  | x :: F, b, s, hF, j + 1, g, h => by
    rw [terG] at h
    rcases terG_ok F true x (fun z hz => hF z (List.mem_cons_of_mem _ hz)) j g (by simpa using h) with h1 | ⟨h1, _⟩
    · exact .inl h1
    · exact .inr ⟨h1, .inr (by omega)⟩
theorem alike_set {C : List Cr} {S : List Int} {P : List EvP} (h : pcErr C S P = 0) {G : List Sg} (hl : G.length = P.length) (hv : pcErr C S (setG P G) = 0) (hf : frcL s0g (setG P G) = frcL s0g P) : alikeB C S (setG P G) C S P = true := by
  have h1 : eqL alEvB (setG P G) P = true := by
    have hr : ∀ x : EvP, alEvB x x = true := fun x => by
      unfold alEvB
      rw [eqL_refl (fun y => by simp [plEqB])]
      simp
    have : ∀ (P : List EvP) (G : List Sg), G.length = P.length → eqL alEvB (setG P G) P = true := by
      intro P
      induction P with
      | nil => intro G hl; cases G with
        | nil => rfl
        | cons g G => simp at hl
      | cons y P ih => intro G hl; cases G with
        | nil => simp at hl
        | cons g G =>
          have hy : alEvB (upS y g) y = true := hr y
          show eqL alEvB (upS y g :: setG P G) (y :: P) = true
          unfold eqL
          rw [hy, ih G (by simpa using hl)]
          rfl
    exact this P G hl
  have h2 : onsL C S (setG P G) = onsL C S P := by unfold onsL; rw [if_pos hv, if_pos h, hf]
  unfold alikeB
  rw [hv, h, sameB_refl, h2, eqI_refl, h1]
  rfl

end Go.Proofs.YtlmpoklakbjpnaaDoor
