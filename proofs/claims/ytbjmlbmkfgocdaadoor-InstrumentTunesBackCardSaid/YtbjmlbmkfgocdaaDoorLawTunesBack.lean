/- The law InstrumentTunesBack returns true for every instrument, course and number, in every world that holds the program's tables. -/
import Derived.Test.YtbjmlbmkfgocdaaDoorLawTunes
import Derived.Test.YtbjmlbmkfgocdaaDoorAt
import Derived.Test.YtbjmlbmkfgocdaaDoorPure9
namespace Go.Proofs.YtbjmlbmkfgocdaaDoor
open Go.RowKit

set_option maxRecDepth 100000 in
set_option maxHeartbeats 16000000 in
theorem law_tunesback (A A' : Option Addr) (n c m c' : Nat) (C : List Cr) (S : List Int) (k d : Int) (w : World) (E : Env w) (hC : Sl w w.heap.size 3 A n c (crC C)) (hS : Sl w w.heap.size 1 A' m c' (intC S)) (hn : n = C.length) (hm : m = S.length) :
    Calls Tryd.prog 9 #[.agg #[.slice A n c, .slice A' m c'], .int .i64 k, .int .i64 d] w fun e w' => e = .returned (.bool true) ∧ Below w.heap.size w w' := by
  have HE : Hid (∀ w', Below (w.alloc (iObj A n c A' m c')).heap.size (w.alloc (iObj A n c A' m c')) w' → Env w' ∧ Sl w' w'.heap.size 3 A n c (crC C) ∧ Sl w' w'.heap.size 1 A' m c' (intC S) ∧ Below w.heap.size w w') :=
    fun w' h => ⟨(E.alloc _).below h, (hC.below (ba _ _)).below h, (hS.below (ba _ _)).below h, bx h⟩
  have HN := Lib.hid hn
  have HM := Lib.hid hm
  clear hC hS hn hm E
  cases hbg : bigB n m with
  | true =>
    have HB := Lib.hid hbg
    clear hbg
    go_enter Tryd.func9, Tryd.ntmps9
    go_wp2_with (first | (go_at_call 19; refine (big_any _ _ _ _ _ _ _).mono ?_; rintro e w1 ⟨rfl, hb1⟩; rw [HB.out]) | (go_at_call 18; refine (works_any _ (HE.out _ hb1).1).mono ?_; rintro e w2 ⟨rfl, hb2⟩))
    go_ret
    exact ⟨rfl, bt (HE.out _ hb1).2.2.2 hb2⟩
  | false =>
    have HB := Lib.hid hbg
    have hnm : n ≤ 64 ∧ m ≤ 64 := by simp [bigB] at hbg; omega
    obtain ⟨l1, l2⟩ := hnm
    have b1 : n ≤ 65536 := by omega
    have b2 : m ≤ 65536 := by omega
    clear hbg
    by_cases hE : tuE C S k d = 0
    · obtain ⟨hck, t, rfl, htl, hd, hD⟩ := tuE_facts hE
      have hn14 : n ≤ 14 := by have := (chk_facts hck).1; have := HN.out; omega
      have w64n : IntKind.i64.wrap (-d) = -d := IntWalk.i64_in _ ⟨by omega, by omega⟩
      have HTU : Hid (∀ (A1 A2 : Option Addr) (c1 c2 : Nat) (w' : World), Sl w' w'.heap.size 3 A1 n c1 (crC C) → Sl w' w'.heap.size 1 A2 m c2 (intC S) → Calls Tryd.prog 35 #[.agg #[.slice A1 n c1, .slice A2 m c2], .int .i64 ((t : Int) + 1), .int .i64 d] w' (InP (tun C t (t + 1) d) S 0 w')) := by
        intro A1 A2 c1 c2 w' h1 h2
        have := tune_any A1 A2 n c1 m c2 C S ((t : Int) + 1) d w' h1 h2 HN.out HM.out b1 b2
        rw [hE, okL_ok rfl, okL_ok rfl, show ((t : Int) + 1).toNat - 1 = t by omega, show ((t : Int) + 1).toNat = t + 1 by omega] at this
        exact this
      have HTB : Hid (∀ (A1 A2 : Option Addr) (n1 c1 m1 c2 : Nat) (w' : World), n1 = (tun C t (t + 1) d).length → m1 = S.length → Sl w' w'.heap.size 3 A1 n1 c1 (crC (tun C t (t + 1) d)) → Sl w' w'.heap.size 1 A2 m1 c2 (intC S) → Calls Tryd.prog 35 #[.agg #[.slice A1 n1 c1, .slice A2 m1 c2], .int .i64 ((t : Int) + 1), .int .i64 (-d)] w' (InP C S 0 w')) := by
        intro A1 A2 n1 c1 m1 c2 w' hn1 hm1 h1 h2
        have := tune_any A1 A2 n1 c1 m1 c2 (tun C t (t + 1) d) S ((t : Int) + 1) (-d) w' h1 h2 hn1 hm1 (by rw [hn1, tun_len, ← HN.out]; exact b1) (by rw [hm1, ← HM.out]; exact b2)
        rw [tuE_ok hD (by rw [tun_len]; exact htl) (by omega) (by rw [tun_back]; exact hck), okL_ok rfl, okL_ok rfl, show ((t : Int) + 1).toNat - 1 = t by omega, show ((t : Int) + 1).toNat = t + 1 by omega, tun_back] at this
        exact this
      have HAT := Lib.hid (fun b hb pf => at_tun hck hD b hb pf)
      have HDL : Hid ((tun C t (t + 1) d).length = n) := by unfold Hid; rw [tun_len]; exact HN.out.symm
      have HSR := Lib.hid (sameB_refl C S)
      clear hck hD hE htl
      generalize hDD : tun C t (t + 1) d = D at *
      clear hDD
      go_enter Tryd.func9, Tryd.ntmps9
      go_wp2_with (fail)
      refine (big_any _ _ _ _ _ _ _).mono ?_
      rintro e w1 ⟨rfl, hb1⟩
      rw [HB.out]
      obtain ⟨q0, q1, hz, _⟩ := args1 hb1
      go_wp2_with (fail)
      refine (rcopy_any A A' n c m c' C S _ (HE.out _ hb1).2.1 (HE.out _ hb1).2.2.1 b1 b2).mono ?_
      rintro e w2 ⟨G1, d1, G2, d2, rfl, o1, o2, hb2⟩
      have hT2 := bt hb1 hb2
      clear q0 q1 hz
      go_wp2_with (fail)
      refine (HTU.out _ _ _ _ _ o1.sl o2.sl).mono ?_
      rintro e w3 ⟨B1, n1, e1, B2, m1, e2, rfl, hn1, hm1, s1, s2, _, _, hb3⟩
      have HS1 := Lib.hid (And.intro hn1 (And.intro hm1 (And.intro (s1.below (ba w3 (.cells #[.slice B1 n1 e1, .slice B2 m1 e2] 36))) (s2.below (ba w3 (.cells #[.slice B1 n1 e1, .slice B2 m1 e2] 36))))))
      have hT3 := bt (bt hT2 hb3) (ba w3 (.cells #[.slice B1 n1 e1, .slice B2 m1 e2] 36))
      clear s1 s2 hn1 hm1 o1 o2
      go_wp2_with (fail)
      refine (HTB.out B1 B2 n1 e1 m1 e2 _ HS1.out.1 HS1.out.2.1 HS1.out.2.2.1 HS1.out.2.2.2).mono ?_
      rintro e w4 ⟨B3, n3, e3, B4, m3, e4, rfl, hn3, hm3, s1, s2, _, _, hb4⟩
      have HS3 := Lib.hid (And.intro hn3 (And.intro hm3 (And.intro (s1.below (ba w4 (.cells #[.slice B3 n3 e3, .slice B4 m3 e4] 36))) (s2.below (ba w4 (.cells #[.slice B3 n3 e3, .slice B4 m3 e4] 36))))))
      have hT4 := bt (bt hT3 hb4) (ba w4 (.cells #[.slice B3 n3 e3, .slice B4 m3 e4] 36))
      have hK4 : Below (w3.alloc (.cells #[.slice B1 n1 e1, .slice B2 m1 e2] 36)).heap.size (w3.alloc (.cells #[.slice B1 n1 e1, .slice B2 m1 e2] 36)) (w4.alloc (.cells #[.slice B3 n3 e3, .slice B4 m3 e4] 36)) := bt hb4 (ba w4 (.cells #[.slice B3 n3 e3, .slice B4 m3 e4] 36))
      clear s1 s2 hn3 hm3
      have HK : Hid (∀ w', Below (w4.alloc (.cells #[.slice B3 n3 e3, .slice B4 m3 e4] 36)).heap.size (w4.alloc (.cells #[.slice B3 n3 e3, .slice B4 m3 e4] 36)) w' → w'.cell? ⟨w.heap.size, 0, none⟩ = some (.slice A n c) ∧ w'.cell? ⟨w.heap.size, 1, none⟩ = some (.slice A' m c') ∧ w'.cell? ⟨w4.heap.size, 0, none⟩ = some (.slice B3 n3 e3) ∧ w'.cell? ⟨w4.heap.size, 1, none⟩ = some (.slice B4 m3 e4) ∧ w.heap.size < w'.heap.size ∧ w4.heap.size < w'.heap.size ∧ Below (w4.alloc (.cells #[.slice B3 n3 e3, .slice B4 m3 e4] 36)).heap.size (w4.alloc (.cells #[.slice B3 n3 e3, .slice B4 m3 e4] 36)) w') := by
        intro w' h
        obtain ⟨q0, q1, hz, _⟩ := args1 (bt hT4 h)
        obtain ⟨p0, p1, pz⟩ := keep2 h
        exact ⟨q0, q1, p0, p1, hz, pz, h⟩
      have HSF := Lib.hid (And.intro HS3.out.1 (And.intro HS3.out.2.1 (And.intro (show n3 ≤ 65536 by rw [HS3.out.1, ← HN.out]; exact b1) (show m3 ≤ 65536 by rw [HS3.out.2.1, ← HM.out]; exact b2))))
      have hR : Below (w4.alloc (.cells #[.slice B3 n3 e3, .slice B4 m3 e4] 36)).heap.size (w4.alloc (.cells #[.slice B3 n3 e3, .slice B4 m3 e4] 36)) (w4.alloc (.cells #[.slice B3 n3 e3, .slice B4 m3 e4] 36)).drew := (Below.refl _ _).drew
      obtain ⟨q0, q1, p0, p1, hz, pz, _⟩ := HK.out _ (Below.refl _ _)
      go_wp2_with (fail)
      go_region_held3 (fun w' => w'.cell? ⟨w.heap.size, 0, none⟩ = some (.slice A n c) ∧ w'.cell? ⟨w.heap.size, 1, none⟩ = some (.slice A' m c') ∧ w'.cell? ⟨w4.heap.size, 0, none⟩ = some (.slice B3 n3 e3) ∧ w'.cell? ⟨w4.heap.size, 1, none⟩ = some (.slice B4 m3 e4) ∧ w.heap.size < w'.heap.size ∧ w4.heap.size < w'.heap.size ∧ Below (w4.alloc (.cells #[.slice B3 n3 e3, .slice B4 m3 e4] 36)).heap.size (w4.alloc (.cells #[.slice B3 n3 e3, .slice B4 m3 e4] 36)) w')
        (first | exact HK.out _ (bt (bt hR hb6) hb7) | exact HK.out _ (bt hR hb6) | exact HK.out _ hR)
        (first
          | (go_at_call 21; refine (rcopy_any A A' n c m c' C S _ (HE.out _ (bt hT4 hR)).2.1 (HE.out _ (bt hT4 hR)).2.2.1 b1 b2).mono ?_; rintro e w6 ⟨G3, d3, G4, d4, rfl, o3, o4, hb6⟩)
          | (go_at_call 40; refine (same_any _ _ _ _ _ _ _ _ _ _ _ _ C S C S _ (HS3.out.2.2.1.below (bt hR hb6)) (HS3.out.2.2.2.below (bt hR hb6)) o3.sl o4.sl HSF.out.1 HSF.out.2.1 HN.out HM.out HSF.out.2.2.1 HSF.out.2.2.2 b1 b2).mono ?_; rintro e w7 ⟨rfl, hb7⟩; rw [HSR.out]))
      have hT7 := bt (bt hR hb6) hb7
      clear q0 q1 p0 p1 hz pz
      go_wp2_with (fail)
      go_loopw [11, 12, 13, 14, 15, 16] (fun i _ _ _ _ _ wr => ∃ b : Nat, b ≤ n ∧ i = .int .i64 ((b : Int) + 1) ∧ Below (w4.alloc (.cells #[.slice B3 n3 e3, .slice B4 m3 e4] 36)).heap.size (w4.alloc (.cells #[.slice B3 n3 e3, .slice B4 m3 e4] 36)) wr) (fun i _ _ _ _ _ _ => n + 1 - (intOf i).toNat)
      case atStart => exact ⟨0, by omega, rfl, hT7⟩
      case round =>
        obtain ⟨b, hbn, rfl, hbw⟩ := hrel
        have hT := bt hT4 hbw
        obtain ⟨q0, q1, hz, _⟩ := args1 hT
        by_cases hlt : b < n
        · have g1 : (b : Int) + 1 ≤ (n : Int) := by omega
          have g2 : (b : Int) + 1 ≤ 14 := by omega
          go_wp2_with (fail)
          obtain ⟨wo, rfl⟩ : ∃ wo : World, wo = wr := ⟨_, rfl⟩
          go_loopw [12, 13, 14, 15, 16] (fun s _ _ _ _ wr => ∃ q : Nat, q ≤ 21 ∧ s = .int .i64 ((q : Int) - 1) ∧ Below (w4.alloc (.cells #[.slice B3 n3 e3, .slice B4 m3 e4] 36)).heap.size (w4.alloc (.cells #[.slice B3 n3 e3, .slice B4 m3 e4] 36)) wr) (fun s _ _ _ _ _ => (20 - intOf s).toNat)
          case atStart => exact ⟨0, by omega, rfl, hbw⟩
          case round =>
            obtain ⟨q, hq, rfl, hbx⟩ := hrel
            clear hT q0 q1 hz
            have hT := bt hT4 hbx
            obtain ⟨q0, q1, hz, _⟩ := args1 hT
            by_cases hqq : q < 21
            · have g3 : (q : Int) - 1 ≤ 19 := by omega
              obtain ⟨ev, hev⟩ : ∃ ev, atE C S ((b : Int) + 1) ((q : Int) - 1) = ev := ⟨_, rfl⟩
              obtain ⟨pv, hpv⟩ : ∃ pv, atP C S ((b : Int) + 1) ((q : Int) - 1) = pv := ⟨_, rfl⟩
              obtain ⟨pv2, hpv2⟩ : ∃ pv2, atP D S ((b : Int) + 1) ((q : Int) - 1) = pv2 := ⟨_, rfl⟩
              obtain ⟨f1, f2⟩ := HAT.out b (by have := HN.out; omega) ((q : Int) - 1)
              rw [hev] at f1 f2
              rw [hpv, hpv2] at f2
              have HF := Lib.hid (And.intro hev (And.intro hpv (And.intro f1 hpv2)))
              clear hev hpv f1 hpv2
              have hcase : (¬ ev = 0) ∨ (ev = 0 ∧ b = t ∧ pv2 = pv + d ∧ IntKind.i64.wrap (pv + d) = pv + d) ∨ (ev = 0 ∧ ¬ b = t ∧ pv2 = pv) := by
                by_cases e0 : ev = 0
                · obtain ⟨f2, f3, f4⟩ := f2 e0
                  by_cases ebt : b = t
                  · rw [if_pos ebt] at f2
                    exact .inr (.inl ⟨e0, ebt, f2, IntWalk.i64_in _ ⟨by omega, by omega⟩⟩)
                  · rw [if_neg ebt, Int.add_zero] at f2
                    exact .inr (.inr ⟨e0, ebt, f2⟩)
                · exact .inl e0
              clear f2
              go_wp2_with (fail)
              refine (rcopy_any A A' n c m c' C S _ (HE.out _ hT).2.1 (HE.out _ hT).2.2.1 b1 b2).mono ?_
              rintro e wa ⟨G3, d3, G4, d4, rfl, o5, o6, hba⟩
              clear q0 q1 hz
              go_wp2_with (fail)
              refine (at_any _ _ _ _ _ _ C S ((b : Int) + 1) ((q : Int) - 1) _ o5.sl o6.sl HN.out HM.out (by omega) (by omega)).mono ?_
              rintro e wb ⟨rfl, hbb⟩
              rw [HF.out.1, HF.out.2.1]
              have hbz := bt (bt hbx hba) hbb
              have hK := bt hK4 hbz
              obtain ⟨p0, p1, pz⟩ := keep2 hK
              clear o5 o6
              go_wp2_with (fail)
              refine (at_any _ _ _ _ _ _ D S ((b : Int) + 1) ((q : Int) - 1) _ (HS1.out.2.2.1.below hK) (HS1.out.2.2.2.below hK) HS1.out.1 HS1.out.2.1 (by rw [HS1.out.1, HDL.out]; omega) (by rw [HS1.out.2.1, ← HM.out]; omega)).mono ?_
              rintro e wc ⟨rfl, hbc⟩
              rw [HF.out.2.2.1, HF.out.2.2.2]
              have hby := bt hbz hbc
              clear p0 p1 pz
              rcases hcase with e0 | ⟨rfl, rfl, rfl, w64⟩ | ⟨rfl, ebt, rfl⟩
              · have evb : (ev == 0) = false := by simpa using e0
                go_wp2_with (fail)
                go_roundw
                case rel => exact ⟨q + 1, by omega, by go_num, hby⟩
                case measure => simp [intOf]; omega
              · go_wp2_with (fail)
                go_roundw
                case rel => exact ⟨q + 1, by omega, by go_num, hby⟩
                case measure => simp [intOf]; omega
              · have ebt2 : ¬ ((b : Int) + 1 = (t : Int) + 1) := by omega
                have ebt3 : ((b : Int) + 1 == (t : Int) + 1) = false := by simp; omega
                go_wp2_with (fail)
                go_roundw
                case rel => exact ⟨q + 1, by omega, by go_num, hby⟩
                case measure => simp [intOf]; omega
            · have g3 : ¬ ((q : Int) - 1 ≤ 19) := by omega
              go_wp2_with (fail)
              go_roundw
              case rel => exact ⟨b + 1, by omega, by go_num, hbx⟩
              case measure => simp [intOf]; omega
        · obtain rfl : b = n := by omega
          have g1 : ¬ ((b : Int) + 1 ≤ (b : Int)) := by omega
          clear HAT HDL HSF HTU HTB HK HS1 HS3
          go_wp2_with (fail)
          refine (rcopy_any A A' b c m c' C S _ (HE.out _ hT).2.1 (HE.out _ hT).2.2.1 b1 b2).mono ?_
          rintro e v1 ⟨X1, x1, X2, x2, rfl, u1, u2, hv1⟩
          have hC1 := bt hT hv1
          have hge := hC1.size
          have hV1 := bt hC1 (ba v1 (.cells #[.slice X1 b x1, .slice X2 m x2] 36))
          have hBk1 : Blk (v1.alloc (.cells #[.slice X1 b x1, .slice X2 m x2] 36)) v1.heap.size 36 #[.slice X1 b x1, .slice X2 m x2] := heap_alloc_new v1 _
          have HBk1 := Lib.hid hBk1
          have HU := Lib.hid (And.intro (u1.sl.below (ba v1 (.cells #[.slice X1 b x1, .slice X2 m x2] 36))) (u2.sl.below (ba v1 (.cells #[.slice X1 b x1, .slice X2 m x2] 36))))
          have HGE := Lib.hid hge
          clear q0 q1 hz u1 u2 hBk1 hge
          go_wp2_with (fail)
          refine (check_any _ _ _ _ _ _ C S _ HU.out.1 HU.out.2 HN.out HM.out (by omega) (by omega)).mono ?_
          rintro e v2 ⟨rfl, hv2⟩
          have hV2 := bt hV1 hv2
          have HU2 := Lib.hid (And.intro (HU.out.1.below hv2) (HU.out.2.below hv2))
          go_wp2_with (fail)
          go_loopw [18, 19] (fun er i wr => ∃ (bb : Nat) (ev : Int) (Y1 : Option Addr) (k1 y1 : Nat) (Y2 : Option Addr) (k2 y2 : Nat), bb ≤ b ∧ i = .int .i64 ((bb : Int) + 1) ∧ er = .int .i64 ev ∧ Blk wr v1.heap.size 36 #[.slice Y1 k1 y1, .slice Y2 k2 y2] ∧ Below (w.alloc (iObj A b c A' m c')).heap.size (w.alloc (iObj A b c A' m c')) wr ∧ (ev = 0 → b = k1 ∧ m = k2 ∧ Sl wr wr.heap.size 3 Y1 k1 y1 (crC (tun C 0 bb d)) ∧ Sl wr wr.heap.size 1 Y2 k2 y2 (intC S) ∧ chk (tun C 0 bb d) S = 0 ∧ (0 < bb → -127 ≤ d ∧ d ≤ 127) ∧ chk C S = 0)) (fun _ i _ => b + 1 - (intOf i).toNat)
          case atStart => exact ⟨0, chk C S, X1, b, x1, X2, m, x2, by omega, rfl, rfl, HBk1.out.below hv2, hV2, fun h => ⟨rfl, rfl, by rw [tun_none]; exact HU2.out.1, HU2.out.2, by rw [tun_none]; exact h, fun h => absurd h (by omega), h⟩⟩
          case round =>
            obtain ⟨bb, ev, Y1, k1, y1, Y2, k2, y2, hbn, rfl, rfl, hBk, hT2, hI⟩ := hrel
            have HBk := Lib.hid hBk
            obtain ⟨q0, q1, hz, _⟩ := args1 hT2
            have c0 := hBk.cell 0
            have c1 := hBk.cell 1
            have hgl := hBk.lt
            simp at c0 c1
            clear hBk
            by_cases hev : ev = 0
            · subst hev
              obtain ⟨ek1, ek2, s1, s2, hck1, hdd, hck0⟩ := hI rfl
              subst ek1 ek2
              have hn14 : b ≤ 14 := by have := (chk_facts hck0).1; have := HN.out; omega
              have HS := Lib.hid (And.intro s1 (And.intro s2 (And.intro hck1 (And.intro hdd hck0))))
              clear s1 s2 hck1 hdd hck0 hI
              by_cases hlt : bb < b
              · have g1 : (bb : Int) + 1 ≤ (b : Int) := by omega
                have g2 : (bb : Int) + 1 ≤ 14 := by omega
                have HTU := Lib.hid (tune_any Y1 Y2 b y1 m y2 (tun C 0 bb d) S ((bb : Int) + 1) d wr HS.out.1 HS.out.2.1 (by rw [tun_len]; exact HN.out) HM.out b1 b2)
                rw [show ((bb : Int) + 1).toNat - 1 = bb by omega, show ((bb : Int) + 1).toNat = bb + 1 by omega, tun_next] at HTU
                obtain ⟨ev2, hev2⟩ : ∃ ev2, tuE (tun C 0 bb d) S ((bb : Int) + 1) d = ev2 := ⟨_, rfl⟩
                rw [hev2] at HTU
                have HEV := Lib.hid hev2
                clear hev2
                go_wp2_with (fail)
                refine HTU.out.mono ?_
                rintro e v3 ⟨B5, n5, d5, B6, m5, d6, rfl, hn5, hm5, s1, s2, fr1, fr2, hv3⟩
                have HS5 := Lib.hid (And.intro hn5 (And.intro hm5 (And.intro s1 (And.intro s2 (And.intro fr1 fr2)))))
                clear s1 s2 hn5 hm5 fr1 fr2 c0 c1
                have hBk3 := HBk.out.below hv3
                have f0 := hBk3.frozen 0
                have f1 := hBk3.frozen 1
                have hg3 := hBk3.lt
                have c0 := hBk3.cell 0
                have c1 := hBk3.cell 1
                simp at c0 c1
                have HB3 := Lib.hid hBk3
                clear hBk3
                go_wp2_with (fail)
                go_roundw
                case rel =>
                  refine ⟨bb + 1, ev2, B5, n5, d5, B6, m5, d6, by omega, by go_num, rfl, (HB3.out.set_ 0 (.slice B5 n5 d5)).set_ 1 (.slice B6 m5 d6), ((bt hT2 hv3).setCell HGE.out _).setCell HGE.out _, ?_⟩
                  intro h0
                  obtain ⟨hn5, hm5, s1, s2, fr1, fr2⟩ := HS5.out
                  rw [okL_ok h0] at hn5 s1 hm5 s2
                  obtain ⟨_, t, ht, _, hd, hck⟩ := tuE_facts (HEV.out.trans h0)
                  obtain rfl : t = bb := by omega
                  rw [tun_next] at hck
                  have z1 : 0 < n5 → ∀ a, B5 = some a → a.block ≠ v1.heap.size := fun h a e => by have := fr1 h a e; omega
                  have z2 : 0 < m5 → ∀ a, B6 = some a → a.block ≠ v1.heap.size := fun h a e => by have := fr2 h a e; omega
                  refine ⟨by rw [hn5, tun_len]; exact HN.out, by rw [hm5]; exact HM.out, ((s1.set2 z1 _).set2 z1 _).more (by simp), ((s2.set2 z2 _).set2 z2 _).more (by simp), hck, fun _ => hd, HS.out.2.2.2.2⟩
                case measure => simp [intOf]; omega
              · obtain rfl : bb = b := by omega
                have g1 : ¬ ((bb : Int) + 1 ≤ (bb : Int)) := by omega
                have hck := HS.out.2.2.1
                have hd0 := HS.out.2.2.2.1 (by have := (chk_facts HS.out.2.2.2.2).2.2.1; have := HN.out; omega)
                have htr : trE C S d = 0 := by
                  unfold trE retE
                  rw [if_neg (by rw [HS.out.2.2.2.2]; simp), if_neg (by omega), ← HN.out]
                  exact hck
                have HTR : Hid (∀ (A1 A2 : Option Addr) (c1 c2 : Nat) (w' : World), Sl w' w'.heap.size 3 A1 bb c1 (crC C) → Sl w' w'.heap.size 1 A2 m c2 (intC S) → Calls Tryd.prog 37 #[.agg #[.slice A1 bb c1, .slice A2 m c2], .int .i64 d] w' (InP (tun C 0 bb d) S 0 w')) := by
                  intro A1 A2 c1 c2 w' h1 h2
                  have := transpose_any A1 A2 bb c1 m c2 C S d w' h1 h2 HN.out HM.out b1 b2
                  rw [htr, okL_ok rfl, okL_ok rfl, ← HN.out] at this
                  exact this
                have HSR := Lib.hid (sameB_refl (tun C 0 bb d) S)
                have HLT : Hid ((tun C 0 bb d).length = bb) := by unfold Hid; rw [tun_len]; exact HN.out.symm
                clear hck hd0 htr
                go_wp2_with (fail)
                refine (rcopy_any A A' bb c m c' C S _ (HE.out _ hT2).2.1 (HE.out _ hT2).2.2.1 b1 b2).mono ?_
                rintro e v4 ⟨Z1, z1, Z2, z2, rfl, u1, u2, hv4⟩
                have hT4z := bt hT2 hv4
                clear q0 q1 hz c0 c1
                go_wp2_with (fail)
                refine (HTR.out Z1 Z2 z1 z2 _ u1.sl u2.sl).mono ?_
                rintro e v5 ⟨B7, n7, d7, B8, m7, d8, rfl, hn7, hm7, s1, s2, _, _, hv5⟩
                have HS7 := Lib.hid (And.intro hn7 (And.intro hm7 (And.intro s1 s2)))
                clear hn7 hm7 s1 s2 u1 u2
                have hT5z := bt (bt hT4z hv5) (ba v5 (.cells #[.slice B7 n7 d7, .slice B8 m7 d8] 36))
                have y0 : Below wr.heap.size wr (v5.alloc (.cells #[.slice B7 n7 d7, .slice B8 m7 d8] 36)) := bt (bt hv4 hv5) (ba v5 (.cells #[.slice B7 n7 d7, .slice B8 m7 d8] 36))
                have hB5 := HBk.out.below y0
                have c0 := hB5.cell 0
                have c1 := hB5.cell 1
                have hg5 := hB5.lt
                simp at c0 c1
                clear hB5
                go_wp2_with (fail)
                refine (same_any _ _ _ _ _ _ _ _ _ _ _ _ (tun C 0 bb d) S (tun C 0 bb d) S _ (HS7.out.2.2.1.below (ba v5 (.cells #[.slice B7 n7 d7, .slice B8 m7 d8] 36))) (HS7.out.2.2.2.below (ba v5 (.cells #[.slice B7 n7 d7, .slice B8 m7 d8] 36))) (HS.out.1.below y0) (HS.out.2.1.below y0) HS7.out.1 HS7.out.2.1 HLT.out.symm HM.out (by rw [HS7.out.1, HLT.out]; exact b1) (by rw [HS7.out.2.1, ← HM.out]; exact b2) b1 b2).mono ?_
                rintro e v6 ⟨rfl, hv6⟩
                rw [HSR.out]
                go_wp2_with (go_at_call 18; refine (works_any _ (HE.out _ (bt hT5z hv6)).1).mono ?_; rintro e v9 ⟨rfl, hv9⟩)
                go_ret
                exact ⟨rfl, (HE.out _ (bt (bt hT5z hv6) hv9)).2.2.2⟩
            · clear hI
              have hevb : (ev == 0) = false := by simpa using hev
              have hg3 : ¬ ((bb : Int) + 1 ≤ (b : Int)) ∨ ((bb : Int) + 1 ≤ (b : Int) ∧ ¬ ((bb : Int) + 1 ≤ 14)) ∨ ((bb : Int) + 1 ≤ (b : Int) ∧ (bb : Int) + 1 ≤ 14) := by omega
              rcases hg3 with g1 | ⟨g1, g2⟩ | ⟨g1, g2⟩
              all_goals
                try (exfalso; omega)
              all_goals
                go_wp2_with (go_at_call 18; refine (works_any _ (HE.out _ hT2).1).mono ?_; rintro e v9 ⟨rfl, hv9⟩)
                go_ret
                exact ⟨rfl, (HE.out _ (bt hT2 hv9)).2.2.2⟩
    · obtain ⟨er, her⟩ : ∃ er, tuE C S k d = er := ⟨_, rfl⟩
      rw [her] at hE
      have HTU := Lib.hid (fun (A1 A2 : Option Addr) (c1 c2 : Nat) (w' : World) h1 h2 => tune_any A1 A2 n c1 m c2 C S k d w' h1 h2 HN.out HM.out b1 b2)
      rw [her] at HTU
      clear her
      have herb : (er == 0) = false := by simpa using hE
      go_enter Tryd.func9, Tryd.ntmps9
      go_wp2_with (fail)
      refine (big_any _ _ _ _ _ _ _).mono ?_
      rintro e w1 ⟨rfl, hb1⟩
      rw [HB.out]
      obtain ⟨q0, q1, hz, _⟩ := args1 hb1
      go_wp2_with (fail)
      refine (rcopy_any A A' n c m c' C S _ (HE.out _ hb1).2.1 (HE.out _ hb1).2.2.1 b1 b2).mono ?_
      rintro e w2 ⟨G1, d1, G2, d2, rfl, o1, o2, hb2⟩
      have hT2 := bt hb1 hb2
      clear q0 q1 hz
      go_wp2_with (fail)
      refine (HTU.out _ _ _ _ _ o1.sl o2.sl).mono ?_
      rintro e w3 ⟨B1, n1, e1, B2, m1, e2, rfl, hn1, hm1, _, _, _, _, hb3⟩
      have hT := bt (bt hT2 hb3) (ba w3 (.cells #[.slice B1 n1 e1, .slice B2 m1 e2] 36))
      clear hn1 hm1 o1 o2 hT2
      obtain ⟨q0, q1, hz, _⟩ := args1 hT
      go_wp2_with (fail)
      refine (rcopy_any A A' n c m c' C S _ (HE.out _ hT).2.1 (HE.out _ hT).2.2.1 b1 b2).mono ?_
      rintro e v1 ⟨X1, x1, X2, x2, rfl, u1, u2, hv1⟩
      have hC1 := bt hT hv1
      have hge := hC1.size
      have hV1 := bt hC1 (ba v1 (.cells #[.slice X1 n x1, .slice X2 m x2] 36))
      have hBk1 : Blk (v1.alloc (.cells #[.slice X1 n x1, .slice X2 m x2] 36)) v1.heap.size 36 #[.slice X1 n x1, .slice X2 m x2] := heap_alloc_new v1 _
      have HBk1 := Lib.hid hBk1
      have HU := Lib.hid (And.intro (u1.sl.below (ba v1 (.cells #[.slice X1 n x1, .slice X2 m x2] 36))) (u2.sl.below (ba v1 (.cells #[.slice X1 n x1, .slice X2 m x2] 36))))
      have HGE := Lib.hid hge
      clear q0 q1 hz u1 u2 hBk1 hge
      go_wp2_with (fail)
      refine (check_any _ _ _ _ _ _ C S _ HU.out.1 HU.out.2 HN.out HM.out (by omega) (by omega)).mono ?_
      rintro e v2 ⟨rfl, hv2⟩
      have hV2 := bt hV1 hv2
      have HU2 := Lib.hid (And.intro (HU.out.1.below hv2) (HU.out.2.below hv2))
      go_wp2_with (fail)
      go_loopw [18, 19] (fun er i wr => ∃ (b : Nat) (ev : Int) (Y1 : Option Addr) (k1 y1 : Nat) (Y2 : Option Addr) (k2 y2 : Nat), b ≤ n ∧ i = .int .i64 ((b : Int) + 1) ∧ er = .int .i64 ev ∧ Blk wr v1.heap.size 36 #[.slice Y1 k1 y1, .slice Y2 k2 y2] ∧ Below (w.alloc (iObj A n c A' m c')).heap.size (w.alloc (iObj A n c A' m c')) wr ∧ (ev = 0 → n = k1 ∧ m = k2 ∧ Sl wr wr.heap.size 3 Y1 k1 y1 (crC (tun C 0 b d)) ∧ Sl wr wr.heap.size 1 Y2 k2 y2 (intC S) ∧ chk (tun C 0 b d) S = 0 ∧ (0 < b → -127 ≤ d ∧ d ≤ 127) ∧ chk C S = 0)) (fun _ i _ => n + 1 - (intOf i).toNat)
      case atStart => exact ⟨0, chk C S, X1, n, x1, X2, m, x2, by omega, rfl, rfl, HBk1.out.below hv2, hV2, fun h => ⟨rfl, rfl, by rw [tun_none]; exact HU2.out.1, HU2.out.2, by rw [tun_none]; exact h, fun h => absurd h (by omega), h⟩⟩
      case round =>
        obtain ⟨b, ev, Y1, k1, y1, Y2, k2, y2, hbn, rfl, rfl, hBk, hT2, hI⟩ := hrel
        have HBk := Lib.hid hBk
        obtain ⟨q0, q1, hz, _⟩ := args1 hT2
        have c0 := hBk.cell 0
        have c1 := hBk.cell 1
        have hgl := hBk.lt
        simp at c0 c1
        clear hBk
        by_cases hev : ev = 0
        · subst hev
          obtain ⟨ek1, ek2, s1, s2, hck1, hdd, hck0⟩ := hI rfl
          subst ek1 ek2
          have hn14 : n ≤ 14 := by have := (chk_facts hck0).1; have := HN.out; omega
          have HS := Lib.hid (And.intro s1 (And.intro s2 (And.intro hck1 (And.intro hdd hck0))))
          clear s1 s2 hck1 hdd hck0 hI
          by_cases hlt : b < n
          · have g1 : (b : Int) + 1 ≤ (n : Int) := by omega
            have g2 : (b : Int) + 1 ≤ 14 := by omega
            have HTU := Lib.hid (tune_any Y1 Y2 n y1 m y2 (tun C 0 b d) S ((b : Int) + 1) d wr HS.out.1 HS.out.2.1 (by rw [tun_len]; exact HN.out) HM.out b1 b2)
            rw [show ((b : Int) + 1).toNat - 1 = b by omega, show ((b : Int) + 1).toNat = b + 1 by omega, tun_next] at HTU
            obtain ⟨ev2, hev2⟩ : ∃ ev2, tuE (tun C 0 b d) S ((b : Int) + 1) d = ev2 := ⟨_, rfl⟩
            rw [hev2] at HTU
            have HEV := Lib.hid hev2
            clear hev2
            go_wp2_with (fail)
            refine HTU.out.mono ?_
            rintro e v3 ⟨B5, n5, d5, B6, m5, d6, rfl, hn5, hm5, s1, s2, fr1, fr2, hv3⟩
            have HS5 := Lib.hid (And.intro hn5 (And.intro hm5 (And.intro s1 (And.intro s2 (And.intro fr1 fr2)))))
            clear s1 s2 hn5 hm5 fr1 fr2 c0 c1
            have hBk3 := HBk.out.below hv3
            have f0 := hBk3.frozen 0
            have f1 := hBk3.frozen 1
            have hg3 := hBk3.lt
            have c0 := hBk3.cell 0
            have c1 := hBk3.cell 1
            simp at c0 c1
            have HB3 := Lib.hid hBk3
            clear hBk3
            go_wp2_with (fail)
            go_roundw
            case rel =>
              refine ⟨b + 1, ev2, B5, n5, d5, B6, m5, d6, by omega, by go_num, rfl, (HB3.out.set_ 0 (.slice B5 n5 d5)).set_ 1 (.slice B6 m5 d6), ((bt hT2 hv3).setCell HGE.out _).setCell HGE.out _, ?_⟩
              intro h0
              obtain ⟨hn5, hm5, s1, s2, fr1, fr2⟩ := HS5.out
              rw [okL_ok h0] at hn5 s1 hm5 s2
              obtain ⟨_, t, ht, _, hd, hck⟩ := tuE_facts (HEV.out.trans h0)
              obtain rfl : t = b := by omega
              rw [tun_next] at hck
              have z1 : 0 < n5 → ∀ a, B5 = some a → a.block ≠ v1.heap.size := fun h a e => by have := fr1 h a e; omega
              have z2 : 0 < m5 → ∀ a, B6 = some a → a.block ≠ v1.heap.size := fun h a e => by have := fr2 h a e; omega
              refine ⟨by rw [hn5, tun_len]; exact HN.out, by rw [hm5]; exact HM.out, ((s1.set2 z1 _).set2 z1 _).more (by simp), ((s2.set2 z2 _).set2 z2 _).more (by simp), hck, fun _ => hd, HS.out.2.2.2.2⟩
            case measure => simp [intOf]; omega
          · obtain rfl : b = n := by omega
            have g1 : ¬ ((b : Int) + 1 ≤ (b : Int)) := by omega
            have hck := HS.out.2.2.1
            have hd0 := HS.out.2.2.2.1 (by have := (chk_facts HS.out.2.2.2.2).2.2.1; have := HN.out; omega)
            have htr : trE C S d = 0 := by
              unfold trE retE
              rw [if_neg (by rw [HS.out.2.2.2.2]; simp), if_neg (by omega), ← HN.out]
              exact hck
            have HTR : Hid (∀ (A1 A2 : Option Addr) (c1 c2 : Nat) (w' : World), Sl w' w'.heap.size 3 A1 b c1 (crC C) → Sl w' w'.heap.size 1 A2 m c2 (intC S) → Calls Tryd.prog 37 #[.agg #[.slice A1 b c1, .slice A2 m c2], .int .i64 d] w' (InP (tun C 0 b d) S 0 w')) := by
              intro A1 A2 c1 c2 w' h1 h2
              have := transpose_any A1 A2 b c1 m c2 C S d w' h1 h2 HN.out HM.out b1 b2
              rw [htr, okL_ok rfl, okL_ok rfl, ← HN.out] at this
              exact this
            have HSR := Lib.hid (sameB_refl (tun C 0 b d) S)
            have HLT : Hid ((tun C 0 b d).length = b) := by unfold Hid; rw [tun_len]; exact HN.out.symm
            clear hck hd0 htr
            go_wp2_with (fail)
            refine (rcopy_any A A' b c m c' C S _ (HE.out _ hT2).2.1 (HE.out _ hT2).2.2.1 b1 b2).mono ?_
            rintro e v4 ⟨Z1, z1, Z2, z2, rfl, u1, u2, hv4⟩
            have hT4z := bt hT2 hv4
            clear q0 q1 hz c0 c1
            go_wp2_with (fail)
            refine (HTR.out Z1 Z2 z1 z2 _ u1.sl u2.sl).mono ?_
            rintro e v5 ⟨B7, n7, d7, B8, m7, d8, rfl, hn7, hm7, s1, s2, _, _, hv5⟩
            have HS7 := Lib.hid (And.intro hn7 (And.intro hm7 (And.intro s1 s2)))
            clear hn7 hm7 s1 s2 u1 u2
            have hT5z := bt (bt hT4z hv5) (ba v5 (.cells #[.slice B7 n7 d7, .slice B8 m7 d8] 36))
            have y0 : Below wr.heap.size wr (v5.alloc (.cells #[.slice B7 n7 d7, .slice B8 m7 d8] 36)) := bt (bt hv4 hv5) (ba v5 (.cells #[.slice B7 n7 d7, .slice B8 m7 d8] 36))
            have hB5 := HBk.out.below y0
            have c0 := hB5.cell 0
            have c1 := hB5.cell 1
            have hg5 := hB5.lt
            simp at c0 c1
            clear hB5
            go_wp2_with (fail)
            refine (same_any _ _ _ _ _ _ _ _ _ _ _ _ (tun C 0 b d) S (tun C 0 b d) S _ (HS7.out.2.2.1.below (ba v5 (.cells #[.slice B7 n7 d7, .slice B8 m7 d8] 36))) (HS7.out.2.2.2.below (ba v5 (.cells #[.slice B7 n7 d7, .slice B8 m7 d8] 36))) (HS.out.1.below y0) (HS.out.2.1.below y0) HS7.out.1 HS7.out.2.1 HLT.out.symm HM.out (by rw [HS7.out.1, HLT.out]; exact b1) (by rw [HS7.out.2.1, ← HM.out]; exact b2) b1 b2).mono ?_
            rintro e v6 ⟨rfl, hv6⟩
            rw [HSR.out]
            go_wp2_with (go_at_call 18; refine (works_any _ (HE.out _ (bt hT5z hv6)).1).mono ?_; rintro e v9 ⟨rfl, hv9⟩)
            go_ret
            exact ⟨rfl, (HE.out _ (bt (bt hT5z hv6) hv9)).2.2.2⟩
        · clear hI
          have hevb : (ev == 0) = false := by simpa using hev
          have hg3 : ¬ ((b : Int) + 1 ≤ (n : Int)) ∨ ((b : Int) + 1 ≤ (n : Int) ∧ ¬ ((b : Int) + 1 ≤ 14)) ∨ ((b : Int) + 1 ≤ (n : Int) ∧ (b : Int) + 1 ≤ 14) := by omega
          rcases hg3 with g1 | ⟨g1, g2⟩ | ⟨g1, g2⟩
          all_goals
            try (exfalso; omega)
          all_goals
            go_wp2_with (go_at_call 18; refine (works_any _ (HE.out _ hT2).1).mono ?_; rintro e v9 ⟨rfl, hv9⟩)
            go_ret
            exact ⟨rfl, (HE.out _ (bt hT2 hv9)).2.2.2⟩

end Go.Proofs.YtbjmlbmkfgocdaaDoor
