/- Sound, the reference: the sonorities of a piece (Sonorities), for any piece. -/
import Derived.Test.YtpcehgifpajmbaaSnPr
import Derived.Test.YtpcehgifpajmbaaSndRA
import Derived.Lib.SliceRun
import Derived.Test.YtpcehgifpajmbaaConcW
import Derived.Test.YtpcehgifpajmbaaWorks5
import Derived.Test.YtpcehgifpajmbaaSameI2
import Derived.Test.YtpcehgifpajmbaaLiftN
import Derived.Test.YtpcehgifpajmbaaPcOpenM
import Derived.SevenTiedAt
import Derived.ChangeMaps5
import Derived.Lib.SmallJoins
namespace Go.Proofs.Ytpcehgifpajmbaa
open Go Go.RowKit

theorem nt5_at2 {w : World} {A : Option Addr} {n c : Nat} {L : List Nt} (h : Sl w w.heap.size 5 A n c (ntC L)) (hn : n = L.length) {k : Nat} (hk : k < n) :
    ∃ b off, A = some ⟨b, off, none⟩ ∧ b < w.heap.size ∧ w.cell? ⟨b, off + k * 5 + 3, none⟩ = some (.int .i64 (L.getD k zNt).fm) ∧ w.cell? ⟨b, off + k * 5 + 4, none⟩ = some (.int .i64 (L.getD k zNt).to) := by
  obtain ⟨b, off, hA, hb, hc⟩ := h.2.2 (by omega)
  obtain ⟨j0, j1, j2, j3, j4⟩ := ntC_at L k (by omega)
  refine ⟨b, off, hA, hb, ?_, ?_⟩
  · have := hc _ _ j3; rwa [← Nat.add_assoc] at this
  · have := hc _ _ j4; rwa [← Nat.add_assoc] at this
def tuB (T : List Nt) (t : Int) : Bool := T.any fun x => decide (x.fm = t) || decide (x.to = t)
theorem tuB_succ (T : List Nt) (t : Int) {j : Nat} (h : j < T.length) : tuB (T.take (j + 1)) t = (tuB (T.take j) t || (decide ((T.getD j zNt).fm = t) || decide ((T.getD j zNt).to = t))) := by
  have e : T.take (j + 1) = T.take j ++ [T.getD j zNt] := by rw [List.take_add_one]; simp [List.getElem?_eq_getElem h]
  unfold tuB
  rw [e, List.any_append]
  simp
/-- The end of the last sonority is set. -/
theorem sn_last {w3 wr : World} {A1 : Option Addr} {len c1 : Nat} {Z : List SnT} {z : SnT} {I : List Sn} {y : Sn} (v : Int) (hl : len = (Z ++ [z]).length) (h : Own1 w3 wr 82 3 A1 len c1 (snC (Z ++ [z]))) (hC : CpS wr w3.heap.size (Z ++ [z]) (I ++ [y])) :
    ∃ g, A1 = some ⟨g, 0, none⟩ ∧ (∃ u, wr.cell? ⟨g, (len - 1) * 3 + 1, none⟩ = some u) ∧ wr.frozen? ⟨g, (len - 1) * 3 + 1, none⟩ = false ∧ g < wr.heap.size ∧
      Own1 w3 (wr.setCell ⟨g, (len - 1) * 3 + 1, none⟩ (.int .i64 v)) 82 3 A1 len c1 (snC (Z ++ [⟨z.fm, v, z.a, z.n, z.c⟩])) ∧ CpS (wr.setCell ⟨g, (len - 1) * 3 + 1, none⟩ (.int .i64 v)) w3.heap.size (Z ++ [⟨z.fm, v, z.a, z.n, z.c⟩]) (I ++ [⟨y.fm, v, y.ps⟩]) := by
  have hlen : len = Z.length + 1 := by simpa using hl
  have hown := h.own
  rcases hown.2 with ⟨h1, h2⟩ | ⟨g, cap, cur, h1, h2, h3, h4, h5, h6, h7⟩
  · omega
  · have e1 : A1 = some ⟨g, 0, none⟩ := by injection h1
    subst e1
    have hg : g < wr.heap.size := (Array.getElem?_eq_some_iff.1 h3).1
    have hB : Blk wr g 82 cur := h3
    have hcap : cap = c1 := by injection h1 with _ _ e; exact e.symm
    subst hcap
    refine ⟨g, rfl, ⟨cur[(len - 1) * 3 + 1]'(by rw [h6]; omega), by rw [hB.cell]; simp [show (len - 1) * 3 + 1 < cur.size by rw [h6]; omega]⟩, hB.frozen _, hg, ⟨?_, h.low.setCell h2 _⟩, ?_⟩
    · have hs := (hown.stored ((len - 1) * 3 + 1) (.int .i64 v)).1
      have e : (snC (Z ++ [z])).set ((len - 1) * 3 + 1) (.int .i64 v) = snC (Z ++ [⟨z.fm, v, z.a, z.n, z.c⟩]) := by
        rw [snC_snoc, snC_snoc, List.set_append_right _ _ (by rw [snC_len]; omega), snC_len, show (len - 1) * 3 + 1 - Z.length * 3 = 1 by omega]
        rfl
      rw [e] at hs
      exact hs
    · obtain ⟨hz, hc⟩ := hC
      have hzI : Z.length = I.length := by simpa using hz
      refine ⟨by simp [hzI], fun j x' y' hx' hy' => ?_⟩
      have hkeep : ∀ {x : SnT} {ps : List Int}, Ow wr w3.heap.size 3 1 x.a x.n x.c (intC ps) → Ow (wr.setCell ⟨g, (len - 1) * 3 + 1, none⟩ (.int .i64 v)) w3.heap.size 3 1 x.a x.n x.c (intC ps) := fun h => h.blk (fun g' cs hb => hb.setOther (hb.ne hB (by decide)) _ _)
      by_cases hj : j < Z.length
      · rw [List.getElem?_append_left hj] at hx'
        rw [List.getElem?_append_left (by omega)] at hy'
        obtain ⟨p1, p2⟩ := hc j x' y' (by rw [List.getElem?_append_left hj]; exact hx') (by rw [List.getElem?_append_left (by omega)]; exact hy')
        exact ⟨p1, hkeep p2⟩
      · rw [List.getElem?_append_right (by omega)] at hx' hy'
        by_cases hj2 : j = Z.length
        · subst hj2
          obtain ⟨⟨p1, p2, p3⟩, p4⟩ := hc Z.length z y (by simp) (by rw [hzI]; simp)
          rw [hzI] at hx' hy'
          simp at hx' hy'
          subst hx' hy'
          exact ⟨⟨p1, rfl, p3⟩, hkeep (x := z) p4⟩
        · rw [List.getElem?_eq_none (by simp; omega)] at hx'
          cases hx'

theorem snPost_in2 {w' : World} {B : Option Addr} {n d : Nat} {Z : List SnT} {L : List Sn} {base : Nat} (hn : n = L.length) (h1 : Sl w' w'.heap.size 3 B n d (snC Z)) (h2 : CpS w' base Z L) : SnIn w' B n d L :=
  ⟨hn, Z, h2.1, fun j x y hx hy => ⟨(h2.2 j x y hx hy).1, (h2.2 j x y hx hy).2.sl⟩, h1⟩
/-- A call hands back sonorities and an error. -/
def SnPost2 (L : List Sn) (er : Int) (w : World) (e : Ending) (w' : World) : Prop :=
  ∃ B n d, e = .returned (.tuple #[.slice B n d, .int .i64 er]) ∧ SnIn w' B n d L ∧ Below w.heap.size w w'

set_option maxRecDepth 100000 in
set_option maxHeartbeats 16000000 in
theorem rsons_fine (A : Option Addr) (n c : Nat) (A' : Option Addr) (m c' : Nat) (A2 : Option Addr) (q cq : Nat) (C : List Cr) (S : List Int) (P : List EvP) (w : World) (hP : PcIn w A n c A' m c' A2 q cq C S P) (hnb : n ≤ 1000000) (hmb : m ≤ 1000000) (hq : q ≤ 65536) (hst : ∀ y ∈ P, y.L.length ≤ 1000000) (hX : pcErr C S P = 0) :
    Calls Try.prog 13 #[pcV A n c A' m c' A2 q cq] w (SnPost2 (snL C S P) 0 w) := by
  have HP : Hid (∀ w', Below w.heap.size w w' → PcIn w' A n c A' m c' A2 q cq C S P) := fun w' hb => hP.below hb
  have HL := Lib.hid hP.es.hq
  have h400 : q ≤ 400 := by have := (pcErr_ok hX).2.1; have := hP.es.hq; omega
  have hol := Lib.hid (onsL_pos hX)
  have DO := Lib.hid (fun w' (h : PcIn w' A n c A' m c' A2 q cq C S P) => rOnsets_any A n c A' m c' A2 q cq C S P w' h hnb hmb hq hst)
  have DS := Lib.hid (fun w' (h : PcIn w' A n c A' m c' A2 q cq C S P) => rstrings_any A n c A' m c' A2 q cq C S P w' h hnb hmb hq hst)
  unfold OnPost at DO
  unfold NtPost at DS
  rw [hX] at DO DS
  have HSL := Lib.hid (stL_len C S P)
  have HEND : Hid (rsL (stL C S P) (endT C S P) (onsL C S P) q = snL C S P) := by unfold Hid; rw [hP.es.hq]; exact rs_end hX
  have HTU : Hid (∀ {k : Nat} (_ : k < P.length), tmB (stL C S P) (endT C S P) (onAt (onsL C S P) k) = (decide (k = 0) || tuB (stL C S P) (onAt (onsL C S P) k))) := fun hk => tm_turn hX hk
  have HZ0 := Lib.hid (ons_zero hX)
  obtain ⟨i0, ii1, ii2, ii3, ii4⟩ := info_parts (show (Try.prog.info? 82).map (fun i => (i.zero, i.size, i.bytes)) = some (some (.agg #[.int .i64 0, .int .i64 0, .slice none 0 0]), 3, 40) by kernel_rfl)
  unfold SnPost2
  clear hP hst hX
  generalize onsL C S P = O at *
  generalize stL C S P = T at *
  generalize endT C S P = en at *
  generalize snL C S P = W at *
  go_enter Try.func13, Try.ntmps13
  go_wp2_with (first
    | (go_at_call 26; refine (DO.out _ (HP.out _ (ba w _))).mono ?_; rintro e w1 ⟨B1, m1, d1, rfl, hn1, hs1, hb1⟩; have HO := Lib.hid (And.intro hn1 hs1); have HB1 := Lib.hid hb1; obtain ⟨p0, p1, p2⟩ := cell3 hb1; clear hn1 hs1 hb1)
    | (go_at_call 32; refine (DS.out _ (HP.out _ (bx HB1.out))).mono ?_; rintro e w3 ⟨B3, m3, d3, rfl, hn3, hs3, hb3⟩; have HU := Lib.hid (And.intro hn3 hs3); have HB3 := Lib.hid (bt HB1.out hb3); clear hn3 hs3 p0 p1 p2; obtain ⟨p0, p1, p2⟩ := cell3 HB3.out; have HO := Lib.hid (And.intro HO.out.1 (HO.out.2.below hb3)); clear hb3))
  have hm3 : m3 ≤ 11200 := by have := HU.out.1; have := HSL.out; omega
  clear p0 p1 p2
  go_loopw [9, 8] (fun i l wr => ∃ (k len : Nat) (Z : List SnT) (A4 : Option Addr) (c4 : Nat), k ≤ q ∧ i = .int .i64 k ∧ l = .slice A4 len c4 ∧ len ≤ k ∧ Hid (len = (rsL T en O k).length) ∧ Hid (Own1 w3 wr 82 3 A4 len c4 (snC Z)) ∧ Hid (CpS wr w3.heap.size Z (rsL T en O k))) (fun i _ _ => q - (intOf i).toNat)
  case atStart => exact ⟨0, 0, [], none, 0, by omega, rfl, rfl, by omega, rfl, Own1.start (Below.refl _ _) _ _, CpS.nil _ _⟩
  case round =>
    obtain ⟨k, len, Z, A4, c4, hk, rfl, rfl, hlk, HLE, HOW, HC⟩ := hrel
    obtain ⟨p0, p1, p2⟩ := cell3 (bt HB3.out HOW.out.low)
    by_cases hlt : k < q
    · have hkq : (k : Int) < (q : Int) := by omega
      obtain ⟨k0b, hk0b⟩ : ∃ b, decide (k = 0) = b := ⟨_, rfl⟩
      have hk0c : ((k : Int) == 0) = k0b := by rw [← hk0b, Bool.eq_iff_iff]; simp
      have HK0 := Lib.hid hk0b
      clear hk0b
      go_wp2_with (fail)
      obtain ⟨wo, rfl⟩ : ∃ wo : World, wo = wr := ⟨_, rfl⟩
      obtain ⟨tk, htk⟩ : ∃ tk, onAt O k = tk := ⟨_, rfl⟩
      obtain ⟨tn, htn⟩ : ∃ tn, onAt O (k + 1) = tn := ⟨_, rfl⟩
      have HTK := Lib.hid htk
      have HTN := Lib.hid htn
      have HOC : Hid (∃ bO oO, B1 = some ⟨bO, oO, none⟩ ∧ ∀ w', Below w3.heap.size w3 w' → w'.cell? ⟨bO, oO + k, none⟩ = some (.int .i64 tk) ∧ w'.cell? ⟨bO, oO + (k + 1), none⟩ = some (.int .i64 tn)) := by
        obtain ⟨bO, oO, e, hbO, hcO⟩ := HO.out.2.2.2 (by have := HO.out.1; have := hol.out; omega)
        refine ⟨bO, oO, e, fun w' hb => ?_⟩
        rw [← htk, ← htn]
        exact ⟨cell_same (hb.block bO hbO) (hcO _ _ (intC_at O k (by have := hol.out; have := HL.out; omega))), cell_same (hb.block bO hbO) (hcO _ _ (intC_at O (k + 1) (by have := hol.out; have := HL.out; omega)))⟩
      have hkm : (k : Int) < (m1 : Int) := by have := HO.out.1; have := hol.out; have := HL.out; omega
      have hkm1 : (k : Int) + 1 < (m1 : Int) := by have := HO.out.1; have := hol.out; have := HL.out; omega
      clear htk htn p0 p1 p2
      obtain ⟨bO, oO, rfl, hOC⟩ := HOC.out
      have HOC2 := Lib.hid hOC
      clear hOC HOC
      go_loopw [11, 10] (fun i b wr => ∃ (j : Nat) (v : Bool), j ≤ m3 ∧ i = .int .i64 j ∧ b = .bool v ∧ Hid (v = (k0b || tuB (T.take j) tk)) ∧ Below wo.heap.size wo wr) (fun i _ _ => m3 - (intOf i).toNat)
      case atStart => exact ⟨0, k0b, by omega, rfl, rfl, by unfold Hid; simp [tuB], Below.refl _ _⟩
      case round =>
        obtain ⟨j, v, hj, rfl, rfl, HV, hbw⟩ := hrel
        have HW2 : Hid (Below w3.heap.size w3 wr) := bt HOW.out.low hbw
        have HWB := Lib.hid hbw
        clear hbw
        by_cases hjm : j < m3
        · have hjm' : (j : Int) < (m3 : Int) := by omega
          obtain ⟨b, off, rfl, hb, a3, a4⟩ := nt5_at2 (HU.out.2.below HW2.out) HU.out.1 hjm
          have HTS := Lib.hid (tuB_succ T tk (j := j) (by have := HU.out.1; omega))
          obtain ⟨o0, _⟩ := HOC2.out _ HW2.out
          clear hb
          generalize T.getD j zNt = x at *
          obtain ⟨x0, x1, x2, x3, x4⟩ := x
          dsimp only at a3 a4 HTS
          cases v with
          | true =>
            have HX : Hid (true = (k0b || tuB (T.take (j + 1)) tk)) := by
              have h1 := HV.out
              unfold Hid
              rw [HTS.out, ← Bool.or_assoc, ← h1]
              rfl
            go_wp2_with (fail)
            go_quiet (fail)
            go_wp2_with (fail)
            go_roundw
            case rel => exact ⟨j + 1, true, by omega, by first | rfl | go_num, rfl, HX.out, bd HWB.out _⟩
            case measure => simp [intOf]; omega
          | false =>
            by_cases h3 : x3 = tk
            · have HX : Hid (true = (k0b || tuB (T.take (j + 1)) tk)) := by unfold Hid; rw [HTS.out]; simp [h3]
              have g3 : (x3 == tk) = true := by simpa using h3
              go_wp2_with (fail)
              go_quiet (fail)
              go_wp2_with (fail)
              go_roundw
              case rel => exact ⟨j + 1, true, by omega, by first | rfl | go_num, rfl, HX.out, bd HWB.out _⟩
              case measure => simp [intOf]; omega
            · have g3 : (x3 == tk) = false := by simpa using h3
              by_cases h4 : x4 = tk
              · have HX : Hid (true = (k0b || tuB (T.take (j + 1)) tk)) := by unfold Hid; rw [HTS.out]; simp [h4]
                have g4 : (x4 == tk) = true := by simpa using h4
                go_wp2_with (fail)
                go_quiet (fail)
                go_wp2_with (fail)
                go_roundw
                case rel => exact ⟨j + 1, true, by omega, by first | rfl | go_num, rfl, HX.out, bd HWB.out _⟩
                case measure => simp [intOf]; omega
              · have HX : Hid (false = (k0b || tuB (T.take (j + 1)) tk)) := by
                  have h1 := HV.out
                  unfold Hid
                  rw [HTS.out, ← Bool.or_assoc, ← h1]
                  simp [h3, h4]
                have g4 : (x4 == tk) = false := by simpa using h4
                go_wp2_with (fail)
                go_quiet (fail)
                go_wp2_with (fail)
                go_roundw
                case rel => exact ⟨j + 1, false, by omega, by first | rfl | go_num, rfl, HX.out, bd HWB.out _⟩
                case measure => simp [intOf]; omega
        · obtain rfl : j = m3 := by omega
          have HVT : Hid (v = tmB T en tk) := by
            have h1 := HV.out
            rw [List.take_of_length_le (by have := HU.out.1; omega), ← HK0.out, ← HTK.out] at h1
            unfold Hid
            rw [h1, ← HTK.out, HTU.out (by have := HL.out; omega)]
          have HOW2 := Lib.hid (HOW.out.below HWB.out)
          have HC2 : Hid (CpS wr w3.heap.size Z (rsL T en O k)) := HC.out.blk (fun _ _ h => h.below HWB.out)
          have hkw : IntKind.i64.wrap ((k : Int) + 1) = (k : Int) + 1 := IntWalk.i64_in _ ⟨by omega, by omega⟩
          have hkL : k < O.length := by have := hol.out; have := HL.out; omega
          cases v with
          | true =>
            have HRT : Hid (rsL T en O (k + 1) = rsL T en O k ++ [⟨tk, tn, psL T tk⟩]) := by
              have h1 := rs_turn (T := T) (en := en) (O := O) (k := k) hkL (by rw [HTK.out]; exact HVT.out.symm)
              rw [HTK.out, HTN.out] at h1
              exact h1
            have hml : len + 1 ≤ maxLen := Nat.le_trans (show len + 1 ≤ 100000 by omega) (by decide)
            have hlw : IntKind.i64.wrap (len : Int) = (len : Int) := IntWalk.i64_in _ ⟨by omega, by omega⟩
            have hll : (len : Int) < (len : Int) + 1 := by omega
            have HWD : Hid (Below w3.heap.size w3 wr.drew) := HOW2.out.low.drew
            have HLR : Hid (Z.length = len) := HC2.out.1.trans HLE.out.symm
            clear hkL
            go_wp2_with (fail)
            go_region_held_law (fun w' => w'.cell? ⟨bO, oO + k, none⟩ = some (.int .i64 tk))
              (first | exact (HOC2.out _ hO7.low).1 | exact (HOC2.out _ ((bt HWD.out hb6).alloc (bt HWD.out hb6).size _)).1 | exact (HOC2.out _ (bt HWD.out hb6)).1 | exact (HOC2.out _ HWD.out).1)
              (first
                | (go_at_call 33; refine (rpitches_own B3 j d3 T tk _ (HU.out.2.below HWD.out) HU.out.1 (by omega)).mono ?_; rintro e w6 ⟨B6, m6, d6, rfl, hm6, ho6, hb6⟩; have HM6 := Lib.hid (And.intro hm6 ho6); clear hm6 ho6)
                | (refine step_append_lies _ (by rfl) _ _ _ (by rfl) w3.heap.size 82 i0 _ 3 40 Try.underlying40 ii1 ii2 ii3 ii4 rfl (by decide) (.slice A4 len c4) len (snC Z) (by rfl) ((own_below HOW2.out.own (bt (Below.refl _ _).drew hb6)).alloc (.cells #[.int .i64 tk, .int .i64 0, .slice B6 m6 d6] 82)) ⟨w6.heap.size, 0, none⟩ 1 1 [.int .i64 tk, .int .i64 0, .slice B6 m6 d6] (by rfl) rfl (World.news_of_block (cs := #[.int .i64 tk, .int .i64 0, .slice B6 m6 d6]) (t := 82) (fr := (0, 0)) (heap_alloc_new w6 _)) (oneS3 _ _ _ _ _) (by decide) hml (by omega) (by have h1 := (bt HWD.out hb6).size; simp; omega) (w6.heap.size + 1) (by simp) ?_; intro g cap w7 hown7 hgrow hat hlt7; obtain ⟨_, _, _, _, hkeep⟩ := Own1.step (HOW2.out.below (bt (Below.refl _ _).drew hb6)) (Below.refl _ _) rfl hown7 hgrow; obtain ⟨_, _, hsl, hO7, _⟩ := Own1.step HOW2.out (bt (Below.refl _ _).drew hb6) rfl hown7 hgrow; cases hsl))
            all_goals (
              have hO7' : Own1 w3 w7 82 3 (some ⟨g, 0, none⟩) (len + 1) cap (snC (Z ++ [⟨tk, 0, B6, m6, d6⟩])) := by
                rw [snC_snoc]
                exact hO7
              have hC7 : CpS w7 w3.heap.size (Z ++ [⟨tk, 0, B6, m6, d6⟩]) (rsL T en O k ++ [⟨tk, 0, psL T tk⟩]) := by
                refine CpS.snoc (HC2.out.blk (fun g cs h => hkeep g _ cs (by decide) (h.below (bt (Below.refl _ _).drew hb6)))) ⟨rfl, rfl, HM6.out.1⟩ ?_
                exact (HM6.out.2.blk (fun g cs h => hkeep g _ cs (by decide) h)).more HWD.out.size
              obtain ⟨g', eg, ⟨u, hu⟩, hf, hgw, hO8, hC8⟩ := sn_last tn (by simp [HLR.out]) hO7' hC7
              injection eg with eg
              injection eg with eg
              subst eg
              rw [Nat.add_sub_cancel] at hu hf hO8 hC8
              have HX8 := Lib.hid (And.intro hO8 hC8)
              have o1 := (HOC2.out _ hO7.low).2
              have HLE2 : Hid (len + 1 = (rsL T en O (k + 1)).length) := by unfold Hid; rw [HRT.out, List.length_append, ← HLE.out]; rfl
              clear hO7 hO7' hC7 hkeep hown7 hgrow hat hO8 hC8 hb6
              go_wp2_with (fail)
              go_roundw
              case rel => exact ⟨k + 1, len + 1, _, _, cap, by omega, by first | rfl | go_num, rfl, by omega, HLE2.out, HX8.out.1, by rw [HRT.out]; exact HX8.out.2⟩
              case measure => simp [intOf]; omega)
          | false =>
            have hk0 : 0 < k := by
              rcases Nat.eq_zero_or_pos k with h0 | h0
              · exfalso
                subst h0
                have h1 := HVT.out
                rw [← HTK.out, HTU.out (by have := HL.out; omega)] at h1
                simp at h1
              · exact h0
            obtain ⟨I, bb, e1, e2⟩ := rs_stay (T := T) (en := en) (O := O) (k := k) hkL HZ0.out hk0 (by rw [HTK.out]; exact HVT.out.symm)
            rw [HTK.out] at e1
            rw [HTN.out] at e2
            have hlI : len = I.length + 1 := by rw [HLE.out, e1]; simp
            obtain ⟨l0, hl0⟩ : ∃ l0, I.length = l0 := ⟨_, rfl⟩
            rw [hl0] at hlI
            subst hlI
            have hC3 := HC2.out
            rw [e1] at hC3
            have hZl : Z.length = l0 + 1 := by rw [hC3.1]; simp [hl0]
            rcases List.eq_nil_or_concat Z with hZ | ⟨Z', z, hZ⟩
            · rw [hZ] at hZl; simp at hZl
            rw [List.concat_eq_append] at hZ
            subst hZ
            have HE2 := Lib.hid e2
            obtain ⟨g, eg, ⟨u, hu⟩, hf, hgw, hO8, hC8⟩ := sn_last tn hZl.symm HOW2.out hC3
            subst eg
            rw [Nat.add_sub_cancel] at hu hf hO8 hC8
            have HX8 := Lib.hid (And.intro hO8 hC8)
            have o1 := (HOC2.out _ HW2.out).2
            have HLE2 : Hid (l0 + 1 = (rsL T en O (k + 1)).length) := by unfold Hid; rw [e2]; simp [hl0]
            have hlw : IntKind.i64.wrap (l0 : Int) = (l0 : Int) := IntWalk.i64_in _ ⟨by omega, by omega⟩
            have hll : (l0 : Int) < (l0 : Int) + 1 := by omega
            clear hC3 hZl e1 e2 hl0 hkL hO8 hC8
            go_wp2_with (fail)
            go_roundw
            case rel => exact ⟨k + 1, l0 + 1, _, _, c4, by omega, by first | rfl | go_num, rfl, by omega, HLE2.out, HX8.out.1, by rw [HE2.out]; exact HX8.out.2⟩
            case measure => simp [intOf]; omega
    · obtain rfl : k = q := by omega
      go_wp2_with (fail)
      go_ret2
      have h1 := HLE.out
      have h2 := HC.out
      rw [HEND.out] at h1 h2
      exact ⟨A4, len, c4, rfl, snPost_in2 h1 HOW.out.sl h2, bx (bt HB3.out HOW.out.low)⟩

set_option maxRecDepth 100000 in
set_option maxHeartbeats 1600000 in
theorem rsons_any (A : Option Addr) (n c : Nat) (A' : Option Addr) (m c' : Nat) (A2 : Option Addr) (q cq : Nat) (C : List Cr) (S : List Int) (P : List EvP) (w : World) (hP : PcIn w A n c A' m c' A2 q cq C S P) (hnb : n ≤ 1000000) (hmb : m ≤ 1000000) (hq : q ≤ 65536) (hst : ∀ y ∈ P, y.L.length ≤ 1000000) :
    Calls Try.prog 13 #[pcV A n c A' m c' A2 q cq] w (SnPost2 (snL C S P) (pcErr C S P) w) := by
  by_cases hX0 : pcErr C S P = 0
  · have := rsons_fine A n c A' m c' A2 q cq C S P w hP hnb hmb hq hst hX0
    rw [hX0]
    exact this
  · have HP : Hid (∀ w', Below w.heap.size w w' → PcIn w' A n c A' m c' A2 q cq C S P) := fun w' hb => hP.below hb
    have DO := Lib.hid (fun w' (h : PcIn w' A n c A' m c' A2 q cq C S P) => rOnsets_any A n c A' m c' A2 q cq C S P w' h hnb hmb hq hst)
    unfold OnPost at DO
    unfold SnPost2
    rw [snL_none hX0]
    obtain ⟨X, hX⟩ : ∃ X, pcErr C S P = X := ⟨_, rfl⟩
    rw [hX] at hX0 DO ⊢
    have hXb : (X != 0) = true := by simpa using hX0
    clear hP hst hX hX0
    go_enter Try.func13, Try.ntmps13
    go_wp2_with (go_at_call 26; refine (DO.out _ (HP.out _ (ba w _))).mono ?_; rintro e w1 ⟨B, mo, d, rfl, hmo, hO, hb1⟩; clear hmo hO)
    go_ret2
    exact ⟨none, 0, 0, rfl, SnIn.nil _, bx hb1⟩

end Go.Proofs.Ytpcehgifpajmbaa

/- Sound: the sonorities that are no concords (Clashes), in the program, for any piece. -/
namespace Go.Proofs.Ytpcehgifpajmbaa
open Go Go.RowKit

set_option maxHeartbeats 1600000 in
theorem clash1_any (fm to : Int) (A : Option Addr) (n c : Nat) (L : List Int) (w : World) (hA : Sl w w.heap.size 1 A n c (intC L)) (hn : n = L.length) (hlim : n ≤ 1000000) :
    Calls Try.prog 35 #[.agg #[.int .i64 fm, .int .i64 to, .slice A n c]] w fun e w' => e = .returned (.bool (pconB L)) ∧ Below w.heap.size w w' := by
  have HC := Lib.hid (concordant_any A n c L _ (hA.below (ba w (.cells #[.int .i64 fm, .int .i64 to, .slice A n c] 49))) hn hlim)
  clear hA hn
  generalize pconB L = b at *
  go_enter Try.func35, Try.ntmps35
  go_wp2_with (go_at_call 22; refine HC.out.mono ?_; rintro e w1 ⟨rfl, hb1⟩)
  go_ret
  exact ⟨rfl, bx hb1⟩

/-- Sonorities in memory, each with its plain one. -/
def PrOk (w : World) (B : Nat) (p : SnT × Sn) : Prop := SnEq p.1 p.2 ∧ Ow w B 3 1 p.1.a p.1.n p.1.c (intC p.2.ps) ∧ p.2.ps.length ≤ 1000
theorem PrOk.blk {w w' : World} {B : Nat} {p : SnT × Sn} (h : PrOk w B p) (hk : ∀ g cs, Blk w g 3 cs → Blk w' g 3 cs) : PrOk w' B p := ⟨h.1, h.2.1.blk hk, h.2.2⟩
def zPr : SnT × Sn := (⟨0, 0, none, 0, 0⟩, zSn)
theorem pr_at {Y : List (SnT × Sn)} {k : Nat} (h : k < Y.length) : Y.getD k zPr ∈ Y ∧ (Y.map Prod.fst)[k]? = some (Y.getD k zPr).1 := by
  have e : Y.getD k zPr = Y[k] := by simp [List.getD_eq_getElem?_getD, List.getElem?_eq_getElem h]
  rw [e]
  exact ⟨List.getElem_mem h, by simp [List.getElem?_map, List.getElem?_eq_getElem h]⟩
def delB (p : SnT × Sn) : Bool := pconB p.2.ps
def AllKp (Y : List (SnT × Sn)) : Prop := ∀ p ∈ Y, delB p = false
/-- Which is the first to go. -/
def IxR (Y : List (SnT × Sn)) (n : Nat) (r : Int) : Prop := (r = -1 ∧ AllKp Y) ∨ ∃ i : Nat, r = i ∧ i < n ∧ (∀ j, j < i → delB (Y.getD j zPr) = false) ∧ delB (Y.getD i zPr) = true

set_option maxRecDepth 100000 in
set_option maxHeartbeats 1600000 in
theorem snIndex_any (base : Nat) (A : Option Addr) (n c : Nat) (Y : List (SnT × Sn)) (w : World) (hn : n = Y.length) (hS : Sl w w.heap.size 3 A n c (snC (Y.map Prod.fst))) (hY : ∀ p ∈ Y, PrOk w base p) (hlim : n ≤ 1000) :
    Calls Try.prog 54 #[.slice A n c, .func (.func 35) #[] #[]] w fun e w' => ∃ r : Int, e = .returned (.int .i64 r) ∧ IxR Y n r ∧ Below w.heap.size w w' := by
  have HN := Lib.hid hn
  have HS : Hid (∀ w', Below w.heap.size w w' → Sl w' w'.heap.size 3 A n c (snC (Y.map Prod.fst))) := fun w' hb' => hS.below hb'
  have HY : Hid (∀ w', Below w.heap.size w w' → ∀ p ∈ Y, PrOk w' base p) := fun w' hb' p hp => (hY p hp).blk (fun _ _ h => h.below hb')
  clear hS hn hY
  go_enter Try.func54, Try.ntmps54
  go_wp2_with (fail)
  go_loopw [8] (fun i wr => ∃ k : Nat, k ≤ n ∧ i = .int .i64 k ∧ Hid (∀ j, j < k → delB (Y.getD j zPr) = false) ∧ Below w.heap.size w wr) (fun i _ => n - (intOf i).toNat)
  case atStart => exact ⟨0, by omega, rfl, fun j hj => by omega, Below.refl _ _⟩
  case round =>
    obtain ⟨k, hk, rfl, HR, hbw⟩ := hrel
    have HB := Lib.hid hbw
    clear hbw
    by_cases hlt : k < n
    · have hkn : (k : Int) < (n : Int) := by omega
      obtain ⟨b, off, rfl, hbl, hc⟩ := (HS.out _ HB.out).2.2 (by omega)
      obtain ⟨hmem, hat⟩ := pr_at (Y := Y) (k := k) (by have := HN.out; omega)
      have HP := Lib.hid (HY.out _ HB.out _ hmem)
      obtain ⟨c0, c1, c2⟩ := snC_at _ _ _ hat
      have a0 := hc _ _ c0
      have a1 := hc _ _ c1
      have a2 := hc _ _ c2
      rw [← Nat.add_assoc] at a1 a2
      clear hc c0 c1 c2 hmem hat hbl
      obtain ⟨bb, hbb⟩ : ∃ bb, delB (Y.getD k zPr) = bb := ⟨_, rfl⟩
      have HBB := Lib.hid hbb
      have HKK : Hid (bb = false → ∀ j, j < k + 1 → delB (Y.getD j zPr) = false) := fun hb j hj => by
        by_cases hjk : j < k
        · exact HR.out j hjk
        · obtain rfl : j = k := by omega
          rw [hbb]; exact hb
      have HK2 : Hid (bb = true → delB (Y.getD k zPr) = true) := fun hb => by rw [hbb]; exact hb
      clear hbb
      generalize Y.getD k zPr = p at HP a0 a1 a2 HBB
      obtain ⟨⟨xf, xt, xa, xn, xc⟩, ⟨yf, yt, ps⟩⟩ := p
      dsimp only at a0 a1 a2
      have HCL := Lib.hid (clash1_any xf xt xa xn xc ps wr HP.out.2.1.sl HP.out.1.2.2 (by have := HP.out.1.2.2; have := HP.out.2.2; dsimp only at *; omega))
      have HBC : Hid (pconB ps = bb) := HBB.out
      cases bb with
      | true =>
        have HK4 : Hid (IxR Y n (k : Int)) := .inr ⟨k, rfl, hlt, HR.out, HK2.out rfl⟩
        clear HK2 HKK
        go_wp2_with (go_at_call 35; refine HCL.out.mono ?_; rintro e w2 ⟨rfl, hb2⟩; rw [HBC.out])
        go_ret
        exact ⟨k, rfl, HK4.out, bt HB.out hb2⟩
      | false =>
        have HK3 := Lib.hid (HKK.out rfl)
        clear HK2 HKK
        go_wp2_with (go_at_call 35; refine HCL.out.mono ?_; rintro e w2 ⟨rfl, hb2⟩; rw [HBC.out])
        go_roundw
        case rel => exact ⟨k + 1, by omega, by first | rfl | go_num, HK3.out, bt HB.out hb2⟩
        case measure => simp [intOf]; omega
    · have hkn : ¬ ((k : Int) < (n : Int)) := by omega
      have HAL : Hid (IxR Y n (-1)) := .inl ⟨rfl, fun p hp => by
        obtain ⟨j, hj, rfl⟩ := List.getElem_of_mem hp
        have := HR.out j (by have := HN.out; omega)
        rwa [show Y.getD j zPr = Y[j] by simp [List.getD_eq_getElem?_getD, List.getElem?_eq_getElem hj]] at this⟩
      go_wp2_with (fail)
      go_ret
      exact ⟨-1, rfl, HAL.out, HB.out⟩

theorem run_clear_k {P : Program} (w : World) (t e ty : TypeId) (z : Value) (ht : P.underlying t = some (.slice e)) (hv : ∀ w, (zeroValue e).run P w = .ok z w) (b o n c : Nat) (hn : 0 < n) (h1 : ∀ v ∈ (Builtin.zeroCells z.cells n).toList, v.oneCell' = true)
    (hc : ∀ j, j < (Builtin.zeroCells z.cells n).toList.length → (w.cell? ⟨b, o + j, none⟩).isSome = true) (hf : ∀ j, j < (Builtin.zeroCells z.cells n).toList.length → w.frozen? ⟨b, o + j, none⟩ = false) :
    (Builtin.clear_ #[t] ty #[.slice (some ⟨b, o, none⟩) n c]).run P w = .ok (.tuple #[]) (w.setCells b o (Builtin.zeroCells z.cells n).toList) := by
  have hst := run_storeCells_cells (P := P) b o (Builtin.zeroCells z.cells n).toList 0 w hc hf h1
  simp only [Nat.add_zero] at hst
  obtain ⟨m, rfl⟩ : ∃ m, n = m + 1 := ⟨n - 1, by omega⟩
  generalize hz : (Builtin.zeroCells z.cells (m + 1)).toList = zs at *
  simp [Builtin.clear_, run_underlying ht, hv, hz, hst]
theorem below_setCells {B b : Nat} (hB : B ≤ b) : ∀ (vs : List Value) (o : Nat) (w0 w : World), Below B w0 w → Below B w0 (w.setCells b o vs)
  | [], _, _, _, h => h
  | _ :: r, o, w0, _, h => below_setCells hB r (o + 1) w0 _ (h.setCell hB _)
theorem size_setCells : ∀ (vs : List Value) (b o : Nat) (w : World), (w.setCells b o vs).heap.size = w.heap.size
  | [], _, _, _ => rfl
  | _ :: r, b, o, w => by rw [World.setCells, size_setCells r b (o + 1)]; simp
theorem snC_set : ∀ (D : List SnT) (i : Nat) (x : SnT), i < D.length → (((snC D).set (i * 3) (.int .i64 x.fm)).set (i * 3 + 1) (.int .i64 x.to)).set (i * 3 + 2) (.slice x.a x.n x.c) = snC (D.set i x)
  | c :: r, 0, x, _ => rfl
  | c :: r, i + 1, x, h => by
    have ih := snC_set r i x (by simpa using h)
    have e : ∀ (c : SnT) (r : List SnT), snC (c :: r) = [.int .i64 c.fm, .int .i64 c.to, .slice c.a c.n c.c] ++ snC r := fun _ _ => rfl
    have l : ∀ (c : SnT), ([.int .i64 c.fm, .int .i64 c.to, .slice c.a c.n c.c] : List Value).length = 3 := fun _ => rfl
    rw [List.set_cons_succ, e, e, ← ih, List.set_append_right _ _ (by rw [l]; omega), List.set_append_right _ _ (by rw [l]; omega), List.set_append_right _ _ (by rw [l]; omega), l, show (i + 1) * 3 - 3 = i * 3 by omega, show (i + 1) * 3 + 1 - 3 = i * 3 + 1 by omega, show (i + 1) * 3 + 2 - 3 = i * 3 + 2 by omega]
def kpL (Y : List (SnT × Sn)) (j : Nat) : List (SnT × Sn) := (Y.take j).filter fun p => !delB p
theorem kpL_succ {Y : List (SnT × Sn)} {j : Nat} (h : j < Y.length) : kpL Y (j + 1) = kpL Y j ++ if delB (Y.getD j zPr) then [] else [Y.getD j zPr] := by
  have e : Y.take (j + 1) = Y.take j ++ [Y.getD j zPr] := by rw [List.take_add_one]; simp [List.getElem?_eq_getElem h]
  unfold kpL
  rw [e, List.filter_append]
  generalize Y.getD j zPr = z
  cases hd : delB z <;> simp [hd]
theorem kpL_len (Y : List (SnT × Sn)) (j : Nat) : (kpL Y j).length ≤ j := by
  unfold kpL
  exact Nat.le_trans (List.length_filter_le _ _) (by rw [List.length_take]; omega)
theorem kpL_first {Y : List (SnT × Sn)} {i : Nat} (hi : i < Y.length) (h1 : ∀ j, j < i → delB (Y.getD j zPr) = false) (h2 : delB (Y.getD i zPr) = true) : kpL Y (i + 1) = Y.take i := by
  rw [kpL_succ hi, h2, if_pos rfl, List.append_nil]
  unfold kpL
  rw [List.filter_eq_self]
  intro p hp
  obtain ⟨j, hj, rfl⟩ := List.getElem_of_mem hp
  rw [List.length_take] at hj
  have := h1 j (by omega)
  rw [show Y.getD j zPr = Y[j] by simp [List.getD_eq_getElem?_getD, List.getElem?_eq_getElem (show j < Y.length by omega)]] at this
  rw [List.getElem_take]
  rw [this]
  rfl
theorem kpL_all {Y : List (SnT × Sn)} {n : Nat} (h : Y.length ≤ n) : (kpL Y n).map Prod.snd = clOf (Y.map Prod.snd) := by
  unfold kpL clOf
  rw [List.take_of_length_le h, List.filter_map]
  rfl
/-- The list behind DeleteFunc's rounds: the kept ones in front, the rest as it was. -/
def DlR (Y : List (SnT × Sn)) (D : List SnT) (i j : Nat) : Prop := D.length = Y.length ∧ i = (kpL Y j).length ∧ D.take i = (kpL Y j).map Prod.fst ∧ D.drop j = (Y.map Prod.fst).drop j
theorem DlR.at {Y : List (SnT × Sn)} {D : List SnT} {i j : Nat} (h : DlR Y D i j) (hj : j < Y.length) : D[j]? = some (Y.getD j zPr).1 := by
  have h4 := congrArg (fun l : List SnT => l[0]?) h.2.2.2
  simp only [List.getElem?_drop, Nat.add_zero] at h4
  rw [h4]
  exact (pr_at hj).2
theorem DlR.skip {Y : List (SnT × Sn)} {D : List SnT} {i j : Nat} (h : DlR Y D i j) (hj : j < Y.length) (hd : delB (Y.getD j zPr) = true) : DlR Y D i (j + 1) := by
  obtain ⟨h1, h2, h3, h4⟩ := h
  have e : kpL Y (j + 1) = kpL Y j := by rw [kpL_succ hj, hd, if_pos rfl, List.append_nil]
  refine ⟨h1, by rw [e]; exact h2, by rw [e]; exact h3, ?_⟩
  have := congrArg List.tail h4
  simpa using this
theorem DlR.keep {Y : List (SnT × Sn)} {D : List SnT} {i j : Nat} (h : DlR Y D i j) (hij : i < j) (hj : j < Y.length) (hd : delB (Y.getD j zPr) = false) : DlR Y (D.set i (Y.getD j zPr).1) (i + 1) (j + 1) := by
  obtain ⟨h1, h2, h3, h4⟩ := h
  have e : kpL Y (j + 1) = kpL Y j ++ [Y.getD j zPr] := by rw [kpL_succ hj, hd]; rfl
  refine ⟨by simpa using h1, by rw [e]; simp [h2], ?_, ?_⟩
  · rw [e, List.map_append, ← h3, List.take_add_one, List.getElem?_set_self (by omega)]
    congr 1
    refine List.ext_getElem? fun k => ?_
    rw [List.getElem?_take, List.getElem?_take]
    split
    · rw [List.getElem?_set_ne (by omega)]
    · rfl
  · have h5 := congrArg List.tail h4
    simp only [List.tail_drop] at h5
    rw [← h5]
    refine List.ext_getElem? fun k => ?_
    rw [List.getElem?_drop, List.getElem?_drop, List.getElem?_set_ne (by omega)]

set_option maxRecDepth 100000 in
set_option maxHeartbeats 8000000 in
theorem snDelete_any (base : Nat) (A : Option Addr) (n c : Nat) (Y : List (SnT × Sn)) (w : World) (hn : n = Y.length) (hS : w.ownsRow base 49 3 (.slice A n c) n (snC (Y.map Prod.fst))) (hY : ∀ p ∈ Y, PrOk w base p) (hlim : n ≤ 1000) (hbs : base ≤ w.heap.size) :
    Calls Try.prog 34 #[.slice A n c, .func (.func 35) #[] #[]] w fun e w' => ∃ m d, e = .returned (.slice A m d) ∧ SnIn w' A m d (clOf (Y.map Prod.snd)) ∧ Below base w w' := by
  have HN := Lib.hid hn
  have HS := Lib.hid hS
  have HY := Lib.hid hY
  have HIX := Lib.hid (snIndex_any base A n c Y w hn (Sl_own hS) hY hlim)
  clear hS hn hY
  by_cases hall : AllKp Y
  · have HIX2 : Hid (Calls Try.prog 54 #[.slice A n c, .func (.func 35) #[] #[]] w fun e w' => e = .returned (.int .i64 (-1)) ∧ Below w.heap.size w w') := by
      refine HIX.out.mono ?_
      rintro e w' ⟨r, rfl, hr, hb⟩
      rcases hr with ⟨rfl, _⟩ | ⟨i, rfl, hi, _, h2⟩
      · exact ⟨rfl, hb⟩
      · have := hall _ (pr_at (Y := Y) (k := i) (by have := HN.out; omega)).1
        rw [this] at h2
        cases h2
    have HCE : Hid (clOf (Y.map Prod.snd) = Y.map Prod.snd) := by
      unfold Hid clOf
      rw [List.filter_eq_self]
      intro y hy
      obtain ⟨p, hp, rfl⟩ := List.mem_map.1 hy
      have := hall p hp
      unfold delB at this
      rw [this]
      rfl
    clear hall HIX
    go_enter Try.func34, Try.ntmps34
    go_wp2_with (go_at_call 54; refine HIX2.out.mono ?_; rintro e w1 ⟨rfl, hb1⟩)
    go_ret
    refine ⟨n, c, rfl, ?_, hb1.mono hbs⟩
    rw [HCE.out]
    refine ⟨by rw [List.length_map]; exact HN.out, Y.map Prod.fst, by simp, fun j x y hx hy => ?_, Sl_own (own_below HS.out hb1)⟩
    rw [List.getElem?_map] at hx hy
    cases hp : Y[j]? with
    | none => rw [hp] at hx; cases hx
    | some p =>
      rw [hp] at hx hy
      cases hx
      cases hy
      have h1 := (HY.out p (List.mem_of_getElem? hp)).blk (fun _ _ h => Blk.below h hb1)
      exact ⟨h1.1, h1.2.1.sl⟩
  · have HIX2 : Hid (Calls Try.prog 54 #[.slice A n c, .func (.func 35) #[] #[]] w fun e w' => ∃ i : Nat, e = .returned (.int .i64 i) ∧ i < n ∧ DlR Y (Y.map Prod.fst) i (i + 1) ∧ Below w.heap.size w w') := by
      refine HIX.out.mono ?_
      rintro e w' ⟨r, rfl, hr, hb⟩
      rcases hr with ⟨_, h⟩ | ⟨i, rfl, hi, h1, h2⟩
      · exact absurd h hall
      · have hiY : i < Y.length := by have := HN.out; omega
        have e := kpL_first hiY h1 h2
        exact ⟨i, rfl, hi, ⟨by simp, by rw [e, List.length_take]; omega, by rw [e, List.map_take], rfl⟩, hb⟩
    obtain ⟨g, eA, hgb⟩ : ∃ g, A = some ⟨g, 0, none⟩ ∧ base ≤ g := by
      rcases HS.out.2 with ⟨h1, h2⟩ | ⟨g, cap, cur, h1, h2, _⟩
      · exfalso
        apply hall
        intro p hp
        have : Y = [] := List.length_eq_zero_iff.1 (by have := HN.out; omega)
        rw [this] at hp
        cases hp
      · injection h1 with e1
        exact ⟨g, e1, h2⟩
    subst eA
    clear hall HIX
    have hnc : n ≤ c := by
      rcases HS.out.2 with ⟨h1, _⟩ | ⟨g', cap, cur, h1, _, _, h4, _⟩
      · cases h1
      · injection h1 with _ _ e
        omega
    have HYL : Hid (∀ w' xs, (∀ p ∈ Y, PrOk w' base p) → w'.ownsRow base 49 3 (.slice (some ⟨g, 0, none⟩) n c) n xs → ∀ i u, ∀ p ∈ Y, PrOk (w'.setCell ⟨g, i, none⟩ u) base p) := fun w' xs h hown i u p hp =>
      (h p hp).blk (fun g' cs hb => hb.setOther (fun e => by subst e; exact blk_apart hb hown (by decide) rfl) _ _)
    go_enter Try.func34, Try.ntmps34
    go_wp2_with (go_at_call 54; refine HIX2.out.mono ?_; rintro e w1 ⟨i0, rfl, hi0, hd0, hb1⟩; have HD0 := Lib.hid hd0; have HB1 := Lib.hid (hb1.mono hbs); have HS1 := Lib.hid (own_below HS.out hb1); have HY1 : Hid (∀ p ∈ Y, PrOk w1 base p) := (fun p hp => (HY.out p hp).blk (fun _ _ h => Blk.below h hb1)); have hi1 : ((i0 : Int) == -1) = false := (by simp); have hiw : IntKind.i64.wrap ((i0 : Int) + 1) = (i0 : Int) + 1 := (IntWalk.i64_in _ ⟨by omega, by omega⟩); clear hd0 hb1)
    go_loopw [5, 6] (fun ii jj wr => ∃ (i j : Nat) (D : List SnT), i < j ∧ j ≤ n ∧ ii = .int .i64 i ∧ jj = .int .i64 j ∧ Hid (DlR Y D i j) ∧ Hid (wr.ownsRow base 49 3 (.slice (some ⟨g, 0, none⟩) n c) n (snC D)) ∧ Hid (∀ p ∈ Y, PrOk wr base p) ∧ Hid (Below base w wr)) (fun _ jj _ => n - (intOf jj).toNat)
    case atStart => exact ⟨i0, i0 + 1, _, by omega, by omega, rfl, by first | rfl | go_num, HD0.out, HS1.out, HY1.out, HB1.out⟩
    case round =>
      obtain ⟨i, j, D, hij, hj, rfl, rfl, HD, HO, HYr, HB⟩ := hrel
      have hgl : g < wr.heap.size := by
        rcases HO.out.2 with ⟨h1, _⟩ | ⟨g', cap, cur, h1, _, h3, _⟩
        · cases h1
        · injection h1 with e
          injection e with e
          injection e with e
          subst e
          exact (Array.getElem?_eq_some_iff.1 h3).1
      by_cases hlt : j < n
      · have hjn : (j : Int) < (n : Int) := by omega
        have hjY : j < Y.length := by have := HN.out; omega
        have hin : (i : Int) < (n : Int) := by omega
        have hjw : IntKind.i64.wrap ((j : Int) + 1) = (j : Int) + 1 := IntWalk.i64_in _ ⟨by omega, by omega⟩
        have hiw' : IntKind.i64.wrap ((i : Int) + 1) = (i : Int) + 1 := IntWalk.i64_in _ ⟨by omega, by omega⟩
        obtain ⟨c0, c1, c2⟩ := snC_at _ _ _ (HD.out.at hjY)
        have a0 := HO.out.cellAt (j * 3) (by omega)
        have a1 := HO.out.cellAt (j * 3 + 1) (by omega)
        have a2 := HO.out.cellAt (j * 3 + 2) (by omega)
        rw [c0] at a0
        rw [c1] at a1
        rw [c2] at a2
        have HP := Lib.hid (HYr.out _ (pr_at hjY).1)
        have HSK := Lib.hid (fun hd => HD.out.skip hjY hd)
        have HKP := Lib.hid (fun hd => HD.out.keep hij hjY hd)
        have hiD : i < D.length := by rw [HD.out.1]; omega
        have HSET := Lib.hid (snC_set D i (Y.getD j zPr).1 hiD)
        obtain ⟨e0, e1, e2⟩ := snC_at D i D[i] (List.getElem?_eq_getElem hiD)
        generalize D[i] = zi at e0 e1 e2
        have HE := Lib.hid (And.intro e0 (And.intro e1 e2))
        clear e0 e1 e2
        obtain ⟨bb, hbb⟩ : ∃ bb, delB (Y.getD j zPr) = bb := ⟨_, rfl⟩
        rw [hbb] at HSK HKP
        have HBB := Lib.hid hbb
        clear hbb c0 c1 c2 hjY hiD
        generalize Y.getD j zPr = p at HP a0 a1 a2 HBB HKP HSET
        obtain ⟨⟨xf, xt, xa, xn, xc⟩, ⟨yf, yt, ps⟩⟩ := p
        dsimp only at a0 a1 a2 HSET
        have HCL := Lib.hid (clash1_any xf xt xa xn xc ps _ ((HP.out.2.1.sl).below (ba wr (.cells #[.int .i64 xf, .int .i64 xt, .slice xa xn xc] 49))) HP.out.1.2.2 (by have := HP.out.1.2.2; have := HP.out.2.2; dsimp only at *; omega))
        have HBC : Hid (pconB ps = bb) := HBB.out
        cases bb with
        | true =>
          have HD2 := Lib.hid (HSK.out rfl)
          clear HSK HKP
          go_wp2_with (go_at_call 35; refine HCL.out.mono ?_; rintro e w2 ⟨rfl, hb2⟩; rw [HBC.out]; have HB2 := Lib.hid (bx hb2); clear hb2)
          go_roundw
          case rel => exact ⟨i, j + 1, D, by omega, by omega, rfl, by first | rfl | go_num, HD2.out, own_below HO.out HB2.out, fun p hp => (HYr.out p hp).blk (fun _ _ h => Blk.below h HB2.out), HB.out.trans (HB2.out.mono (by omega))⟩
          case measure => simp [intOf]; omega
        | false =>
          have HD2 := Lib.hid (HKP.out rfl)
          clear HSK HKP
          go_wp2_with (go_at_call 35; refine HCL.out.mono ?_; rintro e w2 ⟨rfl, hb2⟩; rw [HBC.out]; obtain ⟨x0, x1, x2⟩ := cell3 hb2; have HB2 := Lib.hid (bx hb2); have HO2 := Lib.hid (own_below HO.out HB2.out); have HY2 : Hid (∀ p ∈ Y, PrOk w2 base p) := (fun p hp => (HYr.out p hp).blk (fun _ _ h => Blk.below h HB2.out)); have y0 := (HO2.out.cellAt (i * 3) (by omega)).trans HE.out.1; have y1 := (HO2.out.cellAt (i * 3 + 1) (by omega)).trans HE.out.2.1; have y2 := (HO2.out.cellAt (i * 3 + 2) (by omega)).trans HE.out.2.2; have f0 := HO2.out.frozenAt (i * 3); have f1 := HO2.out.frozenAt (i * 3 + 1); have f2 := HO2.out.frozenAt (i * 3 + 2); have hz2 : wr.heap.size < w2.heap.size := (by have := hb2.size; simp at this; omega); have hg2 : g < w2.heap.size := (by omega); clear hb2)
          have HO3 := Lib.hid (((HO2.out.stored (i * 3) (.int .i64 xf)).1.stored (i * 3 + 1) (.int .i64 xt)).1.stored (i * 3 + 2) (.slice xa xn xc)).1
          rw [HSET.out] at HO3
          have HY3 : Hid (∀ p ∈ Y, PrOk (((w2.setCell ⟨g, i * 3, none⟩ (.int .i64 xf)).setCell ⟨g, i * 3 + 1, none⟩ (.int .i64 xt)).setCell ⟨g, i * 3 + 2, none⟩ (.slice xa xn xc)) base p) :=
            HYL.out _ _ (HYL.out _ _ (HYL.out _ _ HY2.out HO2.out _ _) (HO2.out.stored (i * 3) (.int .i64 xf)).1 _ _) ((HO2.out.stored (i * 3) (.int .i64 xf)).1.stored (i * 3 + 1) (.int .i64 xt)).1 _ _
          have HB3 : Hid (Below base w (((w2.setCell ⟨g, i * 3, none⟩ (.int .i64 xf)).setCell ⟨g, i * 3 + 1, none⟩ (.int .i64 xt)).setCell ⟨g, i * 3 + 2, none⟩ (.slice xa xn xc))) :=
            (((HB.out.trans (HB2.out.mono (by omega))).setCell hgb _).setCell hgb _).setCell hgb _
          go_roundw
          case rel => exact ⟨i + 1, j + 1, _, by omega, by omega, by first | rfl | go_num, by first | rfl | go_num, HD2.out, HO3.out, HY3.out, HB3.out⟩
          case measure => simp [intOf]; omega
      · obtain rfl : j = n := by omega
        have hci : ¬ c = i := by omega
        have hiw : (i : Int) ≤ (j : Int) := by omega
        have hic : (i : Int) ≤ (c : Int) := by omega
        have hc0 : ¬ c = 0 := by omega
        obtain ⟨zs, hzs⟩ : ∃ zs, (Builtin.zeroCells (Value.agg #[.int .i64 0, .int .i64 0, .slice none 0 0]).cells (j - i)).toList = zs := ⟨_, rfl⟩
        have hzl : zs.length = (j - i) * 3 := by
          rw [← hzs]
          simp [Builtin.zeroCells, Value.cells]
        have hz1 : ∀ v ∈ zs, v.oneCell' = true := by
          rw [← hzs]
          intro v hv
          simp only [Builtin.zeroCells, Array.toList_map, List.mem_map] at hv
          obtain ⟨a, _, rfl⟩ := hv
          have h3 : a % (Value.agg #[.int .i64 0, .int .i64 0, .slice none 0 0]).cells.size < 3 := Nat.mod_lt _ (by decide)
          generalize a % (Value.agg #[.int .i64 0, .int .i64 0, .slice none 0 0]).cells.size = r at h3
          have : r = 0 ∨ r = 1 ∨ r = 2 := by omega
          rcases this with rfl | rfl | rfl <;> rfl
        have hcl : ∀ ty, (Builtin.clear_ #[37] ty #[.slice (some ⟨g, i * 3, none⟩) (j - i) (c - i)]).run Try.prog wr = .ok (.tuple #[]) (wr.setCells g (i * 3) zs) := fun ty => by
          obtain ⟨s0, ss1, ss2, ss3, ss4⟩ := info_parts (show (Try.prog.info? 49).map (fun i => (i.zero, i.size, i.bytes)) = some (some (.agg #[.int .i64 0, .int .i64 0, .slice none 0 0]), 3, 40) by kernel_rfl)
          have h := run_clear_k (P := Try.prog) wr 37 49 ty (.agg #[.int .i64 0, .int .i64 0, .slice none 0 0]) Try.underlying37 (fun w => by simp [zeroValue, typeInfo, ss1, ss2]) g (i * 3) (j - i) (c - i) (by omega) (by rw [hzs]; exact hz1)
            (by
              rw [hzs, hzl]
              intro t ht
              rw [HO.out.cellAt (i * 3 + t) (by omega)]
              have : i * 3 + t < (snC D).length := by rw [snC_len, HD.out.1, ← HN.out]; omega
              rw [List.getElem?_eq_getElem this]
              rfl)
            (fun t _ => HO.out.frozenAt _)
          rw [hzs] at h
          exact h
        have HF : Hid (SnIn (wr.setCells g (i * 3) zs) (some ⟨g, 0, none⟩) i c (clOf (Y.map Prod.snd)) ∧ Below base w (wr.setCells g (i * 3) zs)) := by
          refine ⟨?_, below_setCells hgb _ _ _ _ HB.out⟩
          have hk := kpL_all (Y := Y) (n := j) (by have := HN.out; omega)
          rw [← hk]
          refine ⟨by rw [List.length_map]; exact HD.out.2.1, (kpL Y j).map Prod.fst, by simp, fun a x y hx hy => ?_, ?_⟩
          · rw [List.getElem?_map] at hx hy
            cases hp : (kpL Y j)[a]? with
            | none => rw [hp] at hx; cases hx
            | some p =>
              rw [hp] at hx hy
              cases hx
              cases hy
              have hpY : p ∈ Y := List.mem_of_mem_take (List.mem_filter.1 (List.mem_of_getElem? hp)).1
              have h1 := HYr.out p hpY
              refine ⟨h1.1, ?_⟩
              have h2 := h1.2.1
              have h3 := h2.sl
              refine ⟨h3.1, h3.2.1, fun h0 => ?_⟩
              obtain ⟨g', cur, e1, _, hbk, _⟩ := h2.2.2 h0
              obtain ⟨b, off, e2, hb, hcc⟩ := h3.2.2 h0
              rw [e1] at e2
              injection e2 with e2
              injection e2 with e2 e3
              subst e2
              have hne : g' ≠ g := fun e => by subst e; exact blk_apart hbk HO.out (by decide) rfl
              refine ⟨g', off, by rw [e1, e3], by rw [size_setCells]; exact hb, fun t u hu => ?_⟩
              rw [World.cell?_setCells_out g zs (i * 3) wr ⟨g', off + t, none⟩ (fun e => absurd e hne)]
              exact hcc t u hu
          · have hl := HD.out.2.2.1
            refine ⟨by omega, by rw [snC_len, List.length_map, ← HD.out.2.1], fun h0 => ⟨g, 0, rfl, by rw [size_setCells]; exact hgl, fun t u hu => ?_⟩⟩
            have ht : t < i * 3 := by
              have := (List.getElem?_eq_some_iff.1 hu).1
              rw [snC_len, List.length_map, ← HD.out.2.1] at this
              exact this
            rw [Nat.zero_add, World.cell?_setCells_out g zs (i * 3) wr ⟨g, t, none⟩ (fun _ _ => .inl ht), HO.out.cellAt t (by omega), ← hu, ← hl]
            have e : snC D = snC (D.take i) ++ snC (D.drop i) := by
              conv => lhs; rw [← List.take_append_drop i D]
              unfold snC
              rw [List.flatMap_append]
            rw [e, List.getElem?_append_left (by rw [snC_len, List.length_take, HD.out.1, ← HN.out]; omega)]
        clear hzs hzl hz1
        go_wp2_with (fail)
        go_ret
        exact ⟨i, c, rfl, HF.out.1, HF.out.2⟩

theorem snDelete_of (base : Nat) (A : Option Addr) (n c : Nat) (Z : List SnT) (U : List Sn) (w : World) (hn : n = U.length) (hS : w.ownsRow base 49 3 (.slice A n c) n (snC Z)) (hC : CpS w base Z U) (hbd : U.length ≤ 400 ∧ ∀ y ∈ U, y.ps.length ≤ 128) (hbs : base ≤ w.heap.size) :
    Calls Try.prog 34 #[.slice A n c, .func (.func 35) #[] #[]] w fun e w' => ∃ m d, e = .returned (.slice A m d) ∧ SnIn w' A m d (clOf U) ∧ Below base w w' := by
  have hl := hC.1
  have h := snDelete_any base A n c (Z.zip U) w (by rw [List.length_zip]; omega) (by rw [List.map_fst_zip (by omega)]; exact hS) (fun p hp => by
    obtain ⟨i, hi, rfl⟩ := List.getElem_of_mem hp
    rw [List.length_zip] at hi
    rw [List.getElem_zip]
    obtain ⟨h1, h2⟩ := hC.2 i _ _ (List.getElem?_eq_getElem (show i < Z.length by omega)) (List.getElem?_eq_getElem (show i < U.length by omega))
    exact ⟨h1, h2, Nat.le_trans (hbd.2 _ (List.getElem_mem _)) (by decide)⟩) (by have := hbd.1; omega) hbs
  rw [List.map_snd_zip (by omega)] at h
  exact h
/-- A call hands back sonorities and an error; for clashes. -/
def clL (C : List Cr) (S : List Int) (P : List EvP) : List Sn := clOf (snL C S P)
theorem ps128 (T : List Nt) (t : Int) : (psL T t).length ≤ 128 := by
  unfold psL
  exact Nat.le_trans (List.length_filter_le _ _) (by simp)
theorem snL_bd (C : List Cr) (S : List Int) (P : List EvP) : (snL C S P).length ≤ 400 ∧ ∀ y ∈ snL C S P, y.ps.length ≤ 128 := by
  by_cases h : pcErr C S P = 0
  · have e : snL C S P = snOf (stL C S P) (tuL C S P) := by unfold snL; rw [if_pos h]
    rw [e]
    refine ⟨by rw [snOf_len]; have := (tm_ends h).2.2.2.2; have := (pcErr_ok h).2.1; omega, fun y hy => ?_⟩
    unfold snOf at hy
    obtain ⟨p, _, rfl⟩ := List.mem_map.1 hy
    exact ps128 _ _
  · rw [snL_none h]
    exact ⟨by simp, fun y hy => by cases hy⟩

set_option maxRecDepth 100000 in
set_option maxHeartbeats 1600000 in
theorem clashes_any (A : Option Addr) (n c : Nat) (A' : Option Addr) (m c' : Nat) (A2 : Option Addr) (q cq : Nat) (C : List Cr) (S : List Int) (P : List EvP) (w : World) (hP : PcIn w A n c A' m c' A2 q cq C S P) (hnb : n ≤ 1000000) (hmb : m ≤ 1000000) (hq : q ≤ 65536) (hst : ∀ y ∈ P, y.L.length ≤ 1000000) :
    Calls Try.prog 14 #[pcV A n c A' m c' A2 q cq] w fun e w' => ∃ B k d, e = .returned (.tuple #[.slice B k d, .int .i64 (pcErr C S P)]) ∧ SnIn w' B k d (clL C S P) ∧ Below w.heap.size w w' := by
  have HSN := Lib.hid (sons_any A n c A' m c' A2 q cq C S P _ (hP.below (ba w (pcO A n c A' m c' A2 q cq))) hnb hmb hq hst)
  unfold SnPost at HSN
  have HBD := Lib.hid (snL_bd C S P)
  have HCL : Hid (clL C S P = clOf (snL C S P)) := rfl
  have HZ : Hid (pcErr C S P ≠ 0 → snL C S P = []) := snL_none
  clear hP hst
  generalize clL C S P = V at *
  generalize snL C S P = U at *
  generalize pcErr C S P = X at *
  by_cases hX : X = 0
  · subst hX
    clear HZ
    go_enter Try.func14, Try.ntmps14
    go_wp2_with (first
      | (go_at_call 12; refine HSN.out.mono ?_; rintro e w1 ⟨B, k, d, Z, rfl, hk, ho, hc, hb1⟩; have HDL := Lib.hid (snDelete_of (w.alloc (pcO A n c A' m c' A2 q cq)).heap.size B k d Z U w1 hk ho hc HBD.out hb1.size); have HB1 := Lib.hid hb1; clear hk ho hc hb1)
      | (go_at_call 34; refine HDL.out.mono ?_; rintro e w2 ⟨k2, d2, rfl, hs2, hb2⟩; have HS2 := Lib.hid hs2; clear hs2))
    go_ret2
    exact ⟨B, k2, d2, rfl, by rw [HCL.out]; exact HS2.out, (bx HB1.out).trans (hb2.mono (by simp))⟩
  · have hXb : (X != 0) = true := by simpa using hX
    have HVZ : Hid (V = []) := by unfold Hid; rw [HCL.out, HZ.out hX]; rfl
    clear hX HZ
    go_enter Try.func14, Try.ntmps14
    go_wp2_with (go_at_call 12; refine HSN.out.mono ?_; rintro e w1 ⟨B, k, d, Z, rfl, hk, ho, hc, hb1⟩; clear hk ho hc)
    go_ret2
    exact ⟨none, 0, 0, rfl, by rw [HVZ.out]; exact SnIn.nil _, bx hb1⟩

end Go.Proofs.Ytpcehgifpajmbaa

/- Sound, the reference: the sonorities that are no concords (Clashes), for any piece. -/
namespace Go.Proofs.Ytpcehgifpajmbaa
open Go Go.RowKit

def PrIn (w : World) (p : SnT × Sn) : Prop := SnEq p.1 p.2 ∧ Sl w w.heap.size 1 p.1.a p.1.n p.1.c (intC p.2.ps)
theorem PrIn.below {w w' : World} {p : SnT × Sn} (h : PrIn w p) (hb : Below w.heap.size w w') : PrIn w' p := ⟨h.1, h.2.below hb⟩
theorem SnIn.pairs {w : World} {A : Option Addr} {n c : Nat} {U : List Sn} (h : SnIn w A n c U) : ∃ Y : List (SnT × Sn), Y.map Prod.snd = U ∧ n = Y.length ∧ (∀ p ∈ Y, PrIn w p) ∧ Sl w w.heap.size 3 A n c (snC (Y.map Prod.fst)) := by
  obtain ⟨hn, Z, hl, hz, hs⟩ := h
  refine ⟨Z.zip U, List.map_snd_zip (by omega), by rw [List.length_zip]; omega, fun p hp => ?_, by rw [List.map_fst_zip (by omega)]; exact hs⟩
  obtain ⟨i, hi, rfl⟩ := List.getElem_of_mem hp
  rw [List.length_zip] at hi
  rw [List.getElem_zip]
  exact hz i _ _ (List.getElem?_eq_getElem (show i < Z.length by omega)) (List.getElem?_eq_getElem (show i < U.length by omega))
theorem SnIn.of_pairs {w : World} {A : Option Addr} {n c : Nat} {Y : List (SnT × Sn)} (hn : n = Y.length) (h : ∀ p ∈ Y, PrIn w p) (hs : Sl w w.heap.size 3 A n c (snC (Y.map Prod.fst))) : SnIn w A n c (Y.map Prod.snd) := by
  refine ⟨by rw [List.length_map]; exact hn, Y.map Prod.fst, by simp, fun j x y hx hy => ?_, hs⟩
  rw [List.getElem?_map] at hx hy
  cases hp : Y[j]? with
  | none => rw [hp] at hx; cases hx
  | some p =>
    rw [hp] at hx hy
    cases hx
    cases hy
    exact h p (List.mem_of_getElem? hp)

set_option maxRecDepth 100000 in
set_option maxHeartbeats 8000000 in
theorem rclashes_any (A : Option Addr) (n c : Nat) (A' : Option Addr) (m c' : Nat) (A2 : Option Addr) (q cq : Nat) (C : List Cr) (S : List Int) (P : List EvP) (w : World) (hP : PcIn w A n c A' m c' A2 q cq C S P) (hnb : n ≤ 1000000) (hmb : m ≤ 1000000) (hq : q ≤ 65536) (hst : ∀ y ∈ P, y.L.length ≤ 1000000) :
    Calls Try.prog 15 #[pcV A n c A' m c' A2 q cq] w (SnPost2 (clL C S P) (pcErr C S P) w) := by
  have HSN := Lib.hid (rsons_any A n c A' m c' A2 q cq C S P _ (hP.below (ba w (pcO A n c A' m c' A2 q cq))) hnb hmb hq hst)
  unfold SnPost2 at HSN ⊢
  have HBD := Lib.hid (snL_bd C S P)
  have HCL : Hid (clL C S P = clOf (snL C S P)) := rfl
  have HZ : Hid (pcErr C S P ≠ 0 → snL C S P = []) := snL_none
  obtain ⟨i0, ii1, ii2, ii3, ii4⟩ := info_parts (show (Try.prog.info? 82).map (fun i => (i.zero, i.size, i.bytes)) = some (some (.agg #[.int .i64 0, .int .i64 0, .slice none 0 0]), 3, 40) by kernel_rfl)
  clear hP hst
  generalize clL C S P = V at *
  generalize snL C S P = U at *
  generalize pcErr C S P = X at *
  by_cases hX : X = 0
  · subst hX
    clear HZ
    go_enter Try.func15, Try.ntmps15
    go_wp2_with (go_at_call 13; refine HSN.out.mono ?_; rintro e w1 ⟨B, k0, d, rfl, hk, hb1⟩; have HK := Lib.hid hk; have HB1 := Lib.hid hb1; clear hk hb1)
    obtain ⟨Y, hYU, hn, hY, hS⟩ := HK.out.pairs
    have HYU := Lib.hid hYU
    have HN := Lib.hid hn
    have HY := Lib.hid hY
    have HS := Lib.hid hS
    have hkb : k0 ≤ 400 := by have := HK.out.1; have := HBD.out.1; omega
    have HPS : Hid (∀ p ∈ Y, p.2.ps.length ≤ 128) := fun p hp => HBD.out.2 _ (by rw [← hYU]; exact List.mem_map.2 ⟨p, hp, rfl⟩)
    clear hYU hn hY hS HK
    go_loopw [7, 6] (fun i l wr => ∃ (k len : Nat) (A4 : Option Addr) (c4 : Nat), k ≤ k0 ∧ i = .int .i64 k ∧ l = .slice A4 len c4 ∧ len ≤ k ∧ Hid (len = (kpL Y k).length) ∧ Hid (Own1 w1 wr 82 3 A4 len c4 (snC ((kpL Y k).map Prod.fst)))) (fun i _ _ => k0 - (intOf i).toNat)
    case atStart => exact ⟨0, 0, none, 0, by omega, rfl, rfl, by omega, by unfold Hid kpL; simp, by unfold kpL; simp; exact Own1.start (Below.refl _ _) _ _⟩
    case round =>
      obtain ⟨k, len, A4, c4, hk, rfl, rfl, hlk, HLE, HO⟩ := hrel
      by_cases hlt : k < k0
      · have hkn : (k : Int) < (k0 : Int) := by omega
        have hkY : k < Y.length := by have := HN.out; omega
        obtain ⟨b, off, rfl, hbl, hc⟩ := (HS.out.below HO.out.low).2.2 (by omega)
        obtain ⟨hmem, hat⟩ := pr_at hkY
        obtain ⟨c0, c1, c2⟩ := snC_at _ _ _ hat
        have HA0 : Hid (∀ w', Below wr.heap.size wr w' → w'.cell? ⟨b, off + k * 3, none⟩ = some (.int .i64 (Y.getD k zPr).1.fm) ∧ w'.cell? ⟨b, off + k * 3 + 1, none⟩ = some (.int .i64 (Y.getD k zPr).1.to) ∧ w'.cell? ⟨b, off + k * 3 + 2, none⟩ = some (.slice (Y.getD k zPr).1.a (Y.getD k zPr).1.n (Y.getD k zPr).1.c)) := fun w' hb => by
          refine ⟨cell_same (hb.block b hbl) (hc _ _ c0), ?_, ?_⟩
          · have := cell_same (hb.block b hbl) (hc _ _ c1); rwa [← Nat.add_assoc] at this
          · have := cell_same (hb.block b hbl) (hc _ _ c2); rwa [← Nat.add_assoc] at this
        have HP := Lib.hid ((HY.out _ hmem).below HO.out.low)
        have hps := HPS.out _ hmem
        have HKS := Lib.hid (kpL_succ hkY)
        obtain ⟨bb, hbb⟩ : ∃ bb, delB (Y.getD k zPr) = bb := ⟨_, rfl⟩
        have HBB := Lib.hid hbb
        rw [hbb] at HKS
        clear hbb hc c0 c1 c2 hmem hat hbl hkY
        generalize Y.getD k zPr = p at *
        obtain ⟨⟨xf, xt, xa, xn, xc⟩, ⟨yf, yt, ps⟩⟩ := p
        dsimp only at hps
        obtain ⟨a0, a1, a2⟩ := HA0.out _ (Below.refl _ _)
        dsimp only at a0 a1 a2
        have hxn : xn = ps.length := HP.out.1.2.2
        have HCC := Lib.hid (rconcordant_any xa xn xc ps wr HP.out.2 hxn (by omega))
        have HBC : Hid (rconB ps = bb) := (conc_eq ps).symm.trans HBB.out
        clear hxn
        cases bb with
        | true =>
          have HK2 : Hid (kpL Y (k + 1) = kpL Y k) := by unfold Hid; rw [HKS.out]; simp
          go_wp2_with (go_at_call 36; refine HCC.out.mono ?_; rintro e w2 ⟨rfl, hb2⟩; rw [HBC.out])
          go_roundw
          case rel => exact ⟨k + 1, len, A4, c4, by omega, by first | rfl | go_num, rfl, by omega, by rw [HK2.out]; exact HLE.out, by rw [HK2.out]; exact HO.out.below hb2⟩
          case measure => simp [intOf]; omega
        | false =>
          have HK2 : Hid (kpL Y (k + 1) = kpL Y k ++ [(⟨xf, xt, xa, xn, xc⟩, ⟨yf, yt, ps⟩)]) := by unfold Hid; rw [HKS.out]; simp
          have hml : len + 1 ≤ maxLen := Nat.le_trans (show len + 1 ≤ 100000 by omega) (by decide)
          go_wp2_with (first
            | (go_at_call 36; refine HCC.out.mono ?_; rintro e w2 ⟨rfl, hb2⟩; rw [HBC.out]; clear a0 a1 a2; obtain ⟨a0, a1, a2⟩ := HA0.out _ hb2; dsimp only at a0 a1 a2; have HO2 := Lib.hid (HO.out.below hb2); have D := Lib.hid (And.intro (World.news_of_block (heap_alloc_new w2 (.cells #[.int .i64 xf, .int .i64 xt, .slice xa xn xc] 82))) (oneS3 xf xt xa xn xc)); clear hb2)
            | (at_builtin; go_loud (refine wpList_append_own _ rfl _ _ 40 rfl w1.heap.size 82 i0 _ 3 40 Try.underlying40 ii1 ii2 ii3 ii4 rfl (by decide) (.slice A4 len c4) len _ rfl (HO2.out.own.alloc _) ⟨w2.heap.size, 0, none⟩ 1 1 [.int .i64 xf, .int .i64 xt, .slice xa xn xc] rfl rfl D.out.1 D.out.2 hml (by omega) (by have := HO2.out.low.size; simp; omega) ?_)))
          intro v' w3 hown' hgrow _
          obtain ⟨A5, c5, rfl, hO3, _⟩ := Own1.step HO2.out (Below.refl _ _) rfl hown' hgrow
          have HO4 : Hid (Own1 w1 w3 82 3 A5 (len + 1) c5 (snC ((kpL Y (k + 1)).map Prod.fst))) := by
            unfold Hid
            rw [HK2.out, List.map_append, List.map_cons, List.map_nil, snC_snoc]
            exact hO3
          have HL4 : Hid (len + 1 = (kpL Y (k + 1)).length) := by unfold Hid; rw [HK2.out, List.length_append, ← HLE.out]; rfl
          clear hown' hgrow hO3 a0 a1 a2
          go_wp2_with (fail)
          go_roundw
          case rel => exact ⟨k + 1, len + 1, A5, c5, by omega, by first | rfl | go_num, rfl, by omega, HL4.out, HO4.out⟩
          case measure => simp [intOf]; omega
      · obtain rfl : k = k0 := by omega
        have HF : Hid (SnIn wr A4 len c4 V) := by
          unfold Hid
          rw [HCL.out, ← HYU.out, ← kpL_all (n := k) (by have := HN.out; omega)]
          refine SnIn.of_pairs HLE.out (fun p hp => ?_) HO.out.sl
          exact (HY.out p (List.mem_of_mem_take (List.mem_filter.1 hp).1)).below HO.out.low
        go_wp2_with (fail)
        go_ret2
        exact ⟨A4, len, c4, rfl, HF.out, bx (bt HB1.out HO.out.low)⟩
  · have hXb : (X != 0) = true := by simpa using hX
    have HVZ : Hid (V = []) := by unfold Hid; rw [HCL.out, HZ.out hX]; rfl
    clear hX HZ
    go_enter Try.func15, Try.ntmps15
    go_wp2_with (go_at_call 13; refine HSN.out.mono ?_; rintro e w1 ⟨B, k, d, rfl, hk, hb1⟩; clear hk)
    go_ret2
    exact ⟨none, 0, 0, rfl, by rw [HVZ.out]; exact SnIn.nil _, bx hb1⟩

end Go.Proofs.Ytpcehgifpajmbaa

/- The law SoundSonorities returns true for every piece. -/
namespace Go.Proofs.Ytpcehgifpajmbaa
open Go Go.RowKit

set_option maxRecDepth 100000 in
set_option maxHeartbeats 4000000 in
theorem sameSons_eq (A : Option Addr) (n c : Nat) (B : Option Addr) (d : Nat) (U : List Sn) (w : World) (hA : SnIn w A n c U) (hB : SnIn w B n d U) (hb : n ≤ 1000) (hps : ∀ y ∈ U, y.ps.length ≤ 128) :
    Calls Try.prog 16 #[.slice A n c, .slice B n d] w fun e w' => e = .returned (.bool true) ∧ Below w.heap.size w w' := by
  have HA := Lib.hid hA
  have HB := Lib.hid hB
  have HPS := Lib.hid hps
  clear hA hB hps
  go_enter Try.func16, Try.ntmps16
  go_wp2_with (fail)
  go_loopw [5] (fun i wr => ∃ k : Nat, k ≤ n ∧ i = .int .i64 k ∧ Below w.heap.size w wr) (fun i _ => n - (intOf i).toNat)
  case atStart => exact ⟨0, by omega, rfl, Below.refl _ _⟩
  case round =>
    obtain ⟨k, hk, rfl, hbw⟩ := hrel
    have HW := Lib.hid hbw
    clear hbw
    by_cases hlt : k < n
    · have hkn : (k : Int) < (n : Int) := by omega
      obtain ⟨b1, o1, pa, pc, rfl, hb1, hU1, a0, a1, a2, hp1⟩ := (HA.out.below HW.out).at hlt
      obtain ⟨b2, o2, pb, pd, rfl, hb2, _, b0, b1', b2', hp2⟩ := (HB.out.below HW.out).at hlt
      have hl := HPS.out _ (List.mem_of_getElem? hU1)
      have HPP := Lib.hid (And.intro hp1 hp2)
      clear hp1 hp2 hU1
      generalize U.getD k zSn = s at *
      obtain ⟨sf, st, ps⟩ := s
      dsimp only at a0 a1 a2 b0 b1' b2' hl HPP
      have HSS := Lib.hid (sameInts5_eq _ _ _ _ _ ps _ (HPP.out.1.below (Below.refl _ _).drew) (HPP.out.2.below (Below.refl _ _).drew) rfl (by omega))
      have HC : Hid (∀ w', Below wr.heap.size wr w' → (w'.cell? ⟨b1, o1 + k * 3, none⟩ = some (.int .i64 sf) ∧ w'.cell? ⟨b1, o1 + k * 3 + 1, none⟩ = some (.int .i64 st) ∧ w'.cell? ⟨b1, o1 + k * 3 + 2, none⟩ = some (.slice pa ps.length pc)) ∧ w'.cell? ⟨b2, o2 + k * 3, none⟩ = some (.int .i64 sf) ∧ w'.cell? ⟨b2, o2 + k * 3 + 1, none⟩ = some (.int .i64 st) ∧ w'.cell? ⟨b2, o2 + k * 3 + 2, none⟩ = some (.slice pb ps.length pd)) := fun w' hb =>
        ⟨⟨cell_same (hb.block b1 hb1) a0, cell_same (hb.block b1 hb1) a1, cell_same (hb.block b1 hb1) a2⟩, cell_same (hb.block b2 hb2) b0, cell_same (hb.block b2 hb2) b1', cell_same (hb.block b2 hb2) b2'⟩
      clear hb1 hb2 a0 a1 a2 b0 b1' b2'
      go_wp2_with (fail)
      go_region_held_law (fun w' => (w'.cell? ⟨b1, o1 + k * 3, none⟩ = some (.int .i64 sf) ∧ w'.cell? ⟨b1, o1 + k * 3 + 1, none⟩ = some (.int .i64 st) ∧ w'.cell? ⟨b1, o1 + k * 3 + 2, none⟩ = some (.slice pa ps.length pc)) ∧ w'.cell? ⟨b2, o2 + k * 3, none⟩ = some (.int .i64 sf) ∧ w'.cell? ⟨b2, o2 + k * 3 + 1, none⟩ = some (.int .i64 st) ∧ w'.cell? ⟨b2, o2 + k * 3 + 2, none⟩ = some (.slice pb ps.length pd))
        (first | exact HC.out _ (bt (Below.refl _ _).drew hbl) | exact HC.out _ (Below.refl _ _).drew)
        ((go_at_call 11; refine HSS.out.mono ?_; rintro e wl ⟨rfl, hbl⟩))
      all_goals (
        have HBL := Lib.hid (bt HW.out (bt (Below.refl _ _).drew hbl))
        clear hbl
        go_wp2_with (fail)
        go_roundw
        case rel => exact ⟨k + 1, by omega, by first | rfl | go_num, HBL.out⟩
        case measure => simp [intOf]; omega)
    · have hkn : ¬ ((k : Int) < (n : Int)) := by omega
      go_wp2_with (fail)
      go_ret
      exact ⟨rfl, HW.out⟩

set_option maxRecDepth 100000 in
set_option maxHeartbeats 16000000 in
theorem law_ssons (A : Option Addr) (n c : Nat) (A' : Option Addr) (m c' : Nat) (A2 : Option Addr) (q cq : Nat) (C : List Cr) (S : List Int) (P : List EvP) (w : World) (hP : PcIn w A n c A' m c' A2 q cq C S P) :
    Calls Try.prog 4 #[pcV A n c A' m c' A2 q cq] w fun e w' => e = .returned (.bool true) ∧ Below w.heap.size w w' := by
  have HE : Hid (∀ w', Below (w.alloc (pcO A n c A' m c' A2 q cq)).heap.size (w.alloc (pcO A n c A' m c' A2 q cq)) w' → PcIn w' A n c A' m c' A2 q cq C S P) :=
    fun w' h => (hP.below (ba _ _)).below h
  have hql := hP.es.hq
  have HI := Lib.hid (HE.out _ (Below.refl _ _))
  clear hP
  cases hbg : plongB n m P with
  | true =>
    have HB := Lib.hid hbg
    clear hbg hql
    go_enter Try.func4, Try.ntmps4
    go_wp2_with (first | (go_at_call 6; refine (plong_any A n c A' m c' A2 q cq P _ HI.out.es).mono ?_; rintro e w1 ⟨rfl, hb1⟩; rw [HB.out]) | (go_at_call 7; refine (works5 _).mono ?_; rintro e w2 ⟨rfl, hb2⟩))
    go_ret
    exact ⟨rfl, bx (bt hb1 hb2)⟩
  | false =>
    have HB := Lib.hid hbg
    obtain ⟨l1, l2, l3, l4⟩ := pbigB_no (plongB_no hbg).1
    have b1 : n ≤ 65536 := by omega
    have b2 : m ≤ 65536 := by omega
    have b3 : q ≤ 65536 := by omega
    have HST : Hid (∀ y ∈ P, y.L.length ≤ 65536) := fun y hy => Nat.le_trans (l4 y hy) (by omega)
    have HSU : Hid (∀ y ∈ P, y.L.length ≤ 1000000) := fun y hy => Nat.le_trans (l4 y hy) (by omega)
    have d1 : n ≤ 1000000 := by omega
    have d2 : m ≤ 1000000 := by omega
    have HBD := Lib.hid (snL_bd C S P)
    have HBV : Hid ((clL C S P).length ≤ 400 ∧ ∀ y ∈ clL C S P, y.ps.length ≤ 128) :=
      ⟨Nat.le_trans (List.length_filter_le _ _) HBD.out.1, fun y hy => HBD.out.2 y (List.mem_filter.1 hy).1⟩
    clear hbg hql l1 l2 l3 l4
    have CN := Lib.hid (fun w' (h : PcIn w' A n c A' m c' A2 q cq C S P) => rsons_any A n c A' m c' A2 q cq C S P w' h d1 d2 b3 HSU.out)
    have CL := Lib.hid (fun w' (h : PcIn w' A n c A' m c' A2 q cq C S P) => rclashes_any A n c A' m c' A2 q cq C S P w' h d1 d2 b3 HSU.out)
    have DN : Hid (∀ (B : Option Addr) (e : Nat) (B' : Option Addr) (e' : Nat) (B2 : Option Addr) (e2 : Nat) w' (_ : PcIn w' B n e B' m e' B2 q e2 C S P), Calls Try.prog 12 #[pcV B n e B' m e' B2 q e2] w' (SnPost (snL C S P) (pcErr C S P) w')) := fun B e B' e' B2 e2 w' h => sons_any B n e B' m e' B2 q e2 C S P w' h d1 d2 b3 HSU.out
    have DL : Hid (∀ (B : Option Addr) (e : Nat) (B' : Option Addr) (e' : Nat) (B2 : Option Addr) (e2 : Nat) w' (_ : PcIn w' B n e B' m e' B2 q e2 C S P), Calls Try.prog 14 #[pcV B n e B' m e' B2 q e2] w' fun e w2 => ∃ B k d, e = .returned (.tuple #[.slice B k d, .int .i64 (pcErr C S P)]) ∧ SnIn w2 B k d (clL C S P) ∧ Below w'.heap.size w' w2) := fun B e B' e' B2 e2 w' h => clashes_any B n e B' m e' B2 q e2 C S P w' h d1 d2 b3 HSU.out
    unfold SnPost2 at CN CL
    unfold SnPost at DN
    generalize pcErr C S P = X at *
    generalize clL C S P = V at *
    generalize snL C S P = U at *
    go_enter Try.func4, Try.ntmps4
    go_wp2_with (first
      | (go_at_call 6; refine (plong_any A n c A' m c' A2 q cq P _ HI.out.es).mono ?_; rintro e w1 ⟨rfl, hb1⟩; rw [HB.out]; have T := hb1; clear hb1; obtain ⟨x0, x1, x2⟩ := cell3 T)
      | (go_at_call 9; refine (pcopy_any A n c A' m c' A2 q cq C S P _ (HE.out _ T) b1 b2 b3 HST.out).mono ?_; rintro e wc ⟨B, d, B', d', B2, d2', rfl, hPc, hbc⟩; replace T := bt T hbc; have HPc := Lib.hid hPc; (try have HSA := Lib.hid (HSA.out.below hbc)); (try have HSB := Lib.hid (HSB.out.below hbc)); clear hPc hbc x0 x1 x2; obtain ⟨x0, x1, x2⟩ := cell3 T)
      | (go_at_call 12; refine (DN.out _ _ _ _ _ _ _ HPc.out).mono ?_; rintro e wk ⟨Ba, na, da, Za, rfl, hna, hsa, hza, hbk⟩; replace T := bt T hbk; have HSA := Lib.hid (snPost_in hna hsa hza); clear hna hsa hza hbk x0 x1 x2; obtain ⟨x0, x1, x2⟩ := cell3 T)
      | (go_at_call 13; refine (CN.out _ (HE.out _ T)).mono ?_; rintro e wb ⟨Bb, nb, db, rfl, hsb, hbr⟩; replace T := bt T hbr; obtain rfl : na = nb := HSA.out.1.trans hsb.1.symm; have HSB := Lib.hid hsb; have HSA := Lib.hid (HSA.out.below hbr); have hnab : na ≤ 1000 := (by have := HSA.out.1; have := HBD.out.1; omega); clear hsb hbr x0 x1 x2; obtain ⟨x0, x1, x2⟩ := cell3 T)
      | (go_at_call 14; refine (DL.out _ _ _ _ _ _ _ HPc.out).mono ?_; rintro e wd ⟨Bd, nd, dd, rfl, hsd, hbk⟩; replace T := bt T hbk; have HSD := Lib.hid hsd; have HSA := Lib.hid (HSA.out.below hbk); have HSB := Lib.hid (HSB.out.below hbk); clear hsd hbk x0 x1 x2; obtain ⟨x0, x1, x2⟩ := cell3 T)
      | (go_at_call 15; refine (CL.out _ (HE.out _ T)).mono ?_; rintro e we ⟨Be, ne, de, rfl, hse, hbr⟩; replace T := bt T hbr; obtain rfl : nd = ne := HSD.out.1.trans hse.1.symm; have HSE := Lib.hid hse; have HSD := Lib.hid (HSD.out.below hbr); have HSA := Lib.hid (HSA.out.below hbr); have HSB := Lib.hid (HSB.out.below hbr); have hnd : nd ≤ 1000 := (by have := HSD.out.1; have := HBV.out.1; omega); have HQ1 := Lib.hid (sameSons_eq _ _ _ _ _ U _ HSA.out HSB.out hnab HBD.out.2); clear hse hbr x0 x1 x2; obtain ⟨x0, x1, x2⟩ := cell3 T)
      | (go_at_call 16; refine HQ1.out.mono ?_; rintro e wf ⟨rfl, hbf⟩; replace T := bt T hbf; have HQ2 := Lib.hid (sameSons_eq _ _ _ _ _ V _ (HSD.out.below hbf) (HSE.out.below hbf) hnd HBV.out.2); clear HQ1 hbf)
      | (go_at_call 16; refine HQ2.out.mono ?_; rintro e wg ⟨rfl, hbg2⟩; replace T := bt T hbg2; clear hbg2)
      | (go_at_call 7; refine (works5 _).mono ?_; rintro e wz ⟨rfl, hbz⟩))
    go_ret
    exact ⟨rfl, bx (bt T hbz)⟩

end Go.Proofs.Ytpcehgifpajmbaa

/- SoundSonorities: for every input the law returns true, and its arguments read behind the call as they read before. -/
namespace Go.Proofs.Ytpcehgifpajmbaa
open Go.ChangeShapes Go.WideShapes Go.ChangeAt Go.RowKit Go.Deep

set_option maxRecDepth 100000 in
theorem ssons_lifted (os : Os) (started : os.Started) (H : Type) (enc : TypeId × Value → H) :
    ReturnsInHanded {} Try.checked os 4 .any (fun w args => Rows.soundSonoritiesSpec.pre enc Try.prog Try.f4 Rows.soundSonoritiesRow.domain false w args ∧ sizedMet enc Try.prog Try.f4 (OpenSpec.ofChange Rows.soundSonoritiesSpec) false w args)
      (Rows.soundSonoritiesSpec.post enc Try.prog Try.f4 false true false false) := by
  refine liftN (C := Try.checked) ownN started Try.func4 (by kernel_rfl)
    (ChangeSpec.witness_shaped (enc := enc) (C := Try.checked) (os := os) (X := fun _ _ => True) false (World.laidAll Try.prog os Rows.soundSonoritiesRow.laid) #[.agg #[.slice none 0 0, .slice none 0 0, .slice none 0 0]] 8 (World.laidAll_os _ _ _)
      (World.shaped_of_ZipB (by kernel_rfl) (by kernel_rfl)) (by kernel_rfl) (by kernel_rfl) (by kernel_rfl)
      trivial) ?_
  intro W base args ds gs before hval0 hW
  have hval : ∀ (j : Nat) t v, Try.f4.params[j]? = some t → args[j]? = some v → Value.okWide Try.prog W .any base t v := hval0
  have hW' := hW
  obtain ⟨p, q, hA0, hV, rfl, hfz, hnd⟩ := hW
  have hA : DataW.TrodAll enc Try.prog W 0 (fun _ => true) true Try.f4.params.toList args.toList ds p := hA0
  rw [Try.params4] at hA hval
  obtain ⟨v0, d0, rfl, rfl, h0⟩ := trodAll_one hA
  obtain ⟨rfl, rfl⟩ := trodVars_none hV
  obtain ⟨A0, n0, c0, B0, m0, k0, D0, q0, e0, C0, S0, P0, rfl, hP0, _, _, _⟩ := open_piece (hval 0 28 v0 rfl rfl) h0
  refine (law_ssons A0 n0 c0 B0 m0 k0 D0 q0 e0 C0 S0 P0 W hP0).mono fun e W' ⟨he, hb⟩ => ?_
  subst he
  exact ⟨_, rfl, post_lawN Try.laidOutN rfl hW' ⟨rfl, rfl, rfl⟩ rfl Try.underlying4 (by rw [Try.params4]; intro t ht; simp at ht; subst ht; exact ⟨by kernel_rfl, of_decide_eq_true (by kernel_rfl)⟩) hb⟩

theorem ssons_holds : Rows.SoundSonoritiesSaid :=
  OpenClaim.holds_of_wide 4 Try.f4 rfl rfl rfl rfl rfl rfl rfl ⟨rfl, rfl, rfl, rfl, rfl⟩ rfl rfl rfl rfl rfl (by kernel_rfl) Try.func4 (by kernel_rfl)
    (of_decide_eq_true (by kernel_rfl)) (by unfold Func.isWrapper; rw [if_neg (of_decide_eq_false (by kernel_rfl))]; exact ⟨rfl, rfl⟩)
    (fun os started H enc _ => ssons_lifted os started H enc)
#print axioms ssons_holds

end Go.Proofs.Ytpcehgifpajmbaa
