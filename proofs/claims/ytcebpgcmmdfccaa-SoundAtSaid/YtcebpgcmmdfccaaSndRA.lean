/- Sound, the reference: the pitches that sound at a time (sounding, At), for any piece. -/
import Derived.Test.YtcebpgcmmdfccaaSndRS
namespace Go.Proofs.Ytcebpgcmmdfccaa
open Go Go.RowKit

theorem intC_snocA (S : List Int) (x : Int) : intC (S ++ [x]) = intC S ++ [.int .i64 x] := by simp [intC]
def psF (T : List Nt) (t : Int) (p : Int) : Bool := T.any fun x => sndB x t && decide (x.p = p)
def psK (T : List Nt) (t : Int) (k : Nat) : List Int := ((List.range k).map fun (k : Nat) => (k : Int)).filter (psF T t)
theorem psK_succ (T : List Nt) (t : Int) (k : Nat) : psK T t (k + 1) = if psF T t k then psK T t k ++ [(k : Int)] else psK T t k := by
  unfold psK
  rw [List.range_succ, List.map_append, List.filter_append]
  split
  · rename_i h; simp [h]
  · rename_i h; simp [h]
theorem psK_len (T : List Nt) (t : Int) (k : Nat) : (psK T t k).length ≤ k := by
  unfold psK
  refine Nat.le_trans (List.length_filter_le _ _) ?_
  simp
theorem psF_hit {T : List Nt} {t : Int} {k j : Nat} (hj : j < T.length) (h : (sndB (T.getD j zNt) t && decide ((T.getD j zNt).p = k)) = true) : psF T t k = true := by
  unfold psF
  rw [List.any_eq_true]
  exact ⟨_, getD_memN hj, h⟩
theorem psF_step {T : List Nt} {t : Int} {k j : Nat} (hj : j < T.length) (h0 : psF (T.take j) t k = false) (h : (sndB (T.getD j zNt) t && decide ((T.getD j zNt).p = k)) = false) : psF (T.take (j + 1)) t k = false := by
  have e : T.take (j + 1) = T.take j ++ [T.getD j zNt] := by rw [List.take_add_one]; simp [List.getElem?_eq_getElem hj]
  unfold psF at *
  rw [e, List.any_append, h0]
  simp only [List.any_cons, List.any_nil, Bool.or_false, Bool.false_or]
  exact h

set_option maxRecDepth 100000 in
set_option maxHeartbeats 4000000 in
theorem rpitches_any (A : Option Addr) (n c : Nat) (T : List Nt) (t : Int) (w : World) (hA : Sl w w.heap.size 5 A n c (ntC T)) (hn : n = T.length) (hlim : n ≤ 100000) :
    Calls Try.prog 64 #[.slice A n c, .int .i64 t] w fun e w' => ∃ B m d, e = .returned (.slice B m d) ∧ m = (psL T t).length ∧ Sl w' w'.heap.size 1 B m d (intC (psL T t)) ∧ Below w.heap.size w w' := by
  have HA : Hid (∀ w', Below w.heap.size w w' → Sl w' w'.heap.size 5 A n c (ntC T)) := fun w' hb => hA.below hb
  have HN := Lib.hid hn
  have HPS : Hid (psL T t = psK T t 128) := rfl
  have HTK : Hid (T.take n = T) := by unfold Hid; rw [hn]; exact List.take_length
  obtain ⟨i0, ii1, ii2, ii3, ii4⟩ := info_parts Try.info3'
  clear hA hn
  go_enter Try.func64, Try.ntmps64
  go_wp2_with (fail)
  go_loopw [6, 5, 7] (fun p l _ wr => ∃ (k : Nat) (A1 : Option Addr) (c1 : Nat), k ≤ 128 ∧ p = .int .i64 k ∧ l = .slice A1 (psK T t k).length c1 ∧ Own1 w wr 3 1 A1 (psK T t k).length c1 (intC (psK T t k))) (fun p _ _ _ => 128 - (intOf p).toNat)
  case atStart => exact ⟨0, none, 0, by omega, rfl, rfl, Own1.start (Below.refl _ _) _ _⟩
  case round =>
    obtain ⟨k, A1, c1, hk, rfl, rfl, hO⟩ := hrel
    have HO := Lib.hid hO
    clear hO
    by_cases hlt : k < 128
    · have hk127 : (k : Int) ≤ 127 := by omega
      have HSU := Lib.hid (psK_succ T t k)
      have hkl := psK_len T t k
      generalize psK T t k = L at *
      go_wp2_with (fail)
      go_loop [7, 5] (fun i l => ∃ j : Nat, j ≤ n ∧ i = .int .i64 j ∧ l = .slice A1 L.length c1 ∧ Hid (psF (T.take j) t k = false)) (fun i _ => n - (intOf i).toNat)
      case atStart => exact ⟨0, by omega, rfl, rfl, rfl⟩
      case round =>
        obtain ⟨j, hj, rfl, rfl, HF⟩ := hrel
        by_cases hjn : j < n
        · have hjn' : (j : Int) < (n : Int) := by omega
          obtain ⟨b, off, rfl, hb, hc⟩ := (HA.out _ HO.out.low).2.2 (by omega)
          have hjT : j < T.length := by have := HN.out; omega
          obtain ⟨_, _, j2, j3, j4⟩ := ntC_at T j hjT
          have a2 := hc _ _ j2
          have a3 := hc _ _ j3
          have a4 := hc _ _ j4
          rw [← Nat.add_assoc] at a2 a3 a4
          have HHIT := Lib.hid (psF_hit (t := t) (k := k) hjT)
          have HMISS := Lib.hid (psF_step (t := t) (k := k) hjT HF.out)
          clear hc j2 j3 j4 hb hjT
          generalize T.getD j zNt = x at *
          obtain ⟨xe, xc, xp, xf, xt⟩ := x
          dsimp only at a2 a3 a4 HHIT HMISS
          have HS : Hid (sndB ⟨xe, xc, xp, xf, xt⟩ t = (decide (xf ≤ t) && decide (t < xt))) := rfl
          by_cases hp : xp = k
          · subst hp
            by_cases hf : xf ≤ t
            · by_cases ht : t < xt
              · have HX : Hid (psF T t k = true) := HHIT.out (by rw [HS.out]; simp [hf, ht])
                have hml : L.length + 1 ≤ maxLen := Nat.le_trans (show L.length + 1 ≤ 1000 by omega) (by decide)
                go_wp2_with (at_builtin; go_loud (refine wpList_append_own _ rfl _ _ 23 rfl w.heap.size 3 i0 _ 1 8 Try.underlying23 ii1 ii2 ii3 ii4 rfl (by decide) (.slice A1 L.length c1) L.length _ rfl (HO.out.own.alloc _) ⟨wr.heap.size, 0, none⟩ 1 1 [.int .i64 k] rfl rfl (cell_one_new _ _ _) (by simp [Value.oneCell']) hml (by omega) (by have := HO.out.low.size; simp; omega) ?_))
                intro v' w3 hown' hgrow _
                obtain ⟨A4, c4, rfl, hO3, _⟩ := Own1.step HO.out (Below.refl _ _) rfl hown' hgrow
                have HO4 : Hid (Own1 w w3 3 1 A4 (psK T t (k + 1)).length c4 (intC (psK T t (k + 1)))) := by
                  unfold Hid
                  rw [HSU.out, if_pos HX.out, List.length_append, intC_snocA]
                  exact hO3
                have HL4 : Hid ((psK T t (k + 1)).length = L.length + 1) := by unfold Hid; rw [HSU.out, if_pos HX.out]; simp
                clear hown' hgrow hO3
                go_wp2_with (fail)
                go_roundw
                case rel => exact ⟨k + 1, A4, c4, by omega, by first | rfl | go_num, by rw [HL4.out], HO4.out⟩
                case measure => simp [intOf]; omega
              · have HX : Hid (psF (T.take (j + 1)) t k = false) := HMISS.out (by rw [HS.out]; simp [ht])
                go_wp2_with (fail)
                go_round
                case rel => exact ⟨j + 1, by omega, by first | rfl | go_num, rfl, HX⟩
                case measure => simp [intOf]; omega
            · have HX : Hid (psF (T.take (j + 1)) t k = false) := HMISS.out (by rw [HS.out]; simp [hf])
              go_wp2_with (fail)
              go_round
              case rel => exact ⟨j + 1, by omega, by first | rfl | go_num, rfl, HX⟩
              case measure => simp [intOf]; omega
          · have HX : Hid (psF (T.take (j + 1)) t k = false) := HMISS.out (by simp [hp])
            have hpb : (xp == (k : Int)) = false := by simpa using hp
            go_wp2_with (fail)
            go_round
            case rel => exact ⟨j + 1, by omega, by first | rfl | go_num, rfl, HX⟩
            case measure => simp [intOf]; omega
        · obtain rfl : j = n := by omega
          have HX : Hid (psK T t (k + 1) = L) := by
            have := HF.out
            rw [HTK.out] at this
            unfold Hid
            rw [HSU.out, if_neg (by rw [this]; simp)]
          have HO4 : Hid (Own1 w wr 3 1 A1 (psK T t (k + 1)).length c1 (intC (psK T t (k + 1)))) := by unfold Hid; rw [HX.out]; exact HO.out
          go_wp2_with (fail)
          go_roundw
          case rel => exact ⟨k + 1, A1, c1, by omega, by first | rfl | go_num, by rw [HX.out], HO4.out⟩
          case measure => simp [intOf]; omega
    · obtain rfl : k = 128 := by omega
      go_wp2_with (fail)
      go_ret
      exact ⟨A1, _, c1, rfl, by rw [HPS.out], by rw [HPS.out]; exact HO.out.sl, HO.out.low⟩

set_option maxRecDepth 100000 in
set_option maxHeartbeats 4000000 in
theorem rat5_any (A : Option Addr) (n c : Nat) (A' : Option Addr) (m c' : Nat) (A2 : Option Addr) (q cq : Nat) (C : List Cr) (S : List Int) (P : List EvP) (t : Int) (w : World) (hP : PcIn w A n c A' m c' A2 q cq C S P) (hnb : n ≤ 1000000) (hmb : m ≤ 1000000) (hq : q ≤ 65536) (hst : ∀ y ∈ P, y.L.length ≤ 1000000) :
    Calls Try.prog 33 #[pcV A n c A' m c' A2 q cq, .int .i64 t] w (NmPost (atLs C S P t) (atEr C S P t) w) := by
  have HP : Hid (∀ w', Below w.heap.size w w' → PcIn w' A n c A' m c' A2 q cq C S P) := fun w' hb => hP.below hb
  have HST := Lib.hid hst
  have DO := Lib.hid (fun w' (h : PcIn w' A n c A' m c' A2 q cq C S P) => rOnsets_any A n c A' m c' A2 q cq C S P w' h hnb hmb hq hst)
  have DS := Lib.hid (fun w' (h : PcIn w' A n c A' m c' A2 q cq C S P) => rstrings_any A n c A' m c' A2 q cq C S P w' h hnb hmb hq hst)
  unfold OnPost at DO
  unfold NtPost at DS
  unfold NmPost
  have HSL := Lib.hid (stL_len C S P)
  have HE : Hid (atEr C S P t = if pcErr C S P ≠ 0 then pcErr C S P else if t < 0 ∨ endT C S P ≤ t then 1 else 0) := rfl
  have HL : Hid (atLs C S P t = if atEr C S P t = 0 then psL (stL C S P) t else []) := rfl
  have HEN : Hid (endT C S P = if pcErr C S P = 0 then onAt (onsL C S P) ((onsL C S P).length - 1) else 0) := rfl
  have HOL : Hid (pcErr C S P = 0 → 0 < (onsL C S P).length ∧ (onsL C S P).length ≤ 100000) := fun h => by
    unfold onsL
    rw [if_pos h]
    have := (pcErr_ok h).2.1
    simp [sumL_len, frcL_len]
    omega
  clear hP hst
  generalize atEr C S P t = er at *
  generalize atLs C S P t = Z at *
  generalize stL C S P = T at *
  generalize endT C S P = en at *
  generalize onsL C S P = O at *
  generalize pcErr C S P = X at *
  by_cases hX : X = 0
  · subst hX
    have HEN2 : Hid (en = onAt O (O.length - 1)) := by unfold Hid; rw [HEN.out, if_pos rfl]
    have HOL2 := Lib.hid (HOL.out rfl)
    clear HEN HOL
    by_cases h0 : t < 0
    · have HEE : Hid (er = 1) := by unfold Hid; rw [HE.out, if_neg (by simp), if_pos (.inl h0)]
      have HLE : Hid (Z = []) := by unfold Hid; rw [HL.out, if_neg (by rw [HEE.out]; decide)]
      clear HE HL
      go_enter Try.func33, Try.ntmps33
      go_wp2_with (go_at_call 51; refine (DO.out _ (HP.out _ (ba w _))).mono ?_; rintro e w1 ⟨B, n1, d, rfl, hn1, hs1, hb1⟩; clear hn1 hs1)
      go_ret2
      rw [HEE.out, HLE.out]
      exact nm_nil (bx hb1)
    · by_cases h1 : en ≤ t
      · have HEE : Hid (er = 1) := by unfold Hid; rw [HE.out, if_neg (by simp), if_pos (.inr h1)]
        have HLE : Hid (Z = []) := by unfold Hid; rw [HL.out, if_neg (by rw [HEE.out]; decide)]
        clear HE HL
        go_enter Try.func33, Try.ntmps33
        go_wp2_with (go_at_call 51; refine (DO.out _ (HP.out _ (ba w _))).mono ?_; rintro e w1 ⟨B1, m1, d1, rfl, hn1, hs1, hb1⟩; have HM1 := Lib.hid hn1; have hm1 : 0 < m1 := (by have := HM1.out; have := HOL2.out; omega); have hm1b : m1 ≤ 100000 := (by have := HM1.out; have := HOL2.out; omega); obtain ⟨ob, oo, rfl, hob, hoc⟩ := hs1.2.2 (by omega); have o0 := hoc _ _ (intC_at O (m1 - 1) (by have := HM1.out; omega)); have HEQ : Hid (O.getD (m1 - 1) 0 = en) := (by unfold Hid; rw [HEN2.out, HM1.out]; rfl); rw [HEQ.out] at o0; obtain ⟨p0, p1, p2⟩ := cell3 hb1; have HB1 := Lib.hid hb1; clear hoc hob hn1 hs1 hb1)
        go_ret2
        rw [HEE.out, HLE.out]
        exact nm_nil (bx HB1.out)
      · have HEE : Hid (er = 0) := by unfold Hid; rw [HE.out, if_neg (by simp), if_neg (by omega)]
        have HLE : Hid (Z = psL T t) := by unfold Hid; rw [HL.out, if_pos HEE.out]
        clear HE HL
        go_enter Try.func33, Try.ntmps33
        go_wp2_with (first
          | (go_at_call 51; refine (DO.out _ (HP.out _ (ba w _))).mono ?_; rintro e w1 ⟨B1, m1, d1, rfl, hn1, hs1, hb1⟩; have HM1 := Lib.hid hn1; have hm1 : 0 < m1 := (by have := HM1.out; have := HOL2.out; omega); have hm1b : m1 ≤ 100000 := (by have := HM1.out; have := HOL2.out; omega); obtain ⟨ob, oo, rfl, hob, hoc⟩ := hs1.2.2 (by omega); have o0 := hoc _ _ (intC_at O (m1 - 1) (by have := HM1.out; omega)); have HEQ : Hid (O.getD (m1 - 1) 0 = en) := (by unfold Hid; rw [HEN2.out, HM1.out]; rfl); rw [HEQ.out] at o0; obtain ⟨p0, p1, p2⟩ := cell3 hb1; have HB1 := Lib.hid hb1; clear hoc hob hn1 hs1 hb1)
          | (go_at_call 25; refine (DS.out _ (HP.out _ (bx HB1.out))).mono ?_; rintro e w2 ⟨B2, n2, d2, rfl, hn2, hs2, hb2⟩; have HS2 := Lib.hid (And.intro hn2 hs2); have HB2 := Lib.hid (bt HB1.out hb2); clear hn2 hs2 hb2)
          | (go_at_call 64; refine (rpitches_any B2 n2 d2 T t _ HS2.out.2 HS2.out.1 (by have := HS2.out.1; have := HSL.out; omega)).mono ?_; rintro e w3 ⟨B3, n3, d3, rfl, hn3, hs3, hb3⟩; have HS3 := Lib.hid (And.intro hn3 hs3); clear hn3 hs3))
        go_ret2
        exact ⟨B3, n3, d3, by rw [HEE.out]; rfl, by rw [HLE.out]; exact HS3.out.1, by rw [HLE.out]; exact HS3.out.2, bx (bt HB2.out hb3)⟩
  · have hXb : (X != 0) = true := by simpa using hX
    have HEE : Hid (er = X) := by unfold Hid; rw [HE.out, if_pos hX]
    have HLE : Hid (Z = []) := by unfold Hid; rw [HL.out, if_neg (by rw [HEE.out]; exact hX)]
    clear hX HE HL
    go_enter Try.func33, Try.ntmps33
    go_wp2_with (go_at_call 51; refine (DO.out _ (HP.out _ (ba w _))).mono ?_; rintro e w1 ⟨B, n1, d, rfl, hn1, hs1, hb1⟩; clear hn1 hs1)
    go_ret2
    rw [HEE.out, HLE.out]
    exact nm_nil (bx hb1)

end Go.Proofs.Ytcebpgcmmdfccaa
