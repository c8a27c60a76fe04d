/- What the reference's position and Spell return. -/
import Derived.Test.YtdaeanjjmbibmaaDoorRefSpellP
import Derived.Test.YtdaeanjjmbibmaaDoorCheckAll
namespace Go.Proofs.YtdaeanjjmbibmaaDoor
open Go.RowKit

set_option maxHeartbeats 1600000 in
theorem position_any (k : Nat) (a : Int) (w : World) (hk : k < 7) (h0 : -1 ≤ a) (h1 : a ≤ 1) :
    Calls Tryd.prog 91 #[.int .i64 k, .int .i64 a] w fun e w' => e = .returned (.int .i64 (fif k + 7 * a)) ∧ Below w.heap.size w w' := by
  have : k = 0 ∨ k = 1 ∨ k = 2 ∨ k = 3 ∨ k = 4 ∨ k = 5 ∨ k = 6 := by omega
  rcases this with rfl | rfl | rfl | rfl | rfl | rfl | rfl
  all_goals
    go_enter Tryd.func91, Tryd.ntmps91
    go_wp2_with (fail)
    go_ret
    exact ⟨ret_int (by simp [fif]), ba _ _⟩

abbrev zS2 : Obj := .cells #[.int .i64 0, .int .i64 0, .int .i64 0] 86
set_option maxRecDepth 100000 in
set_option maxHeartbeats 16000000 in
theorem rspell_any (p key : Int) (w : World) :
    Calls Tryd.prog 56 #[.int .i64 p, .int .i64 key] w fun e w' => e = .returned (.tuple #[.agg #[.int .i64 (spL p key), .int .i64 (spAl p key), .int .i64 (spOc p key)], .int .i64 (spE p key)]) ∧ Below w.heap.size w w' := by
  by_cases hp : isP p = false
  · have H : Hid (spL p key = 0 ∧ spAl p key = 0 ∧ spOc p key = 0 ∧ spE p key = 10) := by simp [Hid, spL, spAl, spOc, spE, hp]
    have hp2 : p < 0 ∨ (127 < p ∧ ¬ p < 0) := by simp [isP] at hp; omega
    clear hp
    rcases hp2 with hp | ⟨hp, hp0⟩
    all_goals
      go_enter Tryd.func56, Tryd.ntmps56
      go_wp2_with (fail)
      refine bodyPost_ret (v := .tuple #[.agg #[.int .i64 0, .int .i64 0, .int .i64 0], .int .i64 10]) ?_ rfl ?_
      · simp [results, Tryd.results56, go_sem]
        done
      · rw [H.out.1, H.out.2.1, H.out.2.2.1, H.out.2.2.2]
        exact ⟨rfl, ba _ _⟩
  · replace hp : isP p = true := by simpa using hp
    obtain ⟨p1, p2⟩ := isP_iff.1 hp
    have p3 : ¬ p < 0 := by omega
    have p4 : ¬ 127 < p := by omega
    by_cases hk : key < -4 ∨ 4 < key
    · have H : Hid (spL p key = 0 ∧ spAl p key = 0 ∧ spOc p key = 0 ∧ spE p key = 1) := by simp [Hid, spL, spAl, spOc, spE, hp, hk]
      have hk2 : key < -4 ∨ (4 < key ∧ ¬ key < -4) := by omega
      clear hp hk
      rcases hk2 with hk | ⟨hk, hk0⟩
      all_goals
        go_enter Tryd.func56, Tryd.ntmps56
        go_wp2_with (fail)
        refine bodyPost_ret (v := .tuple #[.agg #[.int .i64 0, .int .i64 0, .int .i64 0], .int .i64 1]) ?_ rfl ?_
        · simp [results, Tryd.results56, go_sem]
          done
        · rw [H.out.1, H.out.2.1, H.out.2.2.1, H.out.2.2.2]
          exact ⟨rfl, ba _ _⟩
    · have k1 : -4 ≤ key := by omega
      have k2 : key ≤ 4 := by omega
      have k3 : ¬ key < -4 := by omega
      have k4 : ¬ 4 < key := by omega
      have HF := Lib.hid (fun j => rs_found (p := p) (key := key) p1 p2 k1 k2 (j := j))
      have HNo := Lib.hid (rs_none (p := p) (key := key) p1 p2 k1 k2)
      clear hp hk
      go_enter Tryd.func56, Tryd.ntmps56
      go_wp2_with (fail)
      go_loopw [6, 7] (fun i _ wr => ∃ (o : Nat) (ov : Int), o ≤ 11 ∧ ov = (o : Int) - 1 ∧ i = .int .i64 ov ∧ (∀ j, j < 21 * o → rsOk p key j = false) ∧ Below (w.alloc zS2).heap.size (w.alloc zS2) wr) (fun i _ _ => (10 - intOf i).toNat)
      case atStart => exact ⟨0, -1, by omega, by omega, rfl, fun n hn => by omega, Below.refl _ _⟩
      case round =>
        obtain ⟨o, ov, ho, hov, rfl, hno, hb⟩ := hrel
        have HN1 := Lib.hid hno
        have HOV := Lib.hid hov
        have HB1 := Lib.hid hb
        have o1 : -1 ≤ ov := by omega
        have o2 : ov ≤ 10 := by omega
        clear hno hb
        by_cases hlo : o < 11
        · have o3 : ov ≤ 9 := by omega
          clear hov
          go_wp2_with (fail)
          go_loopw [7, 8] (fun l _ wr => ∃ k : Nat, k ≤ 7 ∧ l = .int .i64 k ∧ (∀ j, j < 21 * o + 3 * k → rsOk p key j = false) ∧ Below (w.alloc zS2).heap.size (w.alloc zS2) wr) (fun l _ _ => 7 - (intOf l).toNat)
          case atStart => exact ⟨0, by omega, rfl, HN1.out, HB1.out⟩
          case round =>
            obtain ⟨k, hk, rfl, hno2, hb2⟩ := hrel
            have HN2 := Lib.hid hno2
            have HB2 := Lib.hid hb2
            clear hno2 hb2
            by_cases hlk : k < 7
            · have hk7 : decide ((k : Int) < 7) = true := by simp; omega
              obtain ⟨f1, f2⟩ := fif_bd k hlk
              have HLK := Lib.hid hlk
              go_wp2_with (fail)
              go_loopw [8, 9, 10, 11, 12] (fun s _ _ _ _ wr => ∃ (q : Nat) (a : Int), q ≤ 3 ∧ a = (q : Int) - 1 ∧ s = .int .i64 a ∧ (∀ j, j < 21 * o + 3 * k + q → rsOk p key j = false) ∧ Below (w.alloc zS2).heap.size (w.alloc zS2) wr) (fun s _ _ _ _ _ => (3 - intOf s).toNat)
              case atStart => exact ⟨0, -1, by omega, by omega, rfl, HN2.out, HB2.out⟩
              case round =>
                obtain ⟨q, a, hq, haq, rfl, hno3, hb3⟩ := hrel
                have HN3 := Lib.hid hno3
                have HAQ := Lib.hid haq
                have HB3 := Lib.hid hb3
                have hz : w.heap.size < wr.heap.size := by have := hb3.size; simp at this; omega
                have a1 : -1 ≤ a := by omega
                have a2 : a ≤ 2 := by omega
                clear hno3 hb3 hlk
                by_cases hq3 : q < 3
                · have a3 : a ≤ 1 := by omega
                  have hR := rs_ok p key o k q HLK.out hq3
                  rw [← HAQ.out, ← HOV.out] at hR
                  have HR := Lib.hid hR
                  have HPO := Lib.hid (fun w' => position_any k a w' HLK.out a1 a3)
                  clear haq hR
                  have hmiss : rsOk p key (21 * o + 3 * k + q) = false → ∀ j, j < 21 * o + 3 * k + (q + 1) → rsOk p key j = false := fun h => rs_more HN3.out h
                  have HMS := Lib.hid hmiss
                  clear hmiss
                  cases hrg : rgt k a ov with
                  | false =>
                    have HS : Hid (sndP k a ov = 0 ∧ sndE k a ov = 10) := by simp [Hid, sndP, sndE, hrg]
                    have HM := Lib.hid (HMS.out (by rw [HR.out, hrg]; simp))
                    clear hrg
                    go_wp2_with (first | (go_at_call 91; refine (HPO.out _).mono ?_; rintro e w2 ⟨rfl, hb2⟩) | (go_at_call 92; refine (rsounding_any _ _ _ _).mono ?_; rintro e w3 ⟨rfl, hb3⟩; rw [HS.out.1, HS.out.2]; have hbu := bt HB3.out (bt hb2 (bx hb3))))
                    go_roundw
                    case rel => exact ⟨q + 1, a + 1, by omega, by have := HAQ.out; omega, rfl, HM.out, hbu⟩
                    case measure => simp [intOf]; omega
                  | true =>
                    by_cases hv : pit k a ov = p
                    · have HS : Hid (sndP k a ov = p ∧ sndE k a ov = 0) := by simp [Hid, sndP, sndE, hrg, hv]
                      by_cases h1 : fif k + 7 * a < key - 3
                      · have HM := Lib.hid (HMS.out (by rw [HR.out]; simp; intros; omega))
                        have h1' : ¬ (key - 3 ≤ fif k + 7 * a) := by omega
                        clear hrg hv
                        go_wp2_with (first | (go_at_call 91; refine (HPO.out _).mono ?_; rintro e w2 ⟨rfl, hb2⟩) | (go_at_call 92; refine (rsounding_any _ _ _ _).mono ?_; rintro e w3 ⟨rfl, hb3⟩; rw [HS.out.1, HS.out.2]; have hbu := bt HB3.out (bt hb2 (bx hb3))))
                        go_roundw
                        case rel => exact ⟨q + 1, a + 1, by omega, by have := HAQ.out; omega, rfl, HM.out, hbu⟩
                        case measure => simp [intOf]; omega
                      · have h1' : key - 3 ≤ fif k + 7 * a := by omega
                        by_cases h2 : key + 8 < fif k + 7 * a
                        · have HM := Lib.hid (HMS.out (by rw [HR.out]; simp; intros; omega))
                          have h2' : ¬ (fif k + 7 * a ≤ key + 8) := by omega
                          clear hrg hv
                          go_wp2_with (first | (go_at_call 91; refine (HPO.out _).mono ?_; rintro e w2 ⟨rfl, hb2⟩) | (go_at_call 92; refine (rsounding_any _ _ _ _).mono ?_; rintro e w3 ⟨rfl, hb3⟩; rw [HS.out.1, HS.out.2]; have hbu := bt HB3.out (bt hb2 (bx hb3))))
                          go_roundw
                          case rel => exact ⟨q + 1, a + 1, by omega, by have := HAQ.out; omega, rfl, HM.out, hbu⟩
                          case measure => simp [intOf]; omega
                        · have h2' : fif k + 7 * a ≤ key + 8 := by omega
                          have hfd := HF.out (21 * o + 3 * k + q) (by have := HLK.out; omega) (by rw [HR.out, hrg, hv]; simp; omega) HN3.out
                          obtain ⟨e1, e2, e3⟩ := rs_at o k q HLK.out hq3
                          rw [e1, e2, e3, ← HAQ.out, ← HOV.out] at hfd
                          have HFD := Lib.hid hfd
                          clear hrg hv hfd e1 e2 e3
                          go_wp2_with (first | (go_at_call 91; refine (HPO.out _).mono ?_; rintro e w2 ⟨rfl, hb2⟩) | (go_at_call 92; refine (rsounding_any _ _ _ _).mono ?_; rintro e w3 ⟨rfl, hb3⟩; rw [HS.out.1, HS.out.2]; have hbu := bt HB3.out (bt hb2 (bx hb3)); obtain ⟨t0, t1⟩ := keepb hbu 0; obtain ⟨t2, t3⟩ := keepb hbu 1; obtain ⟨t4, t5⟩ := keepb hbu 2; obtain ⟨v0, v1⟩ := keepb hb3 0; obtain ⟨v2, v3⟩ := keepb hb3 1; obtain ⟨v4, v5⟩ := keepb hb3 2; simp at t0 t2 t4 v0 v2 v4))
                          refine bodyPost_ret (v := .tuple #[.agg #[.int .i64 k, .int .i64 a, .int .i64 ov], .int .i64 0]) ?_ rfl ?_
                          · simp [results, Tryd.results56, go_sem, t0, t2, t4]
                            done
                          · rw [HFD.out.1, HFD.out.2.1, HFD.out.2.2.1, HFD.out.2.2.2]
                            exact ⟨rfl, bs3 (bx hbu) _ _ _⟩
                    · obtain ⟨v, hv2⟩ : ∃ v, pit k a ov = v := ⟨_, rfl⟩
                      rw [hv2] at hv
                      have HS : Hid (sndP k a ov = v ∧ sndE k a ov = 0) := by simp [Hid, sndP, sndE, hrg, hv2]
                      have hv3 : (v == p) = false := by simpa using hv
                      have HM := Lib.hid (HMS.out (by rw [HR.out, hv2]; simp [hv]))
                      clear hrg hv hv2
                      go_wp2_with (first | (go_at_call 91; refine (HPO.out _).mono ?_; rintro e w2 ⟨rfl, hb2⟩) | (go_at_call 92; refine (rsounding_any _ _ _ _).mono ?_; rintro e w3 ⟨rfl, hb3⟩; rw [HS.out.1, HS.out.2]; have hbu := bt HB3.out (bt hb2 (bx hb3))))
                      go_roundw
                      case rel => exact ⟨q + 1, a + 1, by omega, by have := HAQ.out; omega, rfl, HM.out, hbu⟩
                      case measure => simp [intOf]; omega
                · have a3 : ¬ a ≤ 1 := by omega
                  clear haq
                  go_wp2_with (fail)
                  go_roundw
                  case rel => exact ⟨k + 1, by have := HLK.out; omega, by go_num, fun j hj => HN3.out j (by omega), HB3.out⟩
                  case measure => have := HLK.out; simp [intOf]; omega
            · have hk7 : decide ((k : Int) < 7) = false := by simp; omega
              go_wp2_with (fail)
              go_roundw
              case rel => exact ⟨o + 1, ov + 1, by omega, by have := HOV.out; omega, rfl, fun j hj => HN2.out j (by omega), HB2.out⟩
              case measure => simp [intOf]; omega
        · have o3 : ¬ ov ≤ 9 := by omega
          have H := Lib.hid (HNo.out (fun j hj => HN1.out j (by omega)))
          obtain ⟨s0, s1⟩ := keepb HB1.out 0
          obtain ⟨s2, s3⟩ := keepb HB1.out 1
          obtain ⟨s4, s5⟩ := keepb HB1.out 2
          simp at s0 s2 s4
          have hz : w.heap.size < wr.heap.size := by have := HB1.out.size; simp at this; omega
          go_wp2_with (fail)
          refine bodyPost_ret (v := .tuple #[.agg #[.int .i64 0, .int .i64 0, .int .i64 0], .int .i64 10]) ?_ rfl ?_
          · simp [results, Tryd.results56, go_sem, s0, s2, s4]
            done
          · rw [H.out.1, H.out.2.1, H.out.2.2.1, H.out.2.2.2]
            exact ⟨rfl, bs3 (bx HB1.out) _ _ _⟩

end Go.Proofs.YtdaeanjjmbibmaaDoor
