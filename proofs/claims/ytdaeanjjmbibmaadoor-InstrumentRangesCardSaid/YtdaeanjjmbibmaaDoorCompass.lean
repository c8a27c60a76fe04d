/- What the program's Compass returns for any instrument. -/
import Derived.Test.YtdaeanjjmbibmaaDoorSamePl
import Derived.Test.YtdaeanjjmbibmaaDoorPure11
namespace Go.Proofs.YtdaeanjjmbibmaaDoor
open Go.RowKit

theorem ret_iii {a b c d e f : Int} {k : IntKind} (h : a = b) (h2 : c = d) (h3 : e = f) : Ending.returned (.tuple #[.int .i64 a, .int .i64 c, .int k e]) = .returned (.tuple #[.int .i64 b, .int .i64 d, .int k f]) := by rw [h, h2, h3]

set_option maxRecDepth 100000 in
set_option maxHeartbeats 4000000 in
theorem compass_any (A A' : Option Addr) (n c m c' : Nat) (C : List Cr) (S : List Int) (w : World) (hC : Sl w w.heap.size 3 A n c (crC C)) (hS : Sl w w.heap.size 1 A' m c' (intC S)) (hn : n = C.length) (hm : m = S.length)
    (hb : n ≤ 9223372036854775807) (hb2 : m ≤ 9223372036854775807) :
    Calls Tryd.prog 12 #[.agg #[.slice A n c, .slice A' m c']] w fun e w' => e = .returned (.tuple #[.int .i64 (coLo C S), .int .i64 (coHi C S), .int .i64 (chk C S)]) ∧ Below w.heap.size w w' := by
  have hC1 := hC.below (ba w (iObj A n c A' m c'))
  have hS1 := hS.below (ba w (iObj A n c A' m c'))
  have HCK := Lib.hid (check_any A A' n c m c' C S _ hC1 hS1 hn hm hb hb2)
  have HC := Lib.hid hC1
  have HS := Lib.hid hS1
  have HN := Lib.hid hn
  have HM := Lib.hid hm
  clear hC hS hC1 hS1 hn hm
  by_cases h1 : chk C S = 0
  · have H1 := Lib.hid h1
    have HV : Hid (coLo C S = loL 127 C ∧ coHi C S = hiL S 0 C) := ⟨if_pos h1, if_pos h1⟩
    have HX := Lib.hid (fun k hk => chk_course h1 k hk)
    have HRI := Lib.hid (chk_ok h1).2.2.1
    clear h1
    go_enter Tryd.func12, Tryd.ntmps12
    go_wp2_with (go_at_call 45; refine HCK.out.mono ?_; rintro e w1 ⟨rfl, hb1⟩; rw [H1.out]; obtain ⟨q0, q1, hz, _⟩ := args1 hb1)
    go_loopw [16, 2, 3, 7] (fun i lo hi _ wr => ∃ (k : Nat) (bl bh : Int), k ≤ n ∧ i = .int .i64 k ∧ lo = .int .i64 bl ∧ hi = .int .i64 bh ∧ loL 127 C = loL bl (C.drop k) ∧ hiL S 0 C = hiL S bh (C.drop k) ∧ Below (w.alloc (iObj A n c A' m c')).heap.size (w.alloc (iObj A n c A' m c')) wr) (fun i _ _ _ _ => n - (intOf i).toNat)
    case atStart => exact ⟨0, 127, 0, by omega, rfl, rfl, rfl, rfl, rfl, hb1⟩
    case round =>
      obtain ⟨k, bl, bh, hk, rfl, rfl, rfl, hl, hh, hbw⟩ := hrel
      have HL := Lib.hid (And.intro hl hh)
      clear hl hh q0 q1 hz
      obtain ⟨q0, q1, hz, _⟩ := args1 hbw
      by_cases hlt : k < n
      · have hkn : (k : Int) < (n : Int) := by omega
        obtain ⟨b, off, rfl, hB, hc⟩ := (HC.out.below hbw).2.2 (by omega)
        obtain ⟨i0, i1, i2⟩ := crC_at C k (by have := HN.out; omega)
        have k0 := hc _ _ i0
        have k1 := hc _ _ i1
        have k2 := hc _ _ i2
        rw [← Nat.add_assoc] at k1 k2
        have HD := Lib.hid (drop_consC C k (by have := HN.out; omega))
        obtain ⟨x1, x2, x3, x4, x5, x6⟩ := HX.out k (by have := HN.out; omega)
        have x7 : (C.getD k z0).f ≤ m := by have := HM.out; omega
        obtain ⟨r1, r2⟩ := riseV_bd (f := (C.getD k z0).f) HRI.out x3 x4
        clear hc i0 i1 i2 x4
        generalize C.getD k z0 = x at *
        obtain ⟨xp, xf, xo⟩ := x
        dsimp only at k0 k1 k2 x1 x2 x3 x7 r1 r2
        obtain ⟨rv, hrv⟩ : ∃ rv, riseV S xf = rv := ⟨_, rfl⟩
        rw [hrv] at r1 r2
        have w64 : IntKind.i64.wrap (xp + rv) = xp + rv := IntWalk.i64_in _ ⟨by omega, by omega⟩
        have hba := bt hbw (ba wr (.cells #[.int .i64 xp, .int .i64 xf, .bool xo] 75))
        have HRS : Hid (∀ w', Below (wr.alloc (.cells #[.int .i64 xp, .int .i64 xf, .bool xo] 75)).heap.size (wr.alloc (.cells #[.int .i64 xp, .int .i64 xf, .bool xo] 75)) w' → Calls Tryd.prog 46 #[.slice A' m c', .int .i64 xf] w' fun e w2 => e = .returned (.int .i64 rv) ∧ w' = w2) := by
          intro w' h
          have := rise_any A' m c' S xf w' w'.heap.size (HS.out.below (bt hba h)) HM.out hb2 x3 x7
          rw [hrv] at this
          exact this
        have HK : Hid (∀ w', Below (wr.alloc (.cells #[.int .i64 xp, .int .i64 xf, .bool xo] 75)).heap.size (wr.alloc (.cells #[.int .i64 xp, .int .i64 xf, .bool xo] 75)) w' → w'.cell? ⟨w.heap.size, 0, none⟩ = some (.slice (some ⟨b, off, none⟩) n c) ∧ w'.cell? ⟨w.heap.size, 1, none⟩ = some (.slice A' m c') ∧ w'.cell? ⟨wr.heap.size, 0, none⟩ = some (.int .i64 xp) ∧ w'.cell? ⟨wr.heap.size, 1, none⟩ = some (.int .i64 xf) ∧ w.heap.size < w'.heap.size ∧ wr.heap.size < w'.heap.size ∧ Below (wr.alloc (.cells #[.int .i64 xp, .int .i64 xf, .bool xo] 75)).heap.size (wr.alloc (.cells #[.int .i64 xp, .int .i64 xf, .bool xo] 75)) w') := by
          intro w' h
          obtain ⟨q0, q1, hz, _⟩ := args1 (bt hba h)
          obtain ⟨c0, _⟩ := keepb h 0
          obtain ⟨c1, _⟩ := keepb h 1
          have hg := h.size
          simp at c0 c1 hg
          exact ⟨q0, q1, c0, c1, hz, by omega, h⟩
        have HRV := Lib.hid hrv
        clear hrv
        have hR : Below (wr.alloc (.cells #[.int .i64 xp, .int .i64 xf, .bool xo] 75)).heap.size (wr.alloc (.cells #[.int .i64 xp, .int .i64 xf, .bool xo] 75)) (wr.alloc (.cells #[.int .i64 xp, .int .i64 xf, .bool xo] 75)).drew := (Below.refl _ _).drew
        rcases Decidable.em (xp < bl) with h3 | h3 <;> rcases Decidable.em (bh < xp + rv) with h4 | h4
        all_goals
          have H3 := Lib.hid h3
          have H4 := Lib.hid h4
          go_wp2_with (fail)
          go_region_held3 (fun w' => w'.cell? ⟨w.heap.size, 0, none⟩ = some (.slice (some ⟨b, off, none⟩) n c) ∧ w'.cell? ⟨w.heap.size, 1, none⟩ = some (.slice A' m c') ∧ w'.cell? ⟨wr.heap.size, 0, none⟩ = some (.int .i64 xp) ∧ w'.cell? ⟨wr.heap.size, 1, none⟩ = some (.int .i64 xf) ∧ w.heap.size < w'.heap.size ∧ wr.heap.size < w'.heap.size ∧ Below (wr.alloc (.cells #[.int .i64 xp, .int .i64 xf, .bool xo] 75)).heap.size (wr.alloc (.cells #[.int .i64 xp, .int .i64 xf, .bool xo] 75)) w')
            (exact HK.out _ hR)
            (first | (go_at_call 46; refine (HRS.out _ hR).mono ?_; rintro e w5 ⟨rfl, rfl⟩))
          go_wp2_with (fail)
          go_roundw
          case rel => exact ⟨k + 1, _, _, by omega, by go_num, rfl, rfl, (by rw [HL.out.1, HD.out, loL]; try (first | rw [if_pos H3.out] | rw [if_neg (Int.not_lt.2 H3.out)])), (by rw [HL.out.2, HD.out, hiL, HRV.out]; try (first | rw [if_pos H4.out] | rw [if_neg (Int.not_lt.2 H4.out)])), bt hba hR⟩
          case measure => simp [intOf]; omega
      · have hkn : ¬ ((k : Int) < (n : Int)) := by omega
        have hkk : k = n := by omega
        have HE := Lib.hid (show C.drop k = [] from List.drop_of_length_le (by have := HN.out; omega))
        go_wp2_with (fail)
        refine bodyPost_ret (v := .tuple #[.int .i64 bl, .int .i64 bh, .int .i64 0]) ?_ rfl ?_
        · simp [results, Tryd.results12, go_sem]
          done
        · exact ⟨ret_iii (by rw [HV.out.1, HL.out.1, HE.out]; rfl) (by rw [HV.out.2, HL.out.2, HE.out]; rfl) H1.out.symm, bx hbw⟩
  · obtain ⟨cv, hcv⟩ : ∃ cv, chk C S = cv := ⟨_, rfl⟩
    have HV : Hid (coLo C S = 0 ∧ coHi C S = 0) := ⟨if_neg h1, if_neg h1⟩
    rw [hcv] at h1
    have hcb : (cv == 0) = false := by simpa using h1
    have HCV := Lib.hid hcv
    clear hcv
    go_enter Tryd.func12, Tryd.ntmps12
    go_wp2_with (go_at_call 45; refine HCK.out.mono ?_; rintro e w1 ⟨rfl, hb1⟩; rw [HCV.out])
    refine bodyPost_ret (v := .tuple #[.int .i64 0, .int .i64 0, .int .i64 cv]) ?_ rfl ?_
    · simp [results, Tryd.results12, go_sem]
      done
    · exact ⟨ret_iii HV.out.1.symm HV.out.2.symm HCV.out.symm, bx hb1⟩

end Go.Proofs.YtdaeanjjmbibmaaDoor
