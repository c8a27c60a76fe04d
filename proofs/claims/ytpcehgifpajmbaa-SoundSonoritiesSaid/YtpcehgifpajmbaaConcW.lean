/- Sound: the reference's Concordant, for any list of numbers; both say the same. -/
import Derived.Test.YtpcehgifpajmbaaWorks5
import Derived.BigQuiet
import Derived.Deep.QuietTactic
namespace Go.Proofs.Ytpcehgifpajmbaa
open Go Go.RowKit

set_option maxHeartbeats 1600000 in
theorem class_any (a b : Int) (w : World) : Calls Try.prog 55 #[.int .i64 a, .int .i64 b] w fun e w' => e = .returned (.int .i64 (iv a b)) ∧ w = w' := by
  have H := Lib.hid (iv_tm2 a b)
  obtain ⟨h2, h3⟩ := tm12b a
  obtain ⟨h5, h6⟩ := tm12b b
  obtain ⟨h8, h9⟩ := tm12b (b.tmod 12 - a.tmod 12)
  obtain ⟨h10, h11⟩ := tm12b ((b.tmod 12 - a.tmod 12).tmod 12 + 12)
  have w1 : IntKind.i64.wrap (b.tmod 12 - a.tmod 12) = b.tmod 12 - a.tmod 12 := IntWalk.i64_in _ ⟨by omega, by omega⟩
  have w2 : IntKind.i64.wrap ((b.tmod 12 - a.tmod 12).tmod 12 + 12) = (b.tmod 12 - a.tmod 12).tmod 12 + 12 := IntWalk.i64_in _ ⟨by omega, by omega⟩
  have w3 : IntKind.i64.wrap (b.tmod 12) = b.tmod 12 := IntWalk.i64_in _ ⟨by omega, by omega⟩
  have w4 : IntKind.i64.wrap (a.tmod 12) = a.tmod 12 := IntWalk.i64_in _ ⟨by omega, by omega⟩
  have w5 : IntKind.i64.wrap ((b.tmod 12 - a.tmod 12).tmod 12) = (b.tmod 12 - a.tmod 12).tmod 12 := IntWalk.i64_in _ ⟨by omega, by omega⟩
  have w6 : IntKind.i64.wrap (((b.tmod 12 - a.tmod 12).tmod 12 + 12).tmod 12) = ((b.tmod 12 - a.tmod 12).tmod 12 + 12).tmod 12 := IntWalk.i64_in _ ⟨by omega, by omega⟩
  go_enter Try.func55, Try.ntmps55
  go_wp2_with (fail)
  go_ret
  exact ⟨ret_int (by first | exact H.out | (rw [← Int.tmod_eq_emod_of_nonneg (by omega)]; exact H.out)), rfl⟩

def badB (c : Int) : Bool := decide (c = 1) || decide (c = 2) || decide (c = 5) || decide (c = 6) || decide (c = 10) || decide (c = 11)
def lwB (L : List Int) (i k : Nat) : Bool := (List.range k).all fun j => decide (L.getD i 0 ≤ L.getD j 0)
def rOne (lw : Bool) (x y : Int) : Bool := !(lw && badB (iv x y)) && !(decide (x < y) && disB (iv x y))
def rInB (L : List Int) (lw : Bool) (i m : Nat) : Bool := (List.range m).all fun k => rOne lw (L.getD i 0) (L.getD k 0)
def rUpB (L : List Int) (m : Nat) : Bool := (List.range m).all fun i => rInB L (lwB L i L.length) i L.length
def rconB (L : List Int) : Bool := rUpB L L.length
theorem lwB_succ (L : List Int) (i k : Nat) : lwB L i (k + 1) = (lwB L i k && decide (L.getD i 0 ≤ L.getD k 0)) := by simp [lwB, List.range_succ]
theorem rInB_succ (L : List Int) (lw : Bool) (i k : Nat) : rInB L lw i (k + 1) = (rInB L lw i k && rOne lw (L.getD i 0) (L.getD k 0)) := by simp [rInB, List.range_succ]
theorem rUpB_succ (L : List Int) (i : Nat) : rUpB L (i + 1) = (rUpB L i && rInB L (lwB L i L.length) i L.length) := by simp [rUpB, List.range_succ]
theorem rcon_no (L : List Int) (i k : Nat) (hi : i < L.length) (hk : k < L.length) (h : rOne (lwB L i L.length) (L.getD i 0) (L.getD k 0) = false) : rconB L = false := by
  unfold rconB rUpB
  rw [List.all_eq_false]
  refine ⟨i, List.mem_range.2 hi, ?_⟩
  have : rInB L (lwB L i L.length) i L.length = false := by
    unfold rInB
    rw [List.all_eq_false]
    exact ⟨k, List.mem_range.2 hk, by rw [h]; simp⟩
  rw [this]
  simp
theorem badB_iff {c : Int} : badB c = true ↔ c = 1 ∨ c = 2 ∨ c = 5 ∨ c = 6 ∨ c = 10 ∨ c = 11 := by simp [badB, or_assoc]
theorem disB_iff {c : Int} : disB c = true ↔ c = 1 ∨ c = 2 ∨ c = 10 ∨ c = 11 := by simp [disB, or_assoc]
theorem conB_iff {c : Int} : conB c = true ↔ c = 0 ∨ c = 3 ∨ c = 4 ∨ c = 7 ∨ c = 8 ∨ c = 9 := by simp [conB, or_assoc]
theorem minL_le (L : List Int) : ∀ (k : Nat), k ≤ L.length → ∀ j, j < k → minL L k ≤ L.getD j 0
  | 0, _, j, hj => by omega
  | k + 1, h, j, hj => by
    rw [minL_succ L k (by omega)]
    by_cases hjk : j < k
    · have := minL_le L k (by omega) j hjk
      omega
    · obtain rfl : j = k := by omega
      omega
theorem minL_is (L : List Int) : ∀ (k : Nat), k ≤ L.length → 0 < k → ∃ j, j < k ∧ L.getD j 0 = minL L k
  | 0, _, h => by omega
  | 1, h, _ => ⟨0, by omega, (minL_one L (by omega)).symm⟩
  | k + 2, h, _ => by
    obtain ⟨j, hj, e⟩ := minL_is L (k + 1) (by omega) (by omega)
    rw [minL_succ L (k + 1) (by omega)]
    by_cases hm : minL L (k + 1) ≤ L.getD (k + 1) 0
    · exact ⟨j, by omega, by rw [e]; omega⟩
    · exact ⟨k + 1, by omega, by omega⟩
theorem occ_iff {lo : Int} {L : List Int} {c : Nat} : occ lo L c = true ↔ ∃ k, k < L.length ∧ iv lo (L.getD k 0) = c := by
  unfold occ
  rw [List.any_eq_true]
  constructor
  · rintro ⟨p, hp, h⟩
    obtain ⟨k, hk, rfl⟩ := List.getElem_of_mem hp
    exact ⟨k, hk, by simpa [List.getElem?_eq_getElem hk] using h⟩
  · rintro ⟨k, hk, h⟩
    exact ⟨L[k], List.getElem_mem hk, by simpa [List.getElem?_eq_getElem hk] using h⟩
/-- Both say the same. -/
theorem conc_eq (L : List Int) : pconB L = rconB L := by
  by_cases h0 : L.length = 0
  · unfold pconB rconB rUpB
    rw [h0]
    rfl
  obtain ⟨mi, hm1, hm2⟩ := minL_is L L.length (Nat.le_refl _) (by omega)
  have hle := minL_le L L.length (Nat.le_refl _)
  have hp : pconB L = true ↔ ∀ u, u < 12 → occ (minL L L.length) L u = true → conB u = true ∧ ∀ o, o < 12 → occ (minL L L.length) L o = true → disB (iv o u) = false := by
    simp only [pconB, h0, decide_false, Bool.false_or, upB, List.all_eq_true, List.mem_range, gdB, inB, Bool.or_eq_true, Bool.not_eq_true', Bool.and_eq_true]
    constructor
    · intro h u hu ho
      rcases h u hu with h | ⟨h1, h2⟩
      · rw [ho] at h; cases h
      · refine ⟨h1, fun o ho1 ho2 => ?_⟩
        rcases h2 o ho1 with h | h
        · rw [ho2] at h; cases h
        · exact h
    · intro h u hu
      cases ho : occ (minL L L.length) L u with
      | false => exact .inl rfl
      | true =>
        obtain ⟨h1, h2⟩ := h u hu ho
        refine .inr ⟨h1, fun o ho1 => ?_⟩
        cases ho2 : occ (minL L L.length) L o with
        | false => exact .inl rfl
        | true => exact .inr (h2 o ho1 ho2)
  have hr : rconB L = true ↔ ∀ i, i < L.length → ∀ k, k < L.length → ¬ (lwB L i L.length = true ∧ badB (iv (L.getD i 0) (L.getD k 0)) = true) ∧ ¬ (L.getD i 0 < L.getD k 0 ∧ disB (iv (L.getD i 0) (L.getD k 0)) = true) := by
    simp only [rconB, rUpB, rInB, rOne, List.all_eq_true, List.mem_range, Bool.and_eq_true, Bool.not_eq_true', Bool.and_eq_false_iff, decide_eq_false_iff_not]
    constructor
    · intro h i hi k hk
      obtain ⟨h1, h2⟩ := h i hi k hk
      refine ⟨fun ⟨a, b⟩ => ?_, fun ⟨a, b⟩ => ?_⟩
      · rcases h1 with h | h
        · rw [a] at h; cases h
        · rw [b] at h; cases h
      · rcases h2 with h | h
        · exact h a
        · rw [b] at h; cases h
    · intro h i hi k hk
      obtain ⟨h1, h2⟩ := h i hi k hk
      refine ⟨?_, ?_⟩
      · cases ha : lwB L i L.length with
        | false => exact .inl rfl
        | true =>
          cases hb : badB (iv (L.getD i 0) (L.getD k 0)) with
          | false => exact .inr rfl
          | true => exact absurd ⟨ha, hb⟩ h1
      · by_cases ha : L.getD i 0 < L.getD k 0
        · cases hb : disB (iv (L.getD i 0) (L.getD k 0)) with
          | false => exact .inr rfl
          | true => exact absurd ⟨ha, hb⟩ h2
        · exact .inl ha
  have hlw : ∀ i, i < L.length → (lwB L i L.length = true ↔ L.getD i 0 = minL L L.length) := by
    intro i hi
    simp only [lwB, List.all_eq_true, List.mem_range, decide_eq_true_eq]
    constructor
    · intro h
      have h1 := h mi hm1
      have h2 := hle i hi
      omega
    · intro h j hj
      have := hle j hj
      omega
  generalize minL L L.length = lo at *
  rw [Bool.eq_iff_iff, hp, hr]
  have hnat : ∀ k, ∃ u : Nat, u < 12 ∧ iv lo (L.getD k 0) = u := fun k => by
    obtain ⟨u, hu⟩ := Int.eq_ofNat_of_zero_le (iv_bd lo (L.getD k 0)).1
    exact ⟨u, by have := (iv_bd lo (L.getD k 0)).2; omega, hu⟩
  constructor
  · intro h i hi k hk
    obtain ⟨u, hu1, hu2⟩ := hnat k
    obtain ⟨o, ho1, ho2⟩ := hnat i
    obtain ⟨h1, h2⟩ := h u hu1 (occ_iff.2 ⟨k, hk, hu2⟩)
    have h3 := h2 o ho1 (occ_iff.2 ⟨i, hi, ho2⟩)
    refine ⟨fun ⟨a, b⟩ => ?_, fun ⟨a, b⟩ => ?_⟩
    · rw [(hlw i hi).1 a, hu2] at b
      rw [conB_iff] at h1
      rw [badB_iff] at b
      omega
    · have e : iv o u = iv (L.getD i 0) (L.getD k 0) := by
        rw [← hu2, ← ho2]
        unfold iv
        omega
      rw [e, b] at h3
      cases h3
  · intro h u hu ho
    obtain ⟨k, hk, hu2⟩ := occ_iff.1 ho
    refine ⟨?_, fun o ho1 ho2 => ?_⟩
    · have h1 := (h mi hm1 k hk).1
      rw [hm2, hu2, badB_iff] at h1
      have hlm : lwB L mi L.length = true := (hlw mi hm1).2 hm2
      rw [conB_iff]
      have : ¬ ((u : Int) = 1 ∨ (u : Int) = 2 ∨ (u : Int) = 5 ∨ (u : Int) = 6 ∨ (u : Int) = 10 ∨ (u : Int) = 11) := fun hh => h1 ⟨hlm, hh⟩
      omega
    · obtain ⟨i, hi, ho3⟩ := occ_iff.1 ho2
      cases hd : disB (iv o u) with
      | false => rfl
      | true =>
        exfalso
        rw [disB_iff] at hd
        have h1 := (h i hi k hk).2
        have h2 := (h k hk i hi).2
        rw [disB_iff] at h1 h2
        rw [← hu2, ← ho3] at hd
        unfold iv at *
        by_cases hx : L.getD i 0 < L.getD k 0
        · exact h1 ⟨hx, by omega⟩
        · by_cases hy : L.getD k 0 < L.getD i 0
          · exact h2 ⟨hy, by omega⟩
          · have : L.getD i 0 = L.getD k 0 := by omega
            rw [this] at hd
            omega

end Go.Proofs.Ytpcehgifpajmbaa

/- Sound: what the reference's Concordant returns. -/
namespace Go.Proofs.Ytpcehgifpajmbaa
open Go Go.RowKit

theorem rUpB_all (L : List Int) (n : Nat) (h : n = L.length) : rUpB L n = rconB L := by subst h; rfl
theorem rOne_hit1 {x y cv : Int} (h : iv x y = cv) (hb : badB cv = true) : rOne true x y = false := by unfold rOne; rw [h, hb]; rfl
theorem rOne_hit2 {lw : Bool} {x y cv : Int} (h : iv x y = cv) (hx : x < y) (hb : disB cv = true) : rOne lw x y = false := by unfold rOne; rw [h, hb]; simp [hx]
theorem rOne_no {lw : Bool} {x y cv : Int} (h : iv x y = cv) (h1 : lw = false ∨ badB cv = false) (h2 : ¬ x < y ∨ disB cv = false) : rOne lw x y = true := by
  unfold rOne
  rw [h]
  rcases h1 with h1 | h1 <;> rcases h2 with h2 | h2 <;> simp [h1, h2]

set_option maxRecDepth 100000 in
set_option maxHeartbeats 8000000 in
theorem rconcordant_any (A : Option Addr) (n c : Nat) (L : List Int) (w : World) (hA : Sl w w.heap.size 1 A n c (intC L)) (hn : n = L.length) (hlim : n ≤ 1000000) :
    Calls Try.prog 36 #[.slice A n c] w fun e w' => e = .returned (.bool (rconB L)) ∧ Below w.heap.size w w' := by
  have HN := Lib.hid hn
  have HA : Hid (∀ w', Below w.heap.size w w' → Sl w' w'.heap.size 1 A n c (intC L)) := fun w' hb => hA.below hb
  have HALL := Lib.hid (rUpB_all L n hn)
  clear hA hn
  go_enter Try.func36, Try.ntmps36
  go_wp2_with (fail)
  go_loopw [3, 4, 5, 6, 7] (fun i _ _ _ _ wr => ∃ k : Nat, k ≤ n ∧ i = .int .i64 k ∧ Below w.heap.size w wr ∧ Hid (rUpB L k = true)) (fun i _ _ _ _ _ => n - (intOf i).toNat)
  case atStart => exact ⟨0, by omega, rfl, Below.refl _ _, rfl⟩
  case round =>
    obtain ⟨i, hi, rfl, hbw, HU⟩ := hrel
    have HB := Lib.hid hbw
    clear hbw
    by_cases hlt : i < n
    · have hin : (i : Int) < (n : Int) := by omega
      have HUS := Lib.hid (rUpB_succ L i)
      have HNO := Lib.hid (fun k (hk : k < L.length) => rcon_no L i k (by have := HN.out; omega) hk)
      have HLN : Hid (lwB L i L.length = lwB L i n) := by unfold Hid; rw [HN.out]
      go_wp2_with (fail)
      go_loopw [5, 4] (fun k l wr => ∃ j : Nat, j ≤ n ∧ k = .int .i64 j ∧ l = .bool (lwB L i j) ∧ Below w.heap.size w wr) (fun k _ _ => n - (intOf k).toNat)
      case atStart => exact ⟨0, by omega, rfl, rfl, HB.out⟩
      case round =>
        obtain ⟨j, hj, rfl, rfl, hbw⟩ := hrel
        have HB := Lib.hid hbw
        clear hbw
        by_cases hjn : j < n
        · have hjn' : (j : Int) < (n : Int) := by omega
          have HS := Lib.hid (lwB_succ L i j)
          cases hl : lwB L i j with
          | true =>
            have HL := Lib.hid hl
            clear hl
            obtain ⟨b, off, rfl, hb, hc⟩ := (HA.out _ HB.out).2.2 (by omega)
            have a0 := hc _ _ (intC_at L i (by have := HN.out; omega))
            have a1 := hc _ _ (intC_at L j (by have := HN.out; omega))
            clear hc hb
            generalize L.getD i 0 = x at *
            generalize L.getD j 0 = y at *
            go_wp2_with (fail)
            go_quiet (fail)
            go_wp2_with (fail)
            go_roundw
            case rel => exact ⟨j + 1, by omega, by first | rfl | go_num, by rw [HS.out, HL.out]; rfl, bd HB.out _⟩
            case measure => simp [intOf]; omega
          | false =>
            have HL := Lib.hid hl
            clear hl
            go_wp2_with (fail)
            go_quiet (fail)
            go_wp2_with (fail)
            go_roundw
            case rel => exact ⟨j + 1, by omega, by first | rfl | go_num, by rw [HS.out, HL.out]; rfl, bd HB.out _⟩
            case measure => simp [intOf]; omega
        · obtain rfl : j = n := by omega
          clear hj
          obtain ⟨lw, hlw⟩ : ∃ lw, lwB L i j = lw := ⟨_, rfl⟩
          have HLW := Lib.hid hlw
          rw [hlw]
          clear hlw
          go_wp2_with (fail)
          go_loopw [6, 7] (fun k _ wr => ∃ m : Nat, m ≤ j ∧ k = .int .i64 m ∧ Below w.heap.size w wr ∧ Hid (rInB L lw i m = true)) (fun k _ _ => j - (intOf k).toNat)
          case atStart => exact ⟨0, by omega, rfl, HB.out, rfl⟩
          case round =>
            obtain ⟨m, hm, rfl, hbw, HI⟩ := hrel
            have HB := Lib.hid hbw
            clear hbw
            by_cases hmn : m < j
            · have hmn' : (m : Int) < (j : Int) := by omega
              obtain ⟨b, off, rfl, hb, hc⟩ := (HA.out _ HB.out).2.2 (by omega)
              have a0 := hc _ _ (intC_at L i (by have := HN.out; omega))
              have a1 := hc _ _ (intC_at L m (by have := HN.out; omega))
              have HIS := Lib.hid (rInB_succ L lw i m)
              have HNM := Lib.hid (HNO.out m (by have := HN.out; omega))
              rw [HLN.out, HLW.out] at HNM
              clear hc hb
              generalize L.getD i 0 = x at *
              generalize L.getD m 0 = y at *
              obtain ⟨cv, hcv⟩ : ∃ cv, iv x y = cv := ⟨_, rfl⟩
              have HCV := Lib.hid hcv
              clear hcv
              go_wp2_with (fail)
              go_quiet ((go_at_call 55; exact Calls.quiet_of_same ((class_any _ _ _).mono fun _ _ h => ⟨h.1, h.2.symm⟩)))
              rw [HCV.out]
              have hb2 := bd HB.out nq
              have a2 : (wr.drewN nq).cell? ⟨b, off + i, none⟩ = some (.int .i64 x) := a0
              have a3 : (wr.drewN nq).cell? ⟨b, off + m, none⟩ = some (.int .i64 y) := a1
              generalize wr.drewN nq = wc at *
              have HB2 := Lib.hid hb2
              clear a0 a1 hb2
              cases lw with
              | true =>
                cases hbd : badB cv with
                | true =>
                  have hlit := badB_iff.1 hbd
                  clear hbd
                  rcases hlit with rfl | rfl | rfl | rfl | rfl | rfl
                  · go_wp2_with (fail)
                    go_ret
                    exact ⟨ret_bool (by rw [HNM.out (rOne_hit1 HCV.out (by rfl))]), HB2.out⟩
                  · go_wp2_with (fail)
                    go_ret
                    exact ⟨ret_bool (by rw [HNM.out (rOne_hit1 HCV.out (by rfl))]), HB2.out⟩
                  · go_wp2_with (fail)
                    go_ret
                    exact ⟨ret_bool (by rw [HNM.out (rOne_hit1 HCV.out (by rfl))]), HB2.out⟩
                  · go_wp2_with (fail)
                    go_ret
                    exact ⟨ret_bool (by rw [HNM.out (rOne_hit1 HCV.out (by rfl))]), HB2.out⟩
                  · go_wp2_with (fail)
                    go_ret
                    exact ⟨ret_bool (by rw [HNM.out (rOne_hit1 HCV.out (by rfl))]), HB2.out⟩
                  · go_wp2_with (fail)
                    go_ret
                    exact ⟨ret_bool (by rw [HNM.out (rOne_hit1 HCV.out (by rfl))]), HB2.out⟩
                | false =>
                  have HBD := Lib.hid hbd
                  have hnl : ¬ (cv = 1 ∨ cv = 2 ∨ cv = 5 ∨ cv = 6 ∨ cv = 10 ∨ cv = 11) := fun h => by rw [badB_iff.2 h] at hbd; cases hbd
                  have g1 : (cv == 1) = false := by simpa using (show ¬ cv = 1 by omega)
                  have g2 : (cv == 2) = false := by simpa using (show ¬ cv = 2 by omega)
                  have g5 : (cv == 5) = false := by simpa using (show ¬ cv = 5 by omega)
                  have g6 : (cv == 6) = false := by simpa using (show ¬ cv = 6 by omega)
                  have g10 : (cv == 10) = false := by simpa using (show ¬ cv = 10 by omega)
                  have g11 : (cv == 11) = false := by simpa using (show ¬ cv = 11 by omega)
                  have HDS : Hid (disB cv = false) := by
                    unfold Hid
                    cases hd : disB cv with
                    | false => rfl
                    | true => exact absurd (disB_iff.1 hd) (by omega)
                  clear hnl hbd
                  by_cases hxy : x < y
                  · have hd : decide (x < y) = true := by simpa using hxy
                    go_wp2_with (fail)
                    go_quiet (fail)
                    go_wp2_with (fail)
                    go_roundw
                    case rel => exact ⟨m + 1, by omega, by first | rfl | go_num, bd HB2.out _, by unfold Hid; rw [HIS.out, HI.out, rOne_no HCV.out (.inr HBD.out) (.inr HDS.out)]; rfl⟩
                    case measure => simp [intOf]; omega
                  · have hd : decide (x < y) = false := by simpa using hxy
                    go_wp2_with (fail)
                    go_quiet (fail)
                    go_wp2_with (fail)
                    go_roundw
                    case rel => exact ⟨m + 1, by omega, by first | rfl | go_num, bd HB2.out _, by unfold Hid; rw [HIS.out, HI.out, rOne_no HCV.out (.inr HBD.out) (.inr HDS.out)]; rfl⟩
                    case measure => simp [intOf]; omega
              | false =>
                by_cases hxy : x < y
                · have hd : decide (x < y) = true := by simpa using hxy
                  cases hbd : disB cv with
                  | true =>
                    have hlit := disB_iff.1 hbd
                    clear hbd
                    have HXY := Lib.hid hxy
                    rcases hlit with rfl | rfl | rfl | rfl
                    · go_wp2_with (fail)
                      go_quiet (fail)
                      go_wp2_with (fail)
                      go_ret
                      exact ⟨ret_bool (by rw [HNM.out (rOne_hit2 HCV.out HXY.out (by rfl))]), bd HB2.out _⟩
                    · go_wp2_with (fail)
                      go_quiet (fail)
                      go_wp2_with (fail)
                      go_ret
                      exact ⟨ret_bool (by rw [HNM.out (rOne_hit2 HCV.out HXY.out (by rfl))]), bd HB2.out _⟩
                    · go_wp2_with (fail)
                      go_quiet (fail)
                      go_wp2_with (fail)
                      go_ret
                      exact ⟨ret_bool (by rw [HNM.out (rOne_hit2 HCV.out HXY.out (by rfl))]), bd HB2.out _⟩
                    · go_wp2_with (fail)
                      go_quiet (fail)
                      go_wp2_with (fail)
                      go_ret
                      exact ⟨ret_bool (by rw [HNM.out (rOne_hit2 HCV.out HXY.out (by rfl))]), bd HB2.out _⟩
                  | false =>
                    have HBD := Lib.hid hbd
                    have hnl : ¬ (cv = 1 ∨ cv = 2 ∨ cv = 10 ∨ cv = 11) := fun h => by rw [disB_iff.2 h] at hbd; cases hbd
                    have g1 : (cv == 1) = false := by simpa using (show ¬ cv = 1 by omega)
                    have g2 : (cv == 2) = false := by simpa using (show ¬ cv = 2 by omega)
                    have g10 : (cv == 10) = false := by simpa using (show ¬ cv = 10 by omega)
                    have g11 : (cv == 11) = false := by simpa using (show ¬ cv = 11 by omega)
                    clear hnl hbd
                    go_wp2_with (fail)
                    go_quiet (fail)
                    go_wp2_with (fail)
                    go_roundw
                    case rel => exact ⟨m + 1, by omega, by first | rfl | go_num, bd HB2.out _, by unfold Hid; rw [HIS.out, HI.out, rOne_no HCV.out (.inl rfl) (.inr HBD.out)]; rfl⟩
                    case measure => simp [intOf]; omega
                · have hd : decide (x < y) = false := by simpa using hxy
                  have HXY := Lib.hid hxy
                  go_wp2_with (fail)
                  go_quiet (fail)
                  go_wp2_with (fail)
                  go_roundw
                  case rel => exact ⟨m + 1, by omega, by first | rfl | go_num, bd HB2.out _, by unfold Hid; rw [HIS.out, HI.out, rOne_no HCV.out (.inl rfl) (.inl (by have := HXY.out; omega))]; rfl⟩
                  case measure => simp [intOf]; omega
            · obtain rfl : m = j := by omega
              go_wp2_with (fail)
              go_roundw
              case rel => exact ⟨i + 1, by omega, by first | rfl | go_num, HB.out, by unfold Hid; rw [HUS.out, HU.out, HLN.out, HLW.out, ← HN.out, HI.out]; rfl⟩
              case measure => simp [intOf]; omega
    · obtain rfl : i = n := by omega
      go_wp2_with (fail)
      go_ret
      exact ⟨ret_bool (by rw [← HALL.out, HU.out]), HB.out⟩

end Go.Proofs.Ytpcehgifpajmbaa
