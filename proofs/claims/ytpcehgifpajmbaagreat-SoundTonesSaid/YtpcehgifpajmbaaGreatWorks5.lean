/- Sound: Concordant, for any list of numbers. -/
import Derived.Test.YtpcehgifpajmbaaGreatAt
import Derived.Test.YtpcehgifpajmbaaGreatCopy
import Derived.Test.YtpcehgifpajmbaaGreatSndAt2
namespace Go.Proofs.YtpcehgifpajmbaaGreat
open Go Go.RowKit

def iv (a b : Int) : Int := (b - a) % 12
theorem iv_bd (a b : Int) : 0 ≤ iv a b ∧ iv a b < 12 := by unfold iv; omega
theorem tm12 (x : Int) : ∃ k : Int, x.tmod 12 = x - 12 * k ∧ -12 < x.tmod 12 ∧ x.tmod 12 < 12 := by
  refine ⟨x.tdiv 12, Int.tmod_def x 12, ?_, Int.tmod_lt_of_pos x (by decide)⟩
  have h := Int.tmod_lt_of_pos (-x) (b := 12) (by decide)
  rw [Int.neg_tmod] at h
  omega
theorem tm12b (x : Int) : -12 < x.tmod 12 ∧ x.tmod 12 < 12 := by
  obtain ⟨_, _, h⟩ := tm12 x
  exact h
theorem iv_tm (a b : Int) : (b.tmod 12 - a.tmod 12 + 24).tmod 12 = iv a b := by
  obtain ⟨k, h1, h2, h3⟩ := tm12 a
  obtain ⟨j, h4, h5, h6⟩ := tm12 b
  rw [Int.tmod_eq_emod_of_nonneg (by omega)]
  unfold iv
  omega
theorem iv_tm2 (a b : Int) : ((b.tmod 12 - a.tmod 12).tmod 12 + 12).tmod 12 = iv a b := by
  obtain ⟨k, h1, h2, h3⟩ := tm12 a
  obtain ⟨j, h4, h5, h6⟩ := tm12 b
  obtain ⟨i, h7, h8, h9⟩ := tm12 (b.tmod 12 - a.tmod 12)
  rw [Int.tmod_eq_emod_of_nonneg (by omega)]
  unfold iv
  omega
def conB (c : Int) : Bool := decide (c = 0) || decide (c = 3) || decide (c = 4) || decide (c = 7) || decide (c = 8) || decide (c = 9)
def disB (c : Int) : Bool := decide (c = 1) || decide (c = 2) || decide (c = 10) || decide (c = 11)

set_option maxHeartbeats 1600000 in
theorem interval_any (a b : Int) (w : World) : Calls Tryz.prog 23 #[.int .i64 a, .int .i64 b] w fun e w' => e = .returned (.int .i64 (iv a b)) ∧ w = w' := by
  have H := Lib.hid (iv_tm a b)
  obtain ⟨h2, h3⟩ := tm12b a
  obtain ⟨h5, h6⟩ := tm12b b
  obtain ⟨h8, h9⟩ := tm12b (b.tmod 12 - a.tmod 12 + 24)
  have w1 : IntKind.i64.wrap (b.tmod 12 - a.tmod 12) = b.tmod 12 - a.tmod 12 := IntWalk.i64_in _ ⟨by omega, by omega⟩
  have w2 : IntKind.i64.wrap (b.tmod 12 - a.tmod 12 + 24) = b.tmod 12 - a.tmod 12 + 24 := IntWalk.i64_in _ ⟨by omega, by omega⟩
  have w3 : IntKind.i64.wrap (b.tmod 12) = b.tmod 12 := IntWalk.i64_in _ ⟨by omega, by omega⟩
  have w4 : IntKind.i64.wrap (a.tmod 12) = a.tmod 12 := IntWalk.i64_in _ ⟨by omega, by omega⟩
  have w5 : IntKind.i64.wrap ((b.tmod 12 - a.tmod 12 + 24).tmod 12) = (b.tmod 12 - a.tmod 12 + 24).tmod 12 := IntWalk.i64_in _ ⟨by omega, by omega⟩
  go_enter Tryz.func23, Tryz.ntmps23
  go_wp2_with (fail)
  go_ret
  exact ⟨ret_int (by first | exact H.out | (rw [← Int.tmod_eq_emod_of_nonneg (by omega)]; exact H.out)), rfl⟩

set_option maxHeartbeats 1600000 in
theorem consonant_any (c : Int) (w : World) : Calls Tryz.prog 24 #[.int .i64 c] w fun e w' => e = .returned (.bool (conB c)) ∧ w = w' := by
  by_cases h0 : c = 0
  · subst h0
    go_enter Tryz.func24, Tryz.ntmps24
    go_wp2_with (fail)
    go_ret
    exact ⟨rfl, rfl⟩
  by_cases h3 : c = 3
  · subst h3
    go_enter Tryz.func24, Tryz.ntmps24
    go_wp2_with (fail)
    go_ret
    exact ⟨rfl, rfl⟩
  by_cases h4 : c = 4
  · subst h4
    go_enter Tryz.func24, Tryz.ntmps24
    go_wp2_with (fail)
    go_ret
    exact ⟨rfl, rfl⟩
  by_cases h7 : c = 7
  · subst h7
    go_enter Tryz.func24, Tryz.ntmps24
    go_wp2_with (fail)
    go_ret
    exact ⟨rfl, rfl⟩
  by_cases h8 : c = 8
  · subst h8
    go_enter Tryz.func24, Tryz.ntmps24
    go_wp2_with (fail)
    go_ret
    exact ⟨rfl, rfl⟩
  by_cases h9 : c = 9
  · subst h9
    go_enter Tryz.func24, Tryz.ntmps24
    go_wp2_with (fail)
    go_ret
    exact ⟨rfl, rfl⟩
  have HB : Hid (conB c = false) := by simp [Hid, conB, h0, h3, h4, h7, h8, h9]
  have b0 : (c == 0) = false := by simpa using h0
  have b3 : (c == 3) = false := by simpa using h3
  have b4 : (c == 4) = false := by simpa using h4
  have b7 : (c == 7) = false := by simpa using h7
  have b8 : (c == 8) = false := by simpa using h8
  have b9 : (c == 9) = false := by simpa using h9
  go_enter Tryz.func24, Tryz.ntmps24
  go_wp2_with (fail)
  go_ret
  exact ⟨ret_bool (by rw [HB.out]), rfl⟩

set_option maxHeartbeats 1600000 in
theorem dissonant_any (c : Int) (w : World) : Calls Tryz.prog 25 #[.int .i64 c] w fun e w' => e = .returned (.bool (disB c)) ∧ w = w' := by
  by_cases h0 : c = 1
  · subst h0
    go_enter Tryz.func25, Tryz.ntmps25
    go_wp2_with (fail)
    go_ret
    exact ⟨rfl, rfl⟩
  by_cases h3 : c = 2
  · subst h3
    go_enter Tryz.func25, Tryz.ntmps25
    go_wp2_with (fail)
    go_ret
    exact ⟨rfl, rfl⟩
  by_cases h4 : c = 10
  · subst h4
    go_enter Tryz.func25, Tryz.ntmps25
    go_wp2_with (fail)
    go_ret
    exact ⟨rfl, rfl⟩
  by_cases h7 : c = 11
  · subst h7
    go_enter Tryz.func25, Tryz.ntmps25
    go_wp2_with (fail)
    go_ret
    exact ⟨rfl, rfl⟩
  have HB : Hid (disB c = false) := by simp [Hid, disB, h0, h3, h4, h7]
  have b0 : (c == 1) = false := by simpa using h0
  have b3 : (c == 2) = false := by simpa using h3
  have b4 : (c == 10) = false := by simpa using h4
  have b7 : (c == 11) = false := by simpa using h7
  go_enter Tryz.func25, Tryz.ntmps25
  go_wp2_with (fail)
  go_ret
  exact ⟨ret_bool (by rw [HB.out]), rfl⟩

/-- The least of a list. -/
def minL (L : List Int) (k : Nat) : Int := (L.take k).foldl min (L.getD 0 0)
theorem minL_succ (L : List Int) (k : Nat) (h : k < L.length) : minL L (k + 1) = min (minL L k) (L.getD k 0) := by
  unfold minL
  rw [List.take_add_one, List.foldl_append]
  simp [List.getElem?_eq_getElem h]
theorem minL_one (L : List Int) (h : 0 < L.length) : minL L 1 = L.getD 0 0 := by
  rw [minL_succ L 0 h]
  simp [minL]
set_option maxHeartbeats 1600000 in
theorem min_any (A : Option Addr) (n c : Nat) (L : List Int) (w : World) (hA : Sl w w.heap.size 1 A n c (intC L)) (hn : n = L.length) (h0 : 0 < n) (hlim : n ≤ 1000000) :
    Calls Tryz.prog 22 #[.slice A n c] w fun e w' => e = .returned (.int .i64 (minL L n)) ∧ w = w' := by
  have HN := Lib.hid hn
  obtain ⟨b, off, rfl, hb, hc⟩ := hA.2.2 h0
  have i0 := intC_at L 0 (by omega)
  have a0 := hc _ _ i0
  rw [Nat.add_zero] at a0
  have HC : Hid (∀ k, k < n → w.cell? ⟨b, off + k, none⟩ = some (.int .i64 (L.getD k 0))) := fun k hk => hc _ _ (intC_at L k (by omega))
  have HM1 : Hid (L.getD 0 0 = minL L 1) := (minL_one L (by omega)).symm
  have g1 : ¬ ((n : Int) < 1) := by omega
  have g2 : (0 : Int) < (n : Int) := by omega
  clear hA hn hc i0
  obtain ⟨x0, hx0⟩ : ∃ x0, L.getD 0 0 = x0 := ⟨_, rfl⟩
  rw [hx0] at a0 HM1
  clear hx0
  go_enter Tryz.func22, Tryz.ntmps22
  go_wp2_with (fail)
  go_loop [4, 3] (fun i m => ∃ k : Nat, 1 ≤ k ∧ k ≤ n ∧ i = .int .i64 k ∧ m = .int .i64 (minL L k)) (fun i _ => n - (intOf i).toNat)
  case atStart => exact ⟨1, by omega, by omega, rfl, by rw [HM1.out]⟩
  case round =>
    obtain ⟨k, hk1, hk2, rfl, rfl⟩ := hrel
    by_cases hlt : k < n
    · have hkn : (k : Int) < (n : Int) := by omega
      have a1 := HC.out k hlt
      have HS := Lib.hid (minL_succ L k (by have := HN.out; omega))
      generalize L.getD k 0 = y at *
      obtain ⟨mv, hmv⟩ : ∃ mv, minL L k = mv := ⟨_, rfl⟩
      rw [hmv] at HS ⊢
      clear hmv
      go_wp2_with (fail)
      go_round
      case rel => exact ⟨k + 1, by omega, by omega, by first | rfl | go_num, by (rw [HS.out]) <;> (congr 1; split <;> omega)⟩
      case measure => simp [intOf]; omega
    · obtain rfl : k = n := by omega
      go_wp2_with (fail)
      go_ret
      exact ⟨rfl, rfl⟩

/-- Twelve marks. -/
def bA (f : Nat → Bool) : Array Value := #[.bool (f 0), .bool (f 1), .bool (f 2), .bool (f 3), .bool (f 4), .bool (f 5), .bool (f 6), .bool (f 7), .bool (f 8), .bool (f 9), .bool (f 10), .bool (f 11)]
theorem lt12 {v : Nat} (h : v < 12) : v = 0 ∨ v = 1 ∨ v = 2 ∨ v = 3 ∨ v = 4 ∨ v = 5 ∨ v = 6 ∨ v = 7 ∨ v = 8 ∨ v = 9 ∨ v = 10 ∨ v = 11 := by omega
theorem bA_at (f : Nat → Bool) {v : Nat} (h : v < 12) : (bA f)[v]? = some (.bool (f v)) := by
  rcases lt12 h with rfl | rfl | rfl | rfl | rfl | rfl | rfl | rfl | rfl | rfl | rfl | rfl <;> rfl
theorem bA_set (f : Nat → Bool) {v : Nat} (h : v < 12) : (bA f).setIfInBounds v (.bool true) = bA (fun c => f c || decide (v = c)) := by
  rcases lt12 h with rfl | rfl | rfl | rfl | rfl | rfl | rfl | rfl | rfl | rfl | rfl | rfl <;> simp [bA]
def occ (lo : Int) (L : List Int) (c : Nat) : Bool := L.any fun p => decide (iv lo p = c)
theorem occ_succ (lo : Int) (L : List Int) {k v : Nat} (h : k < L.length) (hv : iv lo (L.getD k 0) = v) : (fun c => occ lo (L.take k) c || decide (v = c)) = occ lo (L.take (k + 1)) := by
  funext c
  unfold occ
  rw [List.take_add_one, List.any_append]
  simp only [List.getElem?_eq_getElem h, Option.toList_some, List.any_cons, List.any_nil, Bool.or_false]
  have e : L[k] = L.getD k 0 := by simp [List.getElem?_eq_getElem h]
  rw [e, hv]
  congr 1
  by_cases h2 : v = c
  · subst h2; simp
  · have : ¬ ((v : Int) = (c : Int)) := by omega
    simp [h2, this]
def inB (f : Nat → Bool) (u : Nat) (k : Nat) : Bool := (List.range k).all fun o => !f o || !disB (iv o u)
def gdB (f : Nat → Bool) (u : Nat) : Bool := !f u || (conB u && inB f u 12)
def upB (f : Nat → Bool) (k : Nat) : Bool := (List.range k).all (gdB f)
theorem inB_succ (f : Nat → Bool) (u k : Nat) : inB f u (k + 1) = (inB f u k && (!f k || !disB (iv k u))) := by simp [inB, List.range_succ]
theorem upB_succ (f : Nat → Bool) (k : Nat) : upB f (k + 1) = (upB f k && gdB f k) := by simp [upB, List.range_succ]
theorem inB_no (f : Nat → Bool) (u k : Nat) (h : k < 12) (h2 : (!f k || !disB (iv k u)) = false) : inB f u 12 = false := by
  unfold inB
  rw [List.all_eq_false]
  exact ⟨k, List.mem_range.2 h, by rw [h2]; simp⟩
theorem upB_no (f : Nat → Bool) (k : Nat) (h : k < 12) (h2 : gdB f k = false) : upB f 12 = false := by
  unfold upB
  rw [List.all_eq_false]
  exact ⟨k, List.mem_range.2 h, by rw [h2]; simp⟩
/-- What the program's Concordant says. -/
def pconB (L : List Int) : Bool := decide (L.length = 0) || upB (occ (minL L L.length) L) 12

set_option maxRecDepth 100000 in
set_option maxHeartbeats 4000000 in
theorem concordant_any (A : Option Addr) (n c : Nat) (L : List Int) (w : World) (hA : Sl w w.heap.size 1 A n c (intC L)) (hn : n = L.length) (hlim : n ≤ 1000000) :
    Calls Tryz.prog 13 #[.slice A n c] w fun e w' => e = .returned (.bool (pconB L)) ∧ Below w.heap.size w w' := by
  have HN := Lib.hid hn
  by_cases h0 : n = 0
  · subst h0
    have HZ : Hid (pconB L = true) := by unfold Hid pconB; rw [← hn]; rfl
    clear hA hn
    go_enter Tryz.func13, Tryz.ntmps13
    go_wp2_with (fail)
    go_ret
    exact ⟨ret_bool HZ.out.symm, Below.refl _ _⟩
  · have hn0 : ((n : Int) == 0) = false := by simpa using h0
    have HA := Lib.hid hA
    have HZ : Hid (pconB L = upB (occ (minL L n) L) 12) := by unfold Hid pconB; rw [← hn]; simp [h0]
    have HMIN := Lib.hid (min_any A n c L w hA hn (by omega) hlim)
    have HTK : Hid (L.take n = L) := by unfold Hid; rw [hn]; exact List.take_length
    clear hA hn
    generalize minL L n = lo at *
    go_enter Tryz.func13, Tryz.ntmps13
    go_wp2_with (go_at_call 22; refine HMIN.out.mono ?_; rintro e w1 ⟨rfl, rfl⟩)
    go_loopw [18, 6] (fun i _ wr => ∃ k : Nat, k ≤ n ∧ i = .int .i64 k ∧ Below w.heap.size w wr ∧ Blk wr w.heap.size 67 (bA (occ lo (L.take k)))) (fun i _ _ => n - (intOf i).toNat)
    case atStart => exact ⟨0, by omega, rfl, ba _ _, heap_alloc_new w _⟩
    case round =>
      obtain ⟨k, hk, rfl, hbw, hbk⟩ := hrel
      have HB := Lib.hid hbw
      have HK := Lib.hid hbk
      have hgl := hbk.lt
      clear hbw hbk
      by_cases hlt : k < n
      · have hkn : (k : Int) < (n : Int) := by omega
        obtain ⟨b, off, rfl, hb, hc⟩ := (HA.out.below HB.out).2.2 (by omega)
        have a0 := hc _ _ (intC_at L k (by have := HN.out; omega))
        clear hc hb
        obtain ⟨v, hv⟩ := Int.eq_ofNat_of_zero_le (iv_bd lo (L.getD k 0)).1
        have hv12 : v < 12 := by have := (iv_bd lo (L.getD k 0)).2; omega
        have hv12' : (v : Int) < 12 := by omega
        have HO := Lib.hid (occ_succ lo L (k := k) (v := v) (by have := HN.out; omega) hv)
        have HV : Hid (iv lo (L.getD k 0) = v) := hv
        have cv : wr.cell? ⟨w.heap.size, v, none⟩ = some (.bool (occ lo (L.take k) v)) := by rw [HK.out.cell]; exact bA_at _ hv12
        have fv := HK.out.frozen v
        clear hv
        generalize L.getD k 0 = p at *
        go_wp2_with (go_at_call 23; refine (interval_any lo p _).mono ?_; rintro e w2 ⟨rfl, rfl⟩; rw [HV.out])
        go_roundw
        case rel => exact ⟨k + 1, by omega, by first | rfl | go_num, HB.out.setCell (Nat.le_refl _) _, by have := HK.out.set_ v (.bool true); rwa [bA_set _ hv12, HO.out] at this⟩
        case measure => simp [intOf]; omega
      · obtain rfl : k = n := by omega
        have hf : Blk wr w.heap.size 67 (bA (occ lo L)) := by have := HK.out; rwa [HTK.out] at this
        clear HA HMIN HK HTK
        generalize occ lo L = f at *
        have c0 := hf.cell 0
        have c1 := hf.cell 1
        have c2 := hf.cell 2
        have c3 := hf.cell 3
        have c4 := hf.cell 4
        have c5 := hf.cell 5
        have c6 := hf.cell 6
        have c7 := hf.cell 7
        have c8 := hf.cell 8
        have c9 := hf.cell 9
        have c10 := hf.cell 10
        have c11 := hf.cell 11
        simp only [bA, List.getElem?_toArray, List.getElem?_cons_zero, List.getElem?_cons_succ] at c0 c1 c2 c3 c4 c5 c6 c7 c8 c9 c10 c11
        have HIX : Hid (∀ (k : Nat), k < 12 → ∀ w, (Instr.index 67 (.agg #[.bool (f 0), .bool (f 1), .bool (f 2), .bool (f 3), .bool (f 4), .bool (f 5), .bool (f 6), .bool (f 7), .bool (f 8), .bool (f 9), .bool (f 10), .bool (f 11)]) (.int .i64 k)).run Tryz.prog w = .ok (.bool (f k)) w) := by
          intro k hk w
          rcases lt12 hk with rfl | rfl | rfl | rfl | rfl | rfl | rfl | rfl | rfl | rfl | rfl | rfl <;> rfl
        clear hf
        go_wp2_with (fail)
        go_loop [28, 7, 8, 9, 10] (fun i _ _ _ _ => ∃ u : Nat, u ≤ 12 ∧ i = .int .i64 u ∧ Hid (upB f u = true)) (fun i _ _ _ _ => 12 - (intOf i).toNat)
        case atStart => exact ⟨0, by omega, rfl, rfl⟩
        case round =>
          obtain ⟨u, hu, rfl, HU⟩ := hrel
          by_cases hu12 : u < 12
          · have hui : (u : Int) < 12 := by omega
            have hix := HIX.out u hu12
            have HS := Lib.hid (upB_succ f u)
            have HNO := Lib.hid (upB_no f u hu12)
            have HG : Hid (gdB f u = (!f u || (conB u && inB f u 12))) := rfl
            cases hfu : f u with
            | false =>
              have HF := Lib.hid hfu
              rw [hfu] at hix
              clear hfu
              go_wp2_with (fail)
              go_round
              case rel => exact ⟨u + 1, by omega, by first | rfl | go_num, by unfold Hid; rw [HS.out, HU.out, HG.out, HF.out]; rfl⟩
              case measure => simp [intOf]; omega
            | true =>
              have HF := Lib.hid hfu
              rw [hfu] at hix
              clear hfu
              cases hcon : conB u with
              | false =>
                have HC := Lib.hid hcon
                clear hcon
                go_wp2_with (go_at_call 24; refine (consonant_any u _).mono ?_; rintro e w2 ⟨rfl, rfl⟩; rw [HC.out])
                go_ret
                exact ⟨ret_bool (by rw [HZ.out, HNO.out (by rw [HG.out, HF.out, HC.out]; rfl)]), HB.out⟩
              | true =>
                have HC := Lib.hid hcon
                clear hcon
                go_wp2_with (go_at_call 24; refine (consonant_any u _).mono ?_; rintro e w2 ⟨rfl, rfl⟩; rw [HC.out])
                go_loop [38, 9, 10] (fun i _ _ => ∃ o : Nat, o ≤ 12 ∧ i = .int .i64 o ∧ Hid (inB f u o = true)) (fun i _ _ => 12 - (intOf i).toNat)
                case atStart => exact ⟨0, by omega, rfl, rfl⟩
                case round =>
                  obtain ⟨o, ho, rfl, HI⟩ := hrel
                  by_cases ho12 : o < 12
                  · have hoi : (o : Int) < 12 := by omega
                    have hox := HIX.out o ho12
                    have HIS := Lib.hid (inB_succ f u o)
                    have HIN := Lib.hid (inB_no f u o ho12)
                    clear hix
                    cases hfo : f o with
                    | false =>
                      have HFO := Lib.hid hfo
                      rw [hfo] at hox
                      clear hfo
                      go_wp2_with (fail)
                      go_round
                      case rel => exact ⟨o + 1, by omega, by first | rfl | go_num, by unfold Hid; rw [HIS.out, HI.out, HFO.out]; rfl⟩
                      case measure => simp [intOf]; omega
                    | true =>
                      have HFO := Lib.hid hfo
                      rw [hfo] at hox
                      clear hfo
                      cases hdis : disB (iv o u) with
                      | true =>
                        have HD := Lib.hid hdis
                        clear hdis
                        go_wp2_with (first | (go_at_call 23; refine (interval_any o u _).mono ?_; rintro e w2 ⟨rfl, rfl⟩) | (go_at_call 25; refine (dissonant_any (iv o u) _).mono ?_; rintro e w3 ⟨rfl, rfl⟩; rw [HD.out]))
                        go_ret
                        exact ⟨ret_bool (by rw [HZ.out, HNO.out (by rw [HG.out, HF.out, HC.out, HIN.out (by rw [HFO.out, HD.out]; rfl)]; rfl)]), HB.out⟩
                      | false =>
                        have HD := Lib.hid hdis
                        clear hdis
                        go_wp2_with (first | (go_at_call 23; refine (interval_any o u _).mono ?_; rintro e w2 ⟨rfl, rfl⟩) | (go_at_call 25; refine (dissonant_any (iv o u) _).mono ?_; rintro e w3 ⟨rfl, rfl⟩; rw [HD.out]))
                        go_round
                        case rel => exact ⟨o + 1, by omega, by first | rfl | go_num, by unfold Hid; rw [HIS.out, HI.out, HFO.out, HD.out]; rfl⟩
                        case measure => simp [intOf]; omega
                  · obtain rfl : o = 12 := by omega
                    clear hix
                    go_wp2_with (fail)
                    go_round
                    case rel => exact ⟨u + 1, by omega, by first | rfl | go_num, by unfold Hid; rw [HS.out, HU.out, HG.out, HF.out, HC.out, HI.out]; rfl⟩
                    case measure => simp [intOf]; omega
          · obtain rfl : u = 12 := by omega
            go_wp2_with (fail)
            go_ret
            exact ⟨ret_bool (by rw [HZ.out, HU.out]), HB.out⟩

end Go.Proofs.YtpcehgifpajmbaaGreat

/- Sound: the look at an example (law 05's works). -/
namespace Go.Proofs.YtpcehgifpajmbaaGreat
open Go Go.RowKit

def exC : List Cr := [⟨60, 3, false⟩, ⟨48, 0, true⟩]
def exS : List Int := [1, 2, 3]
def exP : List EvP := [⟨false, 4, false, false, false, [⟨1, 3, 0, 0, 0⟩, ⟨2, 0, 0, 0, 0⟩]⟩, ⟨false, 0, false, false, false, [⟨1, 0, 0, 0, 0⟩]⟩]
theorem ex1 : pcErr exC exS exP = 0 := by kernel_rfl
theorem ex2 : ntL exC exS exP = [⟨0, 1, 63, 0, 48⟩, ⟨0, 2, 48, 0, 96⟩, ⟨1, 1, 60, 48, 96⟩] := by kernel_rfl
theorem ex3 : atLs exC exS exP 0 = [48, 60, 63] := by kernel_rfl
theorem ex4 : atEr exC exS exP 0 = 0 := by kernel_rfl
theorem ex5 : pconB [48, 55, 64] = true := by kernel_rfl

theorem Sl_blk {w : World} {g size n : Nat} {cs : Array Value} {t : TypeId} {xs : List Value} (h : w.heap[g]? = some (.cells cs t (0, 0))) (he : cs.toList = xs) (hl : xs.length = n * size) : Sl w w.heap.size size (some ⟨g, 0, none⟩) n n xs := by
  refine ⟨Nat.le_refl _, hl, fun _ => ⟨g, 0, rfl, (Array.getElem?_eq_some_iff.1 h).1, fun j u hu => ?_⟩⟩
  rw [Nat.zero_add, cell_of_row w g j cs t (0, 0) h, ← Array.getElem?_toList, he]
  exact hu
abbrev exO0 : Obj := .cells #[.int .i64 60, .int .i64 3, .bool false, .int .i64 48, .int .i64 0, .bool true] 38
abbrev exO1 : Obj := .cells #[.int .i64 1, .int .i64 2, .int .i64 3] 3
abbrev exO2 (s : Nat) : Obj := .cells #[.slice (some ⟨s, 0, none⟩) 2 2, .slice (some ⟨s + 1, 0, none⟩) 3 3] 25
abbrev exO3 : Obj := .cells #[.int .i64 1, .int .i64 3, .int .i64 0, .int .i64 0, .int .i64 0, .int .i64 2, .int .i64 0, .int .i64 0, .int .i64 0, .int .i64 0] 42
abbrev exO4 : Obj := .cells #[.int .i64 1, .int .i64 0, .int .i64 0, .int .i64 0, .int .i64 0] 42
abbrev exO5 (s : Nat) : Obj := .cells #[.bool false, .int .i64 4, .bool false, .bool false, .bool false, .slice (some ⟨s + 3, 0, none⟩) 2 2, .bool false, .int .i64 0, .bool false, .bool false, .bool false, .slice (some ⟨s + 4, 0, none⟩) 1 1] 45
abbrev exW (w : World) : World := (((((w.alloc exO0).alloc exO1).alloc (exO2 w.heap.size)).alloc exO3).alloc exO4).alloc (exO5 w.heap.size)
theorem ex_pc (w : World) : PcIn (exW w) (some ⟨w.heap.size, 0, none⟩) 2 2 (some ⟨w.heap.size + 1, 0, none⟩) 3 3 (some ⟨w.heap.size + 5, 0, none⟩) 2 2 exC exS exP := by
  have h0 : (w.alloc exO0).heap[w.heap.size]? = some exO0 := heap_alloc_new w _
  have h1 : ((w.alloc exO0).alloc exO1).heap[w.heap.size + 1]? = some exO1 := by have := heap_alloc_new (w.alloc exO0) exO1; rwa [World.size_alloc] at this
  have h3 : ((((w.alloc exO0).alloc exO1).alloc (exO2 w.heap.size)).alloc exO3).heap[w.heap.size + 3]? = some exO3 := by
    have := heap_alloc_new (((w.alloc exO0).alloc exO1).alloc (exO2 w.heap.size)) exO3
    rwa [World.size_alloc, World.size_alloc, World.size_alloc] at this
  have h4 : (((((w.alloc exO0).alloc exO1).alloc (exO2 w.heap.size)).alloc exO3).alloc exO4).heap[w.heap.size + 4]? = some exO4 := by
    have := heap_alloc_new ((((w.alloc exO0).alloc exO1).alloc (exO2 w.heap.size)).alloc exO3) exO4
    rwa [World.size_alloc, World.size_alloc, World.size_alloc, World.size_alloc] at this
  have h5 : (exW w).heap[w.heap.size + 5]? = some (exO5 w.heap.size) := by
    have := heap_alloc_new (((((w.alloc exO0).alloc exO1).alloc (exO2 w.heap.size)).alloc exO3).alloc exO4) (exO5 w.heap.size)
    rwa [World.size_alloc, World.size_alloc, World.size_alloc, World.size_alloc, World.size_alloc] at this
  have b1 := ba (w.alloc exO0) exO1
  have b2 := bt b1 (ba _ (exO2 w.heap.size))
  have b3 := bt b2 (ba _ exO3)
  have b4 := bt b3 (ba _ exO4)
  have b5 : Below _ _ (exW w) := bt b4 (ba _ (exO5 w.heap.size))
  have c2 := ba ((w.alloc exO0).alloc exO1) (exO2 w.heap.size)
  have c5 : Below _ _ (exW w) := bt (bt (bt c2 (ba _ exO3)) (ba _ exO4)) (ba _ (exO5 w.heap.size))
  have d5 : Below _ _ (exW w) := bt (ba ((((w.alloc exO0).alloc exO1).alloc (exO2 w.heap.size)).alloc exO3) exO4) (ba _ (exO5 w.heap.size))
  have e5 : Below _ _ (exW w) := ba (((((w.alloc exO0).alloc exO1).alloc (exO2 w.heap.size)).alloc exO3).alloc exO4) (exO5 w.heap.size)
  refine ⟨(Sl_blk h0 rfl rfl).below b5, (Sl_blk h1 rfl rfl).below c5, rfl, rfl, rfl, [⟨false, 4, false, false, false, some ⟨w.heap.size + 3, 0, none⟩, 2, 2⟩, ⟨false, 0, false, false, false, some ⟨w.heap.size + 4, 0, none⟩, 1, 1⟩], ⟨rfl, fun k x y hx hy => ?_⟩, Sl_blk h5 rfl rfl⟩
  match k with
  | 0 =>
    simp [exP] at hx hy
    subst hx hy
    exact ⟨⟨rfl, rfl, rfl, rfl, rfl, rfl⟩, (Sl_blk h3 rfl rfl).below d5⟩
  | 1 =>
    simp [exP] at hx hy
    subst hx hy
    exact ⟨⟨rfl, rfl, rfl, rfl, rfl, rfl⟩, (Sl_blk h4 rfl rfl).below e5⟩
  | k + 2 => simp at hx

abbrev exO6 (s : Nat) : Obj := .cells #[.slice (some ⟨s, 0, none⟩) 2 2, .slice (some ⟨s + 1, 0, none⟩) 3 3, .slice (some ⟨s + 5, 0, none⟩) 2 2] 28
set_option maxRecDepth 100000 in
set_option maxHeartbeats 4000000 in
theorem works5 (w : World) : Calls Tryz.prog 5 #[] w fun e w' => e = .returned (.bool true) ∧ Below w.heap.size w w' := by
  have HPC : Hid (∀ w', Below (exW w).heap.size (exW w) w' → PcIn w' (some ⟨w.heap.size, 0, none⟩) 2 2 (some ⟨w.heap.size + 1, 0, none⟩) 3 3 (some ⟨w.heap.size + 5, 0, none⟩) 2 2 exC exS exP) := fun w' h => (ex_pc w).below h
  have HB : Hid (Below w.heap.size w (exW w)) := by
    refine bt (bt (bt (bt (bt (ba w _) (ba _ _)) (ba _ _)) (ba _ _)) (ba _ _)) (ba _ _)
  have HST : Hid (∀ y ∈ exP, y.L.length ≤ 1000000) := by
    intro y hy
    simp [exP] at hy
    rcases hy with rfl | rfl <;> decide
  go_enter Tryz.func5, Tryz.ntmps5
  go_wp2_with (first
    | (go_at_call 11; refine (notes_any _ _ _ _ _ _ _ _ _ exC exS exP _ (HPC.out _ (ba _ (exO6 w.heap.size))) (by decide) (by decide) (by decide) HST.out).mono ?_; rintro e w1 ⟨B1, n1, d1, rfl, hn1, hs1, hb1⟩; rw [ex2] at hn1 hs1; rw [ex1]; simp only [List.length_cons, List.length_nil, Nat.zero_add, Nat.reduceAdd] at hn1; subst hn1; have HS1 := Lib.hid hs1; have HB1 : Hid (Below (exW w).heap.size (exW w) w1) := bt (ba _ (exO6 w.heap.size)) hb1; obtain ⟨p0, p1, p2⟩ := cell3 hb1; simp only [World.size_alloc] at p0 p1 p2; clear hs1)
    | (go_at_call 12; refine (atS_any _ _ _ _ _ _ _ _ _ exC exS exP 0 _ (HPC.out _ HB1.out) (by decide) (by decide) (by decide) HST.out).mono ?_; rintro e w2 ⟨B2, n2, d2, rfl, hn2, hs2, hb2⟩; rw [ex3] at hn2 hs2; rw [ex4]; simp only [List.length_cons, List.length_nil, Nat.zero_add, Nat.reduceAdd] at hn2; subst hn2; obtain ⟨g2, o2, rfl, hg2, hc2⟩ := hs2.2.2 (by decide); obtain ⟨g1, o1, rfl, hg1, hc1⟩ := (HS1.out.below hb2).2.2 (by decide); have HB2 := Lib.hid (bt HB1.out hb2); have x0 := hc1 0 _ rfl; have x1 := hc1 1 _ rfl; have x2 := hc1 2 _ rfl; have x3 := hc1 3 _ rfl; have x4 := hc1 4 _ rfl; have x5 := hc1 5 _ rfl; have x6 := hc1 6 _ rfl; have x7 := hc1 7 _ rfl; have x8 := hc1 8 _ rfl; have x9 := hc1 9 _ rfl; have y0 := hc2 0 _ rfl; have y1 := hc2 1 _ rfl; have y2 := hc2 2 _ rfl; simp only [Nat.add_zero] at x0 y0; clear hc1 hc2 hs2 p0 p1 p2)
    | (go_at_call 13; refine (concordant_any (some ⟨w2.heap.size, 0, none⟩) 3 3 [48, 55, 64] _ (Sl_blk (heap_alloc_new w2 (.cells #[.int .i64 48, .int .i64 55, .int .i64 64] 3)) rfl rfl) rfl (by decide)).mono ?_; rintro e w3 ⟨rfl, hb3⟩; rw [ex5]))
  go_ret
  exact ⟨rfl, bt (bt HB.out HB2.out) (bx hb3)⟩

end Go.Proofs.YtpcehgifpajmbaaGreat
