/- Sound: the two choices of a pitch. -/
import Derived.Test.YtcebpgcmmdfccaaLn
import Derived.Test.YtcebpgcmmdfccaaSndAt2
import Derived.Laws.CopyOwn
import Derived.Deep.RegionLaw
import Derived.IntWalk
import Derived.StillTailTactics
namespace Go.Proofs.Ytcebpgcmmdfccaa
open Go Go.RowKit

theorem mel1_any (a b : Int) (w : World) : Calls Try.prog 74 #[.int .i64 a, .int .i64 b] w fun e w' => e = .returned (.int .i64 (chV true a b)) ∧ w' = w := by
  have HC : Hid (chV true a b = if true then max a b else min a b) := rfl
  rcases Int.lt_trichotomy a b with h | h | h
  · have h2 : ¬ b < a := by omega
    have h3 : ¬ a = b := by omega
    go_enter Try.func74, Try.ntmps74
    go_wp2_with (fail)
    go_ret
    exact ⟨ret_int (by rw [HC.out]; first | (simp; done) | (simp; omega)), rfl⟩
  · subst h
    go_enter Try.func74, Try.ntmps74
    go_wp2_with (fail)
    go_ret
    exact ⟨ret_int (by rw [HC.out]; simp), rfl⟩
  · have h2 : ¬ a < b := by omega
    have h3 : ¬ a = b := by omega
    go_enter Try.func74, Try.ntmps74
    go_wp2_with (fail)
    go_ret
    exact ⟨ret_int (by rw [HC.out]; first | (simp; done) | (simp; omega)), rfl⟩
theorem gro1_any (a b : Int) (w : World) : Calls Try.prog 76 #[.int .i64 a, .int .i64 b] w fun e w' => e = .returned (.int .i64 (chV false a b)) ∧ w' = w := by
  have HC : Hid (chV false a b = if false then max a b else min a b) := rfl
  rcases Int.lt_trichotomy a b with h | h | h
  · have h2 : ¬ b < a := by omega
    have h3 : ¬ a = b := by omega
    go_enter Try.func76, Try.ntmps76
    go_wp2_with (fail)
    go_ret
    exact ⟨ret_int (by rw [HC.out]; first | (simp; done) | (simp; omega)), rfl⟩
  · subst h
    go_enter Try.func76, Try.ntmps76
    go_wp2_with (fail)
    go_ret
    exact ⟨ret_int (by rw [HC.out]; simp), rfl⟩
  · have h2 : ¬ a < b := by omega
    have h3 : ¬ a = b := by omega
    go_enter Try.func76, Try.ntmps76
    go_wp2_with (fail)
    go_ret
    exact ⟨ret_int (by rw [HC.out]; first | (simp; done) | (simp; omega)), rfl⟩

end Go.Proofs.Ytcebpgcmmdfccaa

/- Sound: slices.Repeat of one number. -/
namespace Go.Proofs.Ytcebpgcmmdfccaa
open Go Go.RowKit

theorem mul1 (n : Nat) (hn : n ≤ 1000) (w : World) : Calls Try.prog 106 #[.int .u64 1, .int .u64 n] w fun e w' => e = .returned (.tuple #[.int .u64 0, .int .u64 n]) ∧ w = w' := by
  refine (Try.bits_Mul 1 n (by decide) (by omega) w).mono ?_
  rintro e w' ⟨rfl, rfl⟩
  refine ⟨?_, rfl⟩
  rw [Nat.one_mul, Nat.div_eq_of_lt (by omega), Nat.mod_eq_of_lt (by omega)]
  rfl
theorem rep_step (v : Value) (Z : List Value) (k r : Nat) : splice (List.replicate k v ++ Z) k (List.replicate r v) = List.replicate (k + r) v ++ Z.drop r := by
  unfold splice
  rw [List.length_replicate, List.take_append_of_le_length (by simp), List.take_of_length_le (by simp), List.drop_append]
  simp
  rw [← List.append_assoc, List.replicate_append_replicate]
theorem rep_at (v : Value) (Z : List Value) (k j : Nat) (h : j < k) : (List.replicate k v ++ Z)[j]? = some v := by
  rw [List.getElem?_append_left (by simpa using h)]
  simp [h]
theorem rep_one (x : Int) (r : Nat) : ∀ v ∈ List.replicate r (Value.int .i64 x), v.oneCell' = true := by
  intro v hv
  obtain ⟨_, rfl⟩ := List.mem_replicate.1 hv
  rfl
def RepR (w wr : World) (g n : Nat) (x : Int) (k : Nat) : Prop :=
  Below w.heap.size w wr ∧ ∃ Z : List Value, Z.length = n - k ∧ Blk wr g 3 (List.replicate k (Value.int .i64 x) ++ Z).toArray

set_option maxRecDepth 100000 in
set_option maxHeartbeats 4000000 in
theorem repeat_any (b o c : Nat) (x : Int) (n : Nat) (w : World) (hx : w.cell? ⟨b, o, none⟩ = some (.int .i64 x)) (hb : b < w.heap.size) (hn : n ≤ 1000) :
    Calls Try.prog 90 #[.slice (some ⟨b, o, none⟩) 1 c, .int .i64 n] w fun e w' => ∃ g, e = .returned (.slice (some ⟨g, 0, none⟩) n n) ∧ w.heap.size ≤ g ∧ (0 < n → Blk w' g 3 (List.replicate n (.int .i64 x)).toArray) ∧ Below w.heap.size w w' := by
  have HX : Hid (∀ w', Below w.heap.size w w' → w'.cell? ⟨b, o, none⟩ = some (.int .i64 x)) := fun w' h => cell_same (h.block b hb) hx
  obtain ⟨i0, ii1, ii2, ii3, ii4⟩ := info_parts Try.info3'
  have hsz : (Try.prog.info? 3).map (·.size) = some 1 := by rw [ii1]; simp [ii3]
  have HSZ := Lib.hid hsz
  have hnz : ¬ ((n : Int) < 0) := by omega
  clear hx hsz
  go_enter Try.func90, Try.ntmps90
  go_wp2_with (first
    | (go_at_call 106; refine (mul1 n hn _).mono ?_; rintro e w1 ⟨rfl, rfl⟩)
    | (at_make; refine wpList_make_full _ rfl _ _ 23 rfl w.heap.size 3 i0 _ 1 Try.underlying23 ii1 ii2 ii3 .i64 .i64 _ _ n rfl rfl rfl rfl (by rw [ii4]; omega) (by unfold maxLen; omega) (Nat.le_refl _) ?_))
  intro w2 hown hgrow
  have hb2 : Below w.heap.size w w2 := Below.grown (Below.refl _ _) hgrow (Nat.le_refl _) (fun g h => by cases h)
  by_cases h0 : n = 0
  · subst h0
    clear hown hgrow
    go_wp2_with (with_reducible refine wpList_copy_nothing rfl (.tmp 31) (.tmp 32) 23 23 rfl 3 Try.underlying23 HSZ.out _ _ _ _ _ _ rfl rfl (by simp) ?_)
    refine wp_loop_rounds 1 ?_
    rw [rounds_succ]
    go_wp2_with (fail)
    go_ret
    exact ⟨_, rfl, Nat.le_refl _, fun h => by omega, hb2⟩
  · have hR0 : ∃ Z : List Value, Z.length = n ∧ Blk w2 w.heap.size 3 Z.toArray := by
      obtain ⟨g, cur, e1, _, e3, e4, _⟩ := (Ow.of_own hown).2.2 (by omega)
      injection e1 with e1
      injection e1 with e1
      subst e1
      exact ⟨cur.toList, by simp; omega, by simpa using e3⟩
    obtain ⟨Z, hZ, hBZ⟩ := hR0
    have HZ := Lib.hid hZ
    have HBZ := Lib.hid hBZ
    have HB2 := Lib.hid hb2
    have hn0 : 0 < n := by omega
    clear hown hgrow hZ hBZ hb2
    go_wp2_with (refine wpList_copy_splice (o := ⟨some 33, _, _, _, _, _⟩) rfl (.tmp 31) (.tmp 32) 23 23 rfl 3 Try.underlying23 HSZ.out _ _ _ _ _ _ rfl rfl w.heap.size 0 Z 3 HBZ.out (List.replicate 1 (.int .i64 x)) (by rw [List.length_replicate]; show 1 = min 1 n; omega) (fun _ => ⟨rfl, _, rfl, fun j v hj => by have := HX.out _ HB2.out; obtain ⟨rfl, rfl⟩ : j = 0 ∧ v = .int .i64 x := (by cases j <;> simp at hj; exact ⟨rfl, hj.symm⟩); simpa [Addr.add] using this⟩) (by simp; have := HZ.out; omega) (rep_one x 1) w.heap.size w HB2.out (Nat.le_refl _) ?_)
    intro w3 HG3 hB3
    have HR0 : Hid (RepR w w3 w.heap.size n x 1) := ⟨hB3, Z.drop 1, by have := HZ.out; simp; omega, by unfold Blk; rw [HG3.out]; simp [splice]⟩
    clear HG3 hB3 HBZ HZ
    go_wp2_with (fail)
    go_loopw [8] (fun i wr => ∃ k : Nat, 1 ≤ k ∧ k ≤ n ∧ i = .int .i64 k ∧ Hid (RepR w wr w.heap.size n x k)) (fun i _ => n - (intOf i).toNat)
    case atStart => exact ⟨1, by omega, by omega, rfl, HR0⟩
    case round =>
      obtain ⟨k, hk1, hk, rfl, HR⟩ := hrel
      by_cases hlt : k < n
      · have hkn : (k : Int) < (n : Int) := by omega
        obtain ⟨Y, hY, hBY⟩ := HR.out.2
        have HY := Lib.hid hY
        have HBY := Lib.hid hBY
        obtain ⟨r, hr⟩ : ∃ r, r = Nat.min k (n - k) := ⟨_, rfl⟩
        have hr1 : 1 ≤ r := by rw [hr]; show 1 ≤ min k (n - k); omega
        have hr2 : k + r ≤ n := by rw [hr]; show k + min k (n - k) ≤ n; omega
        have hr3 : r ≤ k := by rw [hr]; exact Nat.min_le_left _ _
        have HRR := Lib.hid hr
        have hkz : (0 : Int) ≤ (k : Int) := by omega
        have hkc : ¬ n = k := by omega
        have w1' : IntKind.i64.wrap ((k : Int) + (r : Int)) = (k : Int) + (r : Int) := IntWalk.i64_in _ ⟨by omega, by omega⟩
        clear hY hBY hr
        have HBD : Hid (wr.drew.heap[w.heap.size]? = some (.cells (List.replicate k (Value.int .i64 x) ++ Y).toArray 3 (0, 0))) := HBY.out
        have HSRC : Hid (∀ (j : Nat) (v : Value), (List.replicate r (Value.int .i64 x))[j]? = some v → wr.drew.cell? (Addr.add ⟨w.heap.size, 0, none⟩ j) = some v) := by
          intro j v hj
          have hj2 := (List.getElem?_eq_some_iff.1 hj).1
          rw [List.length_replicate] at hj2
          have hv : Value.int .i64 x = v := by simpa [hj2] using hj
          have e : Addr.add ⟨w.heap.size, 0, none⟩ j = ⟨w.heap.size, j, none⟩ := by unfold Addr.add; split <;> simp_all
          rw [e, ← hv]
          have := HBY.out.cell j
          rw [List.getElem?_toArray, rep_at _ _ _ _ (by omega)] at this
          exact this
        go_wp2_with (fail)
        go_region_law (refine step_copy_splice rfl (.tmp 41) (.tmp 44) 23 23 rfl 3 Try.underlying23 HSZ.out (some ⟨w.heap.size, k, none⟩) (some ⟨w.heap.size, 0, none⟩) (n - k) (n - k) k n (by simp [Act.eval, Act.put]) (by simp [Act.eval, Act.put]) w.heap.size k (List.replicate k (.int .i64 x) ++ Y) 3 HBD.out (List.replicate r (.int .i64 x)) (by simp; exact HRR.out) (fun _ => ⟨rfl, _, rfl, HSRC.out⟩) (by simp; have := HY.out; omega) (rep_one x r) w.heap.size w HR.out.1.drew (Nat.le_refl _) ?_; intro w4 HG4 hB4)
        have HR2 : Hid (RepR w w4 w.heap.size n x (k + r)) := ⟨hB4, Y.drop r, by have := HY.out; simp; omega, by unfold Blk; rw [HG4.out, rep_step]⟩
        clear HG4 hB4 HBY HY
        simp only [List.getElem_toArray, List.getElem_cons_succ, List.getElem_cons_zero, Act.put, List.setIfInBounds_toArray, List.set_cons_succ, List.set_cons_zero]
        go_wp2_with (fail)
        go_roundw
        case rel => exact ⟨k + r, by omega, by omega, by first | rfl | go_num, HR2⟩
        case measure => simp [intOf]; omega
      · obtain rfl : k = n := by omega
        obtain ⟨Y, hY, hBY⟩ := HR.out.2
        obtain rfl : Y = [] := List.eq_nil_of_length_eq_zero (by omega)
        have HBY := Lib.hid hBY
        clear hY hBY
        go_wp2_with (fail)
        go_ret
        exact ⟨_, rfl, Nat.le_refl _, fun _ => by have := HBY.out; simpa using this, HR.out.1⟩

end Go.Proofs.Ytcebpgcmmdfccaa

/- Sound: eachEvent, Melody and Ground, for any piece. -/
namespace Go.Proofs.Ytcebpgcmmdfccaa
open Go Go.RowKit

abbrev ntO (x0 x1 x2 x3 x4 : Int) : Obj := .cells #[.int .i64 x0, .int .i64 x1, .int .i64 x2, .int .i64 x3, .int .i64 x4] 74
theorem intC_set (L : List Int) (e : Nat) (v : Int) : (intC L).toArray.setIfInBounds e (.int .i64 v) = (intC (L.set e v)).toArray := by
  unfold intC
  rw [List.setIfInBounds_toArray, List.map_set]
theorem rep_intC (q : Nat) : (List.replicate q (Value.int .i64 (-1))) = intC (List.replicate q (-1)) := by simp [intC]
theorem mel1s_any {a b v : Int} (w : World) (_ : Unit) (h : chV true a b = v) : Calls Try.prog 74 #[.int .i64 a, .int .i64 b] w fun e w' => e = .returned (.int .i64 v) ∧ w' = w := by subst h; exact mel1_any a b w
theorem gro1s_any {a b v : Int} (w : World) (_ : Unit) (h : chV false a b = v) : Calls Try.prog 76 #[.int .i64 a, .int .i64 b] w fun e w' => e = .returned (.int .i64 v) ∧ w' = w := by subst h; exact gro1_any a b w

set_option maxRecDepth 100000 in
set_option maxHeartbeats 8000000 in
theorem each_true (A : Option Addr) (n c : Nat) (A' : Option Addr) (m c' : Nat) (A2 : Option Addr) (q cq : Nat) (C : List Cr) (S : List Int) (P : List EvP) (w : World) (hP : PcIn w A n c A' m c' A2 q cq C S P) (hnb : n ≤ 1000000) (hmb : m ≤ 1000000) (hq : q ≤ 65536) (hst : ∀ y ∈ P, y.L.length ≤ 1000000) :
    Calls Try.prog 73 #[pcV A n c A' m c' A2 q cq, .func (.func 74) #[] #[]] w (NmPost (lnL true C S P) (pcErr C S P) w) := by
  have HNT := Lib.hid (notes_any A n c A' m c' A2 q cq C S P _ (hP.below (ba w (pcO A n c A' m c' A2 q cq))) hnb hmb hq hst)
  unfold NtPost at HNT
  unfold NmPost
  have HQL := Lib.hid hP.es.hq
  have HLL := Lib.hid (ntL_len C S P)
  have HZ : Hid (pcErr C S P ≠ 0 → lnL true C S P = []) := fun h => by unfold lnL; rw [if_neg h]
  have HQB : Hid (pcErr C S P = 0 → q ≤ 400) := fun h => by have := (pcErr_ok h).2.1; have := hP.es.hq; omega
  have HAL : Hid (pcErr C S P = 0 → lnR true q (ntL C S P) = lnL true C S P) := fun h => by rw [hP.es.hq]; exact lnR_all h
  have HEV : Hid (∀ t ∈ ntL C S P, ∃ e : Nat, t.ev = (e : Int) ∧ e < P.length) := ntL_ev
  have HPP : Hid (∀ t ∈ ntL C S P, 0 ≤ t.p) := fun t ht => (ntL_ok C S P t ht).2.2.1
  clear hP hst
  generalize lnL true C S P = V at *
  generalize ntL C S P = U at *
  generalize pcErr C S P = X at *
  by_cases hX : X = 0
  · subst hX
    have HALL := Lib.hid (HAL.out rfl)
    have hq4 : q ≤ 1000 := by have := HQB.out rfl; omega
    have hVL : Hid (q = V.length) := by unfold Hid; rw [← HALL.out, lnR_len]
    clear HZ HQB HAL
    go_enter Try.func73, Try.ntmps73
    go_wp2_with (first
      | (go_at_call 21; refine HNT.out.mono ?_; rintro e w1 ⟨A1, n1, c1, rfl, hn1, hA1, hb1⟩; have HN := Lib.hid hn1; have HA := Lib.hid hA1; have HB1 := Lib.hid hb1; have hz1 : w.heap.size < w1.heap.size := (by have := hb1.size; simp at this; omega); have hn1b : n1 ≤ 5600 := (by have := HLL.out; omega); obtain ⟨p0, p1, p2⟩ := cell3 hb1; clear hn1 hA1 hb1)
      | (go_at_call 90; refine (repeat_any w1.heap.size 0 1 (-1) q _ (by simp) (by simp) hq4).mono ?_; rintro e w2 ⟨g, rfl, hgs, hrow, hb2⟩; have HR0 := Lib.hid hrow; have HB2 := Lib.hid (bx hb2); have HGS : Hid (w1.heap.size ≤ g) := (by rw [World.size_alloc] at hgs; unfold Hid; omega); clear hrow hb2 hgs))
    go_loopw [26, 10] (fun i _ wr => ∃ k : Nat, k ≤ n1 ∧ i = .int .i64 k ∧ Hid (Below w1.heap.size w1 wr) ∧ Hid (0 < q → Blk wr g 3 (intC (lnR true q (U.take k))).toArray)) (fun i _ _ => n1 - (intOf i).toNat)
    case atStart => exact ⟨0, by omega, rfl, HB2.out, fun h => by rw [lnR_zero, ← rep_intC]; exact HR0.out h⟩
    case round =>
      obtain ⟨k, hk, rfl, HW, HROW⟩ := hrel
      by_cases hlt : k < n1
      · have hkn : (k : Int) < (n1 : Int) := by omega
        have hkT : k < U.length := by have := HN.out; omega
        obtain ⟨b, off, rfl, hB, hc⟩ := (HA.out.below HW.out).2.2 (by omega)
        obtain ⟨j0, j1, j2, j3, j4⟩ := ntC_at U k hkT
        have a0 := hc _ _ j0
        have a1 := hc _ _ j1
        have a2 := hc _ _ j2
        have a3 := hc _ _ j3
        have a4 := hc _ _ j4
        rw [← Nat.add_assoc] at a1 a2 a3 a4
        have hmem : U.getD k zNt ∈ U := by
          rw [show U.getD k zNt = U[k] by simp [List.getElem?_eq_getElem hkT]]
          exact List.getElem_mem hkT
        obtain ⟨e, he1, he2⟩ := HEV.out _ hmem
        have heq : e < q := by have := HQL.out; omega
        have hei : (e : Int) < (q : Int) := by omega
        have hpp := HPP.out _ hmem
        have HST := Lib.hid (lnR_step true q U hkT he1 heq)
        have hbd := lnR_bd (hi := true) (k := k) HPP.out e
        have hrat := lnR_at true q (U.take k) heq
        have HBK := Lib.hid (HROW.out (by omega))
        clear hc j0 j1 j2 j3 j4 hmem hkT he2
        generalize U.getD k zNt = x at *
        obtain ⟨x0, x1, x2, x3, x4⟩ := x
        dsimp only at a0 a1 a2 a3 a4 he1 hpp HST
        subst he1
        obtain ⟨cv, hcv⟩ : ∃ cv, lnF true (pOf (U.take k) e) = cv := ⟨_, rfl⟩
        rw [hcv] at HST hbd hrat
        have HCV := Lib.hid hcv
        clear hcv HCV
        have hgr : g < wr.heap.size := HBK.out.lt
        have k0 : wr.cell? ⟨g, e, none⟩ = some (.int .i64 cv) := by
          rw [HBK.out.cell e]
          unfold intC
          simp [hrat]
        have k1 : wr.frozen? ⟨g, e, none⟩ = false := HBK.out.frozen e
        have hgb : Hid (∀ v, Below w1.heap.size w1 ((wr.alloc (ntO e x1 x2 x3 x4)).setCell ⟨g, e, none⟩ v)) := fun v => (bt HW.out (ba wr _)).setCell HGS.out v
        have HBN := Lib.hid (HBK.out.below (ba wr (ntO e x1 x2 x3 x4)))
        have HAB : Hid (chV true = chV true) := rfl
        clear hrat
        have hne1 : ¬ wr.heap.size = g := by omega
        by_cases hc1 : cv = -1
        · subst hc1
          have HS : Hid (lnS true (-1) x2 = x2) := by unfold Hid lnS; simp
          have HCH : Hid (chV true x2 x2 = x2) := by unfold Hid chV; simp
          go_wp2_with (fail)
          have hsz : (wr.setCell ⟨g, e, none⟩ (.int .i64 x2)).heap.size = wr.heap.size := by simp
          have HBS := HBK.out.set_ e (.int .i64 x2)
          rw [intC_set] at HBS
          have HBA := HBS.below (ba (wr.setCell ⟨g, e, none⟩ (.int .i64 x2)) (ntO e x1 x2 x3 x4))
          have hc5 := cell5 (w := wr.setCell ⟨g, e, none⟩ (.int .i64 x2)) (Below.refl _ ((wr.setCell ⟨g, e, none⟩ (.int .i64 x2)).alloc (ntO e x1 x2 x3 x4)))
          rw [hsz] at hc5
          have n0 : ((wr.setCell ⟨g, e, none⟩ (.int .i64 x2)).alloc (ntO e x1 x2 x3 x4)).drew.cell? ⟨wr.heap.size, 0, none⟩ = some (.int .i64 e) := hc5.1
          have n2 : ((wr.setCell ⟨g, e, none⟩ (.int .i64 x2)).alloc (ntO e x1 x2 x3 x4)).drew.cell? ⟨wr.heap.size, 2, none⟩ = some (.int .i64 x2) := hc5.2.2.1
          have v0 : ((wr.setCell ⟨g, e, none⟩ (.int .i64 x2)).alloc (ntO e x1 x2 x3 x4)).drew.cell? ⟨g, e, none⟩ = some (.int .i64 x2) := by
            show ((wr.setCell ⟨g, e, none⟩ (.int .i64 x2)).alloc (ntO e x1 x2 x3 x4)).cell? ⟨g, e, none⟩ = some (.int .i64 x2)
            rw [HBA.cell e]
            simp [intC, lnR_len, heq]
          have v1 : ((wr.setCell ⟨g, e, none⟩ (.int .i64 x2)).alloc (ntO e x1 x2 x3 x4)).drew.frozen? ⟨g, e, none⟩ = false := HBA.frozen e
          have HF2 : Hid (0 < q → Blk (((wr.setCell ⟨g, e, none⟩ (.int .i64 x2)).alloc (ntO e x1 x2 x3 x4)).drew.setCell ⟨g, e, none⟩ (.int .i64 x2)) g 3 (intC (lnR true q (U.take (k + 1)))).toArray) := fun _ => by
            have := HBA.set_ e (.int .i64 x2)
            rw [intC_set, List.set_set] at this
            rw [HST.out, HS.out]
            exact this
          have HB9 : Hid (Below w1.heap.size w1 (((wr.setCell ⟨g, e, none⟩ (.int .i64 x2)).alloc (ntO e x1 x2 x3 x4)).drew.setCell ⟨g, e, none⟩ (.int .i64 x2))) := (bt (HW.out.setCell HGS.out _) (ba _ _)).drew.setCell HGS.out _
          obtain ⟨W, hW⟩ : ∃ W, (wr.setCell ⟨g, e, none⟩ (.int .i64 x2)).alloc (ntO e x1 x2 x3 x4) = W := ⟨_, rfl⟩
          rw [hW] at n0 n2 v0 v1 HF2 HB9 ⊢
          clear hW a0 a1 a2 a3 a4 k0 k1 HBS HBA hc5 hsz
          refine wp_region_still_tail 13 (by kernel_rfl) (by kernel_rfl) ?_
          simp only [List.take_succ_cons, List.take_zero, List.drop_succ_cons, List.drop_zero]
          repeat still_step
          still_call (mel1s_any _ () HCH.out)
          repeat still_step
          refine wpStill_nil ?_
          go_wp2_with (fail)
          go_roundw
          case rel => exact ⟨k + 1, by omega, by first | rfl | go_num, HB9, HF2⟩
          case measure => simp [intOf]; omega
        · have HS : Hid (lnS true cv x2 = chV true cv x2) := by unfold Hid lnS; rw [if_neg (by omega)]
          have hcb : (cv == -1) = false := by simpa using hc1
          have HF2 : Hid (0 < q → Blk ((wr.alloc (ntO e x1 x2 x3 x4)).setCell ⟨g, e, none⟩ (.int .i64 (chV true cv x2))) g 3 (intC (lnR true q (U.take (k + 1)))).toArray) := fun _ => by
            have := HBN.out.set_ e (.int .i64 (chV true cv x2))
            rw [intC_set] at this
            rw [HST.out, HS.out]
            exact this
          go_wp2_with (fail)
          have n0 : (wr.alloc (ntO e x1 x2 x3 x4)).drew.cell? ⟨wr.heap.size, 0, none⟩ = some (.int .i64 e) := (cell5 (w := wr) (Below.refl _ (wr.alloc (ntO e x1 x2 x3 x4)))).1
          have n2 : (wr.alloc (ntO e x1 x2 x3 x4)).drew.cell? ⟨wr.heap.size, 2, none⟩ = some (.int .i64 x2) := (cell5 (w := wr) (Below.refl _ (wr.alloc (ntO e x1 x2 x3 x4)))).2.2.1
          have v0 : (wr.alloc (ntO e x1 x2 x3 x4)).drew.cell? ⟨g, e, none⟩ = some (.int .i64 cv) := cell_same (w := wr) ((ba wr (ntO e x1 x2 x3 x4)).block g hgr) k0
          have v1 : (wr.alloc (ntO e x1 x2 x3 x4)).drew.frozen? ⟨g, e, none⟩ = false := HBN.out.frozen e
          have HF2 : Hid (0 < q → Blk ((wr.alloc (ntO e x1 x2 x3 x4)).drew.setCell ⟨g, e, none⟩ (.int .i64 (chV true cv x2))) g 3 (intC (lnR true q (U.take (k + 1)))).toArray) := HF2.out
          have HB9 : Hid (Below w1.heap.size w1 ((wr.alloc (ntO e x1 x2 x3 x4)).drew.setCell ⟨g, e, none⟩ (.int .i64 (chV true cv x2)))) := (bt HW.out (ba wr _)).drew.setCell HGS.out _
          obtain ⟨W, hW⟩ : ∃ W, wr.alloc (ntO e x1 x2 x3 x4) = W := ⟨_, rfl⟩
          rw [hW] at n0 n2 v0 v1 HF2 HB9 ⊢
          clear hW a0 a1 a2 a3 a4 k0 k1
          refine wp_region_still_tail 13 (by kernel_rfl) (by kernel_rfl) ?_
          simp only [List.take_succ_cons, List.take_zero, List.drop_succ_cons, List.drop_zero]
          repeat still_step
          still_call (mel1s_any _ () rfl)
          repeat still_step
          refine wpStill_nil ?_
          go_wp2_with (fail)
          go_roundw
          case rel => exact ⟨k + 1, by omega, by first | rfl | go_num, HB9, HF2⟩
          case measure => simp [intOf]; omega
      · obtain rfl : k = n1 := by omega
        have HFIN : Hid (0 < q → Blk wr g 3 (intC V).toArray) := fun h => by
          have := HROW.out h
          rw [List.take_of_length_le (by have := HN.out; omega), HALL.out] at this
          exact this
        go_wp2_with (fail)
        go_ret2
        refine ⟨_, _, _, rfl, hVL.out, ⟨Nat.le_refl _, by have := hVL.out; simp [intC]; omega, fun h => ⟨g, 0, rfl, (HFIN.out h).lt, fun j u hu => ?_⟩⟩, bx (bt HB1.out HW.out)⟩
        rw [Nat.zero_add, (HFIN.out h).cell j, List.getElem?_toArray]
        exact hu
  · have hXb : (X != 0) = true := by simpa using hX
    have HV0 : Hid (V = []) := HZ.out hX
    clear hX HZ
    go_enter Try.func73, Try.ntmps73
    go_wp2_with (go_at_call 21; refine HNT.out.mono ?_; rintro e w1 ⟨A1, n1, c1, rfl, hn1, hA1, hb1⟩; clear hn1 hA1)
    go_ret2
    exact ⟨none, 0, 0, rfl, by rw [HV0.out]; rfl, by rw [HV0.out]; exact Sl.none_ _ _ _, bx hb1⟩

set_option maxRecDepth 100000 in
theorem melody_any (A : Option Addr) (n c : Nat) (A' : Option Addr) (m c' : Nat) (A2 : Option Addr) (q cq : Nat) (C : List Cr) (S : List Int) (P : List EvP) (w : World) (hP : PcIn w A n c A' m c' A2 q cq C S P) (hnb : n ≤ 1000000) (hmb : m ≤ 1000000) (hq : q ≤ 65536) (hst : ∀ y ∈ P, y.L.length ≤ 1000000) :
    Calls Try.prog 41 #[pcV A n c A' m c' A2 q cq] w (NmPost (lnL true C S P) (pcErr C S P) w) := by
  have HE := Lib.hid (each_true A n c A' m c' A2 q cq C S P _ (hP.below (ba w (pcO A n c A' m c' A2 q cq))) hnb hmb hq hst)
  unfold NmPost at HE ⊢
  clear hP hst
  generalize lnL true C S P = V at *
  generalize pcErr C S P = X at *
  go_enter Try.func41, Try.ntmps41
  go_wp2_with (go_at_call 73; refine HE.out.mono ?_; rintro e w1 ⟨A1, n1, c1, rfl, hn1, hA1, hb1⟩; have HN := Lib.hid (And.intro hn1 hA1); clear hn1 hA1)
  go_ret2
  exact ⟨A1, n1, c1, rfl, HN.out.1, HN.out.2, bx hb1⟩

set_option maxRecDepth 100000 in
set_option maxHeartbeats 8000000 in
theorem each_false (A : Option Addr) (n c : Nat) (A' : Option Addr) (m c' : Nat) (A2 : Option Addr) (q cq : Nat) (C : List Cr) (S : List Int) (P : List EvP) (w : World) (hP : PcIn w A n c A' m c' A2 q cq C S P) (hnb : n ≤ 1000000) (hmb : m ≤ 1000000) (hq : q ≤ 65536) (hst : ∀ y ∈ P, y.L.length ≤ 1000000) :
    Calls Try.prog 73 #[pcV A n c A' m c' A2 q cq, .func (.func 76) #[] #[]] w (NmPost (lnL false C S P) (pcErr C S P) w) := by
  have HNT := Lib.hid (notes_any A n c A' m c' A2 q cq C S P _ (hP.below (ba w (pcO A n c A' m c' A2 q cq))) hnb hmb hq hst)
  unfold NtPost at HNT
  unfold NmPost
  have HQL := Lib.hid hP.es.hq
  have HLL := Lib.hid (ntL_len C S P)
  have HZ : Hid (pcErr C S P ≠ 0 → lnL false C S P = []) := fun h => by unfold lnL; rw [if_neg h]
  have HQB : Hid (pcErr C S P = 0 → q ≤ 400) := fun h => by have := (pcErr_ok h).2.1; have := hP.es.hq; omega
  have HAL : Hid (pcErr C S P = 0 → lnR false q (ntL C S P) = lnL false C S P) := fun h => by rw [hP.es.hq]; exact lnR_all h
  have HEV : Hid (∀ t ∈ ntL C S P, ∃ e : Nat, t.ev = (e : Int) ∧ e < P.length) := ntL_ev
  have HPP : Hid (∀ t ∈ ntL C S P, 0 ≤ t.p) := fun t ht => (ntL_ok C S P t ht).2.2.1
  clear hP hst
  generalize lnL false C S P = V at *
  generalize ntL C S P = U at *
  generalize pcErr C S P = X at *
  by_cases hX : X = 0
  · subst hX
    have HALL := Lib.hid (HAL.out rfl)
    have hq4 : q ≤ 1000 := by have := HQB.out rfl; omega
    have hVL : Hid (q = V.length) := by unfold Hid; rw [← HALL.out, lnR_len]
    clear HZ HQB HAL
    go_enter Try.func73, Try.ntmps73
    go_wp2_with (first
      | (go_at_call 21; refine HNT.out.mono ?_; rintro e w1 ⟨A1, n1, c1, rfl, hn1, hA1, hb1⟩; have HN := Lib.hid hn1; have HA := Lib.hid hA1; have HB1 := Lib.hid hb1; have hz1 : w.heap.size < w1.heap.size := (by have := hb1.size; simp at this; omega); have hn1b : n1 ≤ 5600 := (by have := HLL.out; omega); obtain ⟨p0, p1, p2⟩ := cell3 hb1; clear hn1 hA1 hb1)
      | (go_at_call 90; refine (repeat_any w1.heap.size 0 1 (-1) q _ (by simp) (by simp) hq4).mono ?_; rintro e w2 ⟨g, rfl, hgs, hrow, hb2⟩; have HR0 := Lib.hid hrow; have HB2 := Lib.hid (bx hb2); have HGS : Hid (w1.heap.size ≤ g) := (by rw [World.size_alloc] at hgs; unfold Hid; omega); clear hrow hb2 hgs))
    go_loopw [26, 10] (fun i _ wr => ∃ k : Nat, k ≤ n1 ∧ i = .int .i64 k ∧ Hid (Below w1.heap.size w1 wr) ∧ Hid (0 < q → Blk wr g 3 (intC (lnR false q (U.take k))).toArray)) (fun i _ _ => n1 - (intOf i).toNat)
    case atStart => exact ⟨0, by omega, rfl, HB2.out, fun h => by rw [lnR_zero, ← rep_intC]; exact HR0.out h⟩
    case round =>
      obtain ⟨k, hk, rfl, HW, HROW⟩ := hrel
      by_cases hlt : k < n1
      · have hkn : (k : Int) < (n1 : Int) := by omega
        have hkT : k < U.length := by have := HN.out; omega
        obtain ⟨b, off, rfl, hB, hc⟩ := (HA.out.below HW.out).2.2 (by omega)
        obtain ⟨j0, j1, j2, j3, j4⟩ := ntC_at U k hkT
        have a0 := hc _ _ j0
        have a1 := hc _ _ j1
        have a2 := hc _ _ j2
        have a3 := hc _ _ j3
        have a4 := hc _ _ j4
        rw [← Nat.add_assoc] at a1 a2 a3 a4
        have hmem : U.getD k zNt ∈ U := by
          rw [show U.getD k zNt = U[k] by simp [List.getElem?_eq_getElem hkT]]
          exact List.getElem_mem hkT
        obtain ⟨e, he1, he2⟩ := HEV.out _ hmem
        have heq : e < q := by have := HQL.out; omega
        have hei : (e : Int) < (q : Int) := by omega
        have hpp := HPP.out _ hmem
        have HST := Lib.hid (lnR_step false q U hkT he1 heq)
        have hbd := lnR_bd (hi := false) (k := k) HPP.out e
        have hrat := lnR_at false q (U.take k) heq
        have HBK := Lib.hid (HROW.out (by omega))
        clear hc j0 j1 j2 j3 j4 hmem hkT he2
        generalize U.getD k zNt = x at *
        obtain ⟨x0, x1, x2, x3, x4⟩ := x
        dsimp only at a0 a1 a2 a3 a4 he1 hpp HST
        subst he1
        obtain ⟨cv, hcv⟩ : ∃ cv, lnF false (pOf (U.take k) e) = cv := ⟨_, rfl⟩
        rw [hcv] at HST hbd hrat
        have HCV := Lib.hid hcv
        clear hcv HCV
        have hgr : g < wr.heap.size := HBK.out.lt
        have k0 : wr.cell? ⟨g, e, none⟩ = some (.int .i64 cv) := by
          rw [HBK.out.cell e]
          unfold intC
          simp [hrat]
        have k1 : wr.frozen? ⟨g, e, none⟩ = false := HBK.out.frozen e
        have hgb : Hid (∀ v, Below w1.heap.size w1 ((wr.alloc (ntO e x1 x2 x3 x4)).setCell ⟨g, e, none⟩ v)) := fun v => (bt HW.out (ba wr _)).setCell HGS.out v
        have HBN := Lib.hid (HBK.out.below (ba wr (ntO e x1 x2 x3 x4)))
        have HAB : Hid (chV false = chV false) := rfl
        clear hrat
        have hne1 : ¬ wr.heap.size = g := by omega
        by_cases hc1 : cv = -1
        · subst hc1
          have HS : Hid (lnS false (-1) x2 = x2) := by unfold Hid lnS; simp
          have HCH : Hid (chV false x2 x2 = x2) := by unfold Hid chV; simp
          go_wp2_with (fail)
          have hsz : (wr.setCell ⟨g, e, none⟩ (.int .i64 x2)).heap.size = wr.heap.size := by simp
          have HBS := HBK.out.set_ e (.int .i64 x2)
          rw [intC_set] at HBS
          have HBA := HBS.below (ba (wr.setCell ⟨g, e, none⟩ (.int .i64 x2)) (ntO e x1 x2 x3 x4))
          have hc5 := cell5 (w := wr.setCell ⟨g, e, none⟩ (.int .i64 x2)) (Below.refl _ ((wr.setCell ⟨g, e, none⟩ (.int .i64 x2)).alloc (ntO e x1 x2 x3 x4)))
          rw [hsz] at hc5
          have n0 : ((wr.setCell ⟨g, e, none⟩ (.int .i64 x2)).alloc (ntO e x1 x2 x3 x4)).drew.cell? ⟨wr.heap.size, 0, none⟩ = some (.int .i64 e) := hc5.1
          have n2 : ((wr.setCell ⟨g, e, none⟩ (.int .i64 x2)).alloc (ntO e x1 x2 x3 x4)).drew.cell? ⟨wr.heap.size, 2, none⟩ = some (.int .i64 x2) := hc5.2.2.1
          have v0 : ((wr.setCell ⟨g, e, none⟩ (.int .i64 x2)).alloc (ntO e x1 x2 x3 x4)).drew.cell? ⟨g, e, none⟩ = some (.int .i64 x2) := by
            show ((wr.setCell ⟨g, e, none⟩ (.int .i64 x2)).alloc (ntO e x1 x2 x3 x4)).cell? ⟨g, e, none⟩ = some (.int .i64 x2)
            rw [HBA.cell e]
            simp [intC, lnR_len, heq]
          have v1 : ((wr.setCell ⟨g, e, none⟩ (.int .i64 x2)).alloc (ntO e x1 x2 x3 x4)).drew.frozen? ⟨g, e, none⟩ = false := HBA.frozen e
          have HF2 : Hid (0 < q → Blk (((wr.setCell ⟨g, e, none⟩ (.int .i64 x2)).alloc (ntO e x1 x2 x3 x4)).drew.setCell ⟨g, e, none⟩ (.int .i64 x2)) g 3 (intC (lnR false q (U.take (k + 1)))).toArray) := fun _ => by
            have := HBA.set_ e (.int .i64 x2)
            rw [intC_set, List.set_set] at this
            rw [HST.out, HS.out]
            exact this
          have HB9 : Hid (Below w1.heap.size w1 (((wr.setCell ⟨g, e, none⟩ (.int .i64 x2)).alloc (ntO e x1 x2 x3 x4)).drew.setCell ⟨g, e, none⟩ (.int .i64 x2))) := (bt (HW.out.setCell HGS.out _) (ba _ _)).drew.setCell HGS.out _
          obtain ⟨W, hW⟩ : ∃ W, (wr.setCell ⟨g, e, none⟩ (.int .i64 x2)).alloc (ntO e x1 x2 x3 x4) = W := ⟨_, rfl⟩
          rw [hW] at n0 n2 v0 v1 HF2 HB9 ⊢
          clear hW a0 a1 a2 a3 a4 k0 k1 HBS HBA hc5 hsz
          refine wp_region_still_tail 13 (by kernel_rfl) (by kernel_rfl) ?_
          simp only [List.take_succ_cons, List.take_zero, List.drop_succ_cons, List.drop_zero]
          repeat still_step
          still_call (gro1s_any _ () HCH.out)
          repeat still_step
          refine wpStill_nil ?_
          go_wp2_with (fail)
          go_roundw
          case rel => exact ⟨k + 1, by omega, by first | rfl | go_num, HB9, HF2⟩
          case measure => simp [intOf]; omega
        · have HS : Hid (lnS false cv x2 = chV false cv x2) := by unfold Hid lnS; rw [if_neg (by omega)]
          have hcb : (cv == -1) = false := by simpa using hc1
          have HF2 : Hid (0 < q → Blk ((wr.alloc (ntO e x1 x2 x3 x4)).setCell ⟨g, e, none⟩ (.int .i64 (chV false cv x2))) g 3 (intC (lnR false q (U.take (k + 1)))).toArray) := fun _ => by
            have := HBN.out.set_ e (.int .i64 (chV false cv x2))
            rw [intC_set] at this
            rw [HST.out, HS.out]
            exact this
          go_wp2_with (fail)
          have n0 : (wr.alloc (ntO e x1 x2 x3 x4)).drew.cell? ⟨wr.heap.size, 0, none⟩ = some (.int .i64 e) := (cell5 (w := wr) (Below.refl _ (wr.alloc (ntO e x1 x2 x3 x4)))).1
          have n2 : (wr.alloc (ntO e x1 x2 x3 x4)).drew.cell? ⟨wr.heap.size, 2, none⟩ = some (.int .i64 x2) := (cell5 (w := wr) (Below.refl _ (wr.alloc (ntO e x1 x2 x3 x4)))).2.2.1
          have v0 : (wr.alloc (ntO e x1 x2 x3 x4)).drew.cell? ⟨g, e, none⟩ = some (.int .i64 cv) := cell_same (w := wr) ((ba wr (ntO e x1 x2 x3 x4)).block g hgr) k0
          have v1 : (wr.alloc (ntO e x1 x2 x3 x4)).drew.frozen? ⟨g, e, none⟩ = false := HBN.out.frozen e
          have HF2 : Hid (0 < q → Blk ((wr.alloc (ntO e x1 x2 x3 x4)).drew.setCell ⟨g, e, none⟩ (.int .i64 (chV false cv x2))) g 3 (intC (lnR false q (U.take (k + 1)))).toArray) := HF2.out
          have HB9 : Hid (Below w1.heap.size w1 ((wr.alloc (ntO e x1 x2 x3 x4)).drew.setCell ⟨g, e, none⟩ (.int .i64 (chV false cv x2)))) := (bt HW.out (ba wr _)).drew.setCell HGS.out _
          obtain ⟨W, hW⟩ : ∃ W, wr.alloc (ntO e x1 x2 x3 x4) = W := ⟨_, rfl⟩
          rw [hW] at n0 n2 v0 v1 HF2 HB9 ⊢
          clear hW a0 a1 a2 a3 a4 k0 k1
          refine wp_region_still_tail 13 (by kernel_rfl) (by kernel_rfl) ?_
          simp only [List.take_succ_cons, List.take_zero, List.drop_succ_cons, List.drop_zero]
          repeat still_step
          still_call (gro1s_any _ () rfl)
          repeat still_step
          refine wpStill_nil ?_
          go_wp2_with (fail)
          go_roundw
          case rel => exact ⟨k + 1, by omega, by first | rfl | go_num, HB9, HF2⟩
          case measure => simp [intOf]; omega
      · obtain rfl : k = n1 := by omega
        have HFIN : Hid (0 < q → Blk wr g 3 (intC V).toArray) := fun h => by
          have := HROW.out h
          rw [List.take_of_length_le (by have := HN.out; omega), HALL.out] at this
          exact this
        go_wp2_with (fail)
        go_ret2
        refine ⟨_, _, _, rfl, hVL.out, ⟨Nat.le_refl _, by have := hVL.out; simp [intC]; omega, fun h => ⟨g, 0, rfl, (HFIN.out h).lt, fun j u hu => ?_⟩⟩, bx (bt HB1.out HW.out)⟩
        rw [Nat.zero_add, (HFIN.out h).cell j, List.getElem?_toArray]
        exact hu
  · have hXb : (X != 0) = true := by simpa using hX
    have HV0 : Hid (V = []) := HZ.out hX
    clear hX HZ
    go_enter Try.func73, Try.ntmps73
    go_wp2_with (go_at_call 21; refine HNT.out.mono ?_; rintro e w1 ⟨A1, n1, c1, rfl, hn1, hA1, hb1⟩; clear hn1 hA1)
    go_ret2
    exact ⟨none, 0, 0, rfl, by rw [HV0.out]; rfl, by rw [HV0.out]; exact Sl.none_ _ _ _, bx hb1⟩

set_option maxRecDepth 100000 in
theorem ground_any (A : Option Addr) (n c : Nat) (A' : Option Addr) (m c' : Nat) (A2 : Option Addr) (q cq : Nat) (C : List Cr) (S : List Int) (P : List EvP) (w : World) (hP : PcIn w A n c A' m c' A2 q cq C S P) (hnb : n ≤ 1000000) (hmb : m ≤ 1000000) (hq : q ≤ 65536) (hst : ∀ y ∈ P, y.L.length ≤ 1000000) :
    Calls Try.prog 43 #[pcV A n c A' m c' A2 q cq] w (NmPost (lnL false C S P) (pcErr C S P) w) := by
  have HE := Lib.hid (each_false A n c A' m c' A2 q cq C S P _ (hP.below (ba w (pcO A n c A' m c' A2 q cq))) hnb hmb hq hst)
  unfold NmPost at HE ⊢
  clear hP hst
  generalize lnL false C S P = V at *
  generalize pcErr C S P = X at *
  go_enter Try.func43, Try.ntmps43
  go_wp2_with (go_at_call 73; refine HE.out.mono ?_; rintro e w1 ⟨A1, n1, c1, rfl, hn1, hA1, hb1⟩; have HN := Lib.hid (And.intro hn1 hA1); clear hn1 hA1)
  go_ret2
  exact ⟨A1, n1, c1, rfl, HN.out.1, HN.out.2, bx hb1⟩

end Go.Proofs.Ytcebpgcmmdfccaa
