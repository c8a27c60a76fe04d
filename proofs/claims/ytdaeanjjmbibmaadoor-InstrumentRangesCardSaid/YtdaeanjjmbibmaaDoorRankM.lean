/- What the program's Rank returns for any instrument: the stable sort of the courses. -/
import Derived.Test.YtdaeanjjmbibmaaDoorRank
import Derived.Test.YtdaeanjjmbibmaaDoorShelf
import Derived.OwnWalk
namespace Go.Proofs.YtdaeanjjmbibmaaDoor
open Go.RowKit Go.Sort

theorem below_sortWorld {α : Type} [Inhabited α] {B : Nat} {w0 w : World} (h : Below B w0 w) (enc : α → Value) (blk m : Nat) (dk : Array α) (os : Array Obj) (h1 : B ≤ blk) (h2 : blk < w.heap.size) : Below B w0 (sortWorld enc w blk 0 m dk os) := by
  have hs : w.heap.size ≤ (sortWorld enc w blk 0 m dk os).heap.size := by
    unfold sortWorld
    rw [size_grow, size_putRow]
    exact Nat.le_add_right _ _
  refine ⟨h.os, h.tape, h.output, Nat.le_trans h.size hs, fun k hk => ?_⟩
  unfold sortWorld
  rw [heap_grow_old _ _ (by rw [size_putRow]; show k < w.heap.size; omega)]
  have : (putRow enc (Sort.ahead w m) blk 0 dk).heap[k]? = w.heap[k]? := by
    simp only [putRow, mapBlock, Array.getElem?_modify]
    rw [if_neg (by omega)]
    rfl
  rw [this]
  exact h.block k hk

set_option maxHeartbeats 1600000 in
theorem stable_any {α : Type} [Inhabited α] (enc : α → Value) (hO : OneCell enc) (cf : α → α → Int) (cb : Array Value) (blk cap : Nat) (d : Array α) (w : World) (hcmp : CmpReads Tryd.prog 50 cb enc cf blk 0 d.size w) (hH : Holds enc w blk 0 d) (hsz : d.size ≤ 14) :
    Calls Tryd.prog 84 #[.slice (some ⟨blk, 0, none⟩) d.size cap, .int .i64 d.size, .func (.func 50) #[] cb] w fun e w' => e = .returned (.tuple #[]) ∧ ∃ m, (putRow enc w blk 0 (Sort.insertionSort (ltOf cf) d 0 d.size)).drewN m = w' := by
  have hn1 : ¬ (20 : Int) ≤ (d.size : Int) := by omega
  have hn2 : ¬ (20 : Int) < (d.size : Int) := by omega
  have HI := Lib.hid (Tryd.insertionSortCmpFunc_one enc hO cf 50 cb blk 0 cap 0 d.size d w (fun _ _ => by kernel_rfl) hcmp hH (by omega) (by omega) (by omega))
  clear hcmp hH
  go_enter Tryd.func84, Tryd.ntmps84
  go_wp2_with (fail)
  refine wp_loop_rounds 1 ?_
  rw [rounds_succ]
  go_wp2_with (fail)
  refine HI.out.mono ?_
  rintro e w2 ⟨rfl, m, rfl⟩
  go_wp2_with (fail)
  refine wp_loop_rounds 1 ?_
  rw [rounds_succ]
  go_wp2_with (fail)
  go_end0
  exact ⟨rfl, m, rfl⟩

set_option maxHeartbeats 1600000 in
theorem sortStable_any {α : Type} [Inhabited α] (enc : α → Value) (hO : OneCell enc) (cf : α → α → Int) (cb : Array Value) (blk cap : Nat) (d : Array α) (w : World) (hcmp : CmpReads Tryd.prog 50 cb enc cf blk 0 d.size w) (hH : Holds enc w blk 0 d) (hsz : d.size ≤ 14) :
    Calls Tryd.prog 49 #[.slice (some ⟨blk, 0, none⟩) d.size cap, .func (.func 50) #[] cb] w fun e w' => e = .returned (.tuple #[]) ∧ ∃ m, (putRow enc w blk 0 (Sort.insertionSort (ltOf cf) d 0 d.size)).drewN m = w' := by
  have HI := Lib.hid (stable_any enc hO cf cb blk cap d w hcmp hH hsz)
  clear hcmp hH
  go_enter Tryd.func49, Tryd.ntmps49
  go_wp2_with (fail)
  refine HI.out.mono ?_
  rintro e w2 ⟨rfl, m, rfl⟩
  go_wp2_with (fail)
  go_end0
  exact ⟨rfl, m, rfl⟩

set_option maxHeartbeats 1600000 in
/-- The comparison of two courses, by their numbers. -/
theorem cmp_any (b0 b off n c : Nat) (x y : Nat) (px py : Int) (w : World) (hx : x < n) (hy : y < n) (hn : n ≤ 14) (h0 : w.cell? ⟨b0, 0, none⟩ = some (.slice (some ⟨b, off, none⟩) n c))
    (h1 : w.cell? ⟨b, off + x * 3, none⟩ = some (.int .i64 px)) (h2 : w.cell? ⟨b, off + y * 3, none⟩ = some (.int .i64 py)) :
    Calls Tryd.prog 50 #[.int .i64 ((x : Int) + 1), .int .i64 ((y : Int) + 1), .pointer (some ⟨b0, 0, none⟩)] w fun e w' => e = .returned (.int .i64 (Lib.compareInt py px)) ∧ ∃ q, w' = w.drewN q := by
  have g1 : (x : Int) < (n : Int) := by omega
  have g2 : (y : Int) < (n : Int) := by omega
  have w1 : IntKind.i64.wrap (x : Int) = x := IntWalk.i64_in _ ⟨by omega, by omega⟩
  have w2 : IntKind.i64.wrap (y : Int) = y := IntWalk.i64_in _ ⟨by omega, by omega⟩
  go_enter Tryd.func50, Tryd.ntmps50
  go_wp2_with (fail)
  go_quiet (first | (go_at_call 51; refine Calls.quiet_of_same (Tryd.cmp_Compare_int _ _ _)))
  go_wp2_with (fail)
  go_ret
  exact ⟨rfl, _, rfl⟩

/-- A number as a cell. -/
def encF {n : Nat} (x : Fin n) : Value := .int .i64 ((x.val : Int) + 1)
theorem encF_one {n : Nat} : OneCell (encF (n := n)) := by
  first | exact ⟨fun _ => rfl, fun _ => rfl⟩ | (intro x; rfl)
theorem lt_of_cf {n : Nat} (P : Fin n → Int) : ltOf (fun x y : Fin n => Lib.compareInt (P y) (P x)) = ltP P := by
  funext x y
  unfold ltOf ltP Lib.compareInt
  congr 1
  apply propext
  constructor
  · intro h
    dsimp only at h
    split at h
    · assumption
    · split at h <;> omega
  · intro h
    dsimp only
    rw [if_pos h]; omega

/-- What the loop has stored: the first k of the row's n cells count from 1 on. -/
def RkR (w0 wr : World) (g n k : Nat) : Prop :=
  Below w0.heap.size w0 wr ∧ w0.heap.size ≤ g ∧ ∃ cur : Array Value, Blk wr g 3 cur ∧ cur.size = n ∧ ∀ j, j < k → cur[j]? = some (.int .i64 ((j : Int) + 1))
theorem RkR.step {w0 wr : World} {g n k : Nat} (h : RkR w0 wr g n k) (hk : k < n) : RkR w0 (wr.setCell ⟨g, k, none⟩ (.int .i64 ((k : Int) + 1))) g n (k + 1) := by
  obtain ⟨h1, h2, cur, h3, h4, h5⟩ := h
  refine ⟨h1.setCell h2 _, h2, _, h3.set_ k _, by rw [Array.size_setIfInBounds]; exact h4, fun j hj => ?_⟩
  rw [Array.getElem?_setIfInBounds]
  by_cases hjk : k = j
  · subst hjk; rw [if_pos rfl, if_pos (by omega)]
  · rw [if_neg hjk]; exact h5 j (by omega)
theorem RkR.cell {w0 wr : World} {g n k : Nat} (h : RkR w0 wr g n k) (hk : k < n) : ∃ u, wr.cell? ⟨g, k, none⟩ = some u ∧ wr.frozen? ⟨g, k, none⟩ = false ∧ g < wr.heap.size := by
  obtain ⟨_, _, cur, h3, h4, _⟩ := h
  exact ⟨cur[k]'(by omega), by rw [h3.cell, Array.getElem?_eq_getElem (by omega)], h3.frozen k, h3.lt⟩

/-- The sorted row, as a list of numbers. -/
theorem rank_done {C : List Cr} [Inhabited (Fin C.length)] (h : ∀ i, i < C.length → 0 ≤ (C.getD i z0).p ∧ (C.getD i z0).p ≤ 127) {w0 w2 : World} {g : Nat} (hR : RkR w0 w2 g C.length C.length) (m : Nat) :
    Holds (encF (n := C.length)) w2 g 0 (Array.ofFn fun i => i) ∧
      Sl ((putRow encF w2 g 0 (Sort.insertionSort (ltP fun i : Fin C.length => (C.getD i.val z0).p) (Array.ofFn fun i => i) 0 C.length)).drewN m) w2.heap.size 1 (some ⟨g, 0, none⟩) C.length C.length (intC (rkL C)) ∧
      Below w0.heap.size w0 ((putRow encF w2 g 0 (Sort.insertionSort (ltP fun i : Fin C.length => (C.getD i.val z0).p) (Array.ofFn fun i => i) 0 C.length)).drewN m) := by
  obtain ⟨h1, h2, cur, h3, h4, h5⟩ := hR
  have hz : (Array.ofFn (fun i : Fin C.length => i)).size = C.length := by simp
  have hd : ∀ q, q < C.length → ((Array.ofFn (fun i : Fin C.length => i))[q]!).val = q := by
    intro q hq
    rw [getElem!_pos _ q (by simpa using hq)]
    simp
  have hH : Holds (encF (n := C.length)) w2 g 0 (Array.ofFn fun i => i) := by
    intro j hj
    rw [hz] at hj
    rw [Nat.zero_add]
    refine ⟨?_, h3.frozen j⟩
    rw [h3.cell, h5 j hj]
    show some (Value.int .i64 ((j : Int) + 1)) = some (Value.int .i64 ((((Array.ofFn fun i : Fin C.length => i)[j]!).val : Int) + 1))
    rw [hd j hj]
  have hsort := sorted_list (fun i : Fin C.length => (C.getD i.val z0).p) (Array.ofFn fun i => i) hz hd
  have hlist : (Sort.insertionSort (ltP fun i : Fin C.length => (C.getD i.val z0).p) (Array.ofFn fun i => i) 0 C.length).toList.map (fun i => (i.val : Int) + 1) = rkL C := rank_eq h (Array.ofFn fun i => i) hz hd
  refine ⟨hH, ⟨Nat.le_refl _, ?_, fun hn => ⟨g, 0, rfl, h3.lt, fun j u hu => ?_⟩⟩, ?_⟩
  · simp [intC, rank_len h]
  · have hc := cell?_putRow (encF (n := C.length)) w2 g 0 (Array.ofFn fun i => i) _ hH (hsort.1.trans hz.symm) j (by rw [hsort.1]; have := (List.getElem?_eq_some_iff.1 hu).1; simp [intC, rank_len h] at this; exact this)
    have hj : j < C.length := by have := (List.getElem?_eq_some_iff.1 hu).1; simp [intC, rank_len h] at this; exact this
    show (World.drewN _ m).cell? _ = some u
    rw [show (World.drewN (putRow encF w2 g 0 (Sort.insertionSort (ltP fun i : Fin C.length => (C.getD i.val z0).p) (Array.ofFn fun i => i) 0 C.length)) m).cell? ⟨g, 0 + j, none⟩ = (putRow encF w2 g 0 (Sort.insertionSort (ltP fun i : Fin C.length => (C.getD i.val z0).p) (Array.ofFn fun i => i) 0 C.length)).cell? ⟨g, 0 + j, none⟩ from by simp [World.cell?], hc, ← hu]
    unfold intC
    rw [← hlist, List.map_map, List.getElem?_map, Array.getElem?_toList, Array.getElem?_eq_getElem (by rw [hsort.1]; exact hj), getElem!_pos _ j (by rw [hsort.1]; exact hj)]
    rfl
  · have := below_sortWorld h1 (encF (n := C.length)) g 0 (Sort.insertionSort (ltP fun i : Fin C.length => (C.getD i.val z0).p) (Array.ofFn fun i => i) 0 C.length) #[] h2 h3.lt
    rw [sortWorld_none] at this
    exact bd this m

/-- The call of the sort. -/
theorem rank_sort {C : List Cr} (h : ∀ i, i < C.length → 0 ≤ (C.getD i z0).p ∧ (C.getD i z0).p ≤ 127) {W1 wr : World} {g b0 b off c : Nat} (hR : RkR W1 wr g C.length C.length)
    (h0 : ∀ w', Below W1.heap.size W1 w' → w'.cell? ⟨b0, 0, none⟩ = some (.slice (some ⟨b, off, none⟩) C.length c)) (hC : Sl W1 W1.heap.size 3 (some ⟨b, off, none⟩) C.length c (crC C)) (hn0 : 0 < C.length) (hn14 : C.length ≤ 14) :
    Calls Tryd.prog 49 #[.slice (some ⟨g, 0, none⟩) C.length C.length, .func (.func 50) #[] #[.pointer (some ⟨b0, 0, none⟩)]] wr fun e w' =>
      e = .returned (.tuple #[]) ∧ Sl w' w'.heap.size 1 (some ⟨g, 0, none⟩) C.length C.length (intC (rkL C)) ∧ Below W1.heap.size W1 w' := by
  haveI : Inhabited (Fin C.length) := ⟨⟨0, hn0⟩⟩
  have hcmp : CmpReads Tryd.prog 50 #[.pointer (some ⟨b0, 0, none⟩)] (encF (n := C.length)) (fun x y : Fin C.length => Lib.compareInt (C.getD y.val z0).p (C.getD x.val z0).p) g 0 C.length wr := by
    intro m os dk _ x y
    have hB := below_sortWorld hR.1 (encF (n := C.length)) g m dk os hR.2.1 (by obtain ⟨_, _, cur, h3, _⟩ := hR; exact h3.lt)
    obtain ⟨b', off', hA, _, hc⟩ := (hC.below hB).2.2 hn0
    injection hA with hA
    injection hA with e1 e2
    subst e1 e2
    exact cmp_any b0 b off C.length c x.val y.val _ _ _ x.isLt y.isLt hn14 (h0 _ hB) (hc _ _ (crC_at C x.val x.isLt).1) (hc _ _ (crC_at C y.val y.isLt).1)
  have hz : (Array.ofFn (fun i : Fin C.length => i)).size = C.length := by simp
  have hrun := sortStable_any (encF (n := C.length)) encF_one (fun x y : Fin C.length => Lib.compareInt (C.getD y.val z0).p (C.getD x.val z0).p) #[.pointer (some ⟨b0, 0, none⟩)] g C.length (Array.ofFn fun i => i) wr (by rw [hz]; exact hcmp) (rank_done h hR 0).1 (by omega)
  rw [lt_of_cf (fun i : Fin C.length => (C.getD i.val z0).p), hz] at hrun
  refine hrun.mono ?_
  rintro e w' ⟨rfl, m, rfl⟩
  obtain ⟨_, h2, h3⟩ := rank_done h hR m
  exact ⟨rfl, by simpa using h2, h3⟩

set_option maxRecDepth 100000 in
set_option maxHeartbeats 16000000 in
theorem rank_any (A A' : Option Addr) (n c m c' : Nat) (C : List Cr) (S : List Int) (w : World) (hC : Sl w w.heap.size 3 A n c (crC C)) (hS : Sl w w.heap.size 1 A' m c' (intC S)) (hn : n = C.length) (hm : m = S.length)
    (hb : n ≤ 9223372036854775807) (hb2 : m ≤ 9223372036854775807) :
    Calls Tryd.prog 15 #[.agg #[.slice A n c, .slice A' m c']] w (NumPost (rkA C S) (chk C S) w) := by
  obtain ⟨i0, ii1, ii2, ii3, ii4⟩ := info_parts Tryd.info3'
  have hC1 := hC.below (ba w (iObj A n c A' m c'))
  have hS1 := hS.below (ba w (iObj A n c A' m c'))
  have HCK := Lib.hid (check_any A A' n c m c' C S _ hC1 hS1 hn hm hb hb2)
  have HC := Lib.hid hC1
  clear hC hS hC1 hS1 hm
  by_cases h1 : chk C S = 0
  · have H1 := Lib.hid h1
    have HV : Hid (rkA C S = rkL C) := if_pos h1
    have hn14 : n ≤ 14 := by have := (chk_ok h1).1; omega
    have hn0 : 0 < n := by
      rcases Nat.eq_zero_or_pos n with h | h
      · have := chk_none (C := C) (S := S) (by have := chk_ok h1; omega) (.inl (by omega)); omega
      · exact h
    have HX : Hid (∀ i, i < C.length → 0 ≤ (C.getD i z0).p ∧ (C.getD i z0).p ≤ 127) := fun k hk => ⟨(chk_course h1 k hk).1, (chk_course h1 k hk).2.1⟩
    have HN := Lib.hid hn
    clear h1 hn
    go_enter Tryd.func15, Tryd.ntmps15
    go_wp2_with (first | (go_at_call 45; refine HCK.out.mono ?_; rintro e w1 ⟨rfl, hb1⟩; rw [H1.out]; obtain ⟨q0, q1, hz, _⟩ := args1 hb1) | (at_make; refine wpList_make_full _ rfl _ _ 23 rfl (w.alloc (iObj A n c A' m c')).heap.size 3 i0 _ 1 Tryd.underlying23 ii1 ii2 ii3 .i64 .i64 _ _ n rfl rfl rfl rfl (by rw [ii4]; omega) (by unfold maxLen; omega) (by have := hb1.size; simp at this ⊢; omega) ?_))
    intro w2 hown hgrow
    have hR0 : RkR (w.alloc (iObj A n c A' m c')) w2 w1.heap.size n 0 := by
      refine ⟨Below.grown hb1 hgrow hb1.size (fun g h => by cases h), by have := hb1.size; exact this, ?_⟩
      obtain ⟨g, cur, e1, _, e3, e4, _⟩ := (Ow.of_own hown).2.2 hn0
      injection e1 with e1
      injection e1 with e1
      subst e1
      exact ⟨cur, e3, by omega, fun j hj => by omega⟩
    have HR0 := Lib.hid hR0
    clear hown hgrow hR0 q0 q1 hz
    generalize hg : w1.heap.size = g at *
    clear hg hb1
    go_wp2_with (fail)
    go_loopw [18, 6] (fun i _ wr => ∃ k : Nat, k ≤ n ∧ i = .int .i64 k ∧ Hid (RkR (w.alloc (iObj A n c A' m c')) wr g n k)) (fun i _ _ => n - (intOf i).toNat)
    case atStart => exact ⟨0, by omega, rfl, HR0⟩
    case round =>
      obtain ⟨k, hk, rfl, HR⟩ := hrel
      by_cases hlt : k < n
      · have hkn : (k : Int) < (n : Int) := by omega
        obtain ⟨u, cu, fu, gu⟩ := HR.out.cell hlt
        have HS := Lib.hid (HR.out.step hlt)
        have w1 : IntKind.i64.wrap ((k : Int) + 1) = (k : Int) + 1 := IntWalk.i64_in _ ⟨by omega, by omega⟩
        go_wp2_with (fail)
        go_roundw
        case rel => exact ⟨k + 1, by omega, by go_num, HS⟩
        case measure => simp [intOf]; omega
      · have hkn : ¬ (k : Int) < (n : Int) := by omega
        obtain ⟨b, off, hA, _⟩ := HC.out.2.2 hn0
        subst hA
        obtain rfl : k = n := by omega
        obtain rfl := HN.out
        have HSRT := Lib.hid (rank_sort (b0 := w.heap.size) HX.out HR.out (fun w' h => (args1 h).1) HC.out hn0 hn14)
        clear hk hlt hkn
        go_wp2_with (fail)
        refine HSRT.out.mono ?_
        rintro e w4 ⟨rfl, hs4, hb4⟩
        have HS4 := Lib.hid (And.intro hs4 hb4)
        clear hs4 hb4
        go_wp2_with (fail)
        go_ret2
        rw [HV.out, H1.out]
        haveI : Inhabited (Fin C.length) := ⟨⟨0, hn0⟩⟩
        exact ⟨_, _, _, rfl, (rank_len HX.out).symm, HS4.out.1, bx HS4.out.2⟩
  · obtain ⟨cv, hcv⟩ : ∃ cv, chk C S = cv := ⟨_, rfl⟩
    have HV : Hid (rkA C S = []) := if_neg h1
    rw [hcv] at h1
    have hcb : (cv == 0) = false := by simpa using h1
    have HCV := Lib.hid hcv
    clear hcv hn
    go_enter Tryd.func15, Tryd.ntmps15
    go_wp2_with (go_at_call 45; refine HCK.out.mono ?_; rintro e w1 ⟨rfl, hb1⟩; rw [HCV.out])
    go_ret2
    rw [HV.out, HCV.out]
    exact numPost_none (bx hb1)

end Go.Proofs.YtdaeanjjmbibmaaDoor
