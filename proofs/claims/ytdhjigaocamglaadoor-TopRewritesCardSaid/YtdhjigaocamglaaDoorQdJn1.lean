/- Pieces: signOf of the program, Sign of the reference. -/
import Derived.Test.YtdhjigaocamglaaDoorQdWorks2
import Derived.Test.YtdhjigaocamglaaDoorQdPcTime
import Derived.Test.YtdhjigaocamglaaDoorQdRefAll
import Derived.Deep.MidRow
import Derived.Test.YtdhjigaocamglaaDoorQdRw8
import Derived.Test.YtdhjigaocamglaaDoorQdRr2
import Derived.Deep.RegionHeldLaw
import Derived.Test.YtdhjigaocamglaaDoorQdAp1
namespace Go.Proofs.YtdhjigaocamglaaDoor
open Go Go.RowKit

def soQ (k : Nat) : Sg := ⟨(sgv k).1, (sgv k).2.1, (sgv k).2.2⟩
def soA : List Value := sfC ((List.range 21).map soQ)
def soT (k : Nat) : Int := tkV (sgv k).1 (sgv k).2.1 (sgv k).2.2
/-- The sign of a number of ticks. -/
def soOf (x : Int) : Option Sg := ((List.range 21).find? (fun k => decide (soT k = x))).map soQ
theorem soA_range {w : World} (h : SgT w) : w.rangeAt 0 0 soA := fun j v hv => by
  have hl : soA.length = 63 := by decide
  have hj : j < 63 := by
    have := (List.getElem?_eq_some_iff.1 hv).1
    omega
  have hk : j / 3 < ((List.range 21).map soQ).length := by simp; omega
  obtain ⟨i0, i1, i2⟩ := sfC_at ((List.range 21).map soQ) (j / 3) hk
  have hd : ((List.range 21).map soQ).getD (j / 3) s0g = soQ (j / 3) := by
    simp [List.getD_eq_getElem?_getD, List.getElem?_range (show j / 3 < 21 by omega)]
  rw [hd] at i0 i1 i2
  obtain ⟨c0, c1, c2⟩ := h.2 (j / 3) (by omega)
  rw [Nat.zero_add]
  unfold soA at hv
  have hr : j % 3 = 0 ∨ j % 3 = 1 ∨ j % 3 = 2 := by omega
  rcases hr with hr | hr | hr
  · rw [show j = j / 3 * 3 by omega] at hv ⊢
    rw [i0] at hv
    injection hv with hv
    rw [← hv]
    exact c0
  · rw [show j = j / 3 * 3 + 1 by omega] at hv ⊢
    rw [i1] at hv
    injection hv with hv
    rw [← hv]
    exact c1
  · rw [show j = j / 3 * 3 + 2 by omega] at hv ⊢
    rw [i2] at hv
    injection hv with hv
    rw [← hv]
    exact c2
theorem so_index0 (W : World) : (Instr.index 99 (.agg soA.toArray) (.int .i64 0)).run Tryd.prog W = .ok (.agg #[.int .i64 (sgv 0).1, .bool (sgv 0).2.1, .bool (sgv 0).2.2]) W := by kernel_rfl
theorem so_index1 (W : World) : (Instr.index 99 (.agg soA.toArray) (.int .i64 1)).run Tryd.prog W = .ok (.agg #[.int .i64 (sgv 1).1, .bool (sgv 1).2.1, .bool (sgv 1).2.2]) W := by kernel_rfl
theorem so_index2 (W : World) : (Instr.index 99 (.agg soA.toArray) (.int .i64 2)).run Tryd.prog W = .ok (.agg #[.int .i64 (sgv 2).1, .bool (sgv 2).2.1, .bool (sgv 2).2.2]) W := by kernel_rfl
theorem so_index3 (W : World) : (Instr.index 99 (.agg soA.toArray) (.int .i64 3)).run Tryd.prog W = .ok (.agg #[.int .i64 (sgv 3).1, .bool (sgv 3).2.1, .bool (sgv 3).2.2]) W := by kernel_rfl
theorem so_index4 (W : World) : (Instr.index 99 (.agg soA.toArray) (.int .i64 4)).run Tryd.prog W = .ok (.agg #[.int .i64 (sgv 4).1, .bool (sgv 4).2.1, .bool (sgv 4).2.2]) W := by kernel_rfl
theorem so_index5 (W : World) : (Instr.index 99 (.agg soA.toArray) (.int .i64 5)).run Tryd.prog W = .ok (.agg #[.int .i64 (sgv 5).1, .bool (sgv 5).2.1, .bool (sgv 5).2.2]) W := by kernel_rfl
theorem so_index6 (W : World) : (Instr.index 99 (.agg soA.toArray) (.int .i64 6)).run Tryd.prog W = .ok (.agg #[.int .i64 (sgv 6).1, .bool (sgv 6).2.1, .bool (sgv 6).2.2]) W := by kernel_rfl
theorem so_index7 (W : World) : (Instr.index 99 (.agg soA.toArray) (.int .i64 7)).run Tryd.prog W = .ok (.agg #[.int .i64 (sgv 7).1, .bool (sgv 7).2.1, .bool (sgv 7).2.2]) W := by kernel_rfl
theorem so_index8 (W : World) : (Instr.index 99 (.agg soA.toArray) (.int .i64 8)).run Tryd.prog W = .ok (.agg #[.int .i64 (sgv 8).1, .bool (sgv 8).2.1, .bool (sgv 8).2.2]) W := by kernel_rfl
theorem so_index9 (W : World) : (Instr.index 99 (.agg soA.toArray) (.int .i64 9)).run Tryd.prog W = .ok (.agg #[.int .i64 (sgv 9).1, .bool (sgv 9).2.1, .bool (sgv 9).2.2]) W := by kernel_rfl
theorem so_index10 (W : World) : (Instr.index 99 (.agg soA.toArray) (.int .i64 10)).run Tryd.prog W = .ok (.agg #[.int .i64 (sgv 10).1, .bool (sgv 10).2.1, .bool (sgv 10).2.2]) W := by kernel_rfl
theorem so_index11 (W : World) : (Instr.index 99 (.agg soA.toArray) (.int .i64 11)).run Tryd.prog W = .ok (.agg #[.int .i64 (sgv 11).1, .bool (sgv 11).2.1, .bool (sgv 11).2.2]) W := by kernel_rfl
theorem so_index12 (W : World) : (Instr.index 99 (.agg soA.toArray) (.int .i64 12)).run Tryd.prog W = .ok (.agg #[.int .i64 (sgv 12).1, .bool (sgv 12).2.1, .bool (sgv 12).2.2]) W := by kernel_rfl
theorem so_index13 (W : World) : (Instr.index 99 (.agg soA.toArray) (.int .i64 13)).run Tryd.prog W = .ok (.agg #[.int .i64 (sgv 13).1, .bool (sgv 13).2.1, .bool (sgv 13).2.2]) W := by kernel_rfl
theorem so_index14 (W : World) : (Instr.index 99 (.agg soA.toArray) (.int .i64 14)).run Tryd.prog W = .ok (.agg #[.int .i64 (sgv 14).1, .bool (sgv 14).2.1, .bool (sgv 14).2.2]) W := by kernel_rfl
theorem so_index15 (W : World) : (Instr.index 99 (.agg soA.toArray) (.int .i64 15)).run Tryd.prog W = .ok (.agg #[.int .i64 (sgv 15).1, .bool (sgv 15).2.1, .bool (sgv 15).2.2]) W := by kernel_rfl
theorem so_index16 (W : World) : (Instr.index 99 (.agg soA.toArray) (.int .i64 16)).run Tryd.prog W = .ok (.agg #[.int .i64 (sgv 16).1, .bool (sgv 16).2.1, .bool (sgv 16).2.2]) W := by kernel_rfl
theorem so_index17 (W : World) : (Instr.index 99 (.agg soA.toArray) (.int .i64 17)).run Tryd.prog W = .ok (.agg #[.int .i64 (sgv 17).1, .bool (sgv 17).2.1, .bool (sgv 17).2.2]) W := by kernel_rfl
theorem so_index18 (W : World) : (Instr.index 99 (.agg soA.toArray) (.int .i64 18)).run Tryd.prog W = .ok (.agg #[.int .i64 (sgv 18).1, .bool (sgv 18).2.1, .bool (sgv 18).2.2]) W := by kernel_rfl
theorem so_index19 (W : World) : (Instr.index 99 (.agg soA.toArray) (.int .i64 19)).run Tryd.prog W = .ok (.agg #[.int .i64 (sgv 19).1, .bool (sgv 19).2.1, .bool (sgv 19).2.2]) W := by kernel_rfl
theorem so_index20 (W : World) : (Instr.index 99 (.agg soA.toArray) (.int .i64 20)).run Tryd.prog W = .ok (.agg #[.int .i64 (sgv 20).1, .bool (sgv 20).2.1, .bool (sgv 20).2.2]) W := by kernel_rfl
theorem so_index (k : Nat) (hk : k < 21) (W : World) : (Instr.index 99 (.agg soA.toArray) (.int .i64 k)).run Tryd.prog W = .ok (.agg #[.int .i64 (sgv k).1, .bool (sgv k).2.1, .bool (sgv k).2.2]) W := by
  have h : k = 0 ∨ k = 1 ∨ k = 2 ∨ k = 3 ∨ k = 4 ∨ k = 5 ∨ k = 6 ∨ k = 7 ∨ k = 8 ∨ k = 9 ∨ k = 10 ∨ k = 11 ∨ k = 12 ∨ k = 13 ∨ k = 14 ∨ k = 15 ∨ k = 16 ∨ k = 17 ∨ k = 18 ∨ k = 19 ∨ k = 20 := by omega
  rcases h with rfl | rfl | rfl | rfl | rfl | rfl | rfl | rfl | rfl | rfl | rfl | rfl | rfl | rfl | rfl | rfl | rfl | rfl | rfl | rfl | rfl
  · exact so_index0 W
  · exact so_index1 W
  · exact so_index2 W
  · exact so_index3 W
  · exact so_index4 W
  · exact so_index5 W
  · exact so_index6 W
  · exact so_index7 W
  · exact so_index8 W
  · exact so_index9 W
  · exact so_index10 W
  · exact so_index11 W
  · exact so_index12 W
  · exact so_index13 W
  · exact so_index14 W
  · exact so_index15 W
  · exact so_index16 W
  · exact so_index17 W
  · exact so_index18 W
  · exact so_index19 W
  · exact so_index20 W
theorem soOf_hit {x : Int} {k : Nat} (hk : k < 21) (hx : soT k = x) (hn : ∀ j, j < k → soT j ≠ x) : soOf x = some (soQ k) := by
  unfold soOf
  have : (List.range 21).find? (fun k => decide (soT k = x)) = some k := by
    rw [List.find?_eq_some_iff_getElem]
    refine ⟨by simp [hx], k, by simpa using hk, by simp, fun j hj => ?_⟩
    simp
    exact hn j hj
  rw [this]
  rfl
theorem soOf_miss {x : Int} (hn : ∀ j, j < 21 → soT j ≠ x) : soOf x = none := by
  unfold soOf
  have : (List.range 21).find? (fun k => decide (soT k = x)) = none := by
    rw [List.find?_eq_none]
    intro j hj
    simp at hj ⊢
    exact hn j hj
  rw [this]
  rfl
def soRet (o : Option Sg) : Value := match o with
  | some s => .tuple #[.agg #[.int .i64 s.v, .bool s.d, .bool s.t], .bool true]
  | none => .tuple #[.agg #[.int .i64 0, .bool false, .bool false], .bool false]

set_option maxRecDepth 100000 in
set_option maxHeartbeats 1600000 in
theorem signOf_any (x : Int) (w : World) (hT : SgT w) :
    Calls Tryd.prog 46 #[.int .i64 x] w fun e w' => e = .returned (soRet (soOf x)) ∧ Below w.heap.size w w' := by
  have HT : Hid (∀ w', Below w.heap.size w w' → (w').rangeAt 0 0 soA) := fun w' h => soA_range (hT.below h)
  have HU := Lib.hid (show Tryd.prog.underlying 99 = some (.array 21 48) by kernel_rfl)
  have HI := Lib.hid (show (Tryd.prog.info? 99).map (·.size) = some soA.length by kernel_rfl)
  have HZ := Lib.hid (ba w (.cells #[.int .i64 0, .bool false, .bool false] 48))
  clear hT
  go_enter Tryd.func46, Tryd.ntmps46
  go_wp2_with (refine wpList_load_mid rfl 99 _ rfl 0 0 rfl soA _ (HT.out _ HZ.out) HU.out rfl HI.out ?_)
  have HZ2 := Lib.hid HZ.out
  obtain ⟨w1, hw1⟩ : ∃ w1, w.alloc (.cells #[.int .i64 0, .bool false, .bool false] 48) = w1 := ⟨_, rfl⟩
  have HB1 : Hid (Blk w1 w.heap.size 48 #[.int .i64 0, .bool false, .bool false]) := by
    unfold Hid
    rw [← hw1]
    exact heap_alloc_new w _
  rw [hw1] at HZ2 ⊢
  clear hw1 HZ
  go_wp2_with (fail)
  go_loopw [7] (fun i wr => ∃ k : Nat, k ≤ 21 ∧ i = .int .i64 k ∧ Below w1.heap.size w1 wr ∧ Hid (∀ j, j < k → soT j ≠ x)) (fun i _ => 21 - (intOf i).toNat)
  case atStart => exact ⟨0, by omega, rfl, Below.refl _ _, fun j hj => by omega⟩
  case round =>
    obtain ⟨k, hk, rfl, hbw, HN⟩ := hrel
    have HW := Lib.hid hbw
    have hB := HB1.out.below hbw
    have r0 := hB.cell 0
    have r1 := hB.cell 1
    have r2 := hB.cell 2
    have f0 := hB.frozen 0
    have f1 := hB.frozen 1
    have f2 := hB.frozen 2
    have hlr := hB.lt
    simp at r0 r1 r2
    have HBR := Lib.hid hB
    clear hbw hB
    by_cases hlt : k < 21
    · have hki : (k : Int) < 21 := by omega
      have HIX := Lib.hid (so_index k hlt)
      obtain ⟨X, hX⟩ : ∃ X, soT k = X := ⟨_, rfl⟩
      have HX := Lib.hid hX
      have hTK : Hid (tkV (sgv k).1 (sgv k).2.1 (sgv k).2.2 = X) := hX
      have HQ : Hid (soQ k = ⟨(sgv k).1, (sgv k).2.1, (sgv k).2.2⟩) := rfl
      clear hX
      generalize (sgv k).1 = sv at *
      generalize (sgv k).2.1 = sd at *
      generalize (sgv k).2.2 = st at *
      by_cases hxx : X = x
      · subst hxx
        have HS : Hid (soOf X = some ⟨sv, sd, st⟩) := by
          have := soOf_hit hlt HX.out HN.out
          rwa [HQ.out] at this
        have hix : (Instr.index 99 (.agg soA.toArray) (.int .i64 k)).run Tryd.prog wr = .ok (.agg #[.int .i64 sv, .bool sd, .bool st]) wr := HIX.out wr
        go_wp2_with (go_at_call 62; refine (ticks_any sv sd st _).mono ?_; rintro e w3 ⟨rfl, hb3⟩; rw [hTK.out]; have T3 := bx hb3; obtain ⟨c0, c1, c2⟩ := cell3 hb3; have hB3 := HBR.out.below T3; clear r0 r1 r2 f0 f1 f2 hlr; have r0 := hB3.cell 0; have r1 := hB3.cell 1; have r2 := hB3.cell 2; have f0 := hB3.frozen 0; have f1 := hB3.frozen 1; have f2 := hB3.frozen 2; have hlr := hB3.lt; simp at r0 r1 r2; have HB3 := Lib.hid (And.intro hB3 T3); clear hB3 T3 hb3)
        have hR := ((HB3.out.1.set_ 0 (.int .i64 sv)).set_ 1 (.bool sd)).set_ 2 (.bool st)
        have z0 := hR.cell 0
        have z1 := hR.cell 1
        have z2 := hR.cell 2
        refine bodyPost_ret (v := .tuple #[.agg #[.int .i64 sv, .bool sd, .bool st], .bool true]) ?_ rfl ?_
        · simp at z0 z1 z2
          simp [results, Tryd.results46, go_sem, z0, z1, z2]
        · rw [HS.out]
          exact ⟨rfl, (((bt HZ2.out (bt HW.out HB3.out.2)).setCell (p := ⟨w.heap.size, 0, none⟩) (by simp) _).setCell (p := ⟨w.heap.size, 1, none⟩) (by simp) _).setCell (p := ⟨w.heap.size, 2, none⟩) (by simp) _⟩
      · have hxb : (X == x) = false := beq_eq_false_iff_ne.2 hxx
        have HXX := Lib.hid hxx
        clear hxx
        have hix : (Instr.index 99 (.agg soA.toArray) (.int .i64 k)).run Tryd.prog wr = .ok (.agg #[.int .i64 sv, .bool sd, .bool st]) wr := HIX.out wr
        go_wp2_with (go_at_call 62; refine (ticks_any sv sd st _).mono ?_; rintro e w3 ⟨rfl, hb3⟩; rw [hTK.out]; have T3 := bx hb3; obtain ⟨c0, c1, c2⟩ := cell3 hb3; have hB3 := HBR.out.below T3; clear r0 r1 r2 f0 f1 f2 hlr; have r0 := hB3.cell 0; have r1 := hB3.cell 1; have r2 := hB3.cell 2; have f0 := hB3.frozen 0; have f1 := hB3.frozen 1; have f2 := hB3.frozen 2; have hlr := hB3.lt; simp at r0 r1 r2; have HB3 := Lib.hid (And.intro hB3 T3); clear hB3 T3 hb3)
        go_roundw
        case rel => exact ⟨k + 1, by omega, by first | rfl | go_num, bt HW.out HB3.out.2, fun j hj => by
          by_cases h : j = k
          · rw [h, HX.out]
            exact HXX.out
          · exact HN.out j (by omega)⟩
        case measure => simp [intOf]; omega
    · obtain rfl : k = 21 := by omega
      have HM := Lib.hid (soOf_miss HN.out)
      go_wp2_with (fail)
      have hR := ((HBR.out.set_ 0 (.int .i64 0)).set_ 1 (.bool false)).set_ 2 (.bool false)
      have z0 := hR.cell 0
      have z1 := hR.cell 1
      have z2 := hR.cell 2
      refine bodyPost_ret (v := .tuple #[.agg #[.int .i64 0, .bool false, .bool false], .bool false]) ?_ rfl ?_
      · simp at z0 z1 z2
        simp [results, Tryd.results46, go_sem, z0, z1, z2]
      · rw [HM.out]
        exact ⟨rfl, (((bt HZ2.out HW.out).setCell (p := ⟨w.heap.size, 0, none⟩) (by simp) _).setCell (p := ⟨w.heap.size, 1, none⟩) (by simp) _).setCell (p := ⟨w.heap.size, 2, none⟩) (by simp) _⟩

end Go.Proofs.YtdhjigaocamglaaDoor

/- Pieces: moveHolds. -/
namespace Go.Proofs.YtdhjigaocamglaaDoor
open Go Go.RowKit

/-- A stop with its hold as the events have become. -/
def mvS (B : List Int) (i : Nat) (s : St) : St := ⟨s.c, s.f, s.r, s.g, B.getD (i + s.h.toNat) 0 - B.getD i 0⟩
set_option maxRecDepth 100000 in
set_option maxHeartbeats 6400000 in
theorem changedM_any (A : Option Addr) (n c : Nat) (L : List St) (h : St → St) (b1 b2 : Nat) (w : World) (hA : Sl w w.heap.size 5 A n c (stC L)) (hn : n = L.length) (hlim : n ≤ 1000000)
    (hG : ∀ (s : St), s ∈ L → ∀ (W : World), Below w.heap.size w W → Calls Tryd.prog 70 #[stV s, .pointer (some ⟨b1, 0, none⟩), .pointer (some ⟨b2, 0, none⟩)] W fun e W' => e = .returned (stV (h s)) ∧ Below W.heap.size W W') :
    Calls Tryd.prog 42 #[.slice A n c, .func (.func 70) #[] #[.pointer (some ⟨b1, 0, none⟩), .pointer (some ⟨b2, 0, none⟩)]] w fun e w' => ∃ B d, e = .returned (.slice B n d) ∧ Ow w' w.heap.size 62 5 B n d (stC (L.map h)) ∧ Below w.heap.size w w' := by
  have HA : Hid (∀ w', RowKit.Below w.heap.size w w' → Sl w' w'.heap.size 5 A n c (stC L)) := fun w' hb => hA.below hb
  have HN := Lib.hid hn
  have HG := Lib.hid hG
  obtain ⟨i0, ii1, ii2, ii3, ii4⟩ := info_parts Tryd.infoSt
  clear hA hn hG
  go_enter Tryd.func42, Tryd.ntmps42
  go_wp2_with (at_make; refine wpList_make_full _ rfl _ _ 49 rfl w.heap.size 62 i0 _ 5 Tryd.underlying49 ii1 ii2 ii3 .i64 .i64 _ _ n rfl rfl rfl rfl (by rw [ii4]; omega) (by unfold maxLen; omega) (Nat.le_refl _) ?_)
  intro w2 hown hgrow
  have hb2 : RowKit.Below w.heap.size w w2 := RowKit.Below.grown (RowKit.Below.refl _ _) hgrow (Nat.le_refl _) (fun g h => by cases h)
  obtain ⟨cur, hbk, hcs⟩ : ∃ cur, w2.heap[w.heap.size]? = some (.cells cur 62 (0, 0)) ∧ cur.size = n * 5 := by
    rcases hown.2 with ⟨h1, _⟩ | ⟨g, cap, cur, h1, _, h3, _, _, h6, _⟩
    · cases h1
    · injection h1 with e1 e2 e3
      injection e1 with e1
      injection e1 with e1
      subst e1 e3
      exact ⟨cur, h3, h6⟩
  have HPL : Hid (StR w w2 w.heap.size n (L.map h) 0) := ⟨hb2, cur.toList, by simpa using hcs, by simp only [List.take_zero]; exact hbk⟩
  clear hown hgrow hbk hcs hb2
  go_wp2_with (fail)
  go_loopw [13] (fun i wr => ∃ k : Nat, k ≤ n ∧ i = .int .i64 k ∧ Hid (StR w wr w.heap.size n (L.map h) k)) (fun i _ => n - (intOf i).toNat)
  case atStart => exact ⟨0, by omega, rfl, HPL.out⟩
  case round =>
    obtain ⟨k, hk, rfl, HR⟩ := hrel
    by_cases hlt : k < n
    · have hkn : (k : Int) < (n : Int) := by omega
      obtain ⟨b1, o1, rfl, hB1, _, _, c0, c1, c2, c3, c4⟩ := st_at (HA.out _ HR.out.1) HN.out hlt
      have HX : Hid ((L.map h).getD k z5 = h (L.getD k z5)) := by
        have hkL : k < L.length := by have := HN.out; omega
        unfold Hid
        simp [List.getD_eq_getElem?_getD, List.getElem?_eq_getElem hkL]
      have hmx : L.getD k z5 ∈ L := by
        have hkL : k < L.length := by have := HN.out; omega
        rw [List.getD_eq_getElem?_getD, List.getElem?_eq_getElem hkL]
        exact List.getElem_mem hkL
      generalize L.getD k z5 = x at *
      have HGX := Lib.hid (HG.out x hmx)
      clear hmx
      obtain ⟨y, hy⟩ : ∃ y, h x = y := ⟨_, rfl⟩
      rw [hy] at HGX HX
      clear hy
      obtain ⟨cx, fx, rx, gx, hx⟩ := x
      obtain ⟨cy, fy, ry, gy, hy⟩ := y
      dsimp only at c0 c1 c2 c3 c4 HX HGX
      go_wp2_with (go_at_call 70; refine (HGX.out _ (bt HR.out.1 (ba _ _))).mono ?_; rintro e w3 ⟨rfl, hb3⟩; have T := bx hb3; have HR3 : Hid (StR w w3 w.heap.size n (L.map h) k) := ⟨bt HR.out.1 T, (by obtain ⟨Z, h1, h2⟩ := HR.out.2; exact ⟨Z, h1, h2.below T⟩)⟩; obtain ⟨⟨u0, v0⟩, ⟨u1, v1⟩, ⟨u2, v2⟩, ⟨u3, v3⟩, ⟨u4, v4⟩, vf, vg, hR4⟩ := HR3.out.step (Nat.le_refl _) hlt (by rw [List.length_map]; have := HN.out; omega) HX.out; have HR4 := Lib.hid hR4; have f0 := vf (k * 5); have f1 := vf (k * 5 + 1); have f2 := vf (k * 5 + 2); have f3 := vf (k * 5 + 3); have f4 := vf (k * 5 + 4); clear vf hR4 T hb3)
      go_roundw
      case rel => exact ⟨k + 1, by omega, by first | rfl | go_num, HR4.out⟩
      case measure => simp [intOf]; omega
    · obtain rfl : k = n := by omega
      obtain ⟨Z, hZ, hB⟩ := HR.out.2
      have HB := Lib.hid hB
      have HZ : Hid (Z = []) := List.length_eq_zero_iff.1 (by simpa using hZ)
      clear hZ hB
      go_wp2_with (fail)
      go_ret
      have hlm : (stC (L.map h)).length = k * 5 := by rw [stC_len, List.length_map, ← HN.out]
      have htk : (L.map h).take k = L.map h := List.take_of_length_le (by rw [List.length_map]; have := HN.out; omega)
      refine ⟨some ⟨w.heap.size, 0, none⟩, k, rfl, ⟨Nat.le_refl _, hlm, fun _ => ⟨w.heap.size, _, rfl, Nat.le_refl _, HB.out, ?_, ?_⟩⟩, HR.out.1⟩
      · rw [HZ.out, List.append_nil, htk]
        simpa using hlm
      · rw [HZ.out, List.append_nil, htk]
        exact List.take_of_length_le (Nat.le_of_eq hlm)

set_option maxRecDepth 100000 in
set_option maxHeartbeats 3200000 in
theorem mvFn_any (s : St) (W : World) (rb ib : Nat) (Ab : Option Addr) (q cb : Nat) (B : List Int) (i : Nat) (h1 : rb < W.heap.size) (h2 : ib < W.heap.size) (c1 : W.cell? ⟨rb, 0, none⟩ = some (.slice Ab q cb)) (c2 : W.cell? ⟨ib, 0, none⟩ = some (.int .i64 i))
    (hB : Sl W W.heap.size 1 Ab q cb (intC B)) (hq : q = B.length) (k1 : 0 ≤ s.h) (k2 : (i : Int) + s.h < q) (kq : q ≤ 65536) (kb : ∀ x ∈ B, 0 ≤ x ∧ x ≤ 65536) :
    Calls Tryd.prog 70 #[stV s, .pointer (some ⟨rb, 0, none⟩), .pointer (some ⟨ib, 0, none⟩)] W fun e W' => e = .returned (stV (mvS B i s)) ∧ Below W.heap.size W W' := by
  obtain ⟨c, f, r, g, hh⟩ := s
  obtain ⟨h, rfl⟩ := Int.eq_ofNat_of_zero_le k1
  dsimp only at k1 k2
  have hiq : i < q := by omega
  have hhq : i + h < q := by omega
  obtain ⟨b, off, rfl, hb, hcell⟩ := hB.2.2 (by omega)
  have d1 := hcell _ _ (intC_at B i (by omega))
  have d2 := hcell _ _ (intC_at B (i + h) (by omega))
  have hm : ∀ j, j < q → 0 ≤ B.getD j 0 ∧ B.getD j 0 ≤ 65536 := fun j hj => by
    refine kb _ ?_
    have hj2 : j < B.length := by omega
    rw [List.getD_eq_getElem?_getD, List.getElem?_eq_getElem hj2]
    exact List.getElem_mem hj2
  have m1 := hm i hiq
  have m2 := hm (i + h) hhq
  have HRES : Hid (mvS B i ⟨c, f, r, g, h⟩ = ⟨c, f, r, g, B.getD (i + h) 0 - B.getD i 0⟩) := by
    unfold Hid mvS
    dsimp only
    rw [Int.toNat_natCast]
  rw [HRES.out]
  clear hcell hm HRES hB hq k1 k2 kb
  generalize B.getD i 0 = y at *
  generalize B.getD (i + h) 0 = z at *
  have hii : (i : Int) < (q : Int) := by omega
  have hih : (i : Int) + (h : Int) < (q : Int) := by omega
  have hn0 : ¬ ((i : Int) + (h : Int) < 0) := by omega
  have hn1 : (0 : Int) ≤ (i : Int) + (h : Int) := by omega
  have ht : ((i : Int) + (h : Int)).toNat = i + h := by omega
  have w1 : IntKind.i64.wrap ((i : Int) + (h : Int)) = (i : Int) + (h : Int) := IntWalk.i64_in _ ⟨by omega, by omega⟩
  have w2 : IntKind.i64.wrap (z - y) = z - y := IntWalk.i64_in _ ⟨by omega, by omega⟩
  have HW0 : Hid (Below W.heap.size W ((W.alloc (.cells #[.int .i64 c, .int .i64 f, .int .i64 r, .int .i64 g, .int .i64 h] 62)).alloc (.cells #[.int .i64 0, .int .i64 0, .int .i64 0, .int .i64 0, .int .i64 0] 62))) := bt (ba _ _) (ba _ _)
  go_enter Tryd.func70, Tryd.ntmps70
  go_wp2_with (fail)
  have HBX := Lib.hid (box2 W #[.int .i64 c, .int .i64 f, .int .i64 r, .int .i64 g, .int .i64 h] #[.int .i64 0, .int .i64 0, .int .i64 0, .int .i64 0, .int .i64 0] 62 62)
  have e1 := cell_same (HW0.out.block rb h1) c1
  have e2 := cell_same (HW0.out.block ib h2) c2
  have e3 := cell_same (HW0.out.block b hb) d1
  have e4 := cell_same (HW0.out.block b hb) d2
  have lb := Nat.lt_of_lt_of_le hb HW0.out.size
  obtain ⟨Wz, hWz⟩ : ∃ Wz, ((W.alloc (.cells #[.int .i64 c, .int .i64 f, .int .i64 r, .int .i64 g, .int .i64 h] 62)).alloc (.cells #[.int .i64 0, .int .i64 0, .int .i64 0, .int .i64 0, .int .i64 0] 62)) = Wz := ⟨_, rfl⟩
  obtain ⟨gz, hgz⟩ : ∃ g, W.heap.size = g := ⟨_, rfl⟩
  rw [hWz, hgz] at HBX
  rw [hWz] at HW0 e1 e2 e3 e4 lb ⊢
  rw [hgz] at ⊢
  have hz := HBX.out.1.lt
  have hz2 := HBX.out.2.lt
  have s0 := HBX.out.1.cell 0
  have s1 := HBX.out.1.cell 1
  have s2 := HBX.out.1.cell 2
  have s3 := HBX.out.1.cell 3
  have s4 := HBX.out.1.cell 4
  have f4 := HBX.out.1.frozen 4
  have r0 := HBX.out.2.cell 0
  have r1 := HBX.out.2.cell 1
  have r2 := HBX.out.2.cell 2
  have r3 := HBX.out.2.cell 3
  have r4 := HBX.out.2.cell 4
  have v0 := HBX.out.2.frozen 0
  have v1 := HBX.out.2.frozen 1
  have v2 := HBX.out.2.frozen 2
  have v3 := HBX.out.2.frozen 3
  have v4 := HBX.out.2.frozen 4
  simp at s0 s1 s2 s3 s4 r0 r1 r2 r3 r4
  clear hWz c1 c2 d1 d2
  go_still_tail 12, (by kernel_rfl)
  go_wp2_with (fail)
  have hR := (((((HBX.out.2.setOther (show gz + 1 ≠ gz by omega) 4 (.int .i64 (z - y))).set_ 0 (.int .i64 c)).set_ 1 (.int .i64 f)).set_ 2 (.int .i64 r)).set_ 3 (.int .i64 g)).set_ 4 (.int .i64 (z - y))
  have hR2 := hR.below (Below.refl _ _).drew
  have t0 := hR2.cell 0
  have t1 := hR2.cell 1
  have t2 := hR2.cell 2
  have t3 := hR2.cell 3
  have t4 := hR2.cell 4
  refine bodyPost_ret (v := stV ⟨c, f, r, g, z - y⟩) ?_ rfl ⟨rfl, ?_⟩
  · simp at t0 t1 t2 t3 t4
    simp [results, Tryd.results70, go_sem, t0, t1, t2, t3, t4]
  · rw [← hgz]
    exact ((((((HW0.out.setCell (p := ⟨W.heap.size, 4, none⟩) (by simp) _).setCell (p := ⟨W.heap.size + 1, 0, none⟩) (by simp) _).setCell (p := ⟨W.heap.size + 1, 1, none⟩) (by simp) _).setCell (p := ⟨W.heap.size + 1, 2, none⟩) (by simp) _).setCell (p := ⟨W.heap.size + 1, 3, none⟩) (by simp) _).setCell (p := ⟨W.heap.size + 1, 4, none⟩) (by simp) _).drew

/-- The events of the result, the stops of k events moved. -/
def mvL (B : List Int) (P : List EvP) : Nat → List EvP → List EvP
  | 0, Q => Q
  | k + 1, Q => if (P.getD k z6).L = [] then mvL B P k Q else (mvL B P k Q).set (B.getD k 0).toNat { (mvL B P k Q).getD (B.getD k 0).toNat z6 with L := (P.getD k z6).L.map (mvS B k) }
theorem mvL_len (B : List Int) (P : List EvP) (Q : List EvP) : ∀ k, (mvL B P k Q).length = Q.length
  | 0 => rfl
  | k + 1 => by
    unfold mvL
    split
    · exact mvL_len B P Q k
    · rw [List.length_set]
      exact mvL_len B P Q k

def upL (x : EvT) (A : Option Addr) (n c : Nat) : EvT := { x with sa := A, sn := n, sc := c }
theorem evC_upL : ∀ (E : List EvT) (k : Nat) (x : EvT) (A : Option Addr) (n c : Nat), E[k]? = some x → (evC E).set (k * 6 + 5) (.slice A n c) = evC (E.set k (upL x A n c))
  | [], k, x, A, n, c, h => by simp at h
  | y :: E, 0, x, A, n, c, h => by
    obtain rfl : y = x := by simpa using h
    rfl
  | y :: E, k + 1, x, A, n, c, h => by
    have := evC_upL E k x A n c (by simpa using h)
    have e0 : evC (y :: E) = .bool y.bar :: .int .i64 y.v :: .bool y.d :: .bool y.t :: .bool y.tie :: .slice y.sa y.sn y.sc :: evC E := rfl
    rw [e0, show (k + 1) * 6 + 5 = k * 6 + 5 + 6 by omega]
    simp only [List.set_cons_succ, this]
    rfl
/-- What moveHolds keeps: the events, some of them with their stops. -/
structure MvR (w : World) (b0 ge L cE : Nat) (Q : List EvP) (E : List EvT) (wr : World) : Prop where
  row : Ow wr b0 51 6 (some ⟨ge, 0, none⟩) L cE (evC E)
  cp : CpE wr b0 E Q
  len : E.length = Q.length
  kx : Kx (fun k => k = ge) w.heap.size w wr
theorem MvR.below {w : World} {b0 ge L cE : Nat} {Q : List EvP} {E : List EvT} {wr wx : World} (h : MvR w b0 ge L cE Q E wr) (hb : Below wr.heap.size wr wx) : MvR w b0 ge L cE Q E wx :=
  ⟨h.row.below hb, h.cp.blk (fun _ _ h => h.below hb), h.len, h.kx.trans ((Kx.of_below hb).mono h.kx.size (fun _ _ h => h))⟩
/-- One event has got its stops. -/
theorem MvR.step {w : World} {b0 ge L cE : Nat} {Q : List EvP} {E : List EvT} {wr : World} (h : MvR w b0 ge L cE Q E wr) (hL : L = E.length) {a : Nat} (ha : a < L) {A : Option Addr} {c : Nat} {M : List St}
    (hO : Ow wr b0 62 5 A M.length c (stC M)) :
    ge < wr.heap.size ∧ (∃ u, wr.cell? ⟨ge, a * 6 + 5, none⟩ = some u) ∧ wr.frozen? ⟨ge, a * 6 + 5, none⟩ = false ∧
      ∃ x, MvR w b0 ge L cE (Q.set a { Q.getD a z6 with L := M }) (E.set a (upL x A M.length c)) (wr.setCell ⟨ge, a * 6 + 5, none⟩ (.slice A M.length c)) := by
  have haE : a < E.length := by omega
  have haQ : a < Q.length := by rw [← h.len]; exact haE
  have hx := List.getElem?_eq_getElem haE
  have hy : Q[a]? = some (Q.getD a z6) := by simp [List.getD_eq_getElem?_getD, List.getElem?_eq_getElem haQ]
  obtain ⟨g, cur, e1, e2, hB, hcs, htk⟩ := h.row.2.2 (by omega)
  injection e1 with e1
  injection e1 with e1
  subst e1
  obtain ⟨_, _, _, _, _, i5⟩ := evC_at E a _ hx
  refine ⟨hB.lt, ⟨_, hB.cellOf htk i5⟩, hB.frozen _, E[a], ?_, ?_, by rw [List.length_set, List.length_set]; exact h.len, h.kx.setBlk (.inr rfl) hB _ _⟩
  · have := h.row.set_ (a * 6 + 5) (.slice A M.length c)
    rwa [evC_upL E a _ A M.length c hx] at this
  · have hk : ∀ (g : Nat) (cs : Array Value), Blk wr g 62 cs → Blk (wr.setCell ⟨ge, a * 6 + 5, none⟩ (.slice A M.length c)) g 62 cs := fun g cs h2 => h2.setOther (h2.ne hB (by decide)) _ _
    intro j x' y' hx' hy'
    by_cases hj : j = a
    · subst hj
      rw [List.getElem?_set_self haE] at hx'
      rw [List.getElem?_set_self haQ] at hy'
      injection hx' with hx'
      injection hy' with hy'
      subst hx' hy'
      obtain ⟨k1, _⟩ := h.cp j _ _ hx hy
      exact ⟨⟨k1.1, k1.2.1, k1.2.2.1, k1.2.2.2.1, k1.2.2.2.2.1, rfl⟩, hO.blk hk⟩
    · rw [List.getElem?_set_ne (fun e => hj e.symm)] at hx' hy'
      obtain ⟨k1, k2⟩ := h.cp j x' y' hx' hy'
      exact ⟨k1, k2.blk hk⟩

theorem mv_fin {w : World} {b0 ge L cE : Nat} {Q : List EvP} {E : List EvT} {wr : World} (h : MvR w b0 ge L cE Q E wr) (hL : L = E.length) {a : Nat} (ha : a < L) {A : Option Addr} {c : Nat} {M : List St} {f : St → St}
    (hO : Ow wr b0 62 5 A M.length c (stC (M.map f))) :
    ge < wr.heap.size ∧ (∃ u, wr.cell? ⟨ge, a * 6 + 5, none⟩ = some u) ∧ wr.frozen? ⟨ge, a * 6 + 5, none⟩ = false ∧
      ∃ x, MvR w b0 ge L cE (Q.set a { Q.getD a z6 with L := M.map f }) (E.set a (upL x A M.length c)) (wr.setCell ⟨ge, a * 6 + 5, none⟩ (.slice A M.length c)) := by
  have := h.step hL ha (A := A) (c := c) (M := M.map f) (by rw [List.length_map]; exact hO)
  simpa only [List.length_map] using this

set_option maxRecDepth 100000 in
set_option maxHeartbeats 6400000 in
theorem moveHolds_any (A2 : Option Addr) (q cq : Nat) (P : List EvP) (b0 ge L cE : Nat) (E0 : List EvT) (Q0 : List EvP) (Ab : Option Addr) (cb : Nat) (B : List Int) (w : World)
    (h0 : MvR w b0 ge L cE Q0 E0 w) (hL : L = E0.length) (hb0 : b0 ≤ w.heap.size) (hgw : ge < w.heap.size) (hPI : ∀ W', Kx (fun k => k = ge) w.heap.size w W' → EsIn W' A2 q cq P ∧ Sl W' W'.heap.size 1 Ab q cb (intC B)) (hPne : ∀ b off, A2 = some ⟨b, off, none⟩ → b ≠ ge) (hBne : ∀ b off, Ab = some ⟨b, off, none⟩ → b ≠ ge)
    (hq : q = B.length) (hq6 : q ≤ 65536) (hst : ∀ y ∈ P, y.L.length ≤ 1000000) (kb : ∀ x ∈ B, 0 ≤ x ∧ x ≤ 65536)
    (hv : ∀ i, i < q → (P.getD i z6).L ≠ [] → (B.getD i 0).toNat < L ∧ ∀ s ∈ (P.getD i z6).L, 0 ≤ s.h ∧ (i : Int) + s.h < q) :
    Calls Tryd.prog 47 #[.slice A2 q cq, .slice (some ⟨ge, 0, none⟩) L cE, .slice Ab q cb] w fun e w' => (∃ v, e = .returned v) ∧ ∃ E, MvR w b0 ge L cE (mvL B P q Q0) E w' := by
  have HPI := Lib.hid hPI
  have H0 : Hid (MvR w b0 ge L cE Q0 E0 (w.alloc (.cells #[.slice Ab q cb] 23))) := h0.below (ba w _)
  have HBB : Hid (Blk (w.alloc (.cells #[.slice Ab q cb] 23)) w.heap.size 23 #[.slice Ab q cb]) := heap_alloc_new w _
  have HST := Lib.hid hst
  have HV := Lib.hid hv
  have HKB := Lib.hid kb
  have HQ := Lib.hid hq
  have HL := Lib.hid hL
  clear hPI h0 hst hv kb hq hL
  go_enter Tryd.func47, Tryd.ntmps47
  go_wp2_with (fail)
  go_loopw [10] (fun i wr => ∃ (k : Nat) (E : List EvT), k ≤ q ∧ i = .int .i64 k ∧ Hid (MvR w b0 ge L cE (mvL B P k Q0) E wr ∧ E.length = E0.length) ∧ Hid (Blk wr w.heap.size 23 #[.slice Ab q cb])) (fun i _ => q - (intOf i).toNat)
  case atStart => exact ⟨0, E0, by omega, rfl, ⟨H0.out, rfl⟩, HBB.out⟩
  case round =>
    obtain ⟨k, E, hk, rfl, HR, HB⟩ := hrel
    by_cases hlt : k < q
    · have hkn : (k : Int) < (q : Int) := by omega
      obtain ⟨b1, o1, sa, sc, rfl, hB1, hPk, _, ⟨c0, c1, c2, c3, c4, c5⟩, hS⟩ := (HPI.out _ HR.out.1.kx).1.at hlt
      have HS := Lib.hid hS
      have hyl := HST.out _ (List.mem_of_getElem? hPk)
      have HVK := Lib.hid (HV.out k hlt)
      have HYD : Hid (P.getD k z6 = P.getD k z6) := rfl
      clear hS hPk
      obtain ⟨y, hy⟩ : ∃ y, P.getD k z6 = y := ⟨_, rfl⟩
      rw [hy] at c0 c1 c2 c3 c4 c5 HS hyl HVK
      have HYY := Lib.hid hy
      clear hy HYD
      obtain ⟨bar, v, dd, tt, tie, LL⟩ := y
      dsimp only at c0 c1 c2 c3 c4 c5 HS hyl HVK
      by_cases hL0 : LL = []
      · subst hL0
        have HM : Hid (mvL B P (k + 1) Q0 = mvL B P k Q0) := by
          unfold Hid
          rw [mvL, HYY.out, if_pos rfl]
        go_wp2_with (fail)
        go_roundw
        case rel => exact ⟨k + 1, E, by omega, by first | rfl | go_num, ⟨by rw [HM.out]; exact HR.out.1.below (bt (ba _ _) (ba _ _)), HR.out.2⟩, Blk.below HB.out (bt (ba _ _) (ba _ _))⟩
        case measure => simp [intOf]; omega
      · obtain ⟨ha0, hsx⟩ := HVK.out hL0
        have HSX := Lib.hid hsx
        have hln : LL.length ≠ 0 := fun e => hL0 (List.length_eq_zero_iff.1 e)
        have hlb : (((LL.length : Nat) : Int) == 0) = false := beq_eq_false_iff_ne.2 (by omega)
        have hkB : k < B.length := by have := HQ.out; omega
        have hmem : B.getD k 0 ∈ B := by
          rw [List.getD_eq_getElem?_getD, List.getElem?_eq_getElem hkB]
          exact List.getElem_mem hkB
        obtain ⟨a, hab⟩ := Int.eq_ofNat_of_zero_le (HKB.out _ hmem).1
        have HM : Hid (mvL B P (k + 1) Q0 = (mvL B P k Q0).set a { (mvL B P k Q0).getD a z6 with L := LL.map (mvS B k) }) := by
          unfold Hid
          rw [mvL, HYY.out, if_neg hL0, hab, Int.toNat_natCast]
        have HLE : Hid (L = E.length) := HL.out.trans HR.out.2.symm
        rw [hab, Int.toNat_natCast] at ha0
        obtain ⟨bb, ob, rfl, hbb, hcb⟩ := (HPI.out _ HR.out.1.kx).2.2.2 (by omega)
        have d0 := hcb _ _ (intC_at B k hkB)
        rw [hab] at d0
        have hai : (a : Int) < (L : Int) := by omega
        have hSLB := Lib.hid (HPI.out _ HR.out.1.kx).2
        have nb := hBne bb ob rfl
        clear hsx hcb hmem hab hkB hL0
        have hgr : ge < wr.heap.size := Nat.lt_of_lt_of_le hgw HR.out.1.kx.size
        have hwr : w.heap.size < wr.heap.size := HB.out.lt
        go_wp2_with (fail)
        have HBX := Lib.hid (box2 wr #[.int .i64 k] #[.bool bar, .int .i64 v, .bool dd, .bool tt, .bool tie, .slice sa LL.length sc] 3 51)
        have HWY : Hid (Below wr.heap.size wr ((wr.alloc (.cells #[.int .i64 k] 3)).alloc (evO bar v dd tt tie sa LL.length sc))) := bt (ba _ _) (ba _ _)
        obtain ⟨Wy, hWy⟩ : ∃ Wy, ((wr.alloc (.cells #[.int .i64 k] 3)).alloc (evO bar v dd tt tie sa LL.length sc)) = Wy := ⟨_, rfl⟩
        obtain ⟨ib, hib⟩ : ∃ ib, wr.heap.size = ib := ⟨_, rfl⟩
        obtain ⟨eb, heb⟩ : ∃ eb, wr.heap.size + 1 = eb := ⟨_, rfl⟩
        rw [hWy, heb, hib] at HBX
        rw [hWy] at HWY ⊢
        rw [heb, hib] at ⊢
        have n1 : w.heap.size ≠ ge := by omega
        have n2 : ib ≠ ge := by omega
        have n4 : eb ≠ ge := by omega
        have HCY : Hid (∀ w', Below Wy.heap.size Wy w' → (w'.cell? ⟨w.heap.size, 0, none⟩ = some (.slice (some ⟨bb, ob, none⟩) q cb)) ∧ (w'.cell? ⟨ib, 0, none⟩ = some (.int .i64 k)) ∧ (w'.cell? ⟨bb, ob + k, none⟩ = some (.int .i64 a)) ∧ (w'.cell? ⟨eb, 5, none⟩ = some (.slice sa LL.length sc))) := fun w' h => by
          have e1 := (HB.out.below (bt HWY.out h)).cell 0
          have e2 := (Blk.below HBX.out.1 h).cell 0
          have e3 := (Blk.below HBX.out.2 h).cell 5
          simp at e1 e2 e3
          exact ⟨e1, e2, cell_same ((bt HWY.out h).block bb hbb) d0, e3⟩
        have CHG : Hid (∀ w', Below Wy.heap.size Wy w' → Calls Tryd.prog 42 #[.slice sa LL.length sc, .func (.func 70) #[] #[.pointer (some ⟨w.heap.size, 0, none⟩), .pointer (some ⟨ib, 0, none⟩)]] w' fun e w2 => ∃ A3 c3, e = .returned (.slice A3 LL.length c3) ∧ Ow w2 w'.heap.size 62 5 A3 LL.length c3 (stC (LL.map (mvS B k))) ∧ Below w'.heap.size w' w2) := fun w' h =>
          changedM_any sa LL.length sc LL (mvS B k) w.heap.size ib w' (HS.out.below (bt HWY.out h)) rfl hyl (fun s hs W hW => by
            have hh := bt h hW
            obtain ⟨e1, e2, _, _⟩ := HCY.out _ hh
            exact mvFn_any s W w.heap.size ib (some ⟨bb, ob, none⟩) q cb B k (HB.out.below (bt HWY.out hh)).lt (Blk.below HBX.out.1 hh).lt e1 e2 (hSLB.out.below (bt HWY.out hh)) HQ.out (HSX.out s hs).1 (HSX.out s hs).2 hq6 HKB.out)
        clear c0 c1 c2 c3 c4 c5 d0 hWy hib heb
        have T := (Below.refl Wy.heap.size Wy).drew
        go_region_held_law (fun w' => (w'.cell? ⟨w.heap.size, 0, none⟩ = some (.slice (some ⟨bb, ob, none⟩) q cb)) ∧ (w'.cell? ⟨ib, 0, none⟩ = some (.int .i64 k)) ∧ (w'.cell? ⟨bb, ob + k, none⟩ = some (.int .i64 a)) ∧ (w'.cell? ⟨eb, 5, none⟩ = some (.slice sa LL.length sc)))
          (first | exact HCY.out _ T | (obtain ⟨e1, e2, e3, e4⟩ := HCY.out _ T; simp [World.cell?_setCell_other, e1, e2, e3, e4]))
          (first
            | (go_at_call 42; (with_reducible refine (CHG.out _ T).mono ?_); rintro e w3 ⟨A3, c3', rfl, ho, hb3⟩; have hs0 := T.size; have hs1 := HWY.out.size; replace T := bt T hb3; have HG := mv_fin (HR.out.1.below (bt HWY.out T)) HLE.out ha0 (ho.more (by omega)); obtain ⟨hgl, ⟨u5, hu5⟩, hf5, x, hR4⟩ := HG; have HR4 := Lib.hid hR4; have HB4 := Lib.hid ((HB.out.below (bt HWY.out T)).setOther n1 (a * 6 + 5) (.slice A3 LL.length c3')); clear hR4 ho hb3))
        go_wp2_with (fail)
        go_roundw
        case rel => exact ⟨k + 1, _, by omega, by first | rfl | go_num, ⟨by rw [HM.out]; exact HR4.out, by rw [List.length_set]; exact HR.out.2⟩, HB4.out⟩
        case measure => simp [intOf]; omega
    · obtain rfl : k = q := by omega
      go_wp2_with (fail)
      exact ⟨rfl, _, by simp [results, Tryd.results47, go_sem]; rfl, ⟨_, rfl⟩, E, HR.out.1⟩

end Go.Proofs.YtdhjigaocamglaaDoor

/- Pieces: Join's loop: what it keeps. -/
namespace Go.Proofs.YtdhjigaocamglaaDoor
open Go Go.RowKit

/-- An event without stops. -/
def zT (y : EvP) : EvT := ⟨y.bar, y.v, y.d, y.t, y.tie, none, 0, 0⟩
structure JnO (W5 : World) (qb rb cb sb : Nat) (u0 u1 v bv : Value) (ev : List EvP) (bc : List Int) (cur : Int) (W : World) : Prop where
  q : Blk W qb 28 #[u0, u1, v]
  row : W.ownsRow W5.heap.size 51 6 v ev.length (evC (ev.map zT))
  r : Blk W rb 23 #[bv]
  brow : W.ownsRow W5.heap.size 3 1 bv bc.length (intC bc)
  c : Blk W cb 3 #[.int .i64 cur]
  ns : v.ownBlock ≠ some sb
  nb : bv.ownBlock ≠ some sb
  kx : Kx (fun k => k = qb ∨ k = rb ∨ k = cb) W5.heap.size W5 W
/-- All that matters lies as it lay. -/
theorem JnO.same {W5 : World} {qb rb cb sb : Nat} {u0 u1 v bv : Value} {ev : List EvP} {bc : List Int} {cur : Int} {W W' : World} (h : JnO W5 qb rb cb sb u0 u1 v bv ev bc cur W)
    (hk : Kx (fun k => k = qb ∨ k = rb ∨ k = cb) W5.heap.size W W') (hb : ∀ k cs T, k ≠ sb → Blk W k T cs → Blk W' k T cs) (hs : W5.heap.size ≤ sb) (hq : qb < W5.heap.size) (hr : rb < W5.heap.size) (hc : cb < W5.heap.size) : JnO W5 qb rb cb sb u0 u1 v bv ev bc cur W' := by
  have ho : ∀ (x : Value) (T : TypeId) (size n : Nat) (xs : List Value), x.ownBlock ≠ some sb → W.ownsRow W5.heap.size T size x n xs → W'.ownsRow W5.heap.size T size x n xs := fun x T size n xs hn h2 => by
    refine ⟨h2.1, ?_⟩
    rcases h2.2 with h2 | ⟨g, cap, cur, e1, e2, e3, e4⟩
    · exact .inl h2
    · exact .inr ⟨g, cap, cur, e1, e2, hb g _ _ (fun e => hn (by rw [e1, ← e]; rfl)) e3, e4⟩
  exact ⟨hb _ _ _ (by omega) h.q, ho _ _ _ _ _ h.ns h.row, hb _ _ _ (by omega) h.r, ho _ _ _ _ _ h.nb h.brow, hb _ _ _ (by omega) h.c, h.ns, h.nb, h.kx.trans hk⟩
theorem JnO.below {W5 : World} {qb rb cb sb : Nat} {u0 u1 v bv : Value} {ev : List EvP} {bc : List Int} {cur : Int} {W W' : World} (h : JnO W5 qb rb cb sb u0 u1 v bv ev bc cur W) (hb : Below W.heap.size W W')
    (hs : W5.heap.size ≤ sb) (hq : qb < W5.heap.size) (hr : rb < W5.heap.size) (hc : cb < W5.heap.size) : JnO W5 qb rb cb sb u0 u1 v bv ev bc cur W' :=
  h.same ((Kx.of_below hb).mono h.kx.size (fun _ _ h => h)) (fun _ _ _ _ h => h.below hb) hs hq hr hc
/-- A store into a block that is none of them. -/
theorem JnO.other {W5 : World} {qb rb cb sb : Nat} {u0 u1 v bv : Value} {ev : List EvP} {bc : List Int} {cur : Int} {W : World} (h : JnO W5 qb rb cb sb u0 u1 v bv ev bc cur W) {g : Nat} (hg : W5.heap.size ≤ g) {cs : Array Value} {T : TypeId} (hB : Blk W g T cs) (h1 : T ≠ 51) (h2 : T ≠ 3) (i : Nat) (u : Value)
    (hq : qb < W5.heap.size) (hr : rb < W5.heap.size) (hc : cb < W5.heap.size) : JnO W5 qb rb cb sb u0 u1 v bv ev bc cur (W.setCell ⟨g, i, none⟩ u) := by
  have ho : ∀ (x : Value) (T2 : TypeId) (size n : Nat) (xs : List Value), T2 ≠ T → W.ownsRow W5.heap.size T2 size x n xs → (W.setCell ⟨g, i, none⟩ u).ownsRow W5.heap.size T2 size x n xs := fun x T2 size n xs hT h2 =>
    ownsRow_heap h2 (fun g2 hg2 => set_other _ _ _ _ _ (fun e => blk_apart hB h2 (fun e2 => hT e2.symm) (by rw [← e]; exact hg2.symm)))
  exact ⟨h.q.setOther (by omega) _ _, ho _ _ _ _ _ (fun e => h1 e.symm) h.row, h.r.setOther (by omega) _ _, ho _ _ _ _ _ (fun e => h2 e.symm) h.brow, h.c.setOther (by omega) _ _, h.ns, h.nb, h.kx.setBlk (.inl hg) hB _ _⟩
/-- The current length. -/
theorem JnO.cur {W5 : World} {qb rb cb sb : Nat} {u0 u1 v bv : Value} {ev : List EvP} {bc : List Int} {cur : Int} {W : World} (h : JnO W5 qb rb cb sb u0 u1 v bv ev bc cur W) (x : Int)
    (hq : qb ≠ cb) (hr : rb ≠ cb) (hc : cb < W5.heap.size) : JnO W5 qb rb cb sb u0 u1 v bv ev bc x (W.setCell ⟨cb, 0, none⟩ (.int .i64 x)) := by
  have ho : ∀ (y : Value) (T2 : TypeId) (size n : Nat) (xs : List Value), W.ownsRow W5.heap.size T2 size y n xs → (W.setCell ⟨cb, 0, none⟩ (.int .i64 x)).ownsRow W5.heap.size T2 size y n xs := fun y T2 size n xs h2 =>
    ownsRow_heap h2 (fun g2 hg2 => set_other _ _ _ _ _ (fun e => by have := (h2.lt g2 hg2).1; omega))
  exact ⟨h.q.setOther hq _ _, ho _ _ _ _ _ h.row, h.r.setOther hr _ _, ho _ _ _ _ _ h.brow, by have := h.c.set_ 0 (.int .i64 x); simpa using this, h.ns, h.nb, h.kx.setBlk (.inr (.inr (.inr rfl))) h.c _ _⟩
/-- The sign of the last event. -/
def setLast (ev : List EvP) (s : Sg) : List EvP := ev.set (ev.length - 1) (upS (ev.getD (ev.length - 1) z6) s)
theorem JnO.last {W5 : World} {qb rb cb sb : Nat} {u0 u1 v bv : Value} {ev : List EvP} {bc : List Int} {cur : Int} {W : World} (h : JnO W5 qb rb cb sb u0 u1 v bv ev bc cur W) (hne : 0 < ev.length) (hq : qb < W5.heap.size) (hr : rb < W5.heap.size) (hc : cb < W5.heap.size) :
    ∃ g cap y, v = .slice (some ⟨g, 0, none⟩) ev.length cap ∧ W5.heap.size ≤ g ∧ g < W.heap.size ∧ (∃ cs, Blk W g 51 cs) ∧ ev[ev.length - 1]? = some y ∧
      (W.cell? ⟨g, (ev.length - 1) * 6 + 1, none⟩ = some (.int .i64 y.v) ∧ W.cell? ⟨g, (ev.length - 1) * 6 + 2, none⟩ = some (.bool y.d) ∧ W.cell? ⟨g, (ev.length - 1) * 6 + 3, none⟩ = some (.bool y.t)) ∧ (∀ j, W.frozen? ⟨g, j, none⟩ = false) ∧
      (∀ s : Sg, JnO W5 qb rb cb sb u0 u1 v bv (setLast ev s) bc cur (((W.setCell ⟨g, (ev.length - 1) * 6 + 1, none⟩ (.int .i64 s.v)).setCell ⟨g, (ev.length - 1) * 6 + 2, none⟩ (.bool s.d)).setCell ⟨g, (ev.length - 1) * 6 + 3, none⟩ (.bool s.t))) := by
  obtain ⟨hl, h2⟩ := h.row
  rcases h2 with ⟨_, e0⟩ | ⟨g, cap, cur', e1, e2, e3, e4, e5, e6, e7⟩
  · omega
  have hB : Blk W g 51 cur' := e3
  have hk : ev.length - 1 < ev.length := by omega
  have hy := List.getElem?_eq_getElem hk
  have hyd : ev.getD (ev.length - 1) z6 = ev[ev.length - 1] := by simp [List.getD_eq_getElem?_getD, hy]
  have hx : (ev.map zT)[ev.length - 1]? = some (zT ev[ev.length - 1]) := by rw [List.getElem?_map, hy]; rfl
  obtain ⟨_, i1, i2, i3, _, _⟩ := evC_at _ _ _ hx
  refine ⟨g, cap, ev[ev.length - 1], e1, e2, hB.lt, ⟨_, hB⟩, hy, ⟨hB.cellOf e7 i1, hB.cellOf e7 i2, hB.cellOf e7 i3⟩, fun j => hB.frozen j, fun s => ?_⟩
  have hOw : Ow W W5.heap.size 51 6 (some ⟨g, 0, none⟩) ev.length cap (evC (ev.map zT)) := by
    have := h.row
    rw [e1] at this
    exact Ow.of_own this
  have h3 := ((hOw.set_ ((ev.length - 1) * 6 + 1) (.int .i64 s.v)).set_ ((ev.length - 1) * 6 + 2) (.bool s.d)).set_ ((ev.length - 1) * 6 + 3) (.bool s.t)
  rw [evC_upT _ _ _ s hx] at h3
  have hm : (ev.map zT).set (ev.length - 1) (upT (zT ev[ev.length - 1]) s) = (setLast ev s).map zT := by
    unfold setLast
    rw [List.map_set, hyd]
    rfl
  rw [hm] at h3
  have hls : (setLast ev s).length = ev.length := by simp [setLast]
  have hkb : ∀ (g2 : Nat) (T : TypeId) (cs : Array Value), g2 ≠ g → Blk W g2 T cs → Blk (((W.setCell ⟨g, (ev.length - 1) * 6 + 1, none⟩ (.int .i64 s.v)).setCell ⟨g, (ev.length - 1) * 6 + 2, none⟩ (.bool s.d)).setCell ⟨g, (ev.length - 1) * 6 + 3, none⟩ (.bool s.t)) g2 T cs := fun g2 T cs hT h2 =>
    ((h2.setOther hT _ _).setOther hT _ _).setOther hT _ _
  obtain ⟨g3, cur3, f1, f2, f3, f4, f5⟩ := h3.2.2 hne
  injection f1 with f1
  injection f1 with f1
  subst f1
  refine ⟨hkb _ _ _ (by omega) h.q, ⟨by rw [hls]; exact h3.2.1, .inr ⟨g, cap, cur3, by rw [hls]; exact e1, e2, f3, by rw [hls]; exact e4, e5, f4, by rw [hls]; exact f5⟩⟩, hkb _ _ _ (by omega) h.r, ?_, hkb _ _ _ (by omega) h.c, h.ns, h.nb, ((h.kx.setBlk (.inl e2) hB _ _).setBlk (.inl e2) (hB.set_ _ _) _ _).setBlk (.inl e2) ((hB.set_ _ _).set_ _ _) _ _⟩
  refine ownsRow_heap h.brow (fun g2 hg2 => ?_)
  have hn : g2 ≠ g := fun e => blk_apart hB h.brow (by decide) (by rw [← e]; exact hg2.symm)
  rw [set_other _ _ _ _ _ hn, set_other _ _ _ _ _ hn, set_other _ _ _ _ _ hn]

/-- The row's own block is there. -/
theorem row_cells {W : World} {base : Nat} {e : TypeId} {size n : Nat} {v : Value} {xs : List Value} (h : W.ownsRow base e size v n xs) : ∀ k, v.ownBlock = some k → ∃ cs T f, W.heap[k]? = some (.cells cs T f) := fun k hk => by
  rcases h.2 with ⟨h1, _⟩ | ⟨g, cap, cur, h1, h2, h3, _⟩
  · rw [h1] at hk; cases hk
  · rw [h1] at hk
    injection hk with hk
    subst hk
    exact ⟨_, _, _, h3⟩
theorem row_ne {W : World} {base : Nat} {e : TypeId} {size n : Nat} {v : Value} {xs : List Value} (h : W.ownsRow base e size v n xs) {sb : Nat} {cs : Array Value} {T : TypeId} {f : Nat × Nat} (hs : W.heap[sb]? = some (.cells cs T f)) (hT : T ≠ e) : v.ownBlock ≠ some sb := fun hk => by
  rcases h.2 with ⟨h1, _⟩ | ⟨g, cap, cur, h1, h2, h3, _⟩
  · rw [h1] at hk; cases hk
  · rw [h1] at hk
    injection hk with hk
    subst hk
    rw [hs] at h3
    injection h3 with h3
    injection h3 with _ h3
    exact hT h3
/-- One event more. -/
theorem JnO.event {W5 : World} {qb rb cb sb : Nat} {u0 u1 v bv : Value} {ev : List EvP} {bc : List Int} {cur : Int} {W w6 : World} {O : Obj} {v' : Value} {news : List Value} (h : JnO W5 qb rb cb sb u0 u1 v bv ev bc cur W) (y : EvP) (hn : news = [.bool y.bar, .int .i64 y.v, .bool y.d, .bool y.t, .bool y.tie, .slice none 0 0])
    (hown : w6.ownsRow W5.heap.size 51 6 v' (ev.length + 1) (evC (ev.map zT) ++ news)) (hg : (W.alloc O).grownBy w6 v.ownBlock) {scs : Array Value} {sf : Nat × Nat} (hsb : W.heap[sb]? = some (.cells scs 48 sf))
    (hq : qb < W5.heap.size) (n1 : rb ≠ qb) (n2 : cb ≠ qb) :
    Blk w6 qb 28 #[u0, u1, v] ∧ Blk w6 cb 3 #[.int .i64 cur] ∧ Blk w6 rb 23 #[bv] ∧ (∀ g T cs, T ≠ 51 → Blk W g T cs → Blk w6 g T cs) ∧ JnO W5 qb rb cb sb u0 u1 v' bv (ev ++ [y]) bc cur (w6.setCell ⟨qb, 2, none⟩ v') := by
  have hk : ∀ (g : Nat) (T : TypeId) (cs : Array Value), T ≠ 51 → Blk W g T cs → Blk w6 g T cs := fun g T cs hT hB => (hB.below (ba _ _)).grown hg (blk_apart hB h.row hT)
  have q6 := hk _ _ _ (by decide) h.q
  have c6 := hk _ _ _ (by decide) h.c
  have r6 := hk _ _ _ (by decide) h.r
  have hz := h.kx.size
  have hs6 : w6.heap[sb]? = some (.cells scs 48 sf) :=
    (hg.block sb (by have := (Array.getElem?_eq_some_iff.1 hsb).1; simp; omega) (fun e => h.ns e.symm)).trans (((ba W O).block sb (Array.getElem?_eq_some_iff.1 hsb).1).trans hsb)
  refine ⟨q6, c6, r6, hk, ?_, ?_, r6.setOther n1 _ _, ?_, c6.setOther n2 _ _, row_ne hown hs6 (by decide), h.nb, ?_⟩
  · have := q6.set_ 2 v'
    simpa using this
  · rw [List.length_append, List.length_singleton, List.map_append, evC_append]
    have e : evC (List.map zT [y]) = news := by rw [hn]; rfl
    rw [e]
    exact ownsRow_heap hown (fun g2 hg2 => set_other _ _ _ _ _ (fun e => by have := (hown.lt g2 hg2).1; omega))
  · refine ownsRow_heap (W := w6) ?_ (fun g2 hg2 => set_other _ _ _ _ _ (fun e => by have := (h.brow.lt g2 hg2).1; omega))
    refine ⟨h.brow.1, ?_⟩
    rcases h.brow.2 with h2 | ⟨g, cap, cur, e1, e2, e3, e4⟩
    · exact .inl h2
    · exact .inr ⟨g, cap, cur, e1, e2, hk g _ _ (by decide) e3, e4⟩
  · have k1 := (h.kx.trans ((Kx.of_below (x := fun k => k = qb ∨ k = rb ∨ k = cb) (ba W O)).mono hz (fun _ _ h => h))).grown hg (by simp; omega) (fun k hk => (h.row.lt k hk).1) (fun k hk => by
      obtain ⟨cs, T, f, h3⟩ := row_cells h.row k hk
      exact ⟨cs, T, f, ((ba W O).block k (Array.getElem?_eq_some_iff.1 h3).1).trans h3⟩)
    exact k1.setBlk (.inr (.inl rfl)) q6 _ _
/-- One number more. -/
theorem JnO.bec {W5 : World} {qb rb cb sb : Nat} {u0 u1 v bv : Value} {ev : List EvP} {bc : List Int} {cur : Int} {W w6 : World} {O : Obj} {bv' : Value} {x : Int} (h : JnO W5 qb rb cb sb u0 u1 v bv ev bc cur W)
    (hown : w6.ownsRow W5.heap.size 3 1 bv' (bc.length + 1) (intC bc ++ [.int .i64 x])) (hg : (W.alloc O).grownBy w6 bv.ownBlock) {scs : Array Value} {sf : Nat × Nat} (hsb : W.heap[sb]? = some (.cells scs 48 sf))
    (hq : qb < W5.heap.size) (hr : rb < W5.heap.size) (hc : cb < W5.heap.size) (n1 : qb ≠ rb) (n2 : cb ≠ rb) :
    Blk w6 rb 23 #[bv] ∧ w6.heap[sb]? = some (.cells scs 48 sf) ∧ JnO W5 qb rb cb sb u0 u1 v bv' ev (bc ++ [x]) cur (w6.setCell ⟨rb, 0, none⟩ bv') := by
  have hk : ∀ (g : Nat) (T : TypeId) (cs : Array Value), some g ≠ bv.ownBlock → Blk W g T cs → Blk w6 g T cs := fun g T cs hT hB => (hB.below (ba _ _)).grown hg hT
  have hnb : ∀ g, g < W5.heap.size → some g ≠ bv.ownBlock := fun g hl e => by have := (h.brow.lt g e.symm).1; omega
  have q6 := hk _ _ _ (hnb _ hq) h.q
  have c6 := hk _ _ _ (hnb _ hc) h.c
  have r6 := hk _ _ _ (hnb _ hr) h.r
  have hz := h.kx.size
  have hs6 : w6.heap[sb]? = some (.cells scs 48 sf) :=
    (hg.block sb (by have := (Array.getElem?_eq_some_iff.1 hsb).1; simp; omega) (fun e => h.nb e.symm)).trans (((ba W O).block sb (Array.getElem?_eq_some_iff.1 hsb).1).trans hsb)
  refine ⟨r6, hs6, q6.setOther n1 _ _, ?_, ?_, ?_, c6.setOther n2 _ _, h.ns, row_ne hown hs6 (by decide), ?_⟩
  · refine ownsRow_heap (W := w6) ?_ (fun g2 hg2 => set_other _ _ _ _ _ (fun e => by have := (h.row.lt g2 hg2).1; omega))
    refine ⟨h.row.1, ?_⟩
    rcases h.row.2 with h2 | ⟨g, cap, cur, e1, e2, e3, e4⟩
    · exact .inl h2
    · exact .inr ⟨g, cap, cur, e1, e2, hk g _ _ (blk_apart e3 h.brow (by decide)) e3, e4⟩
  · have := r6.set_ 0 bv'
    simpa using this
  · rw [List.length_append, List.length_singleton]
    have e : intC (bc ++ [x]) = intC bc ++ [.int .i64 x] := by simp [intC]
    rw [e]
    exact ownsRow_heap hown (fun g2 hg2 => set_other _ _ _ _ _ (fun e => by have := (hown.lt g2 hg2).1; omega))
  · have k1 := (h.kx.trans ((Kx.of_below (x := fun k => k = qb ∨ k = rb ∨ k = cb) (ba W O)).mono hz (fun _ _ h => h))).grown hg (by simp; omega) (fun k hk => (h.brow.lt k hk).1) (fun k hk => by
      obtain ⟨cs, T, f, h3⟩ := row_cells h.brow k hk
      exact ⟨cs, T, f, ((ba W O).block k (Array.getElem?_eq_some_iff.1 h3).1).trans h3⟩)
    exact k1.setBlk (.inr (.inr (.inl rfl))) r6 _ _
/-- What the loop makes of the events so far. -/
structure JnS where
  ev : List EvP
  bc : List Int
  cur : Int
def jnNew (a : JnS) (p : TmP) : JnS := ⟨a.ev ++ [⟨p.y.bar, p.v, p.d, p.t, p.y.tie, []⟩], a.bc ++ [(a.ev.length : Int)], p.to - p.fm⟩
def jnStep (a : JnS) (p : TmP) : JnS :=
  match soOf (a.cur + (p.to - p.fm)) with
  | some s => if (p.y.tie && !p.y.bar) = true then ⟨setLast a.ev s, a.bc ++ [(a.ev.length : Int) - 1], a.cur + (p.to - p.fm)⟩ else jnNew a p
  | none => jnNew a p
def jnAll (X : List TmP) : JnS := X.foldl jnStep ⟨[], [], 0⟩
theorem jnAll_snoc (X : List TmP) (p : TmP) : jnAll (X ++ [p]) = jnStep (jnAll X) p := by simp [jnAll]
/-- The loop's relation. -/
def JnI (W5 : World) (qb rb cb sb : Nat) (u0 u1 : Value) (X : List TmP) (pre : List Tm) (W : World) : Prop :=
  ∃ v bv, JnO W5 qb rb cb sb u0 u1 v bv (jnAll (X.take pre.length)).ev (jnAll (X.take pre.length)).bc (jnAll (X.take pre.length)).cur W
theorem jnI_bx {W5 : World} {qb rb cb sb : Nat} {u0 u1 : Value} {X : List TmP} (hs : W5.heap.size ≤ sb) (hq : qb < W5.heap.size) (hr : rb < W5.heap.size) (hc : cb < W5.heap.size) : Bx sb (JnI W5 qb rb cb sb u0 u1 X) := by
  constructor
  · rintro s W W' ⟨v, bv, h⟩ hW
    exact ⟨v, bv, h.below hW hs hq hr hc⟩
  · rintro s W ⟨b, o, sp⟩ u ⟨v, bv, h⟩ hb
    dsimp only at hb
    have hz1 : Kx (fun k => k = qb ∨ k = rb ∨ k = cb) W5.heap.size W (W.setCell ⟨b, o, sp⟩ u) := by
      refine ⟨rfl, rfl, rfl, by simp, fun k hk hn => Below.heap_setCell _ _ _ _ (show k ≠ b by omega), fun k o' hk ho => ?_⟩
      by_cases hkb : k = b
      · subst hkb
        cases o' with
        | cells cs T f => cases ho
        | _ => simp [World.setCell, Array.getElem?_modify, hk]
      · exact (Below.heap_setCell _ _ _ _ hkb).trans hk
    exact ⟨v, bv, h.same hz1 (fun k cs T hk h2 => (Below.heap_setCell W ⟨b, o, sp⟩ u k (show k ≠ b by omega)).trans h2) hs hq hr hc⟩
theorem jnI_put {W5 : World} {qb rb cb sb : Nat} {u0 u1 : Value} {X : List TmP} (s : List Tm) (W : World) (l : Nat) (o o' : Obj) (h : JnI W5 qb rb cb sb u0 u1 X s W) (hl : W.heap[l]? = some o) (ho : o.isCells = false) (hll : W5.heap.size ≤ l) : JnI W5 qb rb cb sb u0 u1 X s (W.putObj l o') := by
  have hne : ∀ (k : Nat) (c : Array Value) (T : TypeId) (f : Nat × Nat), W.heap[k]? = some (.cells c T f) → k ≠ l := fun k c T f hk e => by
    rw [e, hl] at hk
    injection hk with hk
    rw [hk] at ho
    cases ho
  obtain ⟨v, bv, h⟩ := h
  have hb : Below W5.heap.size W (W.putObj l o') := (Below.refl _ _).grown (grownBy_putObj' W l o') h.kx.size (fun k e => by cases e; exact hll)
  have hB : ∀ (k : Nat) (T : TypeId) (cs : Array Value), Blk W k T cs → Blk (W.putObj l o') k T cs := fun k T cs hk => (World.putObj_heap_other (hne _ _ _ _ hk)).trans hk
  refine ⟨v, bv, hB _ _ _ h.q, ownsRow_putObj h.row _ hl ho, hB _ _ _ h.r, ownsRow_putObj h.brow _ hl ho, hB _ _ _ h.c, h.ns, h.nb, ?_⟩
  refine ⟨hb.os.trans h.kx.os, hb.tape.trans h.kx.tape, hb.output.trans h.kx.output, Nat.le_trans h.kx.size hb.size, fun k hk hn => (hb.block k hk).trans (h.kx.block k hk hn), fun k o2 hk ho2 => ?_⟩
  exact (hb.block k (Array.getElem?_eq_some_iff.1 hk).1).trans (h.kx.oth k o2 hk ho2)

/-- As Kx.grown; the row may lie anywhere among the blocks that may change. -/
theorem Kx.grownX {x : Nat → Prop} {B : Nat} {w w' w2 : World} (h : Kx x B w w') {row : Option Nat} (hg : w'.grownBy w2 row) (hB : B ≤ w'.heap.size) (hr : ∀ k, row = some k → B ≤ k ∨ x k) (ho : ∀ k, row = some k → ∃ cs T f, w'.heap[k]? = some (.cells cs T f)) : Kx x B w w2 := by
  have hk : ∀ k (o : Obj), w'.heap[k]? = some o → some k ≠ row → w2.heap[k]? = some o := fun k o hk hn => (hg.block k (Array.getElem?_eq_some_iff.1 hk).1 hn).trans hk
  refine ⟨hg.os.trans h.os, hg.tape.trans h.tape, hg.output.trans h.output, Nat.le_trans h.size hg.size, fun k hlt hn => ?_, fun k o hk1 hk2 => ?_⟩
  · exact (hg.block k (by omega) (fun e => (hr k e.symm).elim (fun h => by omega) hn)).trans (h.block k hlt hn)
  · refine hk k o (h.oth k o hk1 hk2) (fun e => ?_)
    obtain ⟨cs, T, f, hc⟩ := ho k e.symm
    rw [h.oth k o hk1 hk2] at hc
    injection hc with hc
    rw [hc] at hk2
    cases hk2
/-- The blocks that a round may change. -/
def JnX (qb rb cb bq : Nat) (v bv : Value) (k : Nat) : Prop := k = qb ∨ k = rb ∨ k = cb ∨ k = bq ∨ v.ownBlock = some k ∨ bv.ownBlock = some k
theorem jn_close {W5 W W' : World} {qb rb cb sb bq b1 Bp : Nat} {u0 u1 v bv v' bv' : Value} {ev ev' : List EvP} {bc bc' : List Int} {cur cur' : Int} {X : List TmP} {pre : List Tm} {xt : Tm}
    (HJ : JnO W5 qb rb cb sb u0 u1 v bv ev bc cur W) (HJ' : JnO W5 qb rb cb sb u0 u1 v' bv' ev' bc' cur' W') (hK : Kx (JnX qb rb cb bq v bv) W.heap.size W W') (hst : jnAll (X.take (pre.length + 1)) = ⟨ev', bc', cur'⟩)
    (h1 : b1 ≤ qb) (h2 : b1 ≤ rb) (h3 : b1 ≤ cb) (hBp : Bp < W5.heap.size) (e1 : Bp ≠ qb) (e2 : Bp ≠ rb) (e3 : Bp ≠ cb) (hbq : W5.heap.size ≤ bq) (hsq : sb ≠ bq) (hs : W5.heap.size ≤ sb) (hq : qb < W5.heap.size) (hr : rb < W5.heap.size) (hc : cb < W5.heap.size) (act : Act) :
    bodyB (fun k => k < b1 ∨ k = Bp ∨ k = sb) (JnI W5 qb rb cb sb u0 u1 X) (pre ++ [xt]) W .normal act W' := by
  refine ⟨⟨hK.size, hK.oth⟩, fun k hk hlt => hK.block k hlt ?_, v', bv', ?_⟩
  · rintro (h | h | h | h | h | h)
    · rcases hk with hk | hk | hk <;> omega
    · rcases hk with hk | hk | hk <;> omega
    · rcases hk with hk | hk | hk <;> omega
    · rcases hk with hk | hk | hk
      · omega
      · omega
      · exact hsq (hk.symm.trans h)
    · have := (HJ.row.lt k h).1
      rcases hk with hk | hk | hk
      · omega
      · omega
      · exact HJ.ns (by rw [h, hk])
    · have := (HJ.brow.lt k h).1
      rcases hk with hk | hk | hk
      · omega
      · omega
      · exact HJ.nb (by rw [h, hk])
  · have hl : (pre ++ [xt]).length = pre.length + 1 := by simp
    rw [hl, hst]
    exact HJ'
/-- What the lists say. -/
structure jnOk (k : Nat) (a : JnS) : Prop where
  bl : a.bc.length = k
  el : a.ev.length ≤ k
  e0 : 0 < k → 0 < a.ev.length
  c0 : 0 ≤ a.cur
  c1 : a.cur ≤ 576 * k
  bm : ∀ x ∈ a.bc, 0 ≤ x ∧ x < k
  be : ∀ x ∈ a.bc, x < a.ev.length
  eL : ∀ y ∈ a.ev, y.L = []
theorem jnNew_ok {k : Nat} {a : JnS} {p : TmP} (h : jnOk k a) (h1 : 0 ≤ p.to - p.fm) (h2 : p.to - p.fm ≤ 576) : jnOk (k + 1) (jnNew a p) := by
  have e1 := h.bl
  have e2 := h.el
  refine ⟨by simp [jnNew, e1], by simp [jnNew]; exact e2, fun _ => by simp [jnNew], h1, by show p.to - p.fm ≤ 576 * ((k + 1 : Nat) : Int); push_cast; omega, fun x hx => ?_, fun x hx => ?_, fun y hy => ?_⟩
  · rcases List.mem_append.1 hx with hx | hx
    · have := h.bm x hx
      push_cast
      omega
    · obtain rfl : x = _ := by simpa using hx
      push_cast
      omega
  · show x < (((a.ev ++ [(⟨p.y.bar, p.v, p.d, p.t, p.y.tie, []⟩ : EvP)]).length : Nat) : Int)
    rw [List.length_append, List.length_singleton]
    rcases List.mem_append.1 hx with hx | hx
    · have := h.be x hx
      push_cast
      omega
    · obtain rfl : x = _ := by simpa using hx
      push_cast
      omega
  · rcases List.mem_append.1 hy with hy | hy
    · exact h.eL y hy
    · obtain rfl : y = _ := by simpa using hy
      rfl
theorem setLast_L {ev : List EvP} {s : Sg} (h : ∀ y ∈ ev, y.L = []) : ∀ y ∈ setLast ev s, y.L = [] := fun y hy => by
  unfold setLast at hy
  rcases List.mem_or_eq_of_mem_set hy with hy | rfl
  · exact h y hy
  · show (ev.getD (ev.length - 1) z6).L = []
    by_cases h0 : ev.length - 1 < ev.length
    · refine h _ ?_
      rw [List.getD_eq_getElem?_getD, List.getElem?_eq_getElem h0]
      exact List.getElem_mem h0
    · rw [List.getD_eq_getElem?_getD, List.getElem?_eq_none (by omega)]
      rfl
theorem jnStep_ok {k : Nat} {a : JnS} {p : TmP} (h : jnOk k a) (h1 : 0 ≤ p.to - p.fm) (h2 : p.to - p.fm ≤ 576) (h3 : k = 0 → p.y.tie = false) : jnOk (k + 1) (jnStep a p) := by
  unfold jnStep
  split
  · split
    · rename_i s hs ht
      have hk : 0 < k := by
        rcases Nat.eq_zero_or_pos k with h0 | h0
        · rw [h3 h0] at ht
          simp at ht
        · exact h0
      have e1 := h.bl
      have e2 := h.el
      have e3 := h.e0 hk
      have e4 := h.c0
      have e5 := h.c1
      refine ⟨by simp [e1], by simp [setLast]; omega, fun _ => by simp [setLast]; exact e3, by dsimp only; omega, by dsimp only; push_cast; omega, fun x hx => ?_, fun x hx => ?_, setLast_L h.eL⟩
      · rcases List.mem_append.1 hx with hx | hx
        · have := h.bm x hx
          push_cast
          omega
        · obtain rfl : x = _ := by simpa using hx
          push_cast
          omega
      · show x < (((setLast a.ev s).length : Nat) : Int)
        rw [show (setLast a.ev s).length = a.ev.length by simp [setLast]]
        rcases List.mem_append.1 hx with hx | hx
        · exact h.be x hx
        · obtain rfl : x = _ := by simpa using hx
          omega
    · exact jnNew_ok h h1 h2
  · exact jnNew_ok h h1 h2
theorem jnAll_ok : ∀ (k : Nat) (X : List TmP), X.length = k → (∀ (j : Nat) (p : TmP), X[j]? = some p → 0 ≤ p.to - p.fm ∧ p.to - p.fm ≤ 576 ∧ (j = 0 → p.y.tie = false)) → jnOk k (jnAll X)
  | 0, X, hk, _ => by
    obtain rfl : X = [] := List.length_eq_zero_iff.1 hk
    exact ⟨rfl, Nat.le_refl _, fun h => by omega, by simp [jnAll], by simp [jnAll], fun x hx => by simp [jnAll] at hx, fun x hx => by simp [jnAll] at hx, fun y hy => by simp [jnAll] at hy⟩
  | k + 1, X, hk, h => by
    obtain ⟨l, y, rfl⟩ : ∃ l y, X = l ++ [y] := ⟨X.dropLast, X.getLast (by intro e; simp [e] at hk), (List.dropLast_concat_getLast _).symm⟩
    have hl : l.length = k := by simpa using hk
    rw [jnAll_snoc]
    have hy := h k y (by rw [List.getElem?_append_right (by omega)]; simp [hl])
    exact jnStep_ok (jnAll_ok k l hl (fun j x hx => h j x (by rw [List.getElem?_append_left (List.getElem?_eq_some_iff.1 hx).1]; exact hx))) hy.1 hy.2.1 hy.2.2
theorem tmPL_bd : ∀ (P : List EvP) (n : Nat) (v : Int) (d t : Bool) (fm : Int) (j : Nat) (p : TmP), (tmPL P n v d t fm)[j]? = some p → p.n = n + j ∧ P[j]? = some p.y ∧ 0 ≤ p.to - p.fm ∧ p.to - p.fm ≤ 576
  | [], n, v, d, t, fm, j, p, h => by simp [tmPL] at h
  | y :: r, n, v, d, t, fm, 0, p, h => by
    unfold tmPL at h
    split at h
    · simp at h
      subst h
      have hb := tkV_bd y.v y.d y.t
      exact ⟨rfl, rfl, by dsimp only; omega, by dsimp only; omega⟩
    · simp at h
      subst h
      have hb := tkV_bd v d t
      exact ⟨rfl, rfl, by dsimp only; omega, by dsimp only; omega⟩
  | y :: r, n, v, d, t, fm, j + 1, p, h => by
    unfold tmPL at h
    split at h
    all_goals
      have := tmPL_bd r _ _ _ _ _ j p (by simpa using h)
      exact ⟨by omega, by simpa using this.2.1, this.2.2⟩
theorem jn_take {C : List Cr} {S : List Int} {P : List EvP} (h0 : pcErr C S P = 0) (k : Nat) (hk : k ≤ P.length) : jnOk k (jnAll ((tpL P).take k)) := by
  refine jnAll_ok k _ (by rw [List.length_take, tmPL_len]; omega) (fun j p hp => ?_)
  rw [List.getElem?_take] at hp
  split at hp
  · obtain ⟨_, h2, h3, h4⟩ := tmPL_bd P 0 0 false false 0 j p hp
    refine ⟨h3, h4, fun hj => ?_⟩
    subst hj
    have := ((pcErr_ok h0).2.2 0 _ h2).2.1
    unfold tieB at this
    simpa using this
  · cases hp

/-- The timed event's box is written. -/
theorem jn_tbox {W5 W Wa : World} {qb rb cb sb bq : Nat} {u0 u1 v bv : Value} {ev : List EvP} {bc : List Int} {cur : Int} {cs : Array Value} (HQ : Blk Wa bq 75 cs) (HJ : JnO W5 qb rb cb sb u0 u1 v bv ev bc cur Wa) (HK : Kx (JnX qb rb cb bq v bv) W.heap.size W Wa) {scs : Array Value} {sf : Nat × Nat} (hsb : Wa.heap[sb]? = some (.cells scs 48 sf)) (s1 s2 s3 s4 : Value)
    (hbq : W5.heap.size ≤ bq) (hsq : sb ≠ bq) (hq : qb < W5.heap.size) (hr : rb < W5.heap.size) (hc : cb < W5.heap.size) :
    JnO W5 qb rb cb sb u0 u1 v bv ev bc cur ((((Wa.setCell ⟨bq, 2, none⟩ s1).setCell ⟨bq, 3, none⟩ s2).setCell ⟨bq, 4, none⟩ s3).setCell ⟨bq, 6, none⟩ s4) ∧
    Kx (JnX qb rb cb bq v bv) W.heap.size W ((((Wa.setCell ⟨bq, 2, none⟩ s1).setCell ⟨bq, 3, none⟩ s2).setCell ⟨bq, 4, none⟩ s3).setCell ⟨bq, 6, none⟩ s4) ∧
    ((((Wa.setCell ⟨bq, 2, none⟩ s1).setCell ⟨bq, 3, none⟩ s2).setCell ⟨bq, 4, none⟩ s3).setCell ⟨bq, 6, none⟩ s4).heap[sb]? = some (.cells scs 48 sf) := by
  have a1 := HQ.set_ 2 s1
  have a2 := a1.set_ 3 s2
  have a3 := a2.set_ 4 s3
  refine ⟨?_, (((HK.setBlk (.inr (.inr (.inr (.inr (.inl rfl))))) HQ _ _).setBlk (.inr (.inr (.inr (.inr (.inl rfl))))) a1 _ _).setBlk (.inr (.inr (.inr (.inr (.inl rfl))))) a2 _ _).setBlk (.inr (.inr (.inr (.inr (.inl rfl))))) a3 _ _, ?_⟩
  · have j1 := HJ.other hbq HQ (by decide) (by decide) 2 s1 hq hr hc
    have j2 := j1.other hbq a1 (by decide) (by decide) 3 s2 hq hr hc
    have j3 := j2.other hbq a2 (by decide) (by decide) 4 s3 hq hr hc
    exact j3.other hbq a3 (by decide) (by decide) 6 s4 hq hr hc
  · rw [set_other _ _ _ _ _ hsq, set_other _ _ _ _ _ hsq, set_other _ _ _ _ _ hsq, set_other _ _ _ _ _ hsq]
    exact hsb

theorem jn_sb4 {W : World} {sb g cb : Nat} (h1 : sb ≠ g) (h2 : sb ≠ cb) {o : Obj} (h : W.heap[sb]? = some o) (i1 i2 i3 i4 : Nat) (v1 v2 v3 v4 : Value) : ((((W.setCell ⟨g, i1, none⟩ v1).setCell ⟨g, i2, none⟩ v2).setCell ⟨g, i3, none⟩ v3).setCell ⟨cb, i4, none⟩ v4).heap[sb]? = some o := by
  rw [set_other _ _ _ _ _ h2, set_other _ _ _ _ _ h1, set_other _ _ _ _ _ h1, set_other _ _ _ _ _ h1]
  exact h

theorem lgGo_len (c : Int) : ∀ (R : List EvP) (h : Nat), lgGo c R h ≤ h + R.length
  | [], h => by unfold lgGo; simp
  | y :: R, h => by
    unfold lgGo
    split
    · rw [List.length_cons]; omega
    · have := lgGo_len c R (h + 1)
      rw [List.length_cons]
      omega
theorem stsErr_mem {C : List Cr} {P : List EvP} {k : Nat} : ∀ (M : List St) (bf : Int), stsErr C P k bf M = 0 → ∀ s ∈ M, 0 ≤ s.h ∧ s.h ≤ (lgst P k s.c : Int)
  | [], _, _, s, hs => by cases hs
  | x :: M, bf, h0, s, hs => by
    unfold stsErr at h0
    have e : stErr C P k bf x = 0 := by
      by_cases h1 : stErr C P k bf x = 0
      · exact h1
      · rw [if_neg h1] at h0
        exact absurd h0 h1
    rw [if_pos e] at h0
    rcases List.mem_cons.1 hs with rfl | hs
    · unfold stErr at e
      split at e
      · simp at e
      · split at e
        · simp at e
        · split at e
          · simp at e
          · split at e
            · simp at e
            · split at e
              · simp at e
              · rename_i a5
                omega
    · exact stsErr_mem M x.c h0 s hs
/-- How far the holds of a valid piece reach. -/
theorem hold_in {C : List Cr} {S : List Int} {P : List EvP} (h0 : pcErr C S P = 0) {i : Nat} (hi : i < P.length) : ∀ s ∈ (P.getD i z6).L, 0 ≤ s.h ∧ (i : Int) + s.h < P.length := fun s hs => by
  have hP : P[i]? = some (P.getD i z6) := by simp [List.getD_eq_getElem?_getD, List.getElem?_eq_getElem hi]
  obtain ⟨h1, h2⟩ := stsErr_mem _ 0 ((pcErr_ok h0).2.2 i _ hP).2.2 s hs
  refine ⟨h1, ?_⟩
  unfold lgst at h2
  rw [if_neg (by omega)] at h2
  have := lgGo_len s.c (P.drop ((i : Int).toNat + 1)) 0
  rw [List.length_drop] at this
  simp at this h2
  omega
theorem cpe_zT (w : World) (b : Nat) {ev : List EvP} (h : ∀ y ∈ ev, y.L = []) : CpE w b (ev.map zT) ev := fun j x y hx hy => by
  rw [List.getElem?_map, hy] at hx
  obtain rfl : zT y = x := by simpa using hx
  have hL := h y (List.mem_of_getElem? hy)
  refine ⟨⟨rfl, rfl, rfl, rfl, rfl, by rw [hL]; rfl⟩, ?_⟩
  rw [hL]
  exact ⟨Nat.le_refl _, rfl, fun h => absurd h (by simp)⟩
set_option maxRecDepth 100000 in
set_option maxHeartbeats 1600000 in
theorem moveHolds_nil (A2 : Option Addr) (cq : Nat) (X : Value) (Ab : Option Addr) (n cb : Nat) (w : World) :
    Calls Tryd.prog 47 #[.slice A2 0 cq, X, .slice Ab n cb] w fun e w' => (∃ v, e = .returned v) ∧ Below w.heap.size w w' := by
  go_enter Tryd.func47, Tryd.ntmps47
  go_wp2_with (fail)
  go_loopw [10] (fun i wr => i = .int .i64 0 ∧ Below w.heap.size w wr) (fun _ _ => 0)
  case atStart => exact ⟨rfl, ba w _⟩
  case round =>
    obtain ⟨rfl, hb⟩ := hrel
    have HB := Lib.hid hb
    clear hb
    go_wp2_with (fail)
    exact ⟨rfl, _, by simp [results, Tryd.results47, go_sem]; rfl, ⟨_, rfl⟩, HB.out⟩

end Go.Proofs.YtdhjigaocamglaaDoor
