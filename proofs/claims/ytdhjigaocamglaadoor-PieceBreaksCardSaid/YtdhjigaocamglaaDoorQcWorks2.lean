/- Piece: the closure of Signs: a call that finds nothing, and one that takes a sign. -/
import Derived.Test.YtdhjigaocamglaaDoorQcTkT
import Derived.Test.YtdhjigaocamglaaDoorQcCopy
import Derived.RangeFuncBox
import Derived.Maps.AppendAt
import Derived.Deep.RegionLaw
import Derived.Deep.AppendLies
import Derived.Laws.EntriesVeiled
import Derived.Test.YtdhjigaocamglaaDoorQcOnsets
import Derived.BigQuiet
namespace Go.Proofs.YtdhjigaocamglaaDoor
open Go Go.RowKit

/-- The sign k of the table. -/
def sgv : Nat → Int × Bool × Bool
  | 0 => (1, true, false) | 1 => (1, false, false) | 2 => (2, true, false) | 3 => (1, false, true) | 4 => (2, false, false) | 5 => (3, true, false) | 6 => (2, false, true)
  | 7 => (3, false, false) | 8 => (4, true, false) | 9 => (3, false, true) | 10 => (4, false, false) | 11 => (5, true, false) | 12 => (4, false, true) | 13 => (5, false, false)
  | 14 => (6, true, false) | 15 => (5, false, true) | 16 => (6, false, false) | 17 => (7, true, false) | 18 => (6, false, true) | 19 => (7, false, false) | _ => (7, false, true)
def tks (k : Nat) : Int := tkV (sgv k).1 (sgv k).2.1 (sgv k).2.2
theorem tkV_bd0 (k : Nat) : 0 ≤ tks k ∧ tks k ≤ 576 := by
  have hb : ∀ v, 6 ≤ tbase v ∧ tbase v ≤ 384 := fun v => by
    unfold tbase
    repeat' split
    all_goals omega
  have := hb (sgv k).1
  unfold tks tkV
  repeat' split
  all_goals omega
/-- The table lies in its variable. -/
def SgT (w : World) : Prop := 0 < w.heap.size ∧ ∀ k, k < 21 → w.cell? ⟨0, k * 3, none⟩ = some (.int .i64 (sgv k).1) ∧ w.cell? ⟨0, k * 3 + 1, none⟩ = some (.bool (sgv k).2.1) ∧ w.cell? ⟨0, k * 3 + 2, none⟩ = some (.bool (sgv k).2.2)
theorem SgT.below {w w' : World} (h : SgT w) (hb : Below w.heap.size w w') : SgT w' := by
  have hs := hb.block 0 h.1
  have hc : ∀ (o : Nat) (v : Value), w.cell? ⟨0, o, none⟩ = some v → w'.cell? ⟨0, o, none⟩ = some v := fun o v hv => by
    unfold World.cell? at hv ⊢
    simp only at hv ⊢
    rw [hs]
    exact hv
  refine ⟨Nat.lt_of_lt_of_le h.1 hb.size, fun k hk => ?_⟩
  obtain ⟨h0, h1, h2⟩ := h.2 k hk
  exact ⟨hc _ _ h0, hc _ _ h1, hc _ _ h2⟩

set_option maxHeartbeats 1600000 in
theorem fill_zero (r i : Int) (cb fb : Value) (w : World) : Calls Tryd.prog 61 #[.int .i64 r, .int .i64 i, .int .i64 0, cb, fb] w fun e w' => e = .returned (.bool (decide (r = 0))) ∧ w = w' := by
  have H0 : Hid ((r == 0) = decide (r = 0)) := by
    unfold Hid
    by_cases h : r = 0 <;> simp [h]
  cases hr : decide (r = 0) with
  | true =>
    have h : r = 0 := by simpa using hr
    subst h
    clear hr H0
    go_enter Tryd.func61, Tryd.ntmps61
    go_wp2_with (fail)
    go_ret
    exact ⟨rfl, rfl⟩
  | false =>
    have h : (r == 0) = false := H0.out.trans hr
    clear hr H0
    go_enter Tryd.func61, Tryd.ntmps61
    go_wp2_with (fail)
    go_ret
    exact ⟨rfl, rfl⟩

set_option maxRecDepth 100000 in
set_option maxHeartbeats 1600000 in
theorem fill_miss (r : Int) (i stop : Nat) (n : Int) (cb fb : Value) (w : World) (hT : SgT w) (hi : i ≤ stop) (hst : stop < 21) (hn : (n == 0) = false) (hlong : ∀ j, i ≤ j → j < stop → r < tks j) (h1 : tks stop ≤ r) (h2 : tks stop * n < r) (hb1 : -100000 ≤ tks stop * n) (hb2 : tks stop * n ≤ 100000) :
    Calls Tryd.prog 61 #[.int .i64 r, .int .i64 i, .int .i64 n, cb, fb] w fun e w' => e = .returned (.bool false) ∧ Below w.heap.size w w' := by
  have HT := Lib.hid hT
  have HL := Lib.hid hlong
  have H1 := Lib.hid (And.intro h1 (And.intro h2 (And.intro hb1 hb2)))
  clear hT hlong h1 h2 hb1 hb2
  go_enter Tryd.func61, Tryd.ntmps61
  go_wp2_with (fail)
  go_loopw [9] (fun v wr => ∃ k : Nat, k ≤ stop ∧ i ≤ k ∧ v = .int .i64 k ∧ Below w.heap.size w wr) (fun v _ => stop - (intOf v).toNat)
  case atStart => exact ⟨i, hi, Nat.le_refl _, rfl, Below.refl _ _⟩
  case round =>
    obtain ⟨k, hk, hik, rfl, hB⟩ := hrel
    have HB := Lib.hid hB
    have g21 : (k : Int) < 21 := by omega
    obtain ⟨hg, hc⟩ := HT.out.below hB
    obtain ⟨c0, c1, c2⟩ := hc k (by omega)
    clear hc hB
    by_cases hlt : k < stop
    · have HLK := Lib.hid (HL.out k hik hlt)
      go_wp2_with (go_at_call 62; refine (ticks_any _ _ _ _).mono ?_; rintro e w1 ⟨rfl, hb1⟩; have hlk : r < tkV (sgv k).1 (sgv k).2.1 (sgv k).2.2 := HLK.out)
      go_roundw
      case rel => exact ⟨k + 1, by omega, by omega, by simp, bt HB.out hb1⟩
      case measure => simp [intOf]; omega
    · obtain rfl : k = stop := by omega
      go_wp2_with (go_at_call 62; refine (ticks_any _ _ _ _).mono ?_; rintro e w1 ⟨rfl, hb1⟩; have hl1 : tkV (sgv k).1 (sgv k).2.1 (sgv k).2.2 ≤ r := H1.out.1; have hl2 : tkV (sgv k).1 (sgv k).2.1 (sgv k).2.2 * n < r := H1.out.2.1; have hl3 : -100000 ≤ tkV (sgv k).1 (sgv k).2.1 (sgv k).2.2 * n := H1.out.2.2.1; have hl4 : tkV (sgv k).1 (sgv k).2.1 (sgv k).2.2 * n ≤ 100000 := H1.out.2.2.2)
      go_ret
      exact ⟨rfl, bt HB.out hb1⟩

end Go.Proofs.YtdhjigaocamglaaDoor

/- Piece: the closure of Signs: a call that takes a sign. -/
namespace Go.Proofs.YtdhjigaocamglaaDoor
open Go Go.RowKit

abbrev fillV (cb fb : Nat) : Value := .func (.func 61) #[] #[.pointer (some ⟨cb, 0, none⟩), .pointer (some ⟨fb, 0, none⟩)]
def sgL (k : Nat) : List Value := [.int .i64 (sgv k).1, .bool (sgv k).2.1, .bool (sgv k).2.2]
/-- What Signs holds: the list chosen so far, in memory of its own; the closure; the table. -/
structure FS (w0 : World) (cb fb : Nat) (n : Nat) (xs : List Value) (w : World) : Prop where
  row : ∃ v, Boxed w cb 69 v ∧ w.ownsRow w0.heap.size 48 3 v n xs
  fn : Boxed w fb 98 (fillV cb fb)
  low : Below w0.heap.size w0 w
  tab : SgT w
theorem FS.below {w0 : World} {cb fb n : Nat} {xs : List Value} {w w' : World} (h : FS w0 cb fb n xs w) (hb : Below w.heap.size w w') : FS w0 cb fb n xs w' := by
  obtain ⟨v, hv, hr⟩ := h.row
  exact ⟨⟨v, (hb.block cb hv.lt).trans hv, own_below hr hb⟩, (hb.block fb h.fn.lt).trans h.fn, h.low.trans (hb.mono h.low.size), h.tab.below hb⟩

theorem own_neF {W : World} {base : Nat} {e T : TypeId} {size : Nat} {v : Value} {k j : Nat} {xs : List Value} {cs : Array Value} {f : Nat × Nat} (h : W.ownsRow base e size v k xs) (hj : W.heap[j]? = some (.cells cs T f)) (hne : T ≠ e) : v.ownBlock ≠ some j := by
  rcases h.2 with ⟨rfl, _⟩ | ⟨g, cap, cur, rfl, _, h3, _⟩
  · intro e
    cases e
  · intro e
    obtain rfl : g = j := by simpa [Value.ownBlock] using e
    rw [hj] at h3
    injection h3 with h3
    injection h3 with _ h3
    exact hne h3
theorem set_otherF (W : World) (b o k : Nat) (u : Value) (hk : k ≠ b) : (W.setCell ⟨b, o, none⟩ u).heap[k]? = W.heap[k]? := by
  simp only [World.setCell, Array.getElem?_modify]
  rw [if_neg (fun e => hk e.symm)]
theorem cell_sameF {w w' : World} {b o : Nat} {v : Value} (h : w'.heap[b]? = w.heap[b]?) (hc : w.cell? ⟨b, o, none⟩ = some v) : w'.cell? ⟨b, o, none⟩ = some v := by
  unfold World.cell? at hc ⊢
  simp only at hc ⊢
  rw [h]
  exact hc
theorem SgT.heap {w w' : World} (h : SgT w) (hs : w'.heap[0]? = w.heap[0]?) (hl : 0 < w'.heap.size) : SgT w' :=
  ⟨hl, fun k hk => ⟨cell_sameF hs (h.2 k hk).1, cell_sameF hs (h.2 k hk).2.1, cell_sameF hs (h.2 k hk).2.2⟩⟩
theorem frozen_sameF {w w' : World} {b o : Nat} (h : w'.heap[b]? = w.heap[b]?) : w'.frozen? ⟨b, o, none⟩ = w.frozen? ⟨b, o, none⟩ := by
  unfold World.frozen?
  simp only
  rw [h]
set_option maxRecDepth 100000 in
set_option maxHeartbeats 2000000 in
theorem fill_hit (w0 : World) (cb fb : Nat) (nn : Nat) (xs ys : List Value) (mm : Nat) (hw0 : 0 < w0.heap.size) (hcb : w0.heap.size ≤ cb) (hnn : nn ≤ 100) (r : Int) (i stop : Nat) (n : Int) (w : World) (hS : FS w0 cb fb nn xs w) (hi : i ≤ stop) (hst : stop < 21) (hn : (n == 0) = false) (hn1 : 1 ≤ n) (hn2 : n ≤ 100) (hr1 : -100000 ≤ r) (hr2 : r ≤ 100000)
    (hlong : ∀ j, i ≤ j → j < stop → r < tks j) (h1 : tks stop ≤ r) (h2 : r ≤ tks stop * n) (hb2 : tks stop * n ≤ 100000)
    (HF : Hid (∀ w', FS w0 cb fb (nn + 1) (xs ++ sgL stop) w' → Calls Tryd.prog 61 #[.int .i64 (r - tks stop), .int .i64 stop, .int .i64 (n - 1), .pointer (some ⟨cb, 0, none⟩), .pointer (some ⟨fb, 0, none⟩)] w' fun e w'' => e = .returned (.bool true) ∧ FS w0 cb fb mm ys w'')) :
    Calls Tryd.prog 61 #[.int .i64 r, .int .i64 i, .int .i64 n, .pointer (some ⟨cb, 0, none⟩), .pointer (some ⟨fb, 0, none⟩)] w fun e w' => e = .returned (.bool true) ∧ FS w0 cb fb mm ys w' := by
  have HS := Lib.hid hS
  have HL := Lib.hid hlong
  have H1 := Lib.hid (And.intro h1 (And.intro h2 hb2))
  have HB0 := Lib.hid (tkV_bd0 stop)
  obtain ⟨i0, ii, hi0, hi1, hi2⟩ := info_parts (show (Tryd.prog.info? 48).map (fun i => (i.zero, i.size, i.bytes)) = some (some (.agg #[.int .i64 0, .bool false, .bool false]), 3, 16) by kernel_rfl)
  clear hS hlong h1 h2 hb2
  go_enter Tryd.func61, Tryd.ntmps61
  go_wp2_with (fail)
  go_loopw [9] (fun v wr => ∃ k : Nat, k ≤ stop ∧ i ≤ k ∧ v = .int .i64 k ∧ FS w0 cb fb nn xs wr) (fun v _ => stop - (intOf v).toNat)
  case atStart => exact ⟨i, hi, Nat.le_refl _, rfl, HS.out⟩
  case round =>
    obtain ⟨k, hk, hik, rfl, hF⟩ := hrel
    have HFS := Lib.hid hF
    have g21 : (k : Int) < 21 := by omega
    obtain ⟨hg, hc⟩ := hF.tab
    obtain ⟨c0, c1, c2⟩ := hc k (by omega)
    clear hc hF
    by_cases hlt : k < stop
    · have HLK := Lib.hid (HL.out k hik hlt)
      go_wp2_with (go_at_call 62; refine (ticks_any _ _ _ _).mono ?_; rintro e w1 ⟨rfl, hb1⟩; have hlk : r < tkV (sgv k).1 (sgv k).2.1 (sgv k).2.2 := HLK.out)
      go_roundw
      case rel => exact ⟨k + 1, by omega, by omega, by simp, HFS.out.below hb1⟩
      case measure => simp [intOf]; omega
    · obtain rfl : k = stop := by omega
      go_wp2_with (go_at_call 62; refine (ticks_any _ _ _ _).mono ?_; rintro e w1 ⟨rfl, hb1⟩; have hl1 : tkV (sgv k).1 (sgv k).2.1 (sgv k).2.2 ≤ r := H1.out.1; have hl2 : r ≤ tkV (sgv k).1 (sgv k).2.1 (sgv k).2.2 * n := H1.out.2.1; have hl4 : tkV (sgv k).1 (sgv k).2.1 (sgv k).2.2 * n ≤ 100000 := H1.out.2.2; have hl5 : 0 ≤ tkV (sgv k).1 (sgv k).2.1 (sgv k).2.2 := HB0.out.1)
      obtain ⟨v, hv, hrow⟩ := (HFS.out.below hb1).row
      have hcv := hv.cell
      have hfv := hv.frozen
      have hltv := hv.lt
      obtain ⟨hg1, hc1⟩ := (HFS.out.below hb1).tab
      obtain ⟨d0, d1, d2⟩ := hc1 k (by omega)
      clear hc1 c0 c1 c2 hg
      have hne : v.ownBlock ≠ some cb := own_neF hrow hv (by decide)
      have hneG : v.ownBlock ≠ some 0 := fun e => by have := (hrow.lt _ e).1; omega
      have hml : nn + 1 ≤ maxLen := Nat.le_trans (show nn + 1 ≤ 101 by omega) (by decide)
      have hlw : w0.heap.size ≤ w1.heap.size := by omega
      have hcbG : cb ≠ 0 := by omega
      have l0 : w1.drew.cell? ⟨cb, 0, none⟩ = some v := hcv
      have l1 : (w1.alloc (.cells #[.int .i64 (sgv k).1, .bool (sgv k).2.1, .bool (sgv k).2.2] 48)).drew.cell? ⟨cb, 0, none⟩ = some v := cell_sameF (w := w1) ((ba w1 (.cells #[.int .i64 (sgv k).1, .bool (sgv k).2.1, .bool (sgv k).2.2] 48)).block cb hltv) hcv
      have m0 : (w1.alloc (.cells #[.int .i64 (sgv k).1, .bool (sgv k).2.1, .bool (sgv k).2.2] 48)).drew.cell? ⟨0, k * 3, none⟩ = some (.int .i64 (sgv k).1) := cell_sameF (w := w1) ((ba w1 (.cells #[.int .i64 (sgv k).1, .bool (sgv k).2.1, .bool (sgv k).2.2] 48)).block 0 hg1) d0
      have m1 : (w1.alloc (.cells #[.int .i64 (sgv k).1, .bool (sgv k).2.1, .bool (sgv k).2.2] 48)).drew.cell? ⟨0, k * 3 + 1, none⟩ = some (.bool (sgv k).2.1) := cell_sameF (w := w1) ((ba w1 (.cells #[.int .i64 (sgv k).1, .bool (sgv k).2.1, .bool (sgv k).2.2] 48)).block 0 hg1) d1
      have m2 : (w1.alloc (.cells #[.int .i64 (sgv k).1, .bool (sgv k).2.1, .bool (sgv k).2.2] 48)).drew.cell? ⟨0, k * 3 + 2, none⟩ = some (.bool (sgv k).2.2) := cell_sameF (w := w1) ((ba w1 (.cells #[.int .i64 (sgv k).1, .bool (sgv k).2.1, .bool (sgv k).2.2] 48)).block 0 hg1) d2
      go_region_law
        ((refine step_append_lies _ (by rfl) _ _ _ (by rfl) w0.heap.size 48 i0 _ 3 16 Tryd.underlying69 ii hi0 hi1 hi2 rfl (by decide) v nn xs (by rfl) (hrow.alloc (.cells #[.int .i64 (sgv k).1, .bool (sgv k).2.1, .bool (sgv k).2.2] 48)) ⟨w1.heap.size, 0, none⟩ 1 1 (sgL k) (by rfl) rfl (World.news_of_block (cs := #[.int .i64 (sgv k).1, .bool (sgv k).2.1, .bool (sgv k).2.2]) (t := 48) (fr := (0, 0)) (heap_alloc_new w1 (.cells #[.int .i64 (sgv k).1, .bool (sgv k).2.1, .bool (sgv k).2.2] 48))) (by intro u hu; simp [sgL] at hu; rcases hu with rfl | rfl | rfl <;> rfl) (by decide) hml (by omega) (by first | (simp; done) | (simp; omega)) (w1.heap.size + 1) (by simp) ?_; intro g cap w2 hown2 hgrow hat hlt2; have u0 := cell_sameF (w := w1) ((hgrow.block 0 (by first | (simp; done) | (simp; omega)) (fun e => hneG e.symm)).trans ((ba w1 (.cells #[.int .i64 (sgv k).1, .bool (sgv k).2.1, .bool (sgv k).2.2] 48)).block 0 hg1)) d0; have u1 := cell_sameF (w := w1) ((hgrow.block 0 (by first | (simp; done) | (simp; omega)) (fun e => hneG e.symm)).trans ((ba w1 (.cells #[.int .i64 (sgv k).1, .bool (sgv k).2.1, .bool (sgv k).2.2] 48)).block 0 hg1)) d1; have u2 := cell_sameF (w := w1) ((hgrow.block 0 (by first | (simp; done) | (simp; omega)) (fun e => hneG e.symm)).trans ((ba w1 (.cells #[.int .i64 (sgv k).1, .bool (sgv k).2.1, .bool (sgv k).2.2] 48)).block 0 hg1)) d2; have uc := cell_sameF (w := w1) ((hgrow.block cb (by first | (simp; done) | (simp; omega)) (fun e => hne e.symm)).trans ((ba w1 (.cells #[.int .i64 (sgv k).1, .bool (sgv k).2.1, .bool (sgv k).2.2] 48)).block cb hltv)) hcv; have uf := (frozen_sameF (w := w1) (o := 0) ((hgrow.block cb (by first | (simp; done) | (simp; omega)) (fun e => hne e.symm)).trans ((ba w1 (.cells #[.int .i64 (sgv k).1, .bool (sgv k).2.1, .bool (sgv k).2.2] 48)).block cb hltv))).trans hfv))
      all_goals (
        have hgr : (w1.drew.alloc (.cells #[.int .i64 (sgv k).1, .bool (sgv k).2.1, .bool (sgv k).2.2] 48)).grownBy w2 v.ownBlock := hgrow
        have hv' : Boxed w1.drew cb 69 v := hv
        have hr' : w1.drew.ownsRow w0.heap.size 48 3 v nn xs := hrow
        obtain ⟨hv1, hv2, hr2, hk2, hb2⟩ := hv'.appended (by decide) hr' (show w0.heap.size ≤ w1.drew.heap.size from hlw) hcb hown2 hgr
        have hfn1 := (HFS.out.below hb1).fn
        have hfc : fb ≠ cb := fun e => by
          have h1 : w1.heap[fb]? = _ := hfn1
          have h2 : w1.heap[cb]? = _ := hv
          rw [e, h2] at h1
          injection h1 with h1
          injection h1 with _ h1
          exact absurd h1 (by decide)
        have hfo : v.ownBlock ≠ some fb := own_neF hrow hfn1 (by decide)
        have hff : (w2.setCell ⟨cb, 0, none⟩ (.slice (some ⟨g, 0, none⟩) (nn + 1) cap)).heap[fb]? = w1.heap[fb]? := (set_otherF _ _ _ _ _ hfc).trans ((hgrow.block fb (by have := hfn1.lt; first | (simp; done) | (simp; omega)) (fun e => hfo e.symm)).trans ((ba w1 (.cells #[.int .i64 (sgv k).1, .bool (sgv k).2.1, .bool (sgv k).2.2] 48)).block fb hfn1.lt))
        have hgg : (w2.setCell ⟨cb, 0, none⟩ (.slice (some ⟨g, 0, none⟩) (nn + 1) cap)).heap[0]? = w1.heap[0]? := (set_otherF _ _ _ _ _ (fun e => hcbG e.symm)).trans ((hgrow.block 0 (by first | (simp; done) | (simp; omega)) (fun e => hneG e.symm)).trans ((ba w1 (.cells #[.int .i64 (sgv k).1, .bool (sgv k).2.1, .bool (sgv k).2.2] 48)).block 0 hg1))
        have hfn3 : Boxed (w2.setCell ⟨cb, 0, none⟩ (.slice (some ⟨g, 0, none⟩) (nn + 1) cap)) fb 98 (fillV cb fb) := hff.trans hfn1
        have hFS3 : FS w0 cb fb (nn + 1) (xs ++ sgL k) (w2.setCell ⟨cb, 0, none⟩ (.slice (some ⟨g, 0, none⟩) (nn + 1) cap)) := ⟨⟨_, hv2, hr2⟩, hfn3, (HFS.out.below hb1).low.drew.trans hb2, (HFS.out.below hb1).tab.heap hgg (Nat.lt_of_lt_of_le hg1 hk2.size)⟩
        have HF3 := Lib.hid hFS3
        have hfc3 := hfn3.cell
        clear hgr hv' hr' hv1 hv2 hr2 hk2 hb2 hff hgg hfn3 hFS3 hown2 hgrow hat u0 u1 u2 uc uf m0 m1 m2 l0 l1
        go_wp2_with (go_at_call 61; refine (HF.out _ HF3.out).mono ?_; rintro e w4 ⟨rfl, hF4⟩)
        go_ret
        exact ⟨rfl, hF4⟩)

end Go.Proofs.YtdhjigaocamglaaDoor

/- Piece: Signs(120). -/
namespace Go.Proofs.YtdhjigaocamglaaDoor
open Go Go.RowKit

theorem tks_long7 : ∀ j, 0 ≤ j → j < 7 → (120 : Int) < tks j := by
  intro j _ h
  have : j = 0 ∨ j = 1 ∨ j = 2 ∨ j = 3 ∨ j = 4 ∨ j = 5 ∨ j = 6 := by omega
  rcases this with rfl | rfl | rfl | rfl | rfl | rfl | rfl <;> decide
theorem tks_long13 : ∀ j, 7 ≤ j → j < 13 → (24 : Int) < tks j := by
  intro j h1 h
  have : j = 7 ∨ j = 8 ∨ j = 9 ∨ j = 10 ∨ j = 11 ∨ j = 12 := by omega
  rcases this with rfl | rfl | rfl | rfl | rfl | rfl <;> decide

set_option maxRecDepth 100000 in
set_option maxHeartbeats 1600000 in
theorem signs120 (w : World) (hT : SgT w) : Calls Tryd.prog 33 #[.int .i64 120] w fun e w' => ∃ v, e = .returned (.tuple #[v, .int .i64 0]) ∧ w'.ownsRow w.heap.size 48 3 v 2 (sgL 7 ++ sgL 13) ∧ Below w.heap.size w w' := by
  have hmf : ∀ (fn : Fn) (first cap : Array Value) (w : World), (Instr.makeFunc fn first cap).run Tryd.prog w = .ok (.func fn first cap) w := fun _ _ _ _ => rfl
  have bF := Boxed.new (w.alloc (.cells #[.slice none 0 0] 69)) 98 (fillV w.heap.size (w.heap.size + 1))
  rw [World.size_alloc] at bF
  have bC := (Boxed.new w 69 (.slice none 0 0)).alloc (.cells #[fillV w.heap.size (w.heap.size + 1)] 98)
  have lo : Below w.heap.size w ((w.alloc (.cells #[.slice none 0 0] 69)).alloc (.cells #[fillV w.heap.size (w.heap.size + 1)] 98)) := (ba w _).alloc (by simp) _
  have hFS : FS w w.heap.size (w.heap.size + 1) 0 [] ((w.alloc (.cells #[.slice none 0 0] 69)).alloc (.cells #[fillV w.heap.size (w.heap.size + 1)] 98)) := ⟨⟨_, bC, World.ownsRow_nil _ _ _ _⟩, bF, lo, hT.below lo⟩
  have hg : 0 < w.heap.size := hT.1
  have HT := Lib.hid hT
  have HFS := Lib.hid hFS
  clear hT bF bC lo hFS
  go_enter Tryd.func33, Tryd.ntmps33
  go_wp2_with (fail)
  obtain ⟨W3, hW3⟩ : ∃ W3, (w.alloc (.cells #[.slice none 0 0] 69)).alloc (.cells #[fillV w.heap.size (w.heap.size + 1)] 98) = W3 := ⟨_, rfl⟩
  rw [hW3] at HFS ⊢
  clear hW3
  have hc0 := HFS.out.fn.cell
  refine wp_loop_rounds 3 ?_
  rw [rounds_succ]
  go_wp2_with (go_at_call 61; refine (fill_zero 120 0 _ _ _).mono ?_; rintro e w1 ⟨rfl, rfl⟩)
  rw [rounds_succ]
  go_wp2_with (go_at_call 61; refine (fill_miss 120 0 7 1 _ _ _ HFS.out.tab (by omega) (by omega) rfl tks_long7 (by decide) (by decide) (by decide) (by decide)).mono ?_; rintro e w2 ⟨rfl, hb2⟩)
  have HF2 := Lib.hid (HFS.out.below hb2)
  have hc2 := HF2.out.fn.cell
  have HH : Hid (∀ w', FS w w.heap.size (w.heap.size + 1) 1 ([] ++ sgL 7) w' → Calls Tryd.prog 61 #[.int .i64 24, .int .i64 7, .int .i64 1, .pointer (some ⟨w.heap.size, 0, none⟩), .pointer (some ⟨w.heap.size + 1, 0, none⟩)] w' fun e w'' => e = .returned (.bool true) ∧ FS w w.heap.size (w.heap.size + 1) 2 (([] ++ sgL 7) ++ sgL 13) w'') := fun w' h =>
    fill_hit w w.heap.size (w.heap.size + 1) 1 ([] ++ sgL 7) (([] ++ sgL 7) ++ sgL 13) 2 hg (Nat.le_refl _) (by omega) 24 7 13 1 w' h (by omega) (by omega) rfl (by omega) (by omega) (by omega) (by omega) tks_long13 (by decide) (by decide) (by decide)
      (fun w'' h2 => (fill_zero 0 13 _ _ w'').mono fun e w3 ⟨he, hw⟩ => ⟨he, hw ▸ h2⟩)
  rw [rounds_succ]
  go_wp2_with (go_at_call 61; refine (fill_hit w w.heap.size (w.heap.size + 1) 0 [] (([] ++ sgL 7) ++ sgL 13) 2 hg (Nat.le_refl _) (by omega) 120 0 7 2 _ HF2.out (by omega) (by omega) rfl (by omega) (by omega) (by omega) (by omega) tks_long7 (by decide) (by decide) (by decide) HH).mono ?_; rintro e w3 ⟨rfl, hF3⟩; obtain ⟨v, hv, hr⟩ := hF3.row; have hcv := hv.cell)
  go_ret2
  exact ⟨v, rfl, hr, hF3.low⟩

end Go.Proofs.YtdhjigaocamglaaDoor

/- Piece: Check of the small piece that law 02 looks at. -/
namespace Go.Proofs.YtdhjigaocamglaaDoor
open Go Go.RowKit

abbrev e0W (sk : Nat) : EvT := ⟨false, 3, false, false, false, some ⟨sk, 0, none⟩, 1, 1⟩
abbrev e1W : EvT := ⟨false, 4, false, false, true, none, 0, 0⟩
abbrev evW (x : EvT) : Value := .agg #[.bool x.bar, .int .i64 x.v, .bool x.d, .bool x.t, .bool x.tie, .slice x.sa x.sn x.sc]

set_option maxHeartbeats 1600000 in
theorem isRest_e1 (w : World) : Calls Tryd.prog 73 #[evW e1W] w fun e w' => e = .returned (.bool false) ∧ Below w.heap.size w w' := by
  go_enter Tryd.func73, Tryd.ntmps73
  go_wp2_with (fail)
  go_ret
  exact ⟨rfl, ba _ _⟩
set_option maxHeartbeats 1600000 in
theorem indexFunc_nil (fv : Value) (w : World) : Calls Tryd.prog 87 #[.slice none 0 0, fv] w fun e w' => e = .returned (.int .i64 (-1)) ∧ Below w.heap.size w w' := by
  go_enter Tryd.func87, Tryd.ntmps87
  go_wp2_with (fail)
  refine wp_loop_rounds 1 ?_
  rw [rounds_succ]
  go_wp2_with (fail)
  go_ret
  exact ⟨rfl, Below.refl _ _⟩
set_option maxHeartbeats 1600000 in
theorem containsFunc_nil (fv : Value) (w : World) : Calls Tryd.prog 75 #[.slice none 0 0, fv] w fun e w' => e = .returned (.bool false) ∧ Below w.heap.size w w' := by
  go_enter Tryd.func75, Tryd.ntmps75
  go_wp2_with (go_at_call 87; refine (indexFunc_nil _ _).mono ?_; rintro e w1 ⟨rfl, hb1⟩)
  go_ret
  exact ⟨rfl, hb1⟩
set_option maxHeartbeats 1600000 in
theorem hasStop_e1 (c : Int) (w : World) : Calls Tryd.prog 93 #[evW e1W, .int .i64 c] w fun e w' => e = .returned (.bool false) ∧ Below w.heap.size w w' := by
  have hmf : ∀ (fn : Fn) (first cap : Array Value) (w : World), (Instr.makeFunc fn first cap).run Tryd.prog w = .ok (.func fn first cap) w := fun _ _ _ _ => rfl
  go_enter Tryd.func93, Tryd.ntmps93
  go_wp2_with (go_at_call 75; refine (containsFunc_nil _ _).mono ?_; rintro e w1 ⟨rfl, hb1⟩)
  go_ret
  exact ⟨rfl, by first | exact bx (bx hb1) | exact bx hb1⟩

end Go.Proofs.YtdhjigaocamglaaDoor

/- Piece: Check of the small piece that law 02 looks at, second part. -/
namespace Go.Proofs.YtdhjigaocamglaaDoor
open Go Go.RowKit

abbrev pW (bc bs eb : Nat) : Value := .agg #[.slice (some ⟨bc, 0, none⟩) 1 1, .slice (some ⟨bs, 0, none⟩) 2 2, .slice (some ⟨eb, 0, none⟩) 2 2]
abbrev stW : Value := .agg #[.int .i64 1, .int .i64 2, .int .i64 0, .int .i64 0, .int .i64 1]
/-- The small piece lies in memory. -/
structure PW (w : World) (bc bs eb sk : Nat) : Prop where
  crs : Sl w w.heap.size 3 (some ⟨bc, 0, none⟩) 1 1 (crC [⟨60, 2, false⟩])
  stp : Sl w w.heap.size 1 (some ⟨bs, 0, none⟩) 2 2 (intC [1, 2])
  fr1 : w.cell? ⟨bc, 1, none⟩ = some (.int .i64 2)
  ev0 : EvAt w eb 0 0 (e0W sk)
  ev1 : EvAt w eb 0 1 e1W
  st : w.cell? ⟨sk, 0, none⟩ = some (.int .i64 1) ∧ w.cell? ⟨sk, 1, none⟩ = some (.int .i64 2) ∧ w.cell? ⟨sk, 2, none⟩ = some (.int .i64 0) ∧ w.cell? ⟨sk, 3, none⟩ = some (.int .i64 0) ∧ w.cell? ⟨sk, 4, none⟩ = some (.int .i64 1)
  hbc : bc < w.heap.size
  heb : eb < w.heap.size
  hsk : sk < w.heap.size
theorem PW.below {w w' : World} {bc bs eb sk : Nat} (h : PW w bc bs eb sk) (hb : Below w.heap.size w w') : PW w' bc bs eb sk := by
  have h1 := hb.block bc h.hbc
  have h2 := hb.block eb h.heb
  have h3 := hb.block sk h.hsk
  obtain ⟨s0, s1, s2, s3, s4⟩ := h.st
  exact ⟨h.crs.below hb, h.stp.below hb, cell_same h1 h.fr1, h.ev0.same h2, h.ev1.same h2, ⟨cell_same h3 s0, cell_same h3 s1, cell_same h3 s2, cell_same h3 s3, cell_same h3 s4⟩,
    Nat.lt_of_lt_of_le h.hbc hb.size, Nat.lt_of_lt_of_le h.heb hb.size, Nat.lt_of_lt_of_le h.hsk hb.size⟩
/-- The events' cells, at literals. -/
theorem PW.cells {w : World} {bc bs eb sk : Nat} (h : PW w bc bs eb sk) :
    (w.cell? ⟨eb, 0, none⟩ = some (.bool false) ∧ w.cell? ⟨eb, 1, none⟩ = some (.int .i64 3) ∧ w.cell? ⟨eb, 2, none⟩ = some (.bool false) ∧ w.cell? ⟨eb, 3, none⟩ = some (.bool false) ∧ w.cell? ⟨eb, 4, none⟩ = some (.bool false) ∧ w.cell? ⟨eb, 5, none⟩ = some (.slice (some ⟨sk, 0, none⟩) 1 1)) ∧
    (w.cell? ⟨eb, 6, none⟩ = some (.bool false) ∧ w.cell? ⟨eb, 7, none⟩ = some (.int .i64 4) ∧ w.cell? ⟨eb, 8, none⟩ = some (.bool false) ∧ w.cell? ⟨eb, 9, none⟩ = some (.bool false) ∧ w.cell? ⟨eb, 10, none⟩ = some (.bool true) ∧ w.cell? ⟨eb, 11, none⟩ = some (.slice none 0 0)) := by
  have a := h.ev0
  have b := h.ev1
  unfold EvAt at a b
  simp only [Nat.zero_mul, Nat.zero_add, Nat.one_mul] at a b
  exact ⟨a, b⟩
theorem boxP {w w1 : World} {bc bs eb : Nat} {T : TypeId} (hb : Below (w.alloc (.cells #[.slice (some ⟨bc, 0, none⟩) 1 1, .slice (some ⟨bs, 0, none⟩) 2 2, .slice (some ⟨eb, 0, none⟩) 2 2] T)).heap.size (w.alloc (.cells #[.slice (some ⟨bc, 0, none⟩) 1 1, .slice (some ⟨bs, 0, none⟩) 2 2, .slice (some ⟨eb, 0, none⟩) 2 2] T)) w1) :
    w1.cell? ⟨w.heap.size, 0, none⟩ = some (.slice (some ⟨bc, 0, none⟩) 1 1) ∧ w1.cell? ⟨w.heap.size, 1, none⟩ = some (.slice (some ⟨bs, 0, none⟩) 2 2) ∧ w1.cell? ⟨w.heap.size, 2, none⟩ = some (.slice (some ⟨eb, 0, none⟩) 2 2) :=
  ⟨by simpa using (keepb hb 0).1, by simpa using (keepb hb 1).1, by simpa using (keepb hb 2).1⟩

set_option maxRecDepth 100000 in
set_option maxHeartbeats 1600000 in
theorem longest_W (bc bs eb sk : Nat) (w : World) (hP : PW w bc bs eb sk) : Calls Tryd.prog 92 #[pW bc bs eb, .int .i64 0, .int .i64 1] w fun e w' => e = .returned (.int .i64 1) ∧ Below w.heap.size w w' := by
  have HP := Lib.hid hP
  have hP1 : Hid (∀ o, PW (w.alloc o) bc bs eb sk) := fun o => hP.below (ba w o)
  clear hP
  obtain ⟨_, v0, v1, v2, v3, v4, v5⟩ := (hP1.out (.cells #[.slice (some ⟨bc, 0, none⟩) 1 1, .slice (some ⟨bs, 0, none⟩) 2 2, .slice (some ⟨eb, 0, none⟩) 2 2] 28)).cells
  go_enter Tryd.func92, Tryd.ntmps92
  go_wp2_with (fail)
  refine wp_loop_rounds 2 ?_
  rw [rounds_succ]
  go_wp2_with (first
    | (go_at_call 73; refine (isRest_e1 _).mono ?_; rintro e w1 ⟨rfl, hb1⟩; obtain ⟨x0, x1, x2, x3, x4, x5⟩ := evCells (x := e1W) hb1; simp only [World.size_alloc] at x0 x1 x2 x3 x4 x5)
    | (go_at_call 93; refine (hasStop_e1 1 _).mono ?_; rintro e w2 ⟨rfl, hb2⟩))
  rw [rounds_succ]
  go_wp2_with (fail)
  go_ret
  exact ⟨rfl, bx (bx (bt hb1 hb2))⟩

end Go.Proofs.YtdhjigaocamglaaDoor

/- Piece: Check of the small piece that law 02 looks at, third part: its stop. -/
namespace Go.Proofs.YtdhjigaocamglaaDoor
open Go Go.RowKit

abbrev pO (bc bs eb : Nat) : Obj := .cells #[.slice (some ⟨bc, 0, none⟩) 1 1, .slice (some ⟨bs, 0, none⟩) 2 2, .slice (some ⟨eb, 0, none⟩) 2 2] 28
abbrev stO : Obj := .cells #[.int .i64 1, .int .i64 2, .int .i64 0, .int .i64 0, .int .i64 1] 62
theorem argsS {w w1 : World} {bc bs eb : Nat} (h : Below ((w.alloc (pO bc bs eb)).alloc stO).heap.size ((w.alloc (pO bc bs eb)).alloc stO) w1) :
    (w1.cell? ⟨w.heap.size, 0, none⟩ = some (.slice (some ⟨bc, 0, none⟩) 1 1) ∧ w1.cell? ⟨w.heap.size, 1, none⟩ = some (.slice (some ⟨bs, 0, none⟩) 2 2) ∧ w1.cell? ⟨w.heap.size, 2, none⟩ = some (.slice (some ⟨eb, 0, none⟩) 2 2)) ∧
    (w1.cell? ⟨w.heap.size + 1, 0, none⟩ = some (.int .i64 1) ∧ w1.cell? ⟨w.heap.size + 1, 1, none⟩ = some (.int .i64 2) ∧ w1.cell? ⟨w.heap.size + 1, 2, none⟩ = some (.int .i64 0) ∧ w1.cell? ⟨w.heap.size + 1, 3, none⟩ = some (.int .i64 0) ∧ w1.cell? ⟨w.heap.size + 1, 4, none⟩ = some (.int .i64 1)) ∧
    Below ((w.alloc (pO bc bs eb)).alloc stO).heap.size ((w.alloc (pO bc bs eb)).alloc stO) w1 :=
  ⟨boxP (bt (ba _ _) h), ⟨by simpa using (keepb h 0).1, by simpa using (keepb h 1).1, by simpa using (keepb h 2).1, by simpa using (keepb h 3).1, by simpa using (keepb h 4).1⟩, h⟩

set_option maxRecDepth 100000 in
set_option maxHeartbeats 1600000 in
theorem checkStop_W (bc bs eb sk : Nat) (w : World) (hP : PW w bc bs eb sk) : Calls Tryd.prog 85 #[pW bc bs eb, .int .i64 0, .int .i64 0, stW] w fun e w' => e = .returned (.int .i64 0) ∧ Below w.heap.size w w' := by
  have HP : Hid (∀ w1, Below ((w.alloc (pO bc bs eb)).alloc stO).heap.size ((w.alloc (pO bc bs eb)).alloc stO) w1 → PW w1 bc bs eb sk) := fun w1 h => (hP.below (bt (ba w _) (ba _ _))).below h
  have c1 := ((hP.below (bt (ba w (pO bc bs eb)) (ba _ stO)))).fr1
  clear hP
  go_enter Tryd.func85, Tryd.ntmps85
  go_wp2_with (fail)
  go_quiet (fail)
  have hq := bd (Below.refl ((w.alloc (pO bc bs eb)).alloc stO).heap.size ((w.alloc (pO bc bs eb)).alloc stO)) nq
  generalize ((w.alloc (pO bc bs eb)).alloc stO).drewN nq = wc at *
  clear c1
  obtain ⟨⟨p0, p1, p2⟩, ⟨q0, q1, q2, q3, q4⟩, _⟩ := argsS hq
  go_wp2_with (fail)
  go_region_held3 (fun w' => (w'.cell? ⟨w.heap.size, 0, none⟩ = some (.slice (some ⟨bc, 0, none⟩) 1 1) ∧ w'.cell? ⟨w.heap.size, 1, none⟩ = some (.slice (some ⟨bs, 0, none⟩) 2 2) ∧ w'.cell? ⟨w.heap.size, 2, none⟩ = some (.slice (some ⟨eb, 0, none⟩) 2 2)) ∧ (w'.cell? ⟨w.heap.size + 1, 0, none⟩ = some (.int .i64 1) ∧ w'.cell? ⟨w.heap.size + 1, 1, none⟩ = some (.int .i64 2) ∧ w'.cell? ⟨w.heap.size + 1, 2, none⟩ = some (.int .i64 0) ∧ w'.cell? ⟨w.heap.size + 1, 3, none⟩ = some (.int .i64 0) ∧ w'.cell? ⟨w.heap.size + 1, 4, none⟩ = some (.int .i64 1)) ∧ Below ((w.alloc (pO bc bs eb)).alloc stO).heap.size ((w.alloc (pO bc bs eb)).alloc stO) w')
    (first | exact argsS (bt hq.drew hb3) | exact argsS hq.drew)
    (first | (go_at_call 92; refine (longest_W bc bs eb sk _ (HP.out _ hq.drew)).mono ?_; rintro e w3 ⟨rfl, hb3⟩))
  have T3 := bt hq.drew hb3
  go_wp2_with (fail)
  go_ret
  exact ⟨rfl, bx (bx T3)⟩

end Go.Proofs.YtdhjigaocamglaaDoor

/- Piece: Check of the small piece that law 02 looks at, last part: its events. -/
namespace Go.Proofs.YtdhjigaocamglaaDoor
open Go Go.RowKit

set_option maxRecDepth 100000 in
set_option maxHeartbeats 1600000 in
theorem checkEvent_0 (bc bs eb sk : Nat) (w : World) (hP : PW w bc bs eb sk) : Calls Tryd.prog 64 #[pW bc bs eb, .int .i64 0] w fun e w' => e = .returned (.int .i64 0) ∧ Below w.heap.size w w' := by
  have HP : Hid (∀ w1, Below (w.alloc (pO bc bs eb)).heap.size (w.alloc (pO bc bs eb)) w1 → PW w1 bc bs eb sk) := fun w1 h => (hP.below (ba w _)).below h
  obtain ⟨⟨v0, v1, v2, v3, v4, v5⟩, _⟩ := (hP.below (ba w (pO bc bs eb))).cells
  clear hP
  go_enter Tryd.func64, Tryd.ntmps64
  go_wp2_with (first
    | (go_at_call 82; refine (validSign_any 3 false false _).mono ?_; rintro e w1 ⟨rfl, hb1⟩; rw [show (!wrB 3 false false || okB 3 false false) = true from rfl]; obtain ⟨x0, x1, x2, x3, x4, x5⟩ := evCells (x := e0W sk) hb1; simp only [World.size_alloc] at x0 x1 x2 x3 x4 x5)
    | (go_at_call 69; refine (written_any 3 false false _).mono ?_; rintro e w2 ⟨rfl, hb2⟩; rw [show wrB 3 false false = true from rfl]; obtain ⟨y0, y1, y2, y3, y4, y5⟩ := evCells (x := e0W sk) (bt hb1 hb2); simp only [World.size_alloc] at y0 y1 y2 y3 y4 y5; clear x0 x1 x2 x3 x4 x5; have T2 := bx (bt hb1 hb2); obtain ⟨s0, s1, s2, s3, s4⟩ := (HP.out _ T2).st; obtain ⟨p0, p1, p2⟩ := boxP (bt T2 (ba w2 stO))))
  refine wp_loop_rounds 2 ?_
  rw [rounds_succ]
  go_wp2_with (go_at_call 85; refine (checkStop_W bc bs eb sk _ (HP.out _ (bt T2 (ba w2 _)))).mono ?_; rintro e w3 ⟨rfl, hb3⟩; have z0 := (keepb hb3 0).1; simp at z0)
  rw [rounds_succ]
  go_wp2_with (fail)
  go_ret
  exact ⟨rfl, bx (bt T2 (bt (ba w2 _) hb3))⟩

set_option maxRecDepth 100000 in
set_option maxHeartbeats 1600000 in
theorem checkEvent_1 (bc bs eb sk : Nat) (w : World) (hP : PW w bc bs eb sk) : Calls Tryd.prog 64 #[pW bc bs eb, .int .i64 1] w fun e w' => e = .returned (.int .i64 0) ∧ Below w.heap.size w w' := by
  obtain ⟨_, v0, v1, v2, v3, v4, v5⟩ := (hP.below (ba w (pO bc bs eb))).cells
  clear hP
  go_enter Tryd.func64, Tryd.ntmps64
  go_wp2_with (go_at_call 82; refine (validSign_any 4 false false _).mono ?_; rintro e w1 ⟨rfl, hb1⟩; rw [show (!wrB 4 false false || okB 4 false false) = true from rfl]; obtain ⟨x0, x1, x2, x3, x4, x5⟩ := evCells (x := e1W) hb1; simp only [World.size_alloc] at x0 x1 x2 x3 x4 x5)
  refine wp_loop_rounds 1 ?_
  rw [rounds_succ]
  go_wp2_with (fail)
  go_ret
  exact ⟨rfl, bx (bx hb1)⟩

set_option maxRecDepth 100000 in
set_option maxHeartbeats 1600000 in
theorem check_W (bc bs eb sk : Nat) (w : World) (hP : PW w bc bs eb sk) : Calls Tryd.prog 35 #[pW bc bs eb] w fun e w' => e = .returned (.int .i64 0) ∧ Below w.heap.size w w' := by
  have HP : Hid (∀ w1, Below (w.alloc (pO bc bs eb)).heap.size (w.alloc (pO bc bs eb)) w1 → PW w1 bc bs eb sk) := fun w1 h => (hP.below (ba w _)).below h
  clear hP
  have hchk : chk [⟨60, 2, false⟩] [1, 2] = 0 := by decide
  go_enter Tryd.func35, Tryd.ntmps35
  go_wp2_with (go_at_call 63; refine (check_any (some ⟨bc, 0, none⟩) (some ⟨bs, 0, none⟩) 1 1 2 2 [⟨60, 2, false⟩] [1, 2] _ (HP.out _ (Below.refl _ _)).crs (HP.out _ (Below.refl _ _)).stp rfl rfl (by decide) (by decide)).mono ?_; rintro e w1 ⟨rfl, hb1⟩; rw [hchk]; obtain ⟨p0, p1, p2⟩ := boxP hb1)
  refine wp_loop_rounds 3 ?_
  rw [rounds_succ]
  go_wp2_with (go_at_call 64; refine (checkEvent_0 bc bs eb sk _ (HP.out _ hb1)).mono ?_; rintro e w2 ⟨rfl, hb2⟩; have T2 := bt hb1 hb2; obtain ⟨r0, r1, r2⟩ := boxP T2)
  rw [rounds_succ]
  go_wp2_with (go_at_call 64; refine (checkEvent_1 bc bs eb sk _ (HP.out _ T2)).mono ?_; rintro e w3 ⟨rfl, hb3⟩)
  rw [rounds_succ]
  go_wp2_with (fail)
  go_ret
  exact ⟨rfl, bx (bt T2 hb3)⟩

end Go.Proofs.YtdhjigaocamglaaDoor

/- Law 02's look at the chapter's examples returns true, in every world that holds the table of signs. -/
namespace Go.Proofs.YtdhjigaocamglaaDoor
open Go Go.RowKit

theorem sl_lit {w W : World} {cs : Array Value} {T : TypeId} {n size : Nat} {xs : List Value} (h : Below (w.alloc (.cells cs T)).heap.size (w.alloc (.cells cs T)) W) (hx : cs.toList = xs) (hn : xs.length = n * size) : Sl W W.heap.size size (some ⟨w.heap.size, 0, none⟩) n n xs := by
  refine ⟨Nat.le_refl _, hn, fun _ => ⟨_, _, rfl, by have := h.size; simp at this; omega, fun j u hj => ?_⟩⟩
  have := (keepb h j).1
  rw [Nat.zero_add, this, ← Array.getElem?_toList, hx]
  exact hj
theorem tm_W (sk : Nat) : ((tmL [e0W sk, e1W] 0 0 false false 0).map fun x => Value.int .i64 x.to) = [.int .i64 96, .int .i64 144] := rfl

set_option maxHeartbeats 1600000 in
theorem pw_made (w1 : World) : PW ((((((w1.alloc (.cells #[.int .i64 60, .int .i64 2, .bool false] 60)).alloc (.cells #[.int .i64 1, .int .i64 2] 3)).alloc (.cells #[.slice (some ⟨w1.heap.size, 0, none⟩) 1 1, .slice (some ⟨w1.heap.size + 1, 0, none⟩) 2 2] 25)).alloc (.cells #[.int .i64 1, .int .i64 2, .int .i64 0, .int .i64 0, .int .i64 1] 62)).alloc (.cells #[.bool false, .int .i64 3, .bool false, .bool false, .bool false, .slice (some ⟨w1.heap.size + 1 + 1 + 1, 0, none⟩) 1 1, .bool false, .int .i64 4, .bool false, .bool false, .bool true, .slice none 0 0] 51)).alloc (.cells #[.slice (some ⟨w1.heap.size, 0, none⟩) 1 1, .slice (some ⟨w1.heap.size + 1, 0, none⟩) 2 2, .slice (some ⟨w1.heap.size + 1 + 1 + 1 + 1, 0, none⟩) 2 2] 28)) w1.heap.size (w1.heap.size + 1) (w1.heap.size + 1 + 1 + 1 + 1) (w1.heap.size + 1 + 1 + 1) := by
  have b5 := ba (((((w1.alloc (.cells #[.int .i64 60, .int .i64 2, .bool false] 60)).alloc (.cells #[.int .i64 1, .int .i64 2] 3)).alloc (.cells #[.slice (some ⟨w1.heap.size, 0, none⟩) 1 1, .slice (some ⟨w1.heap.size + 1, 0, none⟩) 2 2] 25)).alloc (.cells #[.int .i64 1, .int .i64 2, .int .i64 0, .int .i64 0, .int .i64 1] 62)).alloc (.cells #[.bool false, .int .i64 3, .bool false, .bool false, .bool false, .slice (some ⟨w1.heap.size + 1 + 1 + 1, 0, none⟩) 1 1, .bool false, .int .i64 4, .bool false, .bool false, .bool true, .slice none 0 0] 51)) (.cells #[.slice (some ⟨w1.heap.size, 0, none⟩) 1 1, .slice (some ⟨w1.heap.size + 1, 0, none⟩) 2 2, .slice (some ⟨w1.heap.size + 1 + 1 + 1 + 1, 0, none⟩) 2 2] 28)
  have b4 := bt (ba ((((w1.alloc (.cells #[.int .i64 60, .int .i64 2, .bool false] 60)).alloc (.cells #[.int .i64 1, .int .i64 2] 3)).alloc (.cells #[.slice (some ⟨w1.heap.size, 0, none⟩) 1 1, .slice (some ⟨w1.heap.size + 1, 0, none⟩) 2 2] 25)).alloc (.cells #[.int .i64 1, .int .i64 2, .int .i64 0, .int .i64 0, .int .i64 1] 62)) (.cells #[.bool false, .int .i64 3, .bool false, .bool false, .bool false, .slice (some ⟨w1.heap.size + 1 + 1 + 1, 0, none⟩) 1 1, .bool false, .int .i64 4, .bool false, .bool false, .bool true, .slice none 0 0] 51)) b5
  have b3 := bt (ba (((w1.alloc (.cells #[.int .i64 60, .int .i64 2, .bool false] 60)).alloc (.cells #[.int .i64 1, .int .i64 2] 3)).alloc (.cells #[.slice (some ⟨w1.heap.size, 0, none⟩) 1 1, .slice (some ⟨w1.heap.size + 1, 0, none⟩) 2 2] 25)) (.cells #[.int .i64 1, .int .i64 2, .int .i64 0, .int .i64 0, .int .i64 1] 62)) b4
  have b2 := bt (ba ((w1.alloc (.cells #[.int .i64 60, .int .i64 2, .bool false] 60)).alloc (.cells #[.int .i64 1, .int .i64 2] 3)) (.cells #[.slice (some ⟨w1.heap.size, 0, none⟩) 1 1, .slice (some ⟨w1.heap.size + 1, 0, none⟩) 2 2] 25)) b3
  have b1 := bt (ba (w1.alloc (.cells #[.int .i64 60, .int .i64 2, .bool false] 60)) (.cells #[.int .i64 1, .int .i64 2] 3)) b2
  have hz : ((((((w1.alloc (.cells #[.int .i64 60, .int .i64 2, .bool false] 60)).alloc (.cells #[.int .i64 1, .int .i64 2] 3)).alloc (.cells #[.slice (some ⟨w1.heap.size, 0, none⟩) 1 1, .slice (some ⟨w1.heap.size + 1, 0, none⟩) 2 2] 25)).alloc (.cells #[.int .i64 1, .int .i64 2, .int .i64 0, .int .i64 0, .int .i64 1] 62)).alloc (.cells #[.bool false, .int .i64 3, .bool false, .bool false, .bool false, .slice (some ⟨w1.heap.size + 1 + 1 + 1, 0, none⟩) 1 1, .bool false, .int .i64 4, .bool false, .bool false, .bool true, .slice none 0 0] 51)).alloc (.cells #[.slice (some ⟨w1.heap.size, 0, none⟩) 1 1, .slice (some ⟨w1.heap.size + 1, 0, none⟩) 2 2, .slice (some ⟨w1.heap.size + 1 + 1 + 1 + 1, 0, none⟩) 2 2] 28)).heap.size = w1.heap.size + 6 := by simp
  have s1 := sl_lit (w := w1) (size := 3) (n := 1) b1 rfl rfl
  have s2 := sl_lit (w := (w1.alloc (.cells #[.int .i64 60, .int .i64 2, .bool false] 60))) (size := 1) (n := 2) b2 rfl rfl
  rw [show (w1.alloc (.cells #[.int .i64 60, .int .i64 2, .bool false] 60)).heap.size = w1.heap.size + 1 by simp] at s2
  refine ⟨s1, s2, by simpa using (keepb b1 1).1, ⟨by simpa using (keepb b5 0).1, by simpa using (keepb b5 1).1, by simpa using (keepb b5 2).1, by simpa using (keepb b5 3).1, by simpa using (keepb b5 4).1, by simpa using (keepb b5 5).1⟩, ⟨by simpa using (keepb b5 6).1, by simpa using (keepb b5 7).1, by simpa using (keepb b5 8).1, by simpa using (keepb b5 9).1, by simpa using (keepb b5 10).1, by simpa using (keepb b5 11).1⟩,
    ⟨by simpa using (keepb b4 0).1, by simpa using (keepb b4 1).1, by simpa using (keepb b4 2).1, by simpa using (keepb b4 3).1, by simpa using (keepb b4 4).1⟩, by omega, by omega, by omega⟩

set_option maxRecDepth 100000 in
set_option maxHeartbeats 3200000 in
theorem works2 (w : World) (hT : SgT w) : Calls Tryd.prog 9 #[] w fun e w' => e = .returned (.bool true) ∧ Below w.heap.size w w' := by
  have HT := Lib.hid hT
  clear hT
  go_enter Tryd.func9, Tryd.ntmps9
  go_wp2_with (go_at_call 33; refine (signs120 _ HT.out).mono ?_; rintro e w1 ⟨v, rfl, hr, hb1⟩; obtain ⟨g, cap, rfl⟩ := ownsRow_succ hr; have HR := Lib.hid hr; clear hr)
  have hP := pw_made w1
  have hb6 : Below w1.heap.size w1 ((((((w1.alloc (.cells #[.int .i64 60, .int .i64 2, .bool false] 60)).alloc (.cells #[.int .i64 1, .int .i64 2] 3)).alloc (.cells #[.slice (some ⟨w1.heap.size, 0, none⟩) 1 1, .slice (some ⟨w1.heap.size + 1, 0, none⟩) 2 2] 25)).alloc (.cells #[.int .i64 1, .int .i64 2, .int .i64 0, .int .i64 0, .int .i64 1] 62)).alloc (.cells #[.bool false, .int .i64 3, .bool false, .bool false, .bool false, .slice (some ⟨w1.heap.size + 1 + 1 + 1, 0, none⟩) 1 1, .bool false, .int .i64 4, .bool false, .bool false, .bool true, .slice none 0 0] 51)).alloc (.cells #[.slice (some ⟨w1.heap.size, 0, none⟩) 1 1, .slice (some ⟨w1.heap.size + 1, 0, none⟩) 2 2, .slice (some ⟨w1.heap.size + 1 + 1 + 1 + 1, 0, none⟩) 2 2] 28)) := bt (ba _ _) (bt (ba _ _) (bt (ba _ _) (bt (ba _ _) (bt (ba _ _) (ba _ _)))))
  obtain ⟨W6, hW6⟩ : ∃ W6, ((((((w1.alloc (.cells #[.int .i64 60, .int .i64 2, .bool false] 60)).alloc (.cells #[.int .i64 1, .int .i64 2] 3)).alloc (.cells #[.slice (some ⟨w1.heap.size, 0, none⟩) 1 1, .slice (some ⟨w1.heap.size + 1, 0, none⟩) 2 2] 25)).alloc (.cells #[.int .i64 1, .int .i64 2, .int .i64 0, .int .i64 0, .int .i64 1] 62)).alloc (.cells #[.bool false, .int .i64 3, .bool false, .bool false, .bool false, .slice (some ⟨w1.heap.size + 1 + 1 + 1, 0, none⟩) 1 1, .bool false, .int .i64 4, .bool false, .bool false, .bool true, .slice none 0 0] 51)).alloc (.cells #[.slice (some ⟨w1.heap.size, 0, none⟩) 1 1, .slice (some ⟨w1.heap.size + 1, 0, none⟩) 2 2, .slice (some ⟨w1.heap.size + 1 + 1 + 1 + 1, 0, none⟩) 2 2] 28)) = W6 := ⟨_, rfl⟩
  rw [hW6] at hP hb6 ⊢
  clear hW6
  refine (onsets_ok (some ⟨w1.heap.size, 0, none⟩) 1 1 (some ⟨w1.heap.size + 1, 0, none⟩) 2 2 (w1.heap.size + 1 + 1 + 1 + 1) 0 2 2 [e0W (w1.heap.size + 1 + 1 + 1), e1W] rfl (by decide) W6 hP.heb (fun k x hk => by
      match k, hk with
      | 0, hk => obtain rfl : e0W _ = x := by simpa using hk
                 exact hP.ev0
      | 1, hk => obtain rfl : e1W = x := by simpa using hk
                 exact hP.ev1)
    (fun o => check_W _ _ _ _ _ (hP.below (ba W6 o)))).mono ?_
  rintro e w3 ⟨v, rfl, hr2, hb3⟩
  rw [tm_W] at hr2
  obtain ⟨g2, cap2, rfl⟩ := ownsRow_succ hr2
  have hl := own_below HR.out (bt hb6 hb3)
  have l0 := World.ownsRow.cellAt hl 0 (by decide)
  have l1 := World.ownsRow.cellAt hl 1 (by decide)
  have l2 := World.ownsRow.cellAt hl 2 (by decide)
  have l3 := World.ownsRow.cellAt hl 3 (by decide)
  have l4 := World.ownsRow.cellAt hl 4 (by decide)
  have l5 := World.ownsRow.cellAt hl 5 (by decide)
  have m1 := World.ownsRow.cellAt hr2 1 (by decide)
  have m2 := World.ownsRow.cellAt hr2 2 (by decide)
  simp [sgL, sgv] at l0 l1 l2 l3 l4 l5 m1 m2
  clear hl hr2 hP
  go_wp2_with (fail)
  go_ret
  exact ⟨rfl, bt hb1 (bt hb6 hb3)⟩

end Go.Proofs.YtdhjigaocamglaaDoor
