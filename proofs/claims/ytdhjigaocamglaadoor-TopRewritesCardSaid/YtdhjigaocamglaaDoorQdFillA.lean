/- Piece: the closure of Signs, at every call: it finds what the pure search finds. -/
import Derived.Test.YtdhjigaocamglaaDoorQdWorks2
import Derived.Test.YtdhjigaocamglaaDoorQdRefAll
import Derived.WalkSmall
namespace Go.Proofs.YtdhjigaocamglaaDoor
open Go Go.RowKit

def finN (n : Nat) (o : Option (List Nat)) : Nat := n + (o.getD []).length
def finL (xs : List Value) (o : Option (List Nat)) : List Value := xs ++ (o.getD []).flatMap sgL
theorem tks_mul {k : Nat} (hk : k < 21) {c : Int} (h1 : 1 ≤ c) (h2 : c ≤ 1200) : 0 ≤ tks k * c ∧ tks k * c ≤ 700000 := by
  have h := tks_four hk
  have a := Int.mul_le_mul h.2 h2 (by omega) (by omega)
  have b := Int.mul_nonneg (a := tks k) (b := c) (by omega) (by omega)
  omega
/-- One sign is given back. -/
theorem FS.pop {w0 : World} {cb fb nn : Nat} {xs : List Value} {k : Nat} {g cap : Nat} {w : World} (h : FS w0 cb fb (nn + 1) (xs ++ sgL k) w) (hx : xs.length = nn * 3) (hcb : w0.heap.size ≤ cb) (hw0 : 0 < w0.heap.size) (hv : Boxed w cb 69 (.slice (some ⟨g, 0, none⟩) (nn + 1) cap)) :
    FS w0 cb fb nn xs (w.setCell ⟨cb, 0, none⟩ (.slice (some ⟨g, 0, none⟩) nn cap)) := by
  obtain ⟨v, hv2, hr⟩ := h.row
  obtain rfl : v = .slice (some ⟨g, 0, none⟩) (nn + 1) cap := by
    have h1 : w.heap[cb]? = _ := hv
    have h2 : w.heap[cb]? = _ := hv2
    rw [h1] at h2
    injection h2 with h2
    injection h2 with h2 _
    have := congrArg (fun a : Array Value => a[0]?) h2
    simpa using this.symm
  have hne : (Value.slice (some ⟨g, 0, none⟩) nn cap).ownBlock ≠ some cb := show (Value.slice (some ⟨g, 0, none⟩) (nn + 1) cap).ownBlock ≠ some cb from own_neF hr hv (by decide)
  have hfc : fb ≠ cb := fun e => by
    have h1 : w.heap[fb]? = _ := h.fn
    have h2 : w.heap[cb]? = _ := hv
    rw [e, h2] at h1
    injection h1 with h1
    injection h1 with _ h1
    exact absurd h1 (by decide)
  exact ⟨⟨_, hv.set _, ownsRow_setCell_other (ownsRow_pop hx hr) hne _⟩, (set_otherF _ _ _ _ _ hfc).trans h.fn, h.low.setCell hcb _, h.tab.heap (set_otherF _ _ _ _ _ (by omega)) (by have := h.tab.1; simpa [World.setCell] using this)⟩
theorem own_cap {W : World} {base : Nat} {e : TypeId} {size n g cap : Nat} {xs : List Value} (h : W.ownsRow base e size (.slice (some ⟨g, 0, none⟩) n cap) n xs) : n ≤ cap := by
  rcases h.2 with ⟨h0, _⟩ | ⟨_, _, _, h0, _, _, h5, _⟩
  · cases h0
  · injection h0 with _ _ h0
    omega
theorem FS.len {w0 : World} {cb fb nn : Nat} {xs : List Value} {w : World} (h : FS w0 cb fb nn xs w) : xs.length = nn * 3 := by
  obtain ⟨v, _, hr⟩ := h.row
  exact hr.1
/-- What the next count says of a call. -/
def FillOk (w0 : World) (cb fb n : Nat) (c : Int) : Prop := ∀ (nn : Nat) (xs : List Value) (r : Int) (i : Nat) (w : World), nn + n ≤ 1200 → FS w0 cb fb nn xs w → i ≤ 21 → 0 ≤ r → r ≤ 5000 →
  Calls Tryd.prog 61 #[.int .i64 r, .int .i64 i, .int .i64 c, .pointer (some ⟨cb, 0, none⟩), .pointer (some ⟨fb, 0, none⟩)] w fun e w' => e = .returned (.bool (fl n r i).isSome) ∧ FS w0 cb fb (finN nn (fl n r i)) (finL xs (fl n r i)) w'
theorem fillZ (w0 : World) (cb fb : Nat) : FillOk w0 cb fb 0 0 := by
  intro nn xs r i w _ hS _ _ _
  refine (fill_zero r i _ _ w).mono ?_
  rintro e w1 ⟨rfl, rfl⟩
  by_cases h : r = 0
  · simp [fl, h, finN, finL, hS]
  · simp [fl, h, finN, finL, hS]
set_option maxRecDepth 100000 in
set_option maxHeartbeats 4000000 in
theorem fill_step (w0 : World) (cb fb n : Nat) (hw0 : 0 < w0.heap.size) (hcb : w0.heap.size ≤ cb) (c : Int) (hcn : Hid (c = (n + 1 : Nat))) (hn : (c == 0) = false) (hn1 : 1 ≤ c) (hn2 : c ≤ 1200) (HI : Hid (FillOk w0 cb fb n (c - 1))) : FillOk w0 cb fb (n + 1) c := by
  intro nn xs r i w hsz hS hi hr1 hr2
  have hnn : nn ≤ 1200 := by omega
  have HZ : Hid (nn + 1 + n ≤ 1200) := by unfold Hid; omega
  have HX := Lib.hid hS.len
  have HS := Lib.hid hS
  obtain ⟨i0, ii, hi0, hi1, hi2⟩ := info_parts (show (Tryd.prog.info? 48).map (fun i => (i.zero, i.size, i.bytes)) = some (some (.agg #[.int .i64 0, .bool false, .bool false]), 3, 16) by kernel_rfl)
  obtain ⟨R, hR⟩ : ∃ R, fr n r i = R := ⟨_, rfl⟩
  rw [fl_succ, hR]
  have HR := Lib.hid hR
  clear hS hsz hR
  go_enter Tryd.func61, Tryd.ntmps61
  go_wp2_with (fail)
  go_loopw [9] (fun v wr => ∃ k : Nat, k ≤ 21 ∧ v = .int .i64 k ∧ Hid (fr n r k = R) ∧ FS w0 cb fb nn xs wr) (fun v _ => 21 - (intOf v).toNat)
  case atStart => exact ⟨i, hi, rfl, HR, HS.out⟩
  case round =>
    obtain ⟨k, hk, rfl, HK, hF⟩ := hrel
    have HFS := Lib.hid hF
    by_cases hend : k = 21
    · subst hend
      obtain rfl : none = R := HK.out.symm.trans (fr_end n r) |>.symm
      clear hF
      go_wp2_with (fail)
      go_ret
      exact ⟨rfl, by simpa [finN, finL] using HFS.out⟩
    have g21 : (k : Int) < 21 := by omega
    have g21n : k < 21 := by omega
    obtain ⟨hg, hc⟩ := hF.tab
    obtain ⟨c0, c1, c2⟩ := hc k g21n
    have HM := Lib.hid (tks_mul g21n hn1 hn2)
    have HB0 := Lib.hid (tks_four g21n)
    clear hc hF
    by_cases hA : r < tks k
    · have HLK := Lib.hid hA
      have HN := Lib.hid ((fr_long g21n hA).symm.trans HK.out)
      clear hA
      go_wp2_with (go_at_call 62; refine (ticks_any _ _ _ _).mono ?_; rintro e w1 ⟨rfl, hb1⟩; have hlk : r < tkV (sgv k).1 (sgv k).2.1 (sgv k).2.2 := HLK.out)
      go_roundw
      case rel => exact ⟨k + 1, by omega, by simp, HN, HFS.out.below hb1⟩
      case measure => simp [intOf]; omega
    have hA' : tks k ≤ r := by omega
    by_cases hB : tks k * c < r
    · have HLK := Lib.hid (And.intro hA' hB)
      have hR : R = none := HK.out.symm.trans (fr_short g21n hA' (by rw [← hcn.out]; exact hB))
      subst hR
      clear hA hA' hB
      go_wp2_with (go_at_call 62; refine (ticks_any _ _ _ _).mono ?_; rintro e w1 ⟨rfl, hb1⟩; have hl1 : tkV (sgv k).1 (sgv k).2.1 (sgv k).2.2 ≤ r := HLK.out.1; have hl2 : tkV (sgv k).1 (sgv k).2.1 (sgv k).2.2 * c < r := HLK.out.2; have hl3 : 0 ≤ tkV (sgv k).1 (sgv k).2.1 (sgv k).2.2 * c := HM.out.1; have hl4 : tkV (sgv k).1 (sgv k).2.1 (sgv k).2.2 * c ≤ 700000 := HM.out.2)
      go_ret
      exact ⟨rfl, by simpa [finN, finL] using HFS.out.below hb1⟩
    have hB' : r ≤ tks k * c := by omega
    have H1 := Lib.hid (And.intro hA' hB')
    have HI2 : Hid (∀ w', FS w0 cb fb (nn + 1) (xs ++ sgL k) w' → Calls Tryd.prog 61 #[.int .i64 (r - tks k), .int .i64 k, .int .i64 (c - 1), .pointer (some ⟨cb, 0, none⟩), .pointer (some ⟨fb, 0, none⟩)] w' fun e w'' => e = .returned (.bool (fl n (r - tks k) k).isSome) ∧ FS w0 cb fb (finN (nn + 1) (fl n (r - tks k) k)) (finL (xs ++ sgL k) (fl n (r - tks k) k)) w'') := fun w' h =>
      HI.out (nn + 1) (xs ++ sgL k) (r - tks k) k w' HZ.out h hk (by omega) (by have := HB0.out; omega)
    have HC : Hid (r ≤ tks k * (n + 1 : Nat)) := by unfold Hid; rw [← hcn.out]; exact hB'
    clear hA hA' hB hB'
    cases hq : fl n (r - tks k) k with
    | some q =>
      have HQ := Lib.hid hq
      have hR : R = some (k :: q) := HK.out.symm.trans (fr_hit g21n H1.out.1 HC.out hq)
      subst hR
      clear hq
      go_wp2_with (go_at_call 62; refine (ticks_any _ _ _ _).mono ?_; rintro e w1 ⟨rfl, hb1⟩; have hl1 : tkV (sgv k).1 (sgv k).2.1 (sgv k).2.2 ≤ r := H1.out.1; have hl2 : r ≤ tkV (sgv k).1 (sgv k).2.1 (sgv k).2.2 * c := H1.out.2; have hl4 : tkV (sgv k).1 (sgv k).2.1 (sgv k).2.2 * c ≤ 700000 := HM.out.2; have hl5 : 0 ≤ tkV (sgv k).1 (sgv k).2.1 (sgv k).2.2 := (tkV_bd0 k).1)
      obtain ⟨v, hv, hrow⟩ := (HFS.out.below hb1).row
      have hcv := hv.cell
      have hfv := hv.frozen
      have hltv := hv.lt
      obtain ⟨hg1, hc1⟩ := (HFS.out.below hb1).tab
      obtain ⟨d0, d1, d2⟩ := hc1 k (by omega)
      clear hc1 c0 c1 c2 hg
      have hne : v.ownBlock ≠ some cb := own_neF hrow hv (by decide)
      have hneG : v.ownBlock ≠ some 0 := fun e => by have := (hrow.lt _ e).1; omega
      have hml : nn + 1 ≤ maxLen := Nat.le_trans (show nn + 1 ≤ 1201 by omega) (by decide)
      have hlw : w0.heap.size ≤ w1.heap.size := by omega
      have hcbG : cb ≠ 0 := by omega
      have l0 : w1.drew.cell? ⟨cb, 0, none⟩ = some v := hcv
      have l1 : (w1.alloc (.cells #[.int .i64 (sgv k).1, .bool (sgv k).2.1, .bool (sgv k).2.2] 48)).drew.cell? ⟨cb, 0, none⟩ = some v := cell_sameF (w := w1) ((ba w1 (.cells #[.int .i64 (sgv k).1, .bool (sgv k).2.1, .bool (sgv k).2.2] 48)).block cb hltv) hcv
      have m0 : (w1.alloc (.cells #[.int .i64 (sgv k).1, .bool (sgv k).2.1, .bool (sgv k).2.2] 48)).drew.cell? ⟨0, k * 3, none⟩ = some (.int .i64 (sgv k).1) := cell_sameF (w := w1) ((ba w1 (.cells #[.int .i64 (sgv k).1, .bool (sgv k).2.1, .bool (sgv k).2.2] 48)).block 0 hg1) d0
      have m1 : (w1.alloc (.cells #[.int .i64 (sgv k).1, .bool (sgv k).2.1, .bool (sgv k).2.2] 48)).drew.cell? ⟨0, k * 3 + 1, none⟩ = some (.bool (sgv k).2.1) := cell_sameF (w := w1) ((ba w1 (.cells #[.int .i64 (sgv k).1, .bool (sgv k).2.1, .bool (sgv k).2.2] 48)).block 0 hg1) d1
      have m2 : (w1.alloc (.cells #[.int .i64 (sgv k).1, .bool (sgv k).2.1, .bool (sgv k).2.2] 48)).drew.cell? ⟨0, k * 3 + 2, none⟩ = some (.bool (sgv k).2.2) := cell_sameF (w := w1) ((ba w1 (.cells #[.int .i64 (sgv k).1, .bool (sgv k).2.1, .bool (sgv k).2.2] 48)).block 0 hg1) d2
      go_region_law
        ((refine step_append_lies _ (by rfl) _ _ _ (by rfl) w0.heap.size 48 i0 _ 3 16 Tryd.underlying69 ii hi0 hi1 hi2 rfl (by decide) v nn xs (by rfl) (hrow.alloc (.cells #[.int .i64 (sgv k).1, .bool (sgv k).2.1, .bool (sgv k).2.2] 48)) ⟨w1.heap.size, 0, none⟩ 1 1 (sgL k) (by rfl) rfl (World.news_of_block (cs := #[.int .i64 (sgv k).1, .bool (sgv k).2.1, .bool (sgv k).2.2]) (t := 48) (fr := (0, 0)) (heap_alloc_new w1 (.cells #[.int .i64 (sgv k).1, .bool (sgv k).2.1, .bool (sgv k).2.2] 48))) (by intro u hu; simp [sgL] at hu; rcases hu with rfl | rfl | rfl <;> rfl) (by decide) hml (by omega) (by first | (simp; done) | (simp; omega)) (w1.heap.size + 1) (by simp) ?_; intro g cap w2 hown2 hgrow hat hlt2; have u0 := cell_sameF (w := w1) ((hgrow.block 0 (by first | (simp; done) | (simp; omega)) (fun e => hneG e.symm)).trans ((ba w1 (.cells #[.int .i64 (sgv k).1, .bool (sgv k).2.1, .bool (sgv k).2.2] 48)).block 0 hg1)) d0; have u1 := cell_sameF (w := w1) ((hgrow.block 0 (by first | (simp; done) | (simp; omega)) (fun e => hneG e.symm)).trans ((ba w1 (.cells #[.int .i64 (sgv k).1, .bool (sgv k).2.1, .bool (sgv k).2.2] 48)).block 0 hg1)) d1; have u2 := cell_sameF (w := w1) ((hgrow.block 0 (by first | (simp; done) | (simp; omega)) (fun e => hneG e.symm)).trans ((ba w1 (.cells #[.int .i64 (sgv k).1, .bool (sgv k).2.1, .bool (sgv k).2.2] 48)).block 0 hg1)) d2; have uc := cell_sameF (w := w1) ((hgrow.block cb (by first | (simp; done) | (simp; omega)) (fun e => hne e.symm)).trans ((ba w1 (.cells #[.int .i64 (sgv k).1, .bool (sgv k).2.1, .bool (sgv k).2.2] 48)).block cb hltv)) hcv; have uf := (frozen_sameF (w := w1) (o := 0) ((hgrow.block cb (by first | (simp; done) | (simp; omega)) (fun e => hne e.symm)).trans ((ba w1 (.cells #[.int .i64 (sgv k).1, .bool (sgv k).2.1, .bool (sgv k).2.2] 48)).block cb hltv))).trans hfv))
      all_goals (
        have hgr : (w1.drew.alloc (.cells #[.int .i64 (sgv k).1, .bool (sgv k).2.1, .bool (sgv k).2.2] 48)).grownBy w2 v.ownBlock := hgrow
        have hv' : Boxed w1.drew cb 69 v := hv
        have hr' : w1.drew.ownsRow w0.heap.size 48 3 v nn xs := hrow
        obtain ⟨hv1, hv2, hr2, hk2, hb2⟩ := hv'.appended (by decide) hr' (show w0.heap.size ≤ w1.drew.heap.size from hlw) hcb hown2 hgr
        have hfn1 := (HFS.out.below hb1).fn
        have hfc : fb ≠ cb := fun e => by
          have h1 : w1.heap[fb]? = _ := hfn1
          have h2 : w1.heap[cb]? = _ := hv
          rw [e, h2] at h1
          injection h1 with h1
          injection h1 with _ h1
          exact absurd h1 (by decide)
        have hfo : v.ownBlock ≠ some fb := own_neF hrow hfn1 (by decide)
        have hff : (w2.setCell ⟨cb, 0, none⟩ (.slice (some ⟨g, 0, none⟩) (nn + 1) cap)).heap[fb]? = w1.heap[fb]? := (set_otherF _ _ _ _ _ hfc).trans ((hgrow.block fb (by have := hfn1.lt; first | (simp; done) | (simp; omega)) (fun e => hfo e.symm)).trans ((ba w1 (.cells #[.int .i64 (sgv k).1, .bool (sgv k).2.1, .bool (sgv k).2.2] 48)).block fb hfn1.lt))
        have hgg : (w2.setCell ⟨cb, 0, none⟩ (.slice (some ⟨g, 0, none⟩) (nn + 1) cap)).heap[0]? = w1.heap[0]? := (set_otherF _ _ _ _ _ (fun e => hcbG e.symm)).trans ((hgrow.block 0 (by first | (simp; done) | (simp; omega)) (fun e => hneG e.symm)).trans ((ba w1 (.cells #[.int .i64 (sgv k).1, .bool (sgv k).2.1, .bool (sgv k).2.2] 48)).block 0 hg1))
        have hfn3 : Boxed (w2.setCell ⟨cb, 0, none⟩ (.slice (some ⟨g, 0, none⟩) (nn + 1) cap)) fb 98 (fillV cb fb) := hff.trans hfn1
        have hFS3 : FS w0 cb fb (nn + 1) (xs ++ sgL k) (w2.setCell ⟨cb, 0, none⟩ (.slice (some ⟨g, 0, none⟩) (nn + 1) cap)) := ⟨⟨_, hv2, hr2⟩, hfn3, (HFS.out.below hb1).low.drew.trans hb2, (HFS.out.below hb1).tab.heap hgg (Nat.lt_of_lt_of_le hg1 hk2.size)⟩
        have HF3 := Lib.hid hFS3
        have hfc3 := hfn3.cell
        clear hgr hv' hr' hv1 hv2 hr2 hk2 hb2 hff hgg hfn3 hFS3 hown2 hgrow hat u0 u1 u2 uc uf m0 m1 m2 l0 l1
        go_wp2_with (go_at_call 61; refine (HI2.out _ HF3.out).mono ?_; rintro e w4 ⟨rfl, hF4⟩; rw [HQ.out] at hF4 ⊢)
        go_ret
        refine ⟨rfl, ?_⟩
        have e1 : finN nn (some (k :: q)) = finN (nn + 1) (some q) := by simp [finN]; omega
        have e2 : finL xs (some (k :: q)) = finL (xs ++ sgL k) (some q) := by simp [finL]
        rw [e1, e2]
        exact hF4)
    | none =>
      have HQ := Lib.hid hq
      have HN := Lib.hid ((fr_miss g21n H1.out.1 HC.out hq).symm.trans HK.out)
      clear hq
      go_wp2_with (go_at_call 62; refine (ticks_any _ _ _ _).mono ?_; rintro e w1 ⟨rfl, hb1⟩; have hl1 : tkV (sgv k).1 (sgv k).2.1 (sgv k).2.2 ≤ r := H1.out.1; have hl2 : r ≤ tkV (sgv k).1 (sgv k).2.1 (sgv k).2.2 * c := H1.out.2; have hl4 : tkV (sgv k).1 (sgv k).2.1 (sgv k).2.2 * c ≤ 700000 := HM.out.2; have hl5 : 0 ≤ tkV (sgv k).1 (sgv k).2.1 (sgv k).2.2 := (tkV_bd0 k).1)
      obtain ⟨v, hv, hrow⟩ := (HFS.out.below hb1).row
      have hcv := hv.cell
      have hfv := hv.frozen
      have hltv := hv.lt
      obtain ⟨hg1, hc1⟩ := (HFS.out.below hb1).tab
      obtain ⟨d0, d1, d2⟩ := hc1 k (by omega)
      clear hc1 c0 c1 c2 hg
      have hne : v.ownBlock ≠ some cb := own_neF hrow hv (by decide)
      have hneG : v.ownBlock ≠ some 0 := fun e => by have := (hrow.lt _ e).1; omega
      have hml : nn + 1 ≤ maxLen := Nat.le_trans (show nn + 1 ≤ 1201 by omega) (by decide)
      have hlw : w0.heap.size ≤ w1.heap.size := by omega
      have hcbG : cb ≠ 0 := by omega
      have l0 : w1.drew.cell? ⟨cb, 0, none⟩ = some v := hcv
      have l1 : (w1.alloc (.cells #[.int .i64 (sgv k).1, .bool (sgv k).2.1, .bool (sgv k).2.2] 48)).drew.cell? ⟨cb, 0, none⟩ = some v := cell_sameF (w := w1) ((ba w1 (.cells #[.int .i64 (sgv k).1, .bool (sgv k).2.1, .bool (sgv k).2.2] 48)).block cb hltv) hcv
      have m0 : (w1.alloc (.cells #[.int .i64 (sgv k).1, .bool (sgv k).2.1, .bool (sgv k).2.2] 48)).drew.cell? ⟨0, k * 3, none⟩ = some (.int .i64 (sgv k).1) := cell_sameF (w := w1) ((ba w1 (.cells #[.int .i64 (sgv k).1, .bool (sgv k).2.1, .bool (sgv k).2.2] 48)).block 0 hg1) d0
      have m1 : (w1.alloc (.cells #[.int .i64 (sgv k).1, .bool (sgv k).2.1, .bool (sgv k).2.2] 48)).drew.cell? ⟨0, k * 3 + 1, none⟩ = some (.bool (sgv k).2.1) := cell_sameF (w := w1) ((ba w1 (.cells #[.int .i64 (sgv k).1, .bool (sgv k).2.1, .bool (sgv k).2.2] 48)).block 0 hg1) d1
      have m2 : (w1.alloc (.cells #[.int .i64 (sgv k).1, .bool (sgv k).2.1, .bool (sgv k).2.2] 48)).drew.cell? ⟨0, k * 3 + 2, none⟩ = some (.bool (sgv k).2.2) := cell_sameF (w := w1) ((ba w1 (.cells #[.int .i64 (sgv k).1, .bool (sgv k).2.1, .bool (sgv k).2.2] 48)).block 0 hg1) d2
      go_region_law
        ((refine step_append_lies _ (by rfl) _ _ _ (by rfl) w0.heap.size 48 i0 _ 3 16 Tryd.underlying69 ii hi0 hi1 hi2 rfl (by decide) v nn xs (by rfl) (hrow.alloc (.cells #[.int .i64 (sgv k).1, .bool (sgv k).2.1, .bool (sgv k).2.2] 48)) ⟨w1.heap.size, 0, none⟩ 1 1 (sgL k) (by rfl) rfl (World.news_of_block (cs := #[.int .i64 (sgv k).1, .bool (sgv k).2.1, .bool (sgv k).2.2]) (t := 48) (fr := (0, 0)) (heap_alloc_new w1 (.cells #[.int .i64 (sgv k).1, .bool (sgv k).2.1, .bool (sgv k).2.2] 48))) (by intro u hu; simp [sgL] at hu; rcases hu with rfl | rfl | rfl <;> rfl) (by decide) hml (by omega) (by first | (simp; done) | (simp; omega)) (w1.heap.size + 1) (by simp) ?_; intro g cap w2 hown2 hgrow hat hlt2; have u0 := cell_sameF (w := w1) ((hgrow.block 0 (by first | (simp; done) | (simp; omega)) (fun e => hneG e.symm)).trans ((ba w1 (.cells #[.int .i64 (sgv k).1, .bool (sgv k).2.1, .bool (sgv k).2.2] 48)).block 0 hg1)) d0; have u1 := cell_sameF (w := w1) ((hgrow.block 0 (by first | (simp; done) | (simp; omega)) (fun e => hneG e.symm)).trans ((ba w1 (.cells #[.int .i64 (sgv k).1, .bool (sgv k).2.1, .bool (sgv k).2.2] 48)).block 0 hg1)) d1; have u2 := cell_sameF (w := w1) ((hgrow.block 0 (by first | (simp; done) | (simp; omega)) (fun e => hneG e.symm)).trans ((ba w1 (.cells #[.int .i64 (sgv k).1, .bool (sgv k).2.1, .bool (sgv k).2.2] 48)).block 0 hg1)) d2; have uc := cell_sameF (w := w1) ((hgrow.block cb (by first | (simp; done) | (simp; omega)) (fun e => hne e.symm)).trans ((ba w1 (.cells #[.int .i64 (sgv k).1, .bool (sgv k).2.1, .bool (sgv k).2.2] 48)).block cb hltv)) hcv; have uf := (frozen_sameF (w := w1) (o := 0) ((hgrow.block cb (by first | (simp; done) | (simp; omega)) (fun e => hne e.symm)).trans ((ba w1 (.cells #[.int .i64 (sgv k).1, .bool (sgv k).2.1, .bool (sgv k).2.2] 48)).block cb hltv))).trans hfv))
      all_goals (
        have hgr : (w1.drew.alloc (.cells #[.int .i64 (sgv k).1, .bool (sgv k).2.1, .bool (sgv k).2.2] 48)).grownBy w2 v.ownBlock := hgrow
        have hv' : Boxed w1.drew cb 69 v := hv
        have hr' : w1.drew.ownsRow w0.heap.size 48 3 v nn xs := hrow
        obtain ⟨hv1, hv2, hr2, hk2, hb2⟩ := hv'.appended (by decide) hr' (show w0.heap.size ≤ w1.drew.heap.size from hlw) hcb hown2 hgr
        have hfn1 := (HFS.out.below hb1).fn
        have hfc : fb ≠ cb := fun e => by
          have h1 : w1.heap[fb]? = _ := hfn1
          have h2 : w1.heap[cb]? = _ := hv
          rw [e, h2] at h1
          injection h1 with h1
          injection h1 with _ h1
          exact absurd h1 (by decide)
        have hfo : v.ownBlock ≠ some fb := own_neF hrow hfn1 (by decide)
        have hff : (w2.setCell ⟨cb, 0, none⟩ (.slice (some ⟨g, 0, none⟩) (nn + 1) cap)).heap[fb]? = w1.heap[fb]? := (set_otherF _ _ _ _ _ hfc).trans ((hgrow.block fb (by have := hfn1.lt; first | (simp; done) | (simp; omega)) (fun e => hfo e.symm)).trans ((ba w1 (.cells #[.int .i64 (sgv k).1, .bool (sgv k).2.1, .bool (sgv k).2.2] 48)).block fb hfn1.lt))
        have hgg : (w2.setCell ⟨cb, 0, none⟩ (.slice (some ⟨g, 0, none⟩) (nn + 1) cap)).heap[0]? = w1.heap[0]? := (set_otherF _ _ _ _ _ (fun e => hcbG e.symm)).trans ((hgrow.block 0 (by first | (simp; done) | (simp; omega)) (fun e => hneG e.symm)).trans ((ba w1 (.cells #[.int .i64 (sgv k).1, .bool (sgv k).2.1, .bool (sgv k).2.2] 48)).block 0 hg1))
        have hfn3 : Boxed (w2.setCell ⟨cb, 0, none⟩ (.slice (some ⟨g, 0, none⟩) (nn + 1) cap)) fb 98 (fillV cb fb) := hff.trans hfn1
        have hFS3 : FS w0 cb fb (nn + 1) (xs ++ sgL k) (w2.setCell ⟨cb, 0, none⟩ (.slice (some ⟨g, 0, none⟩) (nn + 1) cap)) := ⟨⟨_, hv2, hr2⟩, hfn3, (HFS.out.below hb1).low.drew.trans hb2, (HFS.out.below hb1).tab.heap hgg (Nat.lt_of_lt_of_le hg1 hk2.size)⟩
        have HF3 := Lib.hid hFS3
        have hfc3 := hfn3.cell
        clear hgr hv' hr' hv1 hv2 hr2 hk2 hb2 hff hgg hfn3 hFS3 hown2 hgrow hat u0 u1 u2 uc uf m0 m1 m2 l0 l1
        go_wp2_with (go_at_call 61; refine (HI2.out _ HF3.out).mono ?_; rintro e w4 ⟨rfl, hF4⟩; rw [HQ.out] at hF4 ⊢; have hF5 : FS w0 cb fb (nn + 1) (xs ++ sgL k) w4 := (by simpa [finN, finL] using hF4); obtain ⟨v4, hv4, hr4⟩ := hF5.row; obtain ⟨g4, cap4, rfl⟩ := ownsRow_succ hr4; have hc4 := hv4.cell; have hf4 := hv4.frozen; have HP := Lib.hid (hF5.pop HX.out hcb hw0 hv4); have hle4 : nn + 1 ≤ cap4 := own_cap hr4; clear hF4 hF5 hr4 hv4)
        go_roundw
        case rel => exact ⟨k + 1, by omega, by simp, HN, by simpa using HP.out⟩
        case measure => simp [intOf]; omega)

theorem fill_all (w0 : World) (cb fb : Nat) (hw0 : 0 < w0.heap.size) (hcb : w0.heap.size ≤ cb) (n : Nat) (hn : n ≤ 1200) : FillOk w0 cb fb n (n : Nat) := by
  induction n with
  | zero => exact fillZ w0 cb fb
  | succ n ih =>
    refine fill_step w0 cb fb n hw0 hcb _ rfl (by simp; omega) (by omega) (by omega) ?_
    have e : ((n + 1 : Nat) : Int) - 1 = (n : Nat) := by omega
    unfold Hid
    rw [e]
    exact ih (by omega)

end Go.Proofs.YtdhjigaocamglaaDoor
