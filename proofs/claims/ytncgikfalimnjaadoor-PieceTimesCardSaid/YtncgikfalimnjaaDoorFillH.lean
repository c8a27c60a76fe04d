/- Piece: the closure of Signs: a call that takes a sign. -/
import Derived.Test.YtncgikfalimnjaaDoorFill
import Derived.Maps.AppendAt
import Derived.Deep.RegionLaw
import Derived.Deep.AppendLies
namespace Go.Proofs.YtncgikfalimnjaaDoor
open Go Go.RowKit

abbrev fillV (cb fb : Nat) : Value := .func (.func 53) #[] #[.pointer (some ⟨cb, 0, none⟩), .pointer (some ⟨fb, 0, none⟩)]
def sgL (k : Nat) : List Value := [.int .i64 (sgv k).1, .bool (sgv k).2.1, .bool (sgv k).2.2]
/-- What Signs holds: the list chosen so far, in memory of its own; the closure; the table. -/
structure FS (w0 : World) (cb fb : Nat) (n : Nat) (xs : List Value) (w : World) : Prop where
  row : ∃ v, Boxed w cb 23 v ∧ w.ownsRow w0.heap.size 29 3 v n xs
  fn : Boxed w fb 74 (fillV cb fb)
  low : Below w0.heap.size w0 w
  tab : SgT w
theorem FS.below {w0 : World} {cb fb n : Nat} {xs : List Value} {w w' : World} (h : FS w0 cb fb n xs w) (hb : Below w.heap.size w w') : FS w0 cb fb n xs w' := by
  obtain ⟨v, hv, hr⟩ := h.row
  exact ⟨⟨v, (hb.block cb hv.lt).trans hv, own_below hr hb⟩, (hb.block fb h.fn.lt).trans h.fn, h.low.trans (hb.mono h.low.size), h.tab.below hb⟩

theorem own_neF {W : World} {base : Nat} {e T : TypeId} {size : Nat} {v : Value} {k j : Nat} {xs : List Value} {cs : Array Value} {f : Nat × Nat} (h : W.ownsRow base e size v k xs) (hj : W.heap[j]? = some (.cells cs T f)) (hne : T ≠ e) : v.ownBlock ≠ some j := by
  rcases h.2 with ⟨rfl, _⟩ | ⟨g, cap, cur, rfl, _, h3, _⟩
  · intro e
    cases e
  · intro e
    obtain rfl : g = j := by simpa [Value.ownBlock] using e
    rw [hj] at h3
    injection h3 with h3
    injection h3 with _ h3
    exact hne h3
theorem set_otherF (W : World) (b o k : Nat) (u : Value) (hk : k ≠ b) : (W.setCell ⟨b, o, none⟩ u).heap[k]? = W.heap[k]? := by
  simp only [World.setCell, Array.getElem?_modify]
  rw [if_neg (fun e => hk e.symm)]
theorem cell_sameF {w w' : World} {b o : Nat} {v : Value} (h : w'.heap[b]? = w.heap[b]?) (hc : w.cell? ⟨b, o, none⟩ = some v) : w'.cell? ⟨b, o, none⟩ = some v := by
  unfold World.cell? at hc ⊢
  simp only at hc ⊢
  rw [h]
  exact hc
theorem SgT.heap {w w' : World} (h : SgT w) (hs : w'.heap[0]? = w.heap[0]?) (hl : 0 < w'.heap.size) : SgT w' :=
  ⟨hl, fun k hk => ⟨cell_sameF hs (h.2 k hk).1, cell_sameF hs (h.2 k hk).2.1, cell_sameF hs (h.2 k hk).2.2⟩⟩
theorem frozen_sameF {w w' : World} {b o : Nat} (h : w'.heap[b]? = w.heap[b]?) : w'.frozen? ⟨b, o, none⟩ = w.frozen? ⟨b, o, none⟩ := by
  unfold World.frozen?
  simp only
  rw [h]
set_option maxRecDepth 100000 in
set_option maxHeartbeats 2000000 in
theorem fill_hit (w0 : World) (cb fb : Nat) (nn : Nat) (xs ys : List Value) (mm : Nat) (hw0 : 0 < w0.heap.size) (hcb : w0.heap.size ≤ cb) (hnn : nn ≤ 100) (r : Int) (i stop : Nat) (n : Int) (w : World) (hS : FS w0 cb fb nn xs w) (hi : i ≤ stop) (hst : stop < 21) (hn : (n == 0) = false) (hn1 : 1 ≤ n) (hn2 : n ≤ 100) (hr1 : -100000 ≤ r) (hr2 : r ≤ 100000)
    (hlong : ∀ j, i ≤ j → j < stop → r < tks j) (h1 : tks stop ≤ r) (h2 : r ≤ tks stop * n) (hb2 : tks stop * n ≤ 100000)
    (HF : Hid (∀ w', FS w0 cb fb (nn + 1) (xs ++ sgL stop) w' → Calls Tryd.prog 53 #[.int .i64 (r - tks stop), .int .i64 stop, .int .i64 (n - 1), .pointer (some ⟨cb, 0, none⟩), .pointer (some ⟨fb, 0, none⟩)] w' fun e w'' => e = .returned (.bool true) ∧ FS w0 cb fb mm ys w'')) :
    Calls Tryd.prog 53 #[.int .i64 r, .int .i64 i, .int .i64 n, .pointer (some ⟨cb, 0, none⟩), .pointer (some ⟨fb, 0, none⟩)] w fun e w' => e = .returned (.bool true) ∧ FS w0 cb fb mm ys w' := by
  have HS := Lib.hid hS
  have HL := Lib.hid hlong
  have H1 := Lib.hid (And.intro h1 (And.intro h2 hb2))
  have HB0 := Lib.hid (tkV_bd0 stop)
  obtain ⟨i0, ii, hi0, hi1, hi2⟩ := info_parts (show (Tryd.prog.info? 29).map (fun i => (i.zero, i.size, i.bytes)) = some (some (.agg #[.int .i64 0, .bool false, .bool false]), 3, 16) by kernel_rfl)
  clear hS hlong h1 h2 hb2
  go_enter Tryd.func53, Tryd.ntmps53
  go_wp2_with (fail)
  go_loopw [9] (fun v wr => ∃ k : Nat, k ≤ stop ∧ i ≤ k ∧ v = .int .i64 k ∧ FS w0 cb fb nn xs wr) (fun v _ => stop - (intOf v).toNat)
  case atStart => exact ⟨i, hi, Nat.le_refl _, rfl, HS.out⟩
  case round =>
    obtain ⟨k, hk, hik, rfl, hF⟩ := hrel
    have HFS := Lib.hid hF
    have g21 : (k : Int) < 21 := by omega
    obtain ⟨hg, hc⟩ := hF.tab
    obtain ⟨c0, c1, c2⟩ := hc k (by omega)
    clear hc hF
    by_cases hlt : k < stop
    · have HLK := Lib.hid (HL.out k hik hlt)
      go_wp2_with (go_at_call 18; refine (ticks_any _ _ _ _).mono ?_; rintro e w1 ⟨rfl, hb1⟩; have hlk : r < tkV (sgv k).1 (sgv k).2.1 (sgv k).2.2 := HLK.out)
      go_roundw
      case rel => exact ⟨k + 1, by omega, by omega, by simp, HFS.out.below hb1⟩
      case measure => simp [intOf]; omega
    · obtain rfl : k = stop := by omega
      go_wp2_with (go_at_call 18; refine (ticks_any _ _ _ _).mono ?_; rintro e w1 ⟨rfl, hb1⟩; have hl1 : tkV (sgv k).1 (sgv k).2.1 (sgv k).2.2 ≤ r := H1.out.1; have hl2 : r ≤ tkV (sgv k).1 (sgv k).2.1 (sgv k).2.2 * n := H1.out.2.1; have hl4 : tkV (sgv k).1 (sgv k).2.1 (sgv k).2.2 * n ≤ 100000 := H1.out.2.2; have hl5 : 0 ≤ tkV (sgv k).1 (sgv k).2.1 (sgv k).2.2 := HB0.out.1)
      obtain ⟨v, hv, hrow⟩ := (HFS.out.below hb1).row
      have hcv := hv.cell
      have hfv := hv.frozen
      have hltv := hv.lt
      obtain ⟨hg1, hc1⟩ := (HFS.out.below hb1).tab
      obtain ⟨d0, d1, d2⟩ := hc1 k (by omega)
      clear hc1 c0 c1 c2 hg
      have hne : v.ownBlock ≠ some cb := own_neF hrow hv (by decide)
      have hneG : v.ownBlock ≠ some 0 := fun e => by have := (hrow.lt _ e).1; omega
      have hml : nn + 1 ≤ maxLen := Nat.le_trans (show nn + 1 ≤ 101 by omega) (by decide)
      have hlw : w0.heap.size ≤ w1.heap.size := by omega
      have hcbG : cb ≠ 0 := by omega
      have l0 : w1.drew.cell? ⟨cb, 0, none⟩ = some v := hcv
      have l1 : (w1.alloc (.cells #[.int .i64 (sgv k).1, .bool (sgv k).2.1, .bool (sgv k).2.2] 29)).drew.cell? ⟨cb, 0, none⟩ = some v := cell_sameF (w := w1) ((ba w1 (.cells #[.int .i64 (sgv k).1, .bool (sgv k).2.1, .bool (sgv k).2.2] 29)).block cb hltv) hcv
      have m0 : (w1.alloc (.cells #[.int .i64 (sgv k).1, .bool (sgv k).2.1, .bool (sgv k).2.2] 29)).drew.cell? ⟨0, k * 3, none⟩ = some (.int .i64 (sgv k).1) := cell_sameF (w := w1) ((ba w1 (.cells #[.int .i64 (sgv k).1, .bool (sgv k).2.1, .bool (sgv k).2.2] 29)).block 0 hg1) d0
      have m1 : (w1.alloc (.cells #[.int .i64 (sgv k).1, .bool (sgv k).2.1, .bool (sgv k).2.2] 29)).drew.cell? ⟨0, k * 3 + 1, none⟩ = some (.bool (sgv k).2.1) := cell_sameF (w := w1) ((ba w1 (.cells #[.int .i64 (sgv k).1, .bool (sgv k).2.1, .bool (sgv k).2.2] 29)).block 0 hg1) d1
      have m2 : (w1.alloc (.cells #[.int .i64 (sgv k).1, .bool (sgv k).2.1, .bool (sgv k).2.2] 29)).drew.cell? ⟨0, k * 3 + 2, none⟩ = some (.bool (sgv k).2.2) := cell_sameF (w := w1) ((ba w1 (.cells #[.int .i64 (sgv k).1, .bool (sgv k).2.1, .bool (sgv k).2.2] 29)).block 0 hg1) d2
      go_region_law
        ((refine step_append_lies _ (by rfl) _ _ _ (by rfl) w0.heap.size 29 i0 _ 3 16 Tryd.underlying23 ii hi0 hi1 hi2 rfl (by decide) v nn xs (by rfl) (hrow.alloc (.cells #[.int .i64 (sgv k).1, .bool (sgv k).2.1, .bool (sgv k).2.2] 29)) ⟨w1.heap.size, 0, none⟩ 1 1 (sgL k) (by rfl) rfl (World.news_of_block (cs := #[.int .i64 (sgv k).1, .bool (sgv k).2.1, .bool (sgv k).2.2]) (t := 29) (fr := (0, 0)) (heap_alloc_new w1 (.cells #[.int .i64 (sgv k).1, .bool (sgv k).2.1, .bool (sgv k).2.2] 29))) (by intro u hu; simp [sgL] at hu; rcases hu with rfl | rfl | rfl <;> rfl) (by decide) hml (by omega) (by first | (simp; done) | (simp; omega)) (w1.heap.size + 1) (by simp) ?_; intro g cap w2 hown2 hgrow hat hlt2; have u0 := cell_sameF (w := w1) ((hgrow.block 0 (by first | (simp; done) | (simp; omega)) (fun e => hneG e.symm)).trans ((ba w1 (.cells #[.int .i64 (sgv k).1, .bool (sgv k).2.1, .bool (sgv k).2.2] 29)).block 0 hg1)) d0; have u1 := cell_sameF (w := w1) ((hgrow.block 0 (by first | (simp; done) | (simp; omega)) (fun e => hneG e.symm)).trans ((ba w1 (.cells #[.int .i64 (sgv k).1, .bool (sgv k).2.1, .bool (sgv k).2.2] 29)).block 0 hg1)) d1; have u2 := cell_sameF (w := w1) ((hgrow.block 0 (by first | (simp; done) | (simp; omega)) (fun e => hneG e.symm)).trans ((ba w1 (.cells #[.int .i64 (sgv k).1, .bool (sgv k).2.1, .bool (sgv k).2.2] 29)).block 0 hg1)) d2; have uc := cell_sameF (w := w1) ((hgrow.block cb (by first | (simp; done) | (simp; omega)) (fun e => hne e.symm)).trans ((ba w1 (.cells #[.int .i64 (sgv k).1, .bool (sgv k).2.1, .bool (sgv k).2.2] 29)).block cb hltv)) hcv; have uf := (frozen_sameF (w := w1) (o := 0) ((hgrow.block cb (by first | (simp; done) | (simp; omega)) (fun e => hne e.symm)).trans ((ba w1 (.cells #[.int .i64 (sgv k).1, .bool (sgv k).2.1, .bool (sgv k).2.2] 29)).block cb hltv))).trans hfv))
      all_goals (
        have hgr : (w1.drew.alloc (.cells #[.int .i64 (sgv k).1, .bool (sgv k).2.1, .bool (sgv k).2.2] 29)).grownBy w2 v.ownBlock := hgrow
        have hv' : Boxed w1.drew cb 23 v := hv
        have hr' : w1.drew.ownsRow w0.heap.size 29 3 v nn xs := hrow
        obtain ⟨hv1, hv2, hr2, hk2, hb2⟩ := hv'.appended (by decide) hr' (show w0.heap.size ≤ w1.drew.heap.size from hlw) hcb hown2 hgr
        have hfn1 := (HFS.out.below hb1).fn
        have hfc : fb ≠ cb := fun e => by
          have h1 : w1.heap[fb]? = _ := hfn1
          have h2 : w1.heap[cb]? = _ := hv
          rw [e, h2] at h1
          injection h1 with h1
          injection h1 with _ h1
          exact absurd h1 (by decide)
        have hfo : v.ownBlock ≠ some fb := own_neF hrow hfn1 (by decide)
        have hff : (w2.setCell ⟨cb, 0, none⟩ (.slice (some ⟨g, 0, none⟩) (nn + 1) cap)).heap[fb]? = w1.heap[fb]? := (set_otherF _ _ _ _ _ hfc).trans ((hgrow.block fb (by have := hfn1.lt; first | (simp; done) | (simp; omega)) (fun e => hfo e.symm)).trans ((ba w1 (.cells #[.int .i64 (sgv k).1, .bool (sgv k).2.1, .bool (sgv k).2.2] 29)).block fb hfn1.lt))
        have hgg : (w2.setCell ⟨cb, 0, none⟩ (.slice (some ⟨g, 0, none⟩) (nn + 1) cap)).heap[0]? = w1.heap[0]? := (set_otherF _ _ _ _ _ (fun e => hcbG e.symm)).trans ((hgrow.block 0 (by first | (simp; done) | (simp; omega)) (fun e => hneG e.symm)).trans ((ba w1 (.cells #[.int .i64 (sgv k).1, .bool (sgv k).2.1, .bool (sgv k).2.2] 29)).block 0 hg1))
        have hfn3 : Boxed (w2.setCell ⟨cb, 0, none⟩ (.slice (some ⟨g, 0, none⟩) (nn + 1) cap)) fb 74 (fillV cb fb) := hff.trans hfn1
        have hFS3 : FS w0 cb fb (nn + 1) (xs ++ sgL k) (w2.setCell ⟨cb, 0, none⟩ (.slice (some ⟨g, 0, none⟩) (nn + 1) cap)) := ⟨⟨_, hv2, hr2⟩, hfn3, (HFS.out.below hb1).low.drew.trans hb2, (HFS.out.below hb1).tab.heap hgg (Nat.lt_of_lt_of_le hg1 hk2.size)⟩
        have HF3 := Lib.hid hFS3
        have hfc3 := hfn3.cell
        clear hgr hv' hr' hv1 hv2 hr2 hk2 hb2 hff hgg hfn3 hFS3 hown2 hgrow hat u0 u1 u2 uc uf m0 m1 m2 l0 l1
        go_wp2_with (go_at_call 53; refine (HF.out _ HF3.out).mono ?_; rintro e w4 ⟨rfl, hF4⟩)
        go_ret
        exact ⟨rfl, hF4⟩)

end Go.Proofs.YtncgikfalimnjaaDoor
