/- The law SoundConcordsMoved returns true for all numbers. -/
import Derived.Test.YtcebpgcmmdfccaaWorks5
import Derived.Test.YtcebpgcmmdfccaaConcM
import Derived.Test.YtcebpgcmmdfccaaPcCopy
import Derived.Deep.RegionHeldLaw
import Derived.Deep.AppendLies
import Derived.Maps.AppendAt
namespace Go.Proofs.Ytcebpgcmmdfccaa
open Go Go.RowKit

theorem intC_app2 (S : List Int) (x y : Int) : intC (S ++ [x, y]) = intC S ++ [.int .i64 x, .int .i64 y] := by simp [intC]
theorem intC_appC (S : List Int) (x : Int) : intC (S ++ [x]) = intC S ++ [.int .i64 x] := by simp [intC]
def SepV (v u : Value) : Prop := ∀ g, v.ownBlock = some g → u.ownBlock ≠ some g
theorem SepV.left {v u : Value} (h : SepV v u) : v.ownBlock = none ∨ v.ownBlock ≠ u.ownBlock := by
  cases hv : v.ownBlock with
  | none => exact .inl rfl
  | some g => exact .inr (fun e => h g hv e.symm)
theorem SepV.right {v u : Value} (h : SepV v u) : u.ownBlock = none ∨ u.ownBlock ≠ v.ownBlock := by
  cases hu : u.ownBlock with
  | none => exact .inl rfl
  | some g => exact .inr (fun e => h g e.symm hu)
/-- The two lists that the law gathers. -/
structure TwoR (w1 wr : World) (i : Nat) (A2 : Option Addr) (c2 : Nat) (A3 : Option Addr) (c3 : Nat) (X Y : List Int) : Prop where
  one : wr.ownsRow w1.heap.size 3 1 (.slice A2 (2 * i) c2) (2 * i) (intC X)
  two : wr.ownsRow w1.heap.size 3 1 (.slice A3 i c3) i (intC Y)
  sep : SepV (.slice A2 (2 * i) c2) (.slice A3 i c3)
  low : Below w1.heap.size w1 wr

set_option maxRecDepth 100000 in
set_option maxHeartbeats 8000000 in
theorem law_concmoved (A : Option Addr) (n c : Nat) (L : List Int) (turn by_ : Int) (w : World) (hA : Sl w w.heap.size 1 A n c (intC L)) (hn : n = L.length) :
    Calls Try.prog 10 #[.slice A n c, .int .i64 turn, .int .i64 by_] w fun e w' => e = .returned (.bool true) ∧ Below w.heap.size w w' := by
  have HA : Hid (∀ w', Below w.heap.size w w' → Sl w' w'.heap.size 1 A n c (intC L)) := fun w' hb => hA.below hb
  have HN := Lib.hid hn
  obtain ⟨i0, ii1, ii2, ii3, ii4⟩ := info_parts Try.info3'
  clear hA hn
  by_cases h2 : 100 < n
  · go_enter Try.func10, Try.ntmps10
    go_wp2_with (go_at_call 16; refine (works5 _).mono ?_; rintro e w1 ⟨rfl, hb1⟩)
    go_ret
    exact ⟨rfl, hb1⟩
  have h3 : ¬ ((100 : Int) < (n : Int)) := by omega
  by_cases h4 : by_ < -1000
  · go_enter Try.func10, Try.ntmps10
    go_wp2_with (go_at_call 16; refine (works5 _).mono ?_; rintro e w1 ⟨rfl, hb1⟩)
    go_ret
    exact ⟨rfl, hb1⟩
  by_cases h5 : 1000 < by_
  · go_enter Try.func10, Try.ntmps10
    go_wp2_with (go_at_call 16; refine (works5 _).mono ?_; rintro e w1 ⟨rfl, hb1⟩)
    go_ret
    exact ⟨rfl, hb1⟩
  have t1 := Int.tmod_lt_of_pos turn (b := 2) (by decide)
  have t2 : -2 < turn.tmod 2 := by
    have h := Int.tmod_lt_of_pos (-turn) (b := 2) (by decide)
    rw [Int.neg_tmod] at h
    omega
  have wt : IntKind.i64.wrap (turn.tmod 2) = turn.tmod 2 := IntWalk.i64_in _ ⟨by omega, by omega⟩
  obtain ⟨od, hod⟩ : ∃ od, (turn.tmod 2 != 0) = od := ⟨_, rfl⟩
  have HAL := Lib.hid (con_all od L by_)
  have HKL := Lib.hid (kL_len od L)
  obtain ⟨is, his⟩ : ∃ is, pconB L = is := ⟨_, rfl⟩
  have HIS := Lib.hid his
  clear his t1 t2
  go_enter Try.func10, Try.ntmps10
  go_wp2_with (first
    | (at_builtin; go_loud (refine wpList_append_fresh _ rfl _ _ 23 rfl 3 i0 _ 1 8 Try.underlying23 ii1 ii2 ii3 ii4 rfl (by decide) _ rfl A n c (intC L) rfl (HA.out _ (ba w _)) (by unfold maxLen; omega) (by omega) ?_); intro A5 c5 w5 hown5 hb5; have HO5 := Lib.hid hown5; have HB5 : Hid (Below w.heap.size w w5) := bx hb5; clear hown5 hb5)
    | (go_at_call 39; refine (concordant_any A5 n c5 L _ HO5.out.sl HN.out (by omega)).mono ?_; rintro e w1 ⟨rfl, hb6⟩; rw [HIS.out]; have HB1 := Lib.hid (bt HB5.out hb6); clear hb6))
  go_loopw [10, 8, 9, 11] (fun i o u _ wr => ∃ (k : Nat) (A2 : Option Addr) (c2 : Nat) (A3 : Option Addr) (c3 : Nat), k ≤ n ∧ i = .int .i64 k ∧ o = .slice A2 (2 * k) c2 ∧ u = .slice A3 k c3 ∧ Hid (TwoR w1 wr k A2 c2 A3 c3 (othL (kL od L) k) (upsL (kL od L) by_ k))) (fun i _ _ _ _ => n - (intOf i).toNat)
  case atStart => exact ⟨0, none, 0, none, 0, by omega, rfl, rfl, rfl, ⟨World.ownsRow_nil _ _ _ _, World.ownsRow_nil _ _ _ _, fun g h => by simp [Value.ownBlock] at h, Below.refl _ _⟩⟩
  case round =>
    obtain ⟨k, A2, c2, A3, c3, hk, rfl, rfl, rfl, HR⟩ := hrel
    have HBW : Hid (Below w.heap.size w wr) := bt HB1.out HR.out.low
    by_cases hlt : k < n
    · have hkn : (k : Int) < (n : Int) := by omega
      have HO := Lib.hid (oth_succ (K := kL od L) (k := k) (by have := HKL.out; have := HN.out; omega))
      have HU := Lib.hid (ups_succ (K := kL od L) (b := by_) (k := k) (by have := HKL.out; have := HN.out; omega))
      cases od with
      | true =>
        obtain ⟨b, off, rfl, hbl, hc⟩ := (HA.out w (Below.refl _ _)).2.2 (by omega)
        have e0 : w.cell? ⟨b, off + (n - 1 - k), none⟩ = some (.int .i64 (L.getD (n - 1 - k) 0)) := hc _ _ (intC_at L (n - 1 - k) (by have := HN.out; omega))
        have HKX : Hid ((kL true L).getD k 0 = L.getD (n - 1 - k) 0) := by unfold Hid; rw [kL_rev L (by have := HN.out; omega), ← HN.out]
        have HC : Hid (∀ w', Below w.heap.size w w' → w'.cell? ⟨b, off + (n - 1 - k), none⟩ = some (.int .i64 (L.getD (n - 1 - k) 0))) := fun w' h => cell_same (h.block b hbl) e0
        clear hc e0 hbl
        generalize L.getD (n - 1 - k) 0 = x at *
        have a0 := HC.out _ HBW.out
        by_cases hx1 : x < -1099511627776
        · go_wp2_with (go_at_call 16; refine (works5 _).mono ?_; rintro e w8 ⟨rfl, hb8⟩)
          go_ret
          exact ⟨rfl, bt HBW.out hb8⟩
        by_cases hx2 : 1099511627776 < x
        · go_wp2_with (go_at_call 16; refine (works5 _).mono ?_; rintro e w8 ⟨rfl, hb8⟩)
          go_ret
          exact ⟨rfl, bt HBW.out hb8⟩
        have hwx : IntKind.i64.wrap (x + by_) = x + by_ := IntWalk.i64_in _ ⟨by omega, by omega⟩
        have hml : 2 * k + 2 ≤ maxLen := Nat.le_trans (show 2 * k + 2 ≤ 1000 by omega) (by decide)
        have hml2 : k + 1 ≤ maxLen := Nat.le_trans (show k + 1 ≤ 1000 by omega) (by decide)
        have hz1 : w1.heap.size ≤ wr.heap.size := HR.out.low.size
        rw [HKX.out] at HO HU
        go_wp2_with (fail)
        go_region_held_law (fun w' => w'.cell? ⟨b, off + (n - 1 - k), none⟩ = some (.int .i64 x))
          (first | exact HC.out _ (bt HB1.out hlow7) | exact HC.out _ HBW.out.drew | exact HC.out _ (HBW.out.drew.alloc (by exact HBW.out.size) _))
          ((refine step_append_lies _ (by rfl) _ _ _ (by rfl) w1.heap.size 3 i0 _ 1 8 Try.underlying23 ii1 ii2 ii3 ii4 rfl (by decide) (.slice A2 (2 * k) c2) (2 * k) (intC (othL (kL true L) k)) (by rfl) ((own_below HR.out.one (Below.refl _ _).drew).alloc (.cells #[.int .i64 x, .int .i64 x] 3)) ⟨wr.heap.size, 0, none⟩ 2 2 [.int .i64 x, .int .i64 x] (by rfl) rfl (World.news_of_block (cs := #[.int .i64 x, .int .i64 x]) (t := 3) (fr := (0, 0)) (heap_alloc_new wr.drew _)) (by intro u hu; simp at hu; rcases hu with rfl | rfl <;> rfl) (by decide) hml (by omega) (by first | (simp; done) | (simp; omega)) (wr.heap.size + 1) (by simp) ?_; intro g cap w7 hown7 hgrow hat hlt7; have hlow7 : Below w1.heap.size w1 w7 := Below.grown (HR.out.low.drew.alloc hz1 _) hgrow (HR.out.low.drew.alloc hz1 _).size (fun j hj => (HR.out.one.lt j hj).1)))
        all_goals (
          have hup7 := ((own_below HR.out.two (Below.refl _ _).drew).alloc (.cells #[.int .i64 x, .int .i64 x] 3)).kept hgrow HR.out.sep.right
          have hsep7 : SepV (.slice (some ⟨g, 0, none⟩) (2 * k + 2) cap) (.slice A3 k c3) := by
            intro h hh he
            obtain rfl : g = h := by simpa [Value.ownBlock] using hh
            have hl3 := (HR.out.two.lt _ he).2
            rcases hat with h1 | h1
            · exact HR.out.sep _ h1 he
            · omega
          have HW7 : Hid (Below w.heap.size w w7) := bt HB1.out hlow7
          have a7 := HC.out _ HW7.out
          have HOU := Lib.hid (And.intro hown7 (And.intro hup7 (And.intro hsep7 hlow7)))
          have hz7 : w1.heap.size ≤ w7.heap.size := hlow7.size
          clear hown7 hup7 hsep7 hlow7 hgrow hat a0
          go_wp2_with (at_builtin; go_loud (refine wpList_append_own_at _ rfl _ _ 23 rfl w1.heap.size 3 i0 _ 1 8 Try.underlying23 ii1 ii2 ii3 ii4 rfl (by decide) (.slice A3 k c3) k _ rfl (HOU.out.2.1.alloc _) ⟨w7.heap.size, 0, none⟩ 1 1 [.int .i64 (x + by_)] rfl rfl (cell_one_new _ _ _) (by simp [Value.oneCell']) hml2 (by omega) (by simp; omega) ?_))
          intro v' w8 hown8 hgrow8 _ hloc
          obtain ⟨A9, c9, rfl⟩ := own_slice hown8
          have hone8 := (HOU.out.1.alloc (.cells #[.int .i64 (x + by_)] 3)).kept hgrow8 HOU.out.2.2.1.left
          have HR8 : Hid (TwoR w1 w8 (k + 1) (some ⟨g, 0, none⟩) cap A9 c9 (othL (kL true L) (k + 1)) (upsL (kL true L) by_ (k + 1))) := by
            refine ⟨?_, ?_, ?_, ?_⟩
            · rw [HO.out, intC_app2]
              exact hone8
            · rw [HU.out, intC_appC]
              exact hown8
            · intro h hh he
              rcases hloc with h1 | h1
              · rw [h1] at he
                exact HOU.out.2.2.1 h hh he
              · rw [h1] at he
                have hl := (HOU.out.1.lt h hh).2
                simp at he
                omega
            · exact Below.grown (HOU.out.2.2.2.alloc hz7 _) hgrow8 (HOU.out.2.2.2.alloc hz7 _).size (fun j hj => (HOU.out.2.1.lt j hj).1)
          clear hone8 hown8 hgrow8 hloc
          go_wp2_with (fail)
          go_roundw
          case rel => exact ⟨k + 1, some ⟨g, 0, none⟩, cap, A9, c9, by omega, by first | rfl | go_num, by rfl, rfl, HR8⟩
          case measure => simp [intOf]; omega)
      | false =>
        obtain ⟨b, off, rfl, hbl, hc⟩ := (HA.out w (Below.refl _ _)).2.2 (by omega)
        have e0 : w.cell? ⟨b, off + k, none⟩ = some (.int .i64 (L.getD k 0)) := hc _ _ (intC_at L k (by have := HN.out; omega))
        have HKX : Hid ((kL false L).getD k 0 = L.getD k 0) := rfl
        have HC : Hid (∀ w', Below w.heap.size w w' → w'.cell? ⟨b, off + k, none⟩ = some (.int .i64 (L.getD k 0))) := fun w' h => cell_same (h.block b hbl) e0
        clear hc e0 hbl
        generalize L.getD k 0 = x at *
        have a0 := HC.out _ HBW.out
        by_cases hx1 : x < -1099511627776
        · go_wp2_with (go_at_call 16; refine (works5 _).mono ?_; rintro e w8 ⟨rfl, hb8⟩)
          go_ret
          exact ⟨rfl, bt HBW.out hb8⟩
        by_cases hx2 : 1099511627776 < x
        · go_wp2_with (go_at_call 16; refine (works5 _).mono ?_; rintro e w8 ⟨rfl, hb8⟩)
          go_ret
          exact ⟨rfl, bt HBW.out hb8⟩
        have hwx : IntKind.i64.wrap (x + by_) = x + by_ := IntWalk.i64_in _ ⟨by omega, by omega⟩
        have hml : 2 * k + 2 ≤ maxLen := Nat.le_trans (show 2 * k + 2 ≤ 1000 by omega) (by decide)
        have hml2 : k + 1 ≤ maxLen := Nat.le_trans (show k + 1 ≤ 1000 by omega) (by decide)
        have hz1 : w1.heap.size ≤ wr.heap.size := HR.out.low.size
        rw [HKX.out] at HO HU
        go_wp2_with (fail)
        go_region_held_law (fun w' => w'.cell? ⟨b, off + k, none⟩ = some (.int .i64 x))
          (first | exact HC.out _ (bt HB1.out hlow7) | exact HC.out _ HBW.out.drew | exact HC.out _ (HBW.out.drew.alloc (by exact HBW.out.size) _))
          ((refine step_append_lies _ (by rfl) _ _ _ (by rfl) w1.heap.size 3 i0 _ 1 8 Try.underlying23 ii1 ii2 ii3 ii4 rfl (by decide) (.slice A2 (2 * k) c2) (2 * k) (intC (othL (kL false L) k)) (by rfl) ((own_below HR.out.one (Below.refl _ _).drew).alloc (.cells #[.int .i64 x, .int .i64 x] 3)) ⟨wr.heap.size, 0, none⟩ 2 2 [.int .i64 x, .int .i64 x] (by rfl) rfl (World.news_of_block (cs := #[.int .i64 x, .int .i64 x]) (t := 3) (fr := (0, 0)) (heap_alloc_new wr.drew _)) (by intro u hu; simp at hu; rcases hu with rfl | rfl <;> rfl) (by decide) hml (by omega) (by first | (simp; done) | (simp; omega)) (wr.heap.size + 1) (by simp) ?_; intro g cap w7 hown7 hgrow hat hlt7; have hlow7 : Below w1.heap.size w1 w7 := Below.grown (HR.out.low.drew.alloc hz1 _) hgrow (HR.out.low.drew.alloc hz1 _).size (fun j hj => (HR.out.one.lt j hj).1)))
        all_goals (
          have hup7 := ((own_below HR.out.two (Below.refl _ _).drew).alloc (.cells #[.int .i64 x, .int .i64 x] 3)).kept hgrow HR.out.sep.right
          have hsep7 : SepV (.slice (some ⟨g, 0, none⟩) (2 * k + 2) cap) (.slice A3 k c3) := by
            intro h hh he
            obtain rfl : g = h := by simpa [Value.ownBlock] using hh
            have hl3 := (HR.out.two.lt _ he).2
            rcases hat with h1 | h1
            · exact HR.out.sep _ h1 he
            · omega
          have HW7 : Hid (Below w.heap.size w w7) := bt HB1.out hlow7
          have a7 := HC.out _ HW7.out
          have HOU := Lib.hid (And.intro hown7 (And.intro hup7 (And.intro hsep7 hlow7)))
          have hz7 : w1.heap.size ≤ w7.heap.size := hlow7.size
          clear hown7 hup7 hsep7 hlow7 hgrow hat a0
          go_wp2_with (at_builtin; go_loud (refine wpList_append_own_at _ rfl _ _ 23 rfl w1.heap.size 3 i0 _ 1 8 Try.underlying23 ii1 ii2 ii3 ii4 rfl (by decide) (.slice A3 k c3) k _ rfl (HOU.out.2.1.alloc _) ⟨w7.heap.size, 0, none⟩ 1 1 [.int .i64 (x + by_)] rfl rfl (cell_one_new _ _ _) (by simp [Value.oneCell']) hml2 (by omega) (by simp; omega) ?_))
          intro v' w8 hown8 hgrow8 _ hloc
          obtain ⟨A9, c9, rfl⟩ := own_slice hown8
          have hone8 := (HOU.out.1.alloc (.cells #[.int .i64 (x + by_)] 3)).kept hgrow8 HOU.out.2.2.1.left
          have HR8 : Hid (TwoR w1 w8 (k + 1) (some ⟨g, 0, none⟩) cap A9 c9 (othL (kL false L) (k + 1)) (upsL (kL false L) by_ (k + 1))) := by
            refine ⟨?_, ?_, ?_, ?_⟩
            · rw [HO.out, intC_app2]
              exact hone8
            · rw [HU.out, intC_appC]
              exact hown8
            · intro h hh he
              rcases hloc with h1 | h1
              · rw [h1] at he
                exact HOU.out.2.2.1 h hh he
              · rw [h1] at he
                have hl := (HOU.out.1.lt h hh).2
                simp at he
                omega
            · exact Below.grown (HOU.out.2.2.2.alloc hz7 _) hgrow8 (HOU.out.2.2.2.alloc hz7 _).size (fun j hj => (HOU.out.2.1.lt j hj).1)
          clear hone8 hown8 hgrow8 hloc
          go_wp2_with (fail)
          go_roundw
          case rel => exact ⟨k + 1, some ⟨g, 0, none⟩, cap, A9, c9, by omega, by first | rfl | go_num, by rfl, rfl, HR8⟩
          case measure => simp [intOf]; omega)
    · obtain rfl : k = n := by omega
      have hone : Sl wr wr.heap.size 1 A2 (2 * k) c2 (intC (othL (kL od L) k)) := Sl_own HR.out.one
      have htwo : Sl wr wr.heap.size 1 A3 k c3 (intC (upsL (kL od L) by_ k)) := Sl_own HR.out.two
      have HSO := Lib.hid hone
      have HST := Lib.hid htwo
      have HLO : Hid (2 * k = (othL (kL od L) k).length) := (oth_len (by have := HKL.out; have := HN.out; omega)).symm
      have HLT : Hid (k = (upsL (kL od L) by_ k).length) := (ups_len (by have := HKL.out; have := HN.out; omega)).symm
      have HE1 : Hid (pconB (othL (kL od L) k) = is) := by unfold Hid; rw [HN.out, HAL.out.1, HIS.out]
      have HE2 : Hid (pconB (upsL (kL od L) by_ k) = is) := by unfold Hid; rw [HN.out, HAL.out.2, HIS.out]
      clear hone htwo
      generalize othL (kL od L) k = X at *
      generalize upsL (kL od L) by_ k = Y at *
      cases is
      all_goals (
        go_wp2_with (first
          | (go_at_call 39; refine (concordant_any A2 (2 * k) c2 X _ HSO.out HLO.out (by omega)).mono ?_; rintro e w6 ⟨rfl, hb6⟩; rw [HE1.out]; have HC6 := Lib.hid hb6; clear hb6; clear HSO)
          | (go_at_call 39; refine (concordant_any A3 k c3 Y _ (HST.out.below HC6.out) HLT.out (by omega)).mono ?_; rintro e w7 ⟨rfl, hb7⟩; rw [HE2.out])
          | (go_at_call 16; refine (works5 _).mono ?_; rintro e w8 ⟨rfl, hb8⟩))
        go_ret
        exact ⟨rfl, bt HBW.out (bt HC6.out (bt hb7 hb8))⟩)

end Go.Proofs.Ytcebpgcmmdfccaa
