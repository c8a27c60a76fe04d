/- The reference's list of all signs. -/
import Derived.Test.YtjobablfojnppaaDoorSgP
import Derived.Test.YtjobablfojnppaaDoorWorks2
import Derived.Test.YtjobablfojnppaaDoorOnsets
import Derived.Test.YtjobablfojnppaaDoorTkR
namespace Go.Proofs.YtjobablfojnppaaDoor
open Go Go.RowKit

theorem Own1.stepN {W1 wr w2 w3 : World} {e : TypeId} {size m : Nat} {A : Option Addr} {k c : Nat} {xs ys : List Value} {v' : Value} {O : Obj} {B : Nat} (h : Own1 W1 wr e size A k c xs) (hb : Below wr.heap.size wr w2) (hB : B = W1.heap.size)
    (hown : w3.ownsRow B e size v' m ys) (hg : (w2.alloc O).grownBy w3 (Value.slice A k c).ownBlock) : ∃ A' c', v' = .slice A' m c' ∧ Own1 W1 w3 e size A' m c' ys := by
  subst hB
  obtain ⟨A', c', rfl⟩ := own_slice hown
  have h2 := h.below hb
  refine ⟨A', c', rfl, hown, ?_⟩
  refine Below.grown (h2.low.alloc h2.low.size O) hg (h2.low.alloc h2.low.size O).size (fun g hh => ?_)
  exact (h.own.lt g hh).1

def alL (n : Nat) : List Value := (List.range n).flatMap sgL
theorem alL_len (n : Nat) : (alL n).length = n * 3 := by
  induction n with
  | zero => rfl
  | succ n ih =>
    unfold alL at ih ⊢
    rw [List.range_succ, List.flatMap_append, List.length_append, ih]
    simp [sgL]
    omega
theorem alL_succ (n : Nat) : alL (n + 1) = alL n ++ sgL n := by
  unfold alL
  rw [List.range_succ, List.flatMap_append]
  simp
theorem alL_three (k : Nat) (h : k < 6) : alL (2 + 3 * k) ++ [.int .i64 ((k : Int) + 2), .bool true, .bool false, .int .i64 ((k : Int) + 2 - 1), .bool false, .bool true, .int .i64 ((k : Int) + 2), .bool false, .bool false] = alL (2 + 3 * (k + 1)) := by
  have : k = 0 ∨ k = 1 ∨ k = 2 ∨ k = 3 ∨ k = 4 ∨ k = 5 := by omega
  rcases this with rfl | rfl | rfl | rfl | rfl | rfl <;> rfl

set_option maxRecDepth 100000 in
set_option maxHeartbeats 4000000 in
theorem rall (w : World) : Calls Tryd.prog 94 #[] w fun e w' => ∃ g cap, e = .returned (.slice (some ⟨g, 0, none⟩) 21 cap) ∧ w'.ownsRow w.heap.size 38 3 (.slice (some ⟨g, 0, none⟩) 21 cap) 21 (alL 21) ∧ Below w.heap.size w w' := by
  obtain ⟨i0, ii, hi0, hi1, hi2⟩ := info_parts (show (Tryd.prog.info? 38).map (fun i => (i.zero, i.size, i.bytes)) = some (some (.agg #[.int .i64 0, .bool false, .bool false]), 3, 16) by kernel_rfl)
  have hO0 : Own1 w (w.alloc (.cells #[.int .i64 1, .bool true, .bool false, .int .i64 1, .bool false, .bool false] 38)) 38 3 (some ⟨w.heap.size, 0, none⟩) 2 2 (alL 2) :=
    ⟨World.ownsRow_lit w #[.int .i64 1, .bool true, .bool false, .int .i64 1, .bool false, .bool false] 2 (Nat.le_refl _) (by decide) rfl, ba w _⟩
  have HO0 := Lib.hid hO0
  clear hO0
  go_enter Tryd.func94, Tryd.ntmps94
  go_wp2_with (fail)
  go_loopw [2, 1] (fun i v wr => ∃ (k : Nat) (A1 : Option Addr) (c1 : Nat), k ≤ 6 ∧ i = .int .i64 ((k : Int) + 2) ∧ v = .slice A1 (2 + 3 * k) c1 ∧ Own1 w wr 38 3 A1 (2 + 3 * k) c1 (alL (2 + 3 * k))) (fun i _ _ => 9 - (intOf i).toNat)
  case atStart => exact ⟨0, _, _, by omega, rfl, rfl, HO0.out⟩
  case round =>
    obtain ⟨k, A1, c1, hk, rfl, rfl, hO⟩ := hrel
    have HO := Lib.hid hO
    clear hO
    by_cases hlt : k < 6
    · have hle : (k : Int) + 2 ≤ 7 := by omega
      have HE := Lib.hid (alL_three k hlt)
      go_wp2_with (at_builtin; refine wpList_append_own _ rfl _ _ 71 rfl w.heap.size 38 i0 _ 3 16 Tryd.underlying71 ii hi0 hi1 hi2 rfl (by decide) (.slice A1 (2 + 3 * k) c1) (2 + 3 * k) _ rfl (HO.out.own.alloc _) ⟨wr.heap.size, 0, none⟩ 3 3 [.int .i64 ((k : Int) + 2), .bool true, .bool false, .int .i64 ((k : Int) + 2 - 1), .bool false, .bool true, .int .i64 ((k : Int) + 2), .bool false, .bool false] rfl rfl ?d1 ?d2 ?d3 ?d4 ?d5 ?_)
      case d1 => exact World.news_of_block (cs := #[.int .i64 ((k : Int) + 2), .bool true, .bool false, .int .i64 ((k : Int) + 2 - 1), .bool false, .bool true, .int .i64 ((k : Int) + 2), .bool false, .bool false]) (t := 38) (fr := (0, 0)) (heap_alloc_new wr _)
      case d2 =>
        intro u hu
        simp at hu
        (repeat' (rcases hu with rfl | hu)) <;> first | rfl | (subst hu; rfl)
      case d3 => unfold maxLen; omega
      case d4 => omega
      case d5 => have := HO.out.low.size; simp; omega
      intro v' w3 hown' hgrow _
      rw [HE.out] at hown'
      obtain ⟨A3, c3, rfl, hO3⟩ := Own1.stepN HO.out (Below.refl _ _) rfl hown' hgrow
      have HO3 := Lib.hid hO3
      clear hown' hgrow hO3
      go_wp2_with (fail)
      go_roundw
      case rel => exact ⟨k + 1, A3, c3, by omega, by go_num, by rw [show 2 + 3 * (k + 1) = 2 + 3 * k + 3 by omega], HO3.out⟩
      case measure => simp [intOf]; omega
    · obtain rfl : k = 6 := by omega
      go_wp2_with (at_builtin; refine wpList_append_own _ rfl _ _ 71 rfl w.heap.size 38 i0 _ 3 16 Tryd.underlying71 ii hi0 hi1 hi2 rfl (by decide) (.slice A1 (2 + 3 * 6) c1) (2 + 3 * 6) _ rfl (HO.out.own.alloc _) ⟨wr.heap.size, 0, none⟩ 1 1 (sgL 20) rfl rfl ?d1 ?d2 ?d3 ?d4 ?d5 ?_)
      case d1 => exact World.news_of_block (cs := #[.int .i64 7, .bool false, .bool true]) (t := 38) (fr := (0, 0)) (heap_alloc_new wr _)
      case d2 =>
        intro u hu
        simp [sgL] at hu
        (repeat' (rcases hu with rfl | hu)) <;> first | rfl | (subst hu; rfl)
      case d3 => unfold maxLen; omega
      case d4 => omega
      case d5 => have := HO.out.low.size; simp; omega
      intro v' w3 hown' hgrow _
      obtain ⟨A3, c3, rfl, hO3⟩ := Own1.stepN HO.out (Below.refl _ _) rfl hown' hgrow
      obtain ⟨g3, c4, e4⟩ := ownsRow_succ (k := 20) hO3.own
      injection e4 with e4 _ e5
      subst e4 e5
      have HO3 := Lib.hid hO3
      clear hown' hgrow hO3
      go_wp2_with (fail)
      go_ret
      exact ⟨g3, _, rfl, HO3.out.own, HO3.out.low⟩

end Go.Proofs.YtjobablfojnppaaDoor
