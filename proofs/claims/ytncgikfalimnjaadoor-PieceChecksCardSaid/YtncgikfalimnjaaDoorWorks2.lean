/- Law 02's look at the chapter's examples returns true, in every world that holds the table of signs. -/
import Derived.Test.YtncgikfalimnjaaDoorCkZ
import Derived.Test.YtncgikfalimnjaaDoorSigns
namespace Go.Proofs.YtncgikfalimnjaaDoor
open Go Go.RowKit

theorem sl_lit {w W : World} {cs : Array Value} {T : TypeId} {n size : Nat} {xs : List Value} (h : Below (w.alloc (.cells cs T)).heap.size (w.alloc (.cells cs T)) W) (hx : cs.toList = xs) (hn : xs.length = n * size) : Sl W W.heap.size size (some ⟨w.heap.size, 0, none⟩) n n xs := by
  refine ⟨Nat.le_refl _, hn, fun _ => ⟨_, _, rfl, by have := h.size; simp at this; omega, fun j u hj => ?_⟩⟩
  have := (keepb h j).1
  rw [Nat.zero_add, this, ← Array.getElem?_toList, hx]
  exact hj
theorem tm_W (sk : Nat) : ((tmL [e0W sk, e1W] 0 0 false false 0).map fun x => Value.int .i64 x.to) = [.int .i64 96, .int .i64 144] := rfl

set_option maxHeartbeats 1600000 in
theorem pw_made (w1 : World) : PW ((((((w1.alloc (.cells #[.int .i64 60, .int .i64 2, .bool false] 71)).alloc (.cells #[.int .i64 1, .int .i64 2] 3)).alloc (.cells #[.slice (some ⟨w1.heap.size, 0, none⟩) 1 1, .slice (some ⟨w1.heap.size + 1, 0, none⟩) 2 2] 34)).alloc (.cells #[.int .i64 1, .int .i64 2, .int .i64 0, .int .i64 0, .int .i64 1] 73)).alloc (.cells #[.bool false, .int .i64 3, .bool false, .bool false, .bool false, .slice (some ⟨w1.heap.size + 1 + 1 + 1, 0, none⟩) 1 1, .bool false, .int .i64 4, .bool false, .bool false, .bool true, .slice none 0 0] 62)).alloc (.cells #[.slice (some ⟨w1.heap.size, 0, none⟩) 1 1, .slice (some ⟨w1.heap.size + 1, 0, none⟩) 2 2, .slice (some ⟨w1.heap.size + 1 + 1 + 1 + 1, 0, none⟩) 2 2] 37)) w1.heap.size (w1.heap.size + 1) (w1.heap.size + 1 + 1 + 1 + 1) (w1.heap.size + 1 + 1 + 1) := by
  have b5 := ba (((((w1.alloc (.cells #[.int .i64 60, .int .i64 2, .bool false] 71)).alloc (.cells #[.int .i64 1, .int .i64 2] 3)).alloc (.cells #[.slice (some ⟨w1.heap.size, 0, none⟩) 1 1, .slice (some ⟨w1.heap.size + 1, 0, none⟩) 2 2] 34)).alloc (.cells #[.int .i64 1, .int .i64 2, .int .i64 0, .int .i64 0, .int .i64 1] 73)).alloc (.cells #[.bool false, .int .i64 3, .bool false, .bool false, .bool false, .slice (some ⟨w1.heap.size + 1 + 1 + 1, 0, none⟩) 1 1, .bool false, .int .i64 4, .bool false, .bool false, .bool true, .slice none 0 0] 62)) (.cells #[.slice (some ⟨w1.heap.size, 0, none⟩) 1 1, .slice (some ⟨w1.heap.size + 1, 0, none⟩) 2 2, .slice (some ⟨w1.heap.size + 1 + 1 + 1 + 1, 0, none⟩) 2 2] 37)
  have b4 := bt (ba ((((w1.alloc (.cells #[.int .i64 60, .int .i64 2, .bool false] 71)).alloc (.cells #[.int .i64 1, .int .i64 2] 3)).alloc (.cells #[.slice (some ⟨w1.heap.size, 0, none⟩) 1 1, .slice (some ⟨w1.heap.size + 1, 0, none⟩) 2 2] 34)).alloc (.cells #[.int .i64 1, .int .i64 2, .int .i64 0, .int .i64 0, .int .i64 1] 73)) (.cells #[.bool false, .int .i64 3, .bool false, .bool false, .bool false, .slice (some ⟨w1.heap.size + 1 + 1 + 1, 0, none⟩) 1 1, .bool false, .int .i64 4, .bool false, .bool false, .bool true, .slice none 0 0] 62)) b5
  have b3 := bt (ba (((w1.alloc (.cells #[.int .i64 60, .int .i64 2, .bool false] 71)).alloc (.cells #[.int .i64 1, .int .i64 2] 3)).alloc (.cells #[.slice (some ⟨w1.heap.size, 0, none⟩) 1 1, .slice (some ⟨w1.heap.size + 1, 0, none⟩) 2 2] 34)) (.cells #[.int .i64 1, .int .i64 2, .int .i64 0, .int .i64 0, .int .i64 1] 73)) b4
  have b2 := bt (ba ((w1.alloc (.cells #[.int .i64 60, .int .i64 2, .bool false] 71)).alloc (.cells #[.int .i64 1, .int .i64 2] 3)) (.cells #[.slice (some ⟨w1.heap.size, 0, none⟩) 1 1, .slice (some ⟨w1.heap.size + 1, 0, none⟩) 2 2] 34)) b3
  have b1 := bt (ba (w1.alloc (.cells #[.int .i64 60, .int .i64 2, .bool false] 71)) (.cells #[.int .i64 1, .int .i64 2] 3)) b2
  have hz : ((((((w1.alloc (.cells #[.int .i64 60, .int .i64 2, .bool false] 71)).alloc (.cells #[.int .i64 1, .int .i64 2] 3)).alloc (.cells #[.slice (some ⟨w1.heap.size, 0, none⟩) 1 1, .slice (some ⟨w1.heap.size + 1, 0, none⟩) 2 2] 34)).alloc (.cells #[.int .i64 1, .int .i64 2, .int .i64 0, .int .i64 0, .int .i64 1] 73)).alloc (.cells #[.bool false, .int .i64 3, .bool false, .bool false, .bool false, .slice (some ⟨w1.heap.size + 1 + 1 + 1, 0, none⟩) 1 1, .bool false, .int .i64 4, .bool false, .bool false, .bool true, .slice none 0 0] 62)).alloc (.cells #[.slice (some ⟨w1.heap.size, 0, none⟩) 1 1, .slice (some ⟨w1.heap.size + 1, 0, none⟩) 2 2, .slice (some ⟨w1.heap.size + 1 + 1 + 1 + 1, 0, none⟩) 2 2] 37)).heap.size = w1.heap.size + 6 := by simp
  have s1 := sl_lit (w := w1) (size := 3) (n := 1) b1 rfl rfl
  have s2 := sl_lit (w := (w1.alloc (.cells #[.int .i64 60, .int .i64 2, .bool false] 71))) (size := 1) (n := 2) b2 rfl rfl
  rw [show (w1.alloc (.cells #[.int .i64 60, .int .i64 2, .bool false] 71)).heap.size = w1.heap.size + 1 by simp] at s2
  refine ⟨s1, s2, by simpa using (keepb b1 1).1, ⟨by simpa using (keepb b5 0).1, by simpa using (keepb b5 1).1, by simpa using (keepb b5 2).1, by simpa using (keepb b5 3).1, by simpa using (keepb b5 4).1, by simpa using (keepb b5 5).1⟩, ⟨by simpa using (keepb b5 6).1, by simpa using (keepb b5 7).1, by simpa using (keepb b5 8).1, by simpa using (keepb b5 9).1, by simpa using (keepb b5 10).1, by simpa using (keepb b5 11).1⟩,
    ⟨by simpa using (keepb b4 0).1, by simpa using (keepb b4 1).1, by simpa using (keepb b4 2).1, by simpa using (keepb b4 3).1, by simpa using (keepb b4 4).1⟩, by omega, by omega, by omega⟩

set_option maxRecDepth 100000 in
set_option maxHeartbeats 3200000 in
theorem works2 (w : World) (hT : SgT w) : Calls Tryd.prog 16 #[] w fun e w' => e = .returned (.bool true) ∧ Below w.heap.size w w' := by
  have HT := Lib.hid hT
  clear hT
  go_enter Tryd.func16, Tryd.ntmps16
  go_wp2_with (go_at_call 17; refine (signs120 _ HT.out).mono ?_; rintro e w1 ⟨v, rfl, hr, hb1⟩; obtain ⟨g, cap, rfl⟩ := ownsRow_succ hr; have HR := Lib.hid hr; clear hr)
  have hP := pw_made w1
  have hb6 : Below w1.heap.size w1 ((((((w1.alloc (.cells #[.int .i64 60, .int .i64 2, .bool false] 71)).alloc (.cells #[.int .i64 1, .int .i64 2] 3)).alloc (.cells #[.slice (some ⟨w1.heap.size, 0, none⟩) 1 1, .slice (some ⟨w1.heap.size + 1, 0, none⟩) 2 2] 34)).alloc (.cells #[.int .i64 1, .int .i64 2, .int .i64 0, .int .i64 0, .int .i64 1] 73)).alloc (.cells #[.bool false, .int .i64 3, .bool false, .bool false, .bool false, .slice (some ⟨w1.heap.size + 1 + 1 + 1, 0, none⟩) 1 1, .bool false, .int .i64 4, .bool false, .bool false, .bool true, .slice none 0 0] 62)).alloc (.cells #[.slice (some ⟨w1.heap.size, 0, none⟩) 1 1, .slice (some ⟨w1.heap.size + 1, 0, none⟩) 2 2, .slice (some ⟨w1.heap.size + 1 + 1 + 1 + 1, 0, none⟩) 2 2] 37)) := bt (ba _ _) (bt (ba _ _) (bt (ba _ _) (bt (ba _ _) (bt (ba _ _) (ba _ _)))))
  obtain ⟨W6, hW6⟩ : ∃ W6, ((((((w1.alloc (.cells #[.int .i64 60, .int .i64 2, .bool false] 71)).alloc (.cells #[.int .i64 1, .int .i64 2] 3)).alloc (.cells #[.slice (some ⟨w1.heap.size, 0, none⟩) 1 1, .slice (some ⟨w1.heap.size + 1, 0, none⟩) 2 2] 34)).alloc (.cells #[.int .i64 1, .int .i64 2, .int .i64 0, .int .i64 0, .int .i64 1] 73)).alloc (.cells #[.bool false, .int .i64 3, .bool false, .bool false, .bool false, .slice (some ⟨w1.heap.size + 1 + 1 + 1, 0, none⟩) 1 1, .bool false, .int .i64 4, .bool false, .bool false, .bool true, .slice none 0 0] 62)).alloc (.cells #[.slice (some ⟨w1.heap.size, 0, none⟩) 1 1, .slice (some ⟨w1.heap.size + 1, 0, none⟩) 2 2, .slice (some ⟨w1.heap.size + 1 + 1 + 1 + 1, 0, none⟩) 2 2] 37)) = W6 := ⟨_, rfl⟩
  rw [hW6] at hP hb6 ⊢
  clear hW6
  refine (onsets_ok (some ⟨w1.heap.size, 0, none⟩) 1 1 (some ⟨w1.heap.size + 1, 0, none⟩) 2 2 (w1.heap.size + 1 + 1 + 1 + 1) 0 2 2 [e0W (w1.heap.size + 1 + 1 + 1), e1W] rfl (by decide) W6 hP.heb (fun k x hk => by
      match k, hk with
      | 0, hk => obtain rfl : e0W _ = x := by simpa using hk
                 exact hP.ev0
      | 1, hk => obtain rfl : e1W = x := by simpa using hk
                 exact hP.ev1)
    (fun o => check_W _ _ _ _ _ (hP.below (ba W6 o)))).mono ?_
  rintro e w3 ⟨v, rfl, hr2, hb3⟩
  rw [tm_W] at hr2
  obtain ⟨g2, cap2, rfl⟩ := ownsRow_succ hr2
  have hl := own_below HR.out (bt hb6 hb3)
  have l0 := World.ownsRow.cellAt hl 0 (by decide)
  have l1 := World.ownsRow.cellAt hl 1 (by decide)
  have l2 := World.ownsRow.cellAt hl 2 (by decide)
  have l3 := World.ownsRow.cellAt hl 3 (by decide)
  have l4 := World.ownsRow.cellAt hl 4 (by decide)
  have l5 := World.ownsRow.cellAt hl 5 (by decide)
  have m1 := World.ownsRow.cellAt hr2 1 (by decide)
  have m2 := World.ownsRow.cellAt hr2 2 (by decide)
  simp [sgL, sgv] at l0 l1 l2 l3 l4 l5 m1 m2
  clear hl hr2 hP
  go_wp2_with (fail)
  go_ret
  exact ⟨rfl, bt hb1 (bt hb6 hb3)⟩

end Go.Proofs.YtncgikfalimnjaaDoor
