/- The law InstrumentSpells returns true for every pitch and key, in every world that holds the program's tables. -/
import Derived.Test.YtbjmlbmkfgocdaaDoorWorks
import Derived.Test.YtbjmlbmkfgocdaaDoorRefSpell
namespace Go.Proofs.YtbjmlbmkfgocdaaDoor
open Go.RowKit

set_option maxHeartbeats 16000000 in
theorem law_spells (p key : Int) (w : World) (E : Env w) :
    Calls Tryd.prog 3 #[.int .i64 p, .int .i64 key] w fun e w' => e = .returned (.bool true) ∧ Below w.heap.size w w' := by
  have HSP := Lib.hid (spell_any p key w E)
  have HRS := Lib.hid (rspell_any p key)
  generalize spL p key = L at *
  generalize spAl p key = A at *
  generalize spOc p key = O at *
  generalize spE p key = e at *
  go_enter Tryd.func3, Tryd.ntmps3
  go_wp2_with (fail)
  refine HSP.out.mono ?_
  rintro e w1 ⟨rfl, hb1⟩
  go_wp2_with (fail)
  refine (HRS.out _).mono ?_
  rintro e w2 ⟨rfl, hb2⟩
  go_wp2_with (fail)
  have hT := bal hb2 (.cells #[.int .i64 L, .int .i64 A, .int .i64 O] 27)
  obtain ⟨c0, _⟩ := keepc hT 0
  obtain ⟨c1, _⟩ := keepc hT 1
  obtain ⟨c2, _⟩ := keepc hT 2
  obtain ⟨r0, _⟩ := keepc (Below.refl (w2.alloc (.cells #[.int .i64 L, .int .i64 A, .int .i64 O] 27)).heap.size (w2.alloc (.cells #[.int .i64 L, .int .i64 A, .int .i64 O] 27))) 0
  obtain ⟨r1, _⟩ := keepc (Below.refl (w2.alloc (.cells #[.int .i64 L, .int .i64 A, .int .i64 O] 27)).heap.size (w2.alloc (.cells #[.int .i64 L, .int .i64 A, .int .i64 O] 27))) 1
  obtain ⟨r2, _⟩ := keepc (Below.refl (w2.alloc (.cells #[.int .i64 L, .int .i64 A, .int .i64 O] 27)).heap.size (w2.alloc (.cells #[.int .i64 L, .int .i64 A, .int .i64 O] 27))) 2
  have hz0 : w1.heap.size < w2.heap.size := by have := hb2.size; simp at this; omega
  have hz1 : w1.heap.size < (w2.alloc (.cells #[.int .i64 L, .int .i64 A, .int .i64 O] 27)).heap.size := by simp; omega
  have hz2 : w2.heap.size < (w2.alloc (.cells #[.int .i64 L, .int .i64 A, .int .i64 O] 27)).heap.size := by simp
  have hW := bx hT
  have EW : Env (w2.alloc (.cells #[.int .i64 L, .int .i64 A, .int .i64 O] 27)).drew := (E.below hb1).below (hW.drew)
  simp at c0 c1 c2
  replace r0 := r0.trans (show _ = some (Value.int .i64 L) from rfl)
  replace r1 := r1.trans (show _ = some (Value.int .i64 A) from rfl)
  replace r2 := r2.trans (show _ = some (Value.int .i64 O) from rfl)
  go_region_held3 (fun w' => w'.cell? ⟨w1.heap.size, 0, none⟩ = some (.int .i64 L) ∧ w'.cell? ⟨w1.heap.size, 1, none⟩ = some (.int .i64 A) ∧ w'.cell? ⟨w1.heap.size, 2, none⟩ = some (.int .i64 O) ∧ w'.cell? ⟨w2.heap.size, 0, none⟩ = some (.int .i64 L) ∧ w'.cell? ⟨w2.heap.size, 1, none⟩ = some (.int .i64 A) ∧ w'.cell? ⟨w2.heap.size, 2, none⟩ = some (.int .i64 O))
    (first
      | exact ⟨c0, c1, c2, r0, r1, r2⟩
      | exact ⟨((bcell hb5).1 _ _ hz1).trans c0, ((bcell hb5).1 _ _ hz1).trans c1, ((bcell hb5).1 _ _ hz1).trans c2, ((bcell hb5).1 _ _ hz2).trans r0, ((bcell hb5).1 _ _ hz2).trans r1, ((bcell hb5).1 _ _ hz2).trans r2⟩
      | exact ⟨((bcell (bt hb5 hb7)).1 _ _ hz1).trans c0, ((bcell (bt hb5 hb7)).1 _ _ hz1).trans c1, ((bcell (bt hb5 hb7)).1 _ _ hz1).trans c2, ((bcell (bt hb5 hb7)).1 _ _ hz2).trans r0, ((bcell (bt hb5 hb7)).1 _ _ hz2).trans r1, ((bcell (bt hb5 hb7)).1 _ _ hz2).trans r2⟩)
    (first
      | (go_at_call 17; refine (own_any _ _ _ _).mono ?_; rintro e w5 ⟨rfl, hb5⟩)
      | (go_at_call 18; refine (works_any _ (EW.below hb5)).mono ?_; rintro e w7 ⟨rfl, hb7⟩))
  go_wp2_with (fail)
  go_ret
  exact ⟨rfl, bt hb1 (bt hW.drew (bt hb5 hb7))⟩

end Go.Proofs.YtbjmlbmkfgocdaaDoor
