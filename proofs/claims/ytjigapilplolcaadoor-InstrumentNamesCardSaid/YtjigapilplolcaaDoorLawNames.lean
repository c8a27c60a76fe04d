/- The law InstrumentNames returns true for every text, in every world that holds the program's tables. -/
import Derived.Test.YtjigapilplolcaaDoorWorks
import Derived.Test.YtjigapilplolcaaDoorRefName
namespace Go.Proofs.YtjigapilplolcaaDoor
open Go.RowKit

set_option maxHeartbeats 16000000 in
theorem law_names_of (RPa : ∀ (l : List UInt8) (w : World), l.length < 4294967200 → Calls Tryd.prog 24 #[.string ⟨l.toArray⟩] w fun e w' => e = .returned (.tuple #[.agg #[.int .i64 (nmL l), .int .i64 (nmA l), .int .i64 (nmO l)], .int .i64 (nmE l)]) ∧ Below w.heap.size w w')
    (l : List UInt8) (w : World) (E : Env w) :
    Calls Tryd.prog 5 #[.string ⟨l.toArray⟩] w fun e w' => e = .returned (.bool true) ∧ Below w.heap.size w w' := by
  by_cases h : 4096 < (l.length : Int)
  · clear RPa
    go_enter Tryd.func5, Tryd.ntmps5
    go_wp2_with (go_at_call 20; refine (works_any _ E).mono ?_; rintro e w7 ⟨rfl, hb7⟩)
    go_ret
    exact ⟨rfl, hb7⟩
  · have hs : l.length < 4294967200 := by omega
    have RP := Lib.hid (RPa l)
    clear RPa
    go_enter Tryd.func5, Tryd.ntmps5
    go_wp2_with (fail)
    refine (parseName_any _ _ E).mono ?_
    rintro e w1 ⟨rfl, hb1⟩
    generalize nmL l = L at *
    generalize nmA l = A at *
    generalize nmO l = O at *
    generalize nmE l = e at *
    go_wp2_with (fail)
    refine (RP.out _ hs).mono ?_
    rintro e w2 ⟨rfl, hb2⟩
    go_wp2_with (fail)
    have hT := bal hb2 (.cells #[.int .i64 L, .int .i64 A, .int .i64 O] 28)
    obtain ⟨c0, _⟩ := keepc hT 0
    obtain ⟨c1, _⟩ := keepc hT 1
    obtain ⟨c2, _⟩ := keepc hT 2
    obtain ⟨r0, _⟩ := keepc (Below.refl (w2.alloc (.cells #[.int .i64 L, .int .i64 A, .int .i64 O] 28)).heap.size (w2.alloc (.cells #[.int .i64 L, .int .i64 A, .int .i64 O] 28))) 0
    obtain ⟨r1, _⟩ := keepc (Below.refl (w2.alloc (.cells #[.int .i64 L, .int .i64 A, .int .i64 O] 28)).heap.size (w2.alloc (.cells #[.int .i64 L, .int .i64 A, .int .i64 O] 28))) 1
    obtain ⟨r2, _⟩ := keepc (Below.refl (w2.alloc (.cells #[.int .i64 L, .int .i64 A, .int .i64 O] 28)).heap.size (w2.alloc (.cells #[.int .i64 L, .int .i64 A, .int .i64 O] 28))) 2
    have hz0 : w1.heap.size < w2.heap.size := by have := hb2.size; simp at this; omega
    have hz1 : w1.heap.size < (w2.alloc (.cells #[.int .i64 L, .int .i64 A, .int .i64 O] 28)).heap.size := by simp; omega
    have hz2 : w2.heap.size < (w2.alloc (.cells #[.int .i64 L, .int .i64 A, .int .i64 O] 28)).heap.size := by simp
    have hW := bx hT
    have EW : Env (w2.alloc (.cells #[.int .i64 L, .int .i64 A, .int .i64 O] 28)).drew := (E.below hb1).below (hW.drew)
    simp at c0 c1 c2
    replace r0 := r0.trans (show _ = some (Value.int .i64 L) from rfl)
    replace r1 := r1.trans (show _ = some (Value.int .i64 A) from rfl)
    replace r2 := r2.trans (show _ = some (Value.int .i64 O) from rfl)
    go_region_held3 (fun w' => w'.cell? ⟨w1.heap.size, 0, none⟩ = some (.int .i64 L) ∧ w'.cell? ⟨w1.heap.size, 1, none⟩ = some (.int .i64 A) ∧ w'.cell? ⟨w1.heap.size, 2, none⟩ = some (.int .i64 O) ∧ w'.cell? ⟨w2.heap.size, 0, none⟩ = some (.int .i64 L) ∧ w'.cell? ⟨w2.heap.size, 1, none⟩ = some (.int .i64 A) ∧ w'.cell? ⟨w2.heap.size, 2, none⟩ = some (.int .i64 O))
      (first
        | exact ⟨c0, c1, c2, r0, r1, r2⟩
        | exact ⟨((bcell hb5).1 _ _ hz1).trans c0, ((bcell hb5).1 _ _ hz1).trans c1, ((bcell hb5).1 _ _ hz1).trans c2, ((bcell hb5).1 _ _ hz2).trans r0, ((bcell hb5).1 _ _ hz2).trans r1, ((bcell hb5).1 _ _ hz2).trans r2⟩
        | exact ⟨((bcell (bt hb5 hb7)).1 _ _ hz1).trans c0, ((bcell (bt hb5 hb7)).1 _ _ hz1).trans c1, ((bcell (bt hb5 hb7)).1 _ _ hz1).trans c2, ((bcell (bt hb5 hb7)).1 _ _ hz2).trans r0, ((bcell (bt hb5 hb7)).1 _ _ hz2).trans r1, ((bcell (bt hb5 hb7)).1 _ _ hz2).trans r2⟩)
      (first
        | (go_at_call 17; refine (own_any _ _ _ _).mono ?_; rintro e w5 ⟨rfl, hb5⟩)
        | (go_at_call 20; refine (works_any _ (EW.below hb5)).mono ?_; rintro e w7 ⟨rfl, hb7⟩))
    go_wp2_with (fail)
    go_ret
    exact ⟨rfl, bt hb1 (bt hW.drew (bt hb5 hb7))⟩

end Go.Proofs.YtjigapilplolcaaDoor
