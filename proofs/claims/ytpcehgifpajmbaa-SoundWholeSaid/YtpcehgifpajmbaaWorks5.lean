/- Sound: the look at an example (law 05's works). -/
import Derived.Test.YtpcehgifpajmbaaSndAt2
import Derived.Test.YtpcehgifpajmbaaConc
namespace Go.Proofs.Ytpcehgifpajmbaa
open Go Go.RowKit

def exC : List Cr := [⟨60, 3, false⟩, ⟨48, 0, true⟩]
def exS : List Int := [1, 2, 3]
def exP : List EvP := [⟨false, 4, false, false, false, [⟨1, 3, 0, 0, 0⟩, ⟨2, 0, 0, 0, 0⟩]⟩, ⟨false, 0, false, false, false, [⟨1, 0, 0, 0, 0⟩]⟩]
theorem ex1 : pcErr exC exS exP = 0 := by kernel_rfl
theorem ex2 : ntL exC exS exP = [⟨0, 1, 63, 0, 48⟩, ⟨0, 2, 48, 0, 96⟩, ⟨1, 1, 60, 48, 96⟩] := by kernel_rfl
theorem ex3 : atLs exC exS exP 0 = [48, 60, 63] := by kernel_rfl
theorem ex4 : atEr exC exS exP 0 = 0 := by kernel_rfl
theorem ex5 : pconB [48, 55, 64] = true := by kernel_rfl

theorem Sl_blk {w : World} {g size n : Nat} {cs : Array Value} {t : TypeId} {xs : List Value} (h : w.heap[g]? = some (.cells cs t (0, 0))) (he : cs.toList = xs) (hl : xs.length = n * size) : Sl w w.heap.size size (some ⟨g, 0, none⟩) n n xs := by
  refine ⟨Nat.le_refl _, hl, fun _ => ⟨g, 0, rfl, (Array.getElem?_eq_some_iff.1 h).1, fun j u hu => ?_⟩⟩
  rw [Nat.zero_add, cell_of_row w g j cs t (0, 0) h, ← Array.getElem?_toList, he]
  exact hu
abbrev exO0 : Obj := .cells #[.int .i64 60, .int .i64 3, .bool false, .int .i64 48, .int .i64 0, .bool true] 52
abbrev exO1 : Obj := .cells #[.int .i64 1, .int .i64 2, .int .i64 3] 3
abbrev exO2 (s : Nat) : Obj := .cells #[.slice (some ⟨s, 0, none⟩) 2 2, .slice (some ⟨s + 1, 0, none⟩) 3 3] 25
abbrev exO3 : Obj := .cells #[.int .i64 1, .int .i64 3, .int .i64 0, .int .i64 0, .int .i64 0, .int .i64 2, .int .i64 0, .int .i64 0, .int .i64 0, .int .i64 0] 56
abbrev exO4 : Obj := .cells #[.int .i64 1, .int .i64 0, .int .i64 0, .int .i64 0, .int .i64 0] 56
abbrev exO5 (s : Nat) : Obj := .cells #[.bool false, .int .i64 4, .bool false, .bool false, .bool false, .slice (some ⟨s + 3, 0, none⟩) 2 2, .bool false, .int .i64 0, .bool false, .bool false, .bool false, .slice (some ⟨s + 4, 0, none⟩) 1 1] 59
abbrev exW (w : World) : World := (((((w.alloc exO0).alloc exO1).alloc (exO2 w.heap.size)).alloc exO3).alloc exO4).alloc (exO5 w.heap.size)
theorem ex_pc (w : World) : PcIn (exW w) (some ⟨w.heap.size, 0, none⟩) 2 2 (some ⟨w.heap.size + 1, 0, none⟩) 3 3 (some ⟨w.heap.size + 5, 0, none⟩) 2 2 exC exS exP := by
  have h0 : (w.alloc exO0).heap[w.heap.size]? = some exO0 := heap_alloc_new w _
  have h1 : ((w.alloc exO0).alloc exO1).heap[w.heap.size + 1]? = some exO1 := by have := heap_alloc_new (w.alloc exO0) exO1; rwa [World.size_alloc] at this
  have h3 : ((((w.alloc exO0).alloc exO1).alloc (exO2 w.heap.size)).alloc exO3).heap[w.heap.size + 3]? = some exO3 := by
    have := heap_alloc_new (((w.alloc exO0).alloc exO1).alloc (exO2 w.heap.size)) exO3
    rwa [World.size_alloc, World.size_alloc, World.size_alloc] at this
  have h4 : (((((w.alloc exO0).alloc exO1).alloc (exO2 w.heap.size)).alloc exO3).alloc exO4).heap[w.heap.size + 4]? = some exO4 := by
    have := heap_alloc_new ((((w.alloc exO0).alloc exO1).alloc (exO2 w.heap.size)).alloc exO3) exO4
    rwa [World.size_alloc, World.size_alloc, World.size_alloc, World.size_alloc] at this
  have h5 : (exW w).heap[w.heap.size + 5]? = some (exO5 w.heap.size) := by
    have := heap_alloc_new (((((w.alloc exO0).alloc exO1).alloc (exO2 w.heap.size)).alloc exO3).alloc exO4) (exO5 w.heap.size)
    rwa [World.size_alloc, World.size_alloc, World.size_alloc, World.size_alloc, World.size_alloc] at this
  have b1 := ba (w.alloc exO0) exO1
  have b2 := bt b1 (ba _ (exO2 w.heap.size))
  have b3 := bt b2 (ba _ exO3)
  have b4 := bt b3 (ba _ exO4)
  have b5 : Below _ _ (exW w) := bt b4 (ba _ (exO5 w.heap.size))
  have c2 := ba ((w.alloc exO0).alloc exO1) (exO2 w.heap.size)
  have c5 : Below _ _ (exW w) := bt (bt (bt c2 (ba _ exO3)) (ba _ exO4)) (ba _ (exO5 w.heap.size))
  have d5 : Below _ _ (exW w) := bt (ba ((((w.alloc exO0).alloc exO1).alloc (exO2 w.heap.size)).alloc exO3) exO4) (ba _ (exO5 w.heap.size))
  have e5 : Below _ _ (exW w) := ba (((((w.alloc exO0).alloc exO1).alloc (exO2 w.heap.size)).alloc exO3).alloc exO4) (exO5 w.heap.size)
  refine ⟨(Sl_blk h0 rfl rfl).below b5, (Sl_blk h1 rfl rfl).below c5, rfl, rfl, rfl, [⟨false, 4, false, false, false, some ⟨w.heap.size + 3, 0, none⟩, 2, 2⟩, ⟨false, 0, false, false, false, some ⟨w.heap.size + 4, 0, none⟩, 1, 1⟩], ⟨rfl, fun k x y hx hy => ?_⟩, Sl_blk h5 rfl rfl⟩
  match k with
  | 0 =>
    simp [exP] at hx hy
    subst hx hy
    exact ⟨⟨rfl, rfl, rfl, rfl, rfl, rfl⟩, (Sl_blk h3 rfl rfl).below d5⟩
  | 1 =>
    simp [exP] at hx hy
    subst hx hy
    exact ⟨⟨rfl, rfl, rfl, rfl, rfl, rfl⟩, (Sl_blk h4 rfl rfl).below e5⟩
  | k + 2 => simp at hx

abbrev exO6 (s : Nat) : Obj := .cells #[.slice (some ⟨s, 0, none⟩) 2 2, .slice (some ⟨s + 1, 0, none⟩) 3 3, .slice (some ⟨s + 5, 0, none⟩) 2 2] 28
set_option maxRecDepth 100000 in
set_option maxHeartbeats 4000000 in
theorem works5 (w : World) : Calls Try.prog 7 #[] w fun e w' => e = .returned (.bool true) ∧ Below w.heap.size w w' := by
  have HPC : Hid (∀ w', Below (exW w).heap.size (exW w) w' → PcIn w' (some ⟨w.heap.size, 0, none⟩) 2 2 (some ⟨w.heap.size + 1, 0, none⟩) 3 3 (some ⟨w.heap.size + 5, 0, none⟩) 2 2 exC exS exP) := fun w' h => (ex_pc w).below h
  have HB : Hid (Below w.heap.size w (exW w)) := by
    refine bt (bt (bt (bt (bt (ba w _) (ba _ _)) (ba _ _)) (ba _ _)) (ba _ _)) (ba _ _)
  have HST : Hid (∀ y ∈ exP, y.L.length ≤ 1000000) := by
    intro y hy
    simp [exP] at hy
    rcases hy with rfl | rfl <;> decide
  go_enter Try.func7, Try.ntmps7
  go_wp2_with (first
    | (go_at_call 21; refine (notes_any _ _ _ _ _ _ _ _ _ exC exS exP _ (HPC.out _ (ba _ (exO6 w.heap.size))) (by decide) (by decide) (by decide) HST.out).mono ?_; rintro e w1 ⟨B1, n1, d1, rfl, hn1, hs1, hb1⟩; rw [ex2] at hn1 hs1; rw [ex1]; simp only [List.length_cons, List.length_nil, Nat.zero_add, Nat.reduceAdd] at hn1; subst hn1; have HS1 := Lib.hid hs1; have HB1 : Hid (Below (exW w).heap.size (exW w) w1) := bt (ba _ (exO6 w.heap.size)) hb1; obtain ⟨p0, p1, p2⟩ := cell3 hb1; simp only [World.size_alloc] at p0 p1 p2; clear hs1)
    | (go_at_call 19; refine (atS_any _ _ _ _ _ _ _ _ _ exC exS exP 0 _ (HPC.out _ HB1.out) (by decide) (by decide) (by decide) HST.out).mono ?_; rintro e w2 ⟨B2, n2, d2, rfl, hn2, hs2, hb2⟩; rw [ex3] at hn2 hs2; rw [ex4]; simp only [List.length_cons, List.length_nil, Nat.zero_add, Nat.reduceAdd] at hn2; subst hn2; obtain ⟨g2, o2, rfl, hg2, hc2⟩ := hs2.2.2 (by decide); obtain ⟨g1, o1, rfl, hg1, hc1⟩ := (HS1.out.below hb2).2.2 (by decide); have HB2 := Lib.hid (bt HB1.out hb2); have x0 := hc1 0 _ rfl; have x1 := hc1 1 _ rfl; have x2 := hc1 2 _ rfl; have x3 := hc1 3 _ rfl; have x4 := hc1 4 _ rfl; have x5 := hc1 5 _ rfl; have x6 := hc1 6 _ rfl; have x7 := hc1 7 _ rfl; have x8 := hc1 8 _ rfl; have x9 := hc1 9 _ rfl; have y0 := hc2 0 _ rfl; have y1 := hc2 1 _ rfl; have y2 := hc2 2 _ rfl; simp only [Nat.add_zero] at x0 y0; clear hc1 hc2 hs2 p0 p1 p2)
    | (go_at_call 22; refine (concordant_any (some ⟨w2.heap.size, 0, none⟩) 3 3 [48, 55, 64] _ (Sl_blk (heap_alloc_new w2 (.cells #[.int .i64 48, .int .i64 55, .int .i64 64] 3)) rfl rfl) rfl (by decide)).mono ?_; rintro e w3 ⟨rfl, hb3⟩; rw [ex5]))
  go_ret
  exact ⟨rfl, bt (bt HB.out HB2.out) (bx hb3)⟩

end Go.Proofs.Ytpcehgifpajmbaa
