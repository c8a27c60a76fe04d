/- Sound: the notes of a piece in the order of their tones (inTime). -/
import Derived.Test.YtpcehgifpajmbaaGreatSndFn
import Derived.Test.YtpcehgifpajmbaaGreatShelf
import Derived.Shelf.SlSortCmp.WholeK
import Derived.Deep.RegionHeldLaw
namespace Go.Proofs.YtpcehgifpajmbaaGreat
open Go Go.RowKit Go.Sort Go.Shelf Go.Lib

instance : Inhabited Nt := ⟨zNt⟩
def encN (x : Nt) : List Value := [.int .i64 x.ev, .int .i64 x.c, .int .i64 x.p, .int .i64 x.fm, .int .i64 x.to]
def orL : List Int → Int
  | [] => 0
  | x :: r => if x = 0 then orL r else x
def cfN (x y : Nt) : Int := orL [Lib.compareInt x.fm y.fm, Lib.compareInt x.p y.p, Lib.compareInt x.to y.to]
theorem cmpI (a b : Int) : (Lib.compareInt a b = 0 ↔ a = b) ∧ (Lib.compareInt a b < 0 ↔ a < b) := by
  unfold Lib.compareInt
  by_cases h1 : a < b
  · simp [h1]; omega
  · by_cases h2 : b < a
    · simp [h1, h2]; omega
    · simp [h1, h2]; omega
theorem cfN_lt (x y : Nt) : cfN x y < 0 ↔ (x.fm < y.fm ∨ (x.fm = y.fm ∧ (x.p < y.p ∨ (x.p = y.p ∧ x.to < y.to)))) := by
  obtain ⟨a1, a2⟩ := cmpI x.fm y.fm
  obtain ⟨b1, b2⟩ := cmpI x.p y.p
  obtain ⟨c1, c2⟩ := cmpI x.to y.to
  unfold cfN orL orL orL orL
  by_cases h1 : Lib.compareInt x.fm y.fm = 0
  · rw [if_pos h1]
    have := a1.1 h1
    by_cases h2 : Lib.compareInt x.p y.p = 0
    · rw [if_pos h2]
      have := b1.1 h2
      by_cases h3 : Lib.compareInt x.to y.to = 0
      · rw [if_pos h3]
        have := c1.1 h3
        omega
      · rw [if_neg h3, c2]
        omega
    · rw [if_neg h2, b2]
      have : ¬ x.p = y.p := fun e => h2 (b1.2 e)
      omega
  · rw [if_neg h1, a2]
    have : ¬ x.fm = y.fm := fun e => h1 (a1.2 e)
    omega
theorem swoN : SWO (ltOf cfN) := by
  have hl : ∀ x y, ltOf cfN x y = true ↔ (x.fm < y.fm ∨ (x.fm = y.fm ∧ (x.p < y.p ∨ (x.p = y.p ∧ x.to < y.to)))) := fun x y => by
    unfold ltOf
    rw [decide_eq_true_iff, cfN_lt]
  refine ⟨fun x => ?_, fun x y z h1 h2 => ?_, fun x y z h1 h2 => ?_⟩
  · rw [Bool.eq_false_iff, ne_eq, hl]; omega
  · rw [hl] at *; omega
  · rw [Bool.eq_false_iff, ne_eq, hl] at *; omega

set_option maxHeartbeats 1600000 in
theorem or_any (A : Option Addr) (n c : Nat) (L : List Int) (w : World) (hA : Sl w w.heap.size 1 A n c (intC L)) (hn : n = L.length) (hlim : n ≤ 1000) :
    Calls Tryz.prog 28 #[.slice A n c] w fun e w' => e = .returned (.int .i64 (orL L)) ∧ w' = w := by
  have HN := Lib.hid hn
  have HA := Lib.hid hA
  clear hn hA
  go_enter Tryz.func28, Tryz.ntmps28
  go_wp2_with (fail)
  go_loop [8, 5] (fun i _ => ∃ k : Nat, k ≤ n ∧ i = .int .i64 k ∧ Hid (orL L = orL (L.drop k))) (fun i _ => n - (intOf i).toNat)
  case atStart => exact ⟨0, by omega, rfl, rfl⟩
  case round =>
    obtain ⟨k, hk, rfl, HR⟩ := hrel
    by_cases hlt : k < n
    · have hkn : (k : Int) < (n : Int) := by omega
      obtain ⟨b, off, rfl, hb, hc⟩ := HA.out.2.2 (by omega)
      have a0 := hc _ _ (intC_at L k (by have := HN.out; omega))
      have HD := Lib.hid (drop_cons L k (by have := HN.out; omega))
      clear hc hb
      generalize L.getD k 0 = x at *
      by_cases hx : x = 0
      · subst hx
        have HR2 : Hid (orL L = orL (L.drop (k + 1))) := by unfold Hid; rw [HR.out, HD.out, orL, if_pos rfl]
        go_wp2_with (fail)
        go_round
        case rel => exact ⟨k + 1, by omega, by first | rfl | go_num, HR2.out⟩
        case measure => simp [intOf]; omega
      · have hxb : (x == 0) = false := by simpa using hx
        have HR2 : Hid (orL L = x) := by unfold Hid; rw [HR.out, HD.out, orL, if_neg hx]
        go_wp2_with (fail)
        go_ret
        exact ⟨ret_int HR2.out.symm, rfl⟩
    · have hkn : ¬ ((k : Int) < (n : Int)) := by omega
      have HR2 : Hid (orL L = 0) := by unfold Hid; rw [HR.out, List.drop_of_length_le (by have := HN.out; omega)]; rfl
      go_wp2_with (fail)
      go_ret
      exact ⟨ret_int HR2.out.symm, rfl⟩

theorem sl3 (w : World) (k1 k2 k3 : Int) : Sl (w.alloc (.cells #[.int .i64 k1, .int .i64 k2, .int .i64 k3] 3)) (w.alloc (.cells #[.int .i64 k1, .int .i64 k2, .int .i64 k3] 3)).heap.size 1 (some ⟨w.heap.size, 0, none⟩) 3 3 (intC [k1, k2, k3]) := by
  have h : Blk (w.alloc (.cells #[.int .i64 k1, .int .i64 k2, .int .i64 k3] 3)) w.heap.size 3 #[.int .i64 k1, .int .i64 k2, .int .i64 k3] := heap_alloc_new w _
  refine ⟨Nat.le_refl _, rfl, fun _ => ⟨w.heap.size, 0, rfl, h.lt, fun j u hu => ?_⟩⟩
  rw [Nat.zero_add, h.cell j, ← Array.getElem?_toList]
  exact hu
abbrev ntO (x : Nt) : Obj := .cells #[.int .i64 x.ev, .int .i64 x.c, .int .i64 x.p, .int .i64 x.fm, .int .i64 x.to] 52
set_option maxRecDepth 100000 in
set_option maxHeartbeats 800000 in
theorem inTime1_any (x y : Nt) (w : World) : Calls Tryz.prog 27 #[.agg (encN x).toArray, .agg (encN y).toArray] w fun e w' => e = .returned (.int .i64 (cfN x y)) ∧ ∃ q os, w' = grow (w.drewN q) os := by
  obtain ⟨xe, xc, xp, xf, xt⟩ := x
  obtain ⟨ye, yc, yp, yf, yt⟩ := y
  show Calls Tryz.prog 27 #[.agg #[.int .i64 xe, .int .i64 xc, .int .i64 xp, .int .i64 xf, .int .i64 xt], .agg #[.int .i64 ye, .int .i64 yc, .int .i64 yp, .int .i64 yf, .int .i64 yt]] w _
  have HCF : Hid (cfN ⟨xe, xc, xp, xf, xt⟩ ⟨ye, yc, yp, yf, yt⟩ = orL [Lib.compareInt xf yf, Lib.compareInt xp yp, Lib.compareInt xt yt]) := rfl
  have CC := Lib.hid (fun x y w => Tryz.cmp_Compare_int x y w)
  have HX0 : Blk (w.alloc (ntO ⟨xe, xc, xp, xf, xt⟩)) w.heap.size 52 #[.int .i64 xe, .int .i64 xc, .int .i64 xp, .int .i64 xf, .int .i64 xt] := heap_alloc_new w _
  have HX := Lib.hid (HX0.below (ba _ (ntO ⟨ye, yc, yp, yf, yt⟩)))
  have HY : Hid (Blk ((w.alloc (ntO ⟨xe, xc, xp, xf, xt⟩)).alloc (ntO ⟨ye, yc, yp, yf, yt⟩)) (w.heap.size + 1) 52 #[.int .i64 ye, .int .i64 yc, .int .i64 yp, .int .i64 yf, .int .i64 yt]) := by
    have := heap_alloc_new (w.alloc (ntO ⟨xe, xc, xp, xf, xt⟩)) (ntO ⟨ye, yc, yp, yf, yt⟩)
    rwa [World.size_alloc] at this
  have HC : Hid (∀ w', Below ((w.alloc (ntO ⟨xe, xc, xp, xf, xt⟩)).alloc (ntO ⟨ye, yc, yp, yf, yt⟩)).heap.size ((w.alloc (ntO ⟨xe, xc, xp, xf, xt⟩)).alloc (ntO ⟨ye, yc, yp, yf, yt⟩)) w' → (w'.cell? ⟨w.heap.size, 2, none⟩ = some (.int .i64 xp) ∧ w'.cell? ⟨w.heap.size, 3, none⟩ = some (.int .i64 xf) ∧ w'.cell? ⟨w.heap.size, 4, none⟩ = some (.int .i64 xt)) ∧ w'.cell? ⟨w.heap.size + 1, 2, none⟩ = some (.int .i64 yp) ∧ w'.cell? ⟨w.heap.size + 1, 3, none⟩ = some (.int .i64 yf) ∧ w'.cell? ⟨w.heap.size + 1, 4, none⟩ = some (.int .i64 yt)) := fun w' hb => by
    have h1 := HX.out.below hb
    have h2 := HY.out.below hb
    have a2 := h1.cell 2
    have a3 := h1.cell 3
    have a4 := h1.cell 4
    have b2 := h2.cell 2
    have b3 := h2.cell 3
    have b4 := h2.cell 4
    simp at a2 a3 a4 b2 b3 b4
    exact ⟨⟨a2, a3, a4⟩, b2, b3, b4⟩
  clear HX0
  generalize cfN ⟨xe, xc, xp, xf, xt⟩ ⟨ye, yc, yp, yf, yt⟩ = r at *
  generalize hk1 : Lib.compareInt xf yf = k1 at *
  generalize hk2 : Lib.compareInt xp yp = k2 at *
  generalize hk3 : Lib.compareInt xt yt = k3 at *
  have HK1 := Lib.hid hk1
  have HK2 := Lib.hid hk2
  have HK3 := Lib.hid hk3
  clear hk1 hk2 hk3
  go_enter Tryz.func27, Tryz.ntmps27
  go_wp2_with (fail)
  obtain ⟨w2, hw2⟩ : ∃ w2, w2 = (w.alloc (ntO ⟨xe, xc, xp, xf, xt⟩)).alloc (ntO ⟨ye, yc, yp, yf, yt⟩) := ⟨_, rfl⟩
  rw [← hw2] at HC ⊢
  have HW2 := Lib.hid hw2
  have HB0 : Hid (Below w2.heap.size w2 w2.drew) := (Below.refl _ _).drew
  have hz2 : w.heap.size + 1 < w2.heap.size := by rw [hw2]; simp
  have HSL : Hid (Sl (w2.alloc (.cells #[.int .i64 k1, .int .i64 k2, .int .i64 k3] 3)).drew (w2.alloc (.cells #[.int .i64 k1, .int .i64 k2, .int .i64 k3] 3)).drew.heap.size 1 (some ⟨w2.heap.size, 0, none⟩) 3 3 (intC [k1, k2, k3])) := sl3 w2 k1 k2 k3
  clear hw2 HX HY
  go_region_held_law (fun w' => (w'.cell? ⟨w.heap.size, 2, none⟩ = some (.int .i64 xp) ∧ w'.cell? ⟨w.heap.size, 3, none⟩ = some (.int .i64 xf) ∧ w'.cell? ⟨w.heap.size, 4, none⟩ = some (.int .i64 xt)) ∧ w'.cell? ⟨w.heap.size + 1, 2, none⟩ = some (.int .i64 yp) ∧ w'.cell? ⟨w.heap.size + 1, 3, none⟩ = some (.int .i64 yf) ∧ w'.cell? ⟨w.heap.size + 1, 4, none⟩ = some (.int .i64 yt))
    (first | (with_reducible exact HC.out _ HB0.out) | (with_reducible exact HC.out _ (ba w2 _).drew))
    (first
      | (go_at_call 29; refine (CC.out _ _ _).mono ?_; rintro e w' ⟨rfl, rfl⟩; first | rw [HK1.out] | rw [HK2.out] | rw [HK3.out])
      | (go_at_call 28; refine (or_any _ 3 _ [k1, k2, k3] _ HSL.out rfl (by decide)).mono ?_; rintro e w' ⟨rfl, rfl⟩))
  all_goals (
    go_wp2_with (fail)
    go_ret
    refine ⟨ret_int HCF.out.symm, 1, #[ntO ⟨xe, xc, xp, xf, xt⟩, ntO ⟨ye, yc, yp, yf, yt⟩, .cells #[.int .i64 k1, .int .i64 k2, .int .i64 k3] 3], ?_⟩
    rw [HW2.out, alloc_eq_grow, alloc_eq_grow, alloc_eq_grow, grow_grow, grow_grow]
    rfl)

end Go.Proofs.YtpcehgifpajmbaaGreat
