/- Pieces: a hold that is too long. -/
import Derived.Test.YtdhjigaocamglaaDoorQdSameI2
namespace Go.Proofs.YtdhjigaocamglaaDoor
open Go Go.RowKit

def htS (s : St) : Bool := decide (15 < s.h)
def htE (y : EvP) : Bool := y.L.any htS
set_option maxRecDepth 100000 in
set_option maxHeartbeats 1600000 in
theorem htl1_any (s : St) (w : World) : Calls Tryd.prog 76 #[stV s] w fun e w' => e = .returned (.bool (htS s)) ∧ Below w.heap.size w w' := by
  obtain ⟨c, f, r, g, h⟩ := s
  have H : Hid (htS ⟨c, f, r, g, h⟩ = decide (15 < h)) := rfl
  rw [H.out]
  go_enter Tryd.func76, Tryd.ntmps76
  go_wp2_with (fail)
  go_ret
  exact ⟨rfl, ba w _⟩

set_option maxRecDepth 100000 in
set_option maxHeartbeats 1600000 in
theorem idxS_any (A : Option Addr) (n c : Nat) (L : List St) (w : World) (hA : Sl w w.heap.size 5 A n c (stC L)) (hn : n = L.length) (hb : n ≤ 1000000) :
    Calls Tryd.prog 87 #[.slice A n c, .func (.func 76) #[] #[]] w fun e w' => ∃ i : Int, e = .returned (.int .i64 i) ∧ Hid (decide (0 ≤ i) = L.any htS) ∧ Below w.heap.size w w' := by
  have HA := Lib.hid hA
  have HN := Lib.hid hn
  clear hA hn
  go_enter Tryd.func87, Tryd.ntmps87
  go_wp2_with (fail)
  go_loopw [8] (fun iv wr => ∃ k : Nat, k ≤ n ∧ iv = .int .i64 k ∧ Hid ((L.take k).any htS = false) ∧ Hid (Below w.heap.size w wr)) (fun iv _ => n - (intOf iv).toNat)
  case atStart => exact ⟨0, by omega, rfl, by simp [Hid], Below.refl _ _⟩
  case round =>
    obtain ⟨k, hk, rfl, HT, HB⟩ := hrel
    by_cases hlt : k < n
    · have hkn : (k : Int) < (n : Int) := by omega
      obtain ⟨b, off, rfl, hB, _, hPk, c0, c1, c2, c3, c4⟩ := st_at (HA.out.below HB.out) HN.out hlt
      have HPK := Lib.hid hPk
      clear hPk
      generalize L.getD k z5 = x at *
      obtain ⟨sc, sf, sr, sg, sh⟩ := x
      dsimp only at c0 c1 c2 c3 c4
      have HCL := Lib.hid (htl1_any ⟨sc, sf, sr, sg, sh⟩ wr)
      cases hp : htS ⟨sc, sf, sr, sg, sh⟩ with
      | true =>
        rw [hp] at HCL
        have HR : Hid (L.any htS = true) := List.any_eq_true.2 ⟨_, List.mem_of_getElem? HPK.out, hp⟩
        clear hp
        go_wp2_with (go_at_call 76; refine HCL.out.mono ?_; rintro e w2 ⟨rfl, hb2⟩)
        go_ret
        exact ⟨k, rfl, by unfold Hid; rw [HR.out]; simp, bt HB.out hb2⟩
      | false =>
        rw [hp] at HCL
        have HT2 : Hid ((L.take (k + 1)).any htS = false) := by
          unfold Hid
          rw [List.take_add_one, HPK.out, List.any_append, HT.out]
          simp [hp]
        clear hp
        go_wp2_with (go_at_call 76; refine HCL.out.mono ?_; rintro e w2 ⟨rfl, hb2⟩)
        go_roundw
        case rel => exact ⟨k + 1, by omega, by first | rfl | go_num, HT2.out, bt HB.out hb2⟩
        case measure => simp [intOf]; omega
    · have hkn : ¬ ((k : Int) < (n : Int)) := by omega
      have HR : Hid (L.any htS = false) := by
        have := HT.out
        rw [List.take_of_length_le (by have := HN.out; omega)] at this
        exact this
      go_wp2_with (fail)
      go_ret
      exact ⟨-1, rfl, by unfold Hid; rw [HR.out]; rfl, HB.out⟩
set_option maxRecDepth 100000 in
set_option maxHeartbeats 1600000 in
theorem conS_any (A : Option Addr) (n c : Nat) (L : List St) (w : World) (hA : Sl w w.heap.size 5 A n c (stC L)) (hn : n = L.length) (hb : n ≤ 1000000) :
    Calls Tryd.prog 75 #[.slice A n c, .func (.func 76) #[] #[]] w fun e w' => e = .returned (.bool (L.any htS)) ∧ Below w.heap.size w w' := by
  have HC := Lib.hid (idxS_any A n c L w hA hn hb)
  clear hA hn hb
  go_enter Tryd.func75, Tryd.ntmps75
  go_wp2_with (go_at_call 87; refine HC.out.mono ?_; rintro e w2 ⟨i, rfl, HI, hb2⟩)
  go_ret
  exact ⟨ret_bool HI.out, hb2⟩

set_option maxRecDepth 100000 in
set_option maxHeartbeats 1600000 in
theorem htl_any (y : EvP) (sa : Option Addr) (sc : Nat) (w : World) (hA : Sl w w.heap.size 5 sa y.L.length sc (stC y.L)) (hb : y.L.length ≤ 1000000) :
    Calls Tryd.prog 52 #[evV y.bar y.v y.d y.t y.tie sa y.L.length sc] w fun e w' => e = .returned (.bool (htE y)) ∧ Below w.heap.size w w' := by
  obtain ⟨yb, yv, yd, yt, yi, yL⟩ := y
  dsimp only at hA hb ⊢
  have HC : Hid (∀ w', Below w.heap.size w w' → Calls Tryd.prog 75 #[.slice sa yL.length sc, .func (.func 76) #[] #[]] w' fun e w2 => e = .returned (.bool (htE ⟨yb, yv, yd, yt, yi, yL⟩)) ∧ Below w'.heap.size w' w2) := fun w' h => conS_any sa yL.length sc yL w' (hA.below h) rfl hb
  clear hA
  generalize htE ⟨yb, yv, yd, yt, yi, yL⟩ = X at *
  generalize yL.length = nl at *
  go_enter Tryd.func52, Tryd.ntmps52
  go_wp2_with (go_at_call 75; refine (HC.out _ (ba w _)).mono ?_; rintro e w2 ⟨rfl, hb2⟩)
  go_ret
  exact ⟨rfl, bx hb2⟩

set_option maxRecDepth 100000 in
set_option maxHeartbeats 1600000 in
theorem idxE_any (A : Option Addr) (n c : Nat) (L : List EvP) (w : World) (hA : EsIn w A n c L) (hst : ∀ y ∈ L, y.L.length ≤ 1000000) (hb : n ≤ 1000000) :
    Calls Tryd.prog 74 #[.slice A n c, .func (.func 52) #[] #[]] w fun e w' => ∃ i : Int, e = .returned (.int .i64 i) ∧ Hid (decide (0 ≤ i) = L.any htE) ∧ Below w.heap.size w w' := by
  have HA : Hid (∀ w', Below w.heap.size w w' → EsIn w' A n c L) := fun w' h => hA.below h
  have HN := Lib.hid hA.hq
  have HST := Lib.hid hst
  clear hA hst
  go_enter Tryd.func74, Tryd.ntmps74
  go_wp2_with (fail)
  go_loopw [8] (fun iv wr => ∃ k : Nat, k ≤ n ∧ iv = .int .i64 k ∧ Hid ((L.take k).any htE = false) ∧ Hid (Below w.heap.size w wr)) (fun iv _ => n - (intOf iv).toNat)
  case atStart => exact ⟨0, by omega, rfl, by simp [Hid], Below.refl _ _⟩
  case round =>
    obtain ⟨k, hk, rfl, HT, HB⟩ := hrel
    by_cases hlt : k < n
    · have hkn : (k : Int) < (n : Int) := by omega
      obtain ⟨b, off, sa, sc, rfl, hB, hPk, _, ⟨c0, c1, c2, c3, c4, c5⟩, hS⟩ := (HA.out _ HB.out).at hlt
      have hyl := HST.out _ (List.mem_of_getElem? hPk)
      have HS := Lib.hid hS
      clear hS
      have HPK := Lib.hid hPk
      clear hPk
      generalize L.getD k z6 = x at *
      obtain ⟨yb, yv, yd, yt, yi, yL⟩ := x
      dsimp only at c0 c1 c2 c3 c4 c5 hyl HS
      have HCL := Lib.hid (htl_any ⟨yb, yv, yd, yt, yi, yL⟩ sa sc wr HS.out hyl)
      clear HS
      generalize yL.length = nl at *
      cases hp : htE ⟨yb, yv, yd, yt, yi, yL⟩ with
      | true =>
        rw [hp] at HCL
        have HR : Hid (L.any htE = true) := List.any_eq_true.2 ⟨_, List.mem_of_getElem? HPK.out, hp⟩
        clear hp
        go_wp2_with (go_at_call 52; refine HCL.out.mono ?_; rintro e w2 ⟨rfl, hb2⟩)
        go_ret
        exact ⟨k, rfl, by unfold Hid; rw [HR.out]; simp, bt HB.out hb2⟩
      | false =>
        rw [hp] at HCL
        have HT2 : Hid ((L.take (k + 1)).any htE = false) := by
          unfold Hid
          rw [List.take_add_one, HPK.out, List.any_append, HT.out]
          simp [hp]
        clear hp
        go_wp2_with (go_at_call 52; refine HCL.out.mono ?_; rintro e w2 ⟨rfl, hb2⟩)
        go_roundw
        case rel => exact ⟨k + 1, by omega, by first | rfl | go_num, HT2.out, bt HB.out hb2⟩
        case measure => simp [intOf]; omega
    · have hkn : ¬ ((k : Int) < (n : Int)) := by omega
      have HR : Hid (L.any htE = false) := by
        have := HT.out
        rw [List.take_of_length_le (by have := HN.out; omega)] at this
        exact this
      go_wp2_with (fail)
      go_ret
      exact ⟨-1, rfl, by unfold Hid; rw [HR.out]; rfl, HB.out⟩
set_option maxRecDepth 100000 in
set_option maxHeartbeats 1600000 in
theorem conE_any (A : Option Addr) (n c : Nat) (L : List EvP) (w : World) (hA : EsIn w A n c L) (hst : ∀ y ∈ L, y.L.length ≤ 1000000) (hb : n ≤ 1000000) :
    Calls Tryd.prog 51 #[.slice A n c, .func (.func 52) #[] #[]] w fun e w' => e = .returned (.bool (L.any htE)) ∧ Below w.heap.size w w' := by
  have HC := Lib.hid (idxE_any A n c L w hA hst hb)
  clear hA hst hb
  go_enter Tryd.func51, Tryd.ntmps51
  go_wp2_with (go_at_call 74; refine HC.out.mono ?_; rintro e w2 ⟨i, rfl, HI, hb2⟩)
  go_ret
  exact ⟨ret_bool HI.out, hb2⟩

end Go.Proofs.YtdhjigaocamglaaDoor
