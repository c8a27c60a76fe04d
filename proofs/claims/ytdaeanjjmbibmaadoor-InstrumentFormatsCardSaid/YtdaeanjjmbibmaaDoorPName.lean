/- What the program's ParseName returns. -/
import Derived.Test.YtdaeanjjmbibmaaDoorRead
namespace Go.Proofs.YtdaeanjjmbibmaaDoor
open Go.RowKit

def nmL (l : List UInt8) : Int := match pForm l with | some (n, a, o) => if rgt n a o then n else 0 | none => 0
def nmA (l : List UInt8) : Int := match pForm l with | some (n, a, o) => if rgt n a o then a else 0 | none => 0
def nmO (l : List UInt8) : Int := match pForm l with | some (n, a, o) => if rgt n a o then o else 0 | none => 0
/-- The error of a name: 4 where it has not the form, 10 where there is no such pitch. -/
def nmE (l : List UInt8) : Int := match pForm l with | some (n, a, o) => sndE n a o | none => 4

theorem bal {w W : World} (h : Below w.heap.size w W) (o : Obj) : Below w.heap.size w (W.alloc o) := h.alloc h.size o
theorem bs3 {w W : World} (h : Below w.heap.size w W) (a b c : Value) : Below w.heap.size w (((W.setCell ⟨w.heap.size, 0, none⟩ a).setCell ⟨w.heap.size, 1, none⟩ b).setCell ⟨w.heap.size, 2, none⟩ c) :=
  ((h.setCell (Nat.le_refl _) _).setCell (Nat.le_refl _) _).setCell (Nat.le_refl _) _

set_option maxHeartbeats 800000 in
theorem parseName_any (l : List UInt8) (w : World) (E : Env w) :
    Calls Tryd.prog 97 #[.string ⟨l.toArray⟩] w fun e w' => e = .returned (.tuple #[.agg #[.int .i64 (nmL l), .int .i64 (nmA l), .int .i64 (nmO l)], .int .i64 (nmE l)]) ∧ Below w.heap.size w w' := by
  have E1 := E.alloc zSp
  cases hp : pForm l with
  | none =>
    have H : Hid (nmL l = 0 ∧ nmA l = 0 ∧ nmO l = 0 ∧ nmE l = 4) := by simp [Hid, nmL, nmA, nmO, nmE, hp]
    have HP : Hid ((pForm l).isSome = false) := by unfold Hid; rw [hp]; rfl
    clear hp
    go_enter Tryd.func97, Tryd.ntmps97
    go_wp2_with (go_at_call 118; refine (readName_any _ _ E1).mono ?_; rintro e w2 ⟨n, a, o, rfl, _, hb⟩; rw [HP.out]; obtain ⟨q0, q1⟩ := keepc hb 0; obtain ⟨q2, q3⟩ := keepc hb 1; obtain ⟨q4, q5⟩ := keepc hb 2; have hz : w.heap.size < w2.heap.size := (by have := hb.size; simp at this; omega); simp at q0 q2 q4)
    refine bodyPost_ret (v := .tuple #[.agg #[.int .i64 0, .int .i64 0, .int .i64 0], .int .i64 4]) ?_ rfl ?_
    · simp [results, Tryd.results97, go_sem, q0, q2, q4, hz]
      done
    · rw [H.out.1, H.out.2.1, H.out.2.2.1, H.out.2.2.2]
      exact ⟨rfl, bal (bs3 (bx hb) _ _ _) _⟩
  | some x =>
    obtain ⟨n, a, o⟩ := x
    have HP : Hid ((pForm l).isSome = true) := by unfold Hid; rw [hp]; rfl
    have HQ := Lib.hid hp
    cases hr : rgt n a o with
    | false =>
      have H : Hid (nmL l = 0 ∧ nmA l = 0 ∧ nmO l = 0 ∧ nmE l = 10) := by simp [Hid, nmL, nmA, nmO, nmE, hp, hr, sndE]
      have HE : Hid (sndE n a o = 10) := by simp [Hid, hr, sndE]
      clear hp hr
      go_enter Tryd.func97, Tryd.ntmps97
      go_wp2_with (first | (go_at_call 118; refine (readName_any _ _ E1).mono ?_; rintro e w2 ⟨n', a', o', rfl, hq, hb⟩; obtain ⟨rfl, rfl, rfl⟩ := hq _ _ _ HQ.out; clear hq; rw [HP.out]; obtain ⟨q0, q1⟩ := keepc hb 0; obtain ⟨q2, q3⟩ := keepc hb 1; obtain ⟨q4, q5⟩ := keepc hb 2; have hz : w.heap.size < w2.heap.size := (by have := hb.size; simp at this; omega); simp at q0 q2 q4) | (go_at_call 81; refine (sounding_any _ _ _ _ ((E1.below hb).alloc _)).mono ?_; rintro e w3 ⟨rfl, hb3⟩; rw [HE.out]; have hbT := bt hb (bx hb3); obtain ⟨r0, r1⟩ := keepc hbT 0; obtain ⟨r2, r3⟩ := keepc hbT 1; obtain ⟨r4, r5⟩ := keepc hbT 2; simp at r0 r2 r4))
      refine bodyPost_ret (v := .tuple #[.agg #[.int .i64 0, .int .i64 0, .int .i64 0], .int .i64 10]) ?_ rfl ?_
      · simp [results, Tryd.results97, go_sem, r0, r2, r4]
        done
      · rw [H.out.1, H.out.2.1, H.out.2.2.1, H.out.2.2.2]
        exact ⟨rfl, bs3 (bx hbT) _ _ _⟩
    | true =>
      have H : Hid (nmL l = n ∧ nmA l = a ∧ nmO l = o ∧ nmE l = 0) := by simp [Hid, nmL, nmA, nmO, nmE, hp, hr, sndE]
      have HE : Hid (sndE n a o = 0) := by simp [Hid, hr, sndE]
      clear hp hr
      go_enter Tryd.func97, Tryd.ntmps97
      go_wp2_with (first | (go_at_call 118; refine (readName_any _ _ E1).mono ?_; rintro e w2 ⟨n', a', o', rfl, hq, hb⟩; obtain ⟨rfl, rfl, rfl⟩ := hq _ _ _ HQ.out; clear hq; rw [HP.out]; obtain ⟨q0, q1⟩ := keepc hb 0; obtain ⟨q2, q3⟩ := keepc hb 1; obtain ⟨q4, q5⟩ := keepc hb 2; have hz : w.heap.size < w2.heap.size := (by have := hb.size; simp at this; omega); simp at q0 q2 q4) | (go_at_call 81; refine (sounding_any _ _ _ _ ((E1.below hb).alloc _)).mono ?_; rintro e w3 ⟨rfl, hb3⟩; rw [HE.out]; have hbT := bt hb (bx hb3); obtain ⟨r0, r1⟩ := keepc hbT 0; obtain ⟨r2, r3⟩ := keepc hbT 1; obtain ⟨r4, r5⟩ := keepc hbT 2; simp at r0 r2 r4; obtain ⟨s0, _⟩ := keepc hb3 0; obtain ⟨s2, _⟩ := keepc hb3 1; obtain ⟨s4, _⟩ := keepc hb3 2; simp at s0 s2 s4))
      refine bodyPost_ret (v := .tuple #[.agg #[.int .i64 n, .int .i64 a', .int .i64 o'], .int .i64 0]) ?_ rfl ?_
      · simp [results, Tryd.results97, go_sem, r0, r2, r4]
        done
      · rw [H.out.1, H.out.2.1, H.out.2.2.1, H.out.2.2.2]
        exact ⟨rfl, bs3 (bx hbT) _ _ _⟩

end Go.Proofs.YtdaeanjjmbibmaaDoor
