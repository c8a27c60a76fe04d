/- A list that a loop makes by append, one element a round, in memory of the call's own. -/
import Derived.Test.YtlmpoklakbjpnaaDoorCopy
import Derived.Test.YtlmpoklakbjpnaaDoorPure5
namespace Go.Proofs.YtlmpoklakbjpnaaDoor
open Go.RowKit

/-- The slice (A, k, c) owns the cells xs in blocks laid since W1; what was there at W1 is as it was. -/
structure Own1 (W1 wr : World) (e : TypeId) (size : Nat) (A : Option Addr) (k c : Nat) (xs : List Value) : Prop where
  own : wr.ownsRow W1.heap.size e size (.slice A k c) k xs
  low : Below W1.heap.size W1 wr
theorem Own1.start {W1 wr : World} (h : Below W1.heap.size W1 wr) (e : TypeId) (size : Nat) : Own1 W1 wr e size none 0 0 [] := ⟨⟨by simp, .inl ⟨rfl, rfl⟩⟩, h⟩
theorem Own1.below {W1 wr w2 : World} {e : TypeId} {size : Nat} {A : Option Addr} {k c : Nat} {xs : List Value} (h : Own1 W1 wr e size A k c xs) (hb : Below wr.heap.size wr w2) : Own1 W1 w2 e size A k c xs := ⟨own_below h.own hb, bt h.low hb⟩
theorem blk_apart {w : World} {g : Nat} {t : TypeId} {cs : Array Value} {base : Nat} {e : TypeId} {size : Nat} {v : Value} {n : Nat} {xs : List Value} (h : Blk w g t cs) (ho : w.ownsRow base e size v n xs) (hne : t ≠ e) : some g ≠ v.ownBlock := by
  rcases ho.2 with ⟨rfl, _⟩ | ⟨g', cap, cur, rfl, _, hh, _⟩
  · intro hc; cases hc
  · intro hc
    have : g = g' := by simpa [Value.ownBlock] using hc
    subst this
    unfold Blk at h
    rw [hh] at h
    injection h with h
    injection h with _ he
    exact hne he.symm
theorem Own1.step {W1 wr w2 w3 : World} {e : TypeId} {size : Nat} {A : Option Addr} {k c : Nat} {xs news : List Value} {v' : Value} {O : Obj} {B : Nat} (h : Own1 W1 wr e size A k c xs) (hb : Below wr.heap.size wr w2) (hB : B = W1.heap.size)
    (hown : w3.ownsRow B e size v' (k + 1) (xs ++ news)) (hg : (w2.alloc O).grownBy w3 (Value.slice A k c).ownBlock) :
    ∃ A' c', v' = .slice A' (k + 1) c' ∧ Own1 W1 w3 e size A' (k + 1) c' (xs ++ news) ∧ (∀ g t cs, t ≠ e → Blk wr g t cs → Blk w3 g t cs) := by
  subst hB
  obtain ⟨A', c', rfl⟩ := own_slice hown
  have h2 := h.below hb
  refine ⟨A', c', rfl, ⟨hown, ?_⟩, ?_⟩
  · refine Below.grown (h2.low.alloc h2.low.size O) hg (h2.low.alloc h2.low.size O).size (fun g hh => ?_)
    exact (h.own.lt g hh).1
  · intro g t cs hne hB
    exact ((hB.below hb).below (ba _ _)).grown hg (blk_apart hB h.own hne)
theorem Own1.sl {W1 wr : World} {e : TypeId} {size : Nat} {A : Option Addr} {k c : Nat} {xs : List Value} (h : Own1 W1 wr e size A k c xs) : Sl wr wr.heap.size size A k c xs := Sl_own h.own

def plC (L : List (Int × Int)) : List Value := L.flatMap fun x => [.int .i64 x.1, .int .i64 x.2]
theorem plC_snoc (L : List (Int × Int)) (x : Int × Int) : plC (L ++ [x]) = plC L ++ [.int .i64 x.1, .int .i64 x.2] := by simp [plC]
theorem plC_len (L : List (Int × Int)) : (plC L).length = L.length * 2 := by
  induction L with
  | nil => rfl
  | cons c r ih => simp [plC] at ih ⊢; omega
/-- A call hands back the places L and the error er. -/
def PlPost (L : List (Int × Int)) (er : Int) (w : World) (e : Ending) (w' : World) : Prop :=
  ∃ A n c, e = .returned (.tuple #[.slice A n c, .int .i64 er]) ∧ n = L.length ∧ Sl w' w'.heap.size 2 A n c (plC L) ∧ Below w.heap.size w w'
theorem plPost_none {er : Int} {w w' : World} (h : Below w.heap.size w w') : PlPost [] er w (.returned (.tuple #[.slice none 0 0, .int .i64 er])) w' := ⟨none, 0, 0, rfl, rfl, Sl.none_ _ _ _, h⟩

/-- The plain side of the two loops: acc is what has been gathered before course k (from 0), at its fret q. -/
theorem pls_enter {S : List Int} {p : Int} {C : List Cr} {k : Nat} {x : Cr} {acc : List (Int × Int)} (h : plsL S p 0 C = acc ++ plsL S p k (C.drop k)) (hd : C.drop k = x :: C.drop (k + 1)) :
    plsL S p 0 C = acc ++ (frsL S x p (k + 1) 0 (x.f.toNat + 1 - 0) ++ plsL S p (k + 1) (C.drop (k + 1))) := by
  rw [h, hd]; rfl
theorem frs_hit {S : List Int} {p : Int} {x : Cr} {i q F : Nat} {acc T tail : List (Int × Int)} (h : T = acc ++ (frsL S x p i q (F + 1 - q) ++ tail)) (hq : q ≤ F) (he : x.p + riseV S q = p) :
    T = (acc ++ [((i : Int), (q : Int))]) ++ (frsL S x p i (q + 1) (F + 1 - (q + 1)) ++ tail) := by
  rw [h, show F + 1 - q = (F + 1 - (q + 1)) + 1 by omega, frsL, if_pos he]
  simp
theorem frs_miss {S : List Int} {p : Int} {x : Cr} {i q F : Nat} {acc T tail : List (Int × Int)} (h : T = acc ++ (frsL S x p i q (F + 1 - q) ++ tail)) (hq : q ≤ F) (he : ¬ x.p + riseV S q = p) :
    T = acc ++ (frsL S x p i (q + 1) (F + 1 - (q + 1)) ++ tail) := by
  rw [h, show F + 1 - q = (F + 1 - (q + 1)) + 1 by omega, frsL, if_neg he]
  simp
theorem frs_out {S : List Int} {p : Int} {x : Cr} {i q F : Nat} {acc T tail : List (Int × Int)} (h : T = acc ++ (frsL S x p i q (F + 1 - q) ++ tail)) (hq : F < q) : T = acc ++ tail := by
  rw [h, show F + 1 - q = 0 by omega, frsL]
  simp

theorem Tryd.infoPl : (Tryd.prog.info? 116).map (fun i => (i.zero, i.size, i.bytes)) = some (some (.agg #[.int .i64 0, .int .i64 0]), 2, 16) := by kernel_rfl

end Go.Proofs.YtlmpoklakbjpnaaDoor
