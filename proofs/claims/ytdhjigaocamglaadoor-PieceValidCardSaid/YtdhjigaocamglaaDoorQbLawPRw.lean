/- Pieces: the strokes of a piece, and that rewriting keeps them. -/
import Derived.Test.YtdhjigaocamglaaDoorQbVb
import Derived.Test.YtdhjigaocamglaaDoorQbCmp9C
import Derived.Test.YtdhjigaocamglaaDoorQbRefFew
import Derived.Deep.CutRange
import Derived.Test.YtdhjigaocamglaaDoorQbSameI2
import Derived.Test.YtdhjigaocamglaaDoorQbWorks2
namespace Go.Proofs.YtdhjigaocamglaaDoor
open Go Go.RowKit

def pre {α : Type} (E : Nat → List α) : Nat → List α
  | 0 => []
  | k + 1 => pre E k ++ E k
/-! ### Break -/
/-! ### Join -/
end Go.Proofs.YtdhjigaocamglaaDoor

/- Pieces: where the events of a broken piece stand, what the law on bar lines asks. -/
namespace Go.Proofs.YtdhjigaocamglaaDoor
open Go Go.RowKit

theorem eqL_mv (B : List Int) (i : Nat) : ∀ L : List St, eqL pqEqB L (L.map (mvS B i)) = true
  | [] => rfl
  | s :: L => by
    have h := eqL_mv B i L
    have e : pqEqB s (mvS B i s) = true := by simp [pqEqB, mvS]
    rw [List.map_cons, eqL, e, h]
    rfl
theorem sumL_up : ∀ (F : List Sg) (a : Int), (∀ s ∈ F, 0 < tkS s) → ∀ (i : Nat), i < F.length → (a :: sumL a F).getD i 0 < (a :: sumL a F).getD (i + 1) 0
  | [], _, _, i, hi => by simp at hi
  | s :: F, a, h, 0, _ => by
    have := h s (List.mem_cons_self ..)
    simp [sumL]
    omega
  | s :: F, a, h, i + 1, hi => by
    have := sumL_up F (a + tkS s) (fun x hx => h x (List.mem_cons_of_mem _ hx)) i (by simpa using hi)
    simpa [sumL] using this
theorem onT_lt {P : List EvP} (h : ∀ s ∈ frcL s0g P, 0 < tkS s) {j k : Nat} (hjk : j < k) (hk : k ≤ P.length) : onT P j < onT P k := by
  induction k with
  | zero => omega
  | succ k ih =>
    have h1 : onT P k < onT P (k + 1) := sumL_up (frcL s0g P) 0 h k (by rw [frcL_len]; omega)
    by_cases e : j = k
    · rw [e]; exact h1
    · have := ih (by omega) (by omega)
      omega
theorem okB_tk {v : Int} {d t : Bool} (h : okB v d t = true) : 4 ≤ tkV v d t ∧ tkV v d t ≤ 576 := by
  obtain ⟨i, hi, hq⟩ := sgn_idx h
  have h4 := tks_four hi
  have e1 : v = (soQ i).v := by rw [hq]
  have e2 : d = (soQ i).d := by rw [hq]
  have e3 : t = (soQ i).t := by rw [hq]
  rw [e1, e2, e3]
  exact h4
theorem frc_pos {C : List Cr} {S : List Int} {P : List EvP} (h0 : pcErr C S P = 0) : ∀ s ∈ frcL s0g P, 0 < tkS s := fun s hs => by
  have := okB_tk (frc_ok0 h0 s hs)
  unfold tkS
  omega
/-- Where the events of a piece begin in the broken one. -/
structure BarB (P Q : List EvP) (β : Nat → Nat) : Prop where
  z : β 0 = 0
  e : β P.length = Q.length
  lt : ∀ i, i < P.length → β i < β (i + 1)
  le : ∀ i, i ≤ P.length → β i ≤ Q.length
  t : ∀ i, i ≤ P.length → onT Q (β i) = onT P i
  up : ∀ j k, j < k → k ≤ Q.length → onT Q j < onT Q k
  pl : ∀ i, i < P.length → eqL pqEqB (P.getD i z6).L (Q.getD (β i) z6).L = true
theorem bars_ok {C : List Cr} {S : List Int} {P : List EvP} {bar : Int} (h0 : pcErr C S P = 0) (he : brErr 0 bar P = 0) : 1 ≤ bar ∧ barOk bar 0 (brRes bar P) ∧ (∀ y ∈ brRes bar P, okB y.v y.d y.t = true) ∧ ∃ β, BarB P (brRes bar P) β := by
  have hv := break_valid h0 he
  unfold brErr at he
  rw [if_neg (by simp)] at he
  by_cases hb : bar < 1 ∨ 4608 < bar
  · rw [if_pos hb] at he; cases he
  rw [if_neg hb] at he
  unfold brRes at hv ⊢
  cases ha : brAll bar P with
  | none => rw [ha] at he; cases he
  | some a =>
    rw [ha] at hv
    dsimp only at hv ⊢
    have hI := break_own h0 (by omega) ha
    obtain ⟨t1, t2, t3⟩ := break_time h0 (by omega) ha
    have hlen : (tpL P).length = P.length := tmPL_len P 0 0 false false 0
    have hbd : ∀ i, i < P.length → 0 ≤ a.bc.getD i 0 ∧ a.bc.getD i 0 < a.ev.length := fun i h => hI.bd i (by rw [hlen]; exact h)
    have hinc : ∀ i k, i < k → k < P.length → a.bc.getD i 0 < a.bc.getD k 0 := fun i k h1 h2 => hI.inc i k h1 (by rw [hlen]; exact h2)
    have hok : ∀ y ∈ mvL a.bc P P.length a.ev, okB y.v y.d y.t = true := fun y' hy' => by
      obtain ⟨j, hj, rfl⟩ := List.getElem_of_mem hy'
      have hj' := List.getElem?_eq_getElem hj
      have hje : j < a.ev.length := by rwa [mvL_len] at hj
      have hy := List.getElem?_eq_getElem hje
      have hok := (hI.ev j _ hy).2.1
      rcases mvL_at a.bc P a.ev j _ hy P.length with ⟨_, _, _, _, e⟩ | ⟨_, e⟩
      · rw [hj'] at e
        injection e with e
        rw [e]; exact hok
      · rw [hj'] at e
        injection e with e
        rw [e]; exact hok
    have htime : ∀ j, j ≤ a.ev.length → onT (mvL a.bc P P.length a.ev) j = evT (a.ev.take j) := fun j hj => by
      rw [onT_ev hok (by rw [mvL_len]; exact hj), evT_mv]
    have hb0 : 0 < P.length → a.bc.getD 0 0 = 0 := fun h => by
      have hb := hbd 0 h
      obtain ⟨_, _, i, p, e3, e4, e5, _⟩ := hI.ev 0 _ (List.getElem?_eq_getElem (show 0 < a.ev.length by omega))
      rcases Nat.eq_zero_or_pos i with e | e
      · rw [e] at e4; omega
      · have h1 := hinc 0 i e (by have := (List.getElem?_eq_some_iff.1 e3).1; rwa [hlen] at this)
        omega
    have hnil : P.length = 0 → a.ev.length = 0 := fun h => by
      rcases Nat.eq_zero_or_pos a.ev.length with e | e
      · exact e
      · obtain ⟨_, _, i, p, e3, _⟩ := hI.ev 0 _ (List.getElem?_eq_getElem e)
        have := (List.getElem?_eq_some_iff.1 e3).1
        rw [hlen] at this
        omega
    refine ⟨by omega, barOk_stE _ _ _ (mvL_stE _ _ _ _).symm t3, hok, fun i => if i < P.length then (a.bc.getD i 0).toNat else a.ev.length, ?_, ?_, fun i hi => ?_, fun i hi => ?_, fun i hi => ?_, fun j k h1 h2 => onT_lt (frc_pos hv) h1 h2, fun i hi => ?_⟩
    · split
      · rename_i h
        rw [hb0 h]; rfl
      · rename_i h
        exact hnil (by omega)
    · rw [if_neg (by omega), mvL_len]
    · have h1 := hbd i hi
      rw [if_pos hi]
      split
      · rename_i h
        have := hinc i (i + 1) (by omega) h
        omega
      · omega
    · rw [mvL_len]
      split
      · rename_i h
        have := hbd i h
        omega
      · omega
    · split
      · rename_i h
        have h1 := hbd i h
        rw [htime _ (by omega), t1 i h]
      · rename_i h
        rw [htime _ (Nat.le_refl _), List.take_length, t2, show i = P.length by omega]
    · rw [if_pos hi]
      have hbi := hbd i hi
      have hy := List.getElem?_eq_getElem (show (a.bc.getD i 0).toNat < a.ev.length by omega)
      have hL := (hI.ev _ _ hy).1
      rcases mvL_at a.bc P a.ev _ _ hy P.length with ⟨i2, g1, g2, g3, e⟩ | ⟨g1, e⟩
      · have e2 : i2 = i := by
          have hb2 := hbd i2 g1
          rcases Nat.lt_trichotomy i2 i with h | h | h
          · have := hinc i2 i h hi; omega
          · exact h
          · have := hinc i i2 h g1; omega
        rw [getD_get e, e2]
        exact eqL_mv _ _ _
      · rw [getD_get e, hL, g1 i hi rfl]
        rfl
end Go.Proofs.YtdhjigaocamglaaDoor

/- Pieces: Join of the reference. -/
namespace Go.Proofs.YtdhjigaocamglaaDoor
open Go Go.RowKit

end Go.Proofs.YtdhjigaocamglaaDoor

/- The law PieceRewrites returns true for every piece. -/
namespace Go.Proofs.YtdhjigaocamglaaDoor
open Go Go.RowKit

theorem rwO_unit (st : Unit → TmP → Unit × EvP) (X : List TmP) : (rwO st () X).1 = X.map fun p => (st () p).2 := by
  have : ∀ (X : List TmP) (o : List EvP), (X.foldl (fun a p => (a.1 ++ [(st a.2 p).2], (st a.2 p).1)) (o, ())).1 = o ++ X.map fun p => (st () p).2 := by
    intro X
    induction X with
    | nil => intro o; simp
    | cons p r ih =>
      intro o
      rw [List.foldl_cons]
      show (List.foldl _ (o ++ [(st () p).2], ()) r).1 = _
      rw [ih]
      simp
  unfold rwO
  rw [this]
  simp
theorem tmPL_map : ∀ (P : List EvP) (n : Nat) (v : Int) (d t : Bool) (fm : Int), (tmPL P n v d t fm).map TmP.y = P
  | [], _, _, _, _, _ => rfl
  | y :: r, n, v, d, t, fm => by
    unfold tmPL
    split <;> simp [tmPL_map r]
theorem bare_out (P : List EvP) : (rwO bareSt () (tpL P)).1 = P.map bareE := by
  rw [rwO_unit]
  have := tmPL_map P 0 0 false false 0
  conv => rhs; rw [← this]
  rw [List.map_map]
  rfl
theorem setG_Lb {P : List EvP} {F : List Sg} {N : Nat} (h : ∀ y ∈ P, y.L.length ≤ N) : ∀ y ∈ setG P F, y.L.length ≤ N := fun y hy => by
  have h1 : y.L ∈ (setG P F).map EvP.L := List.mem_map_of_mem hy
  rw [setG_mapL] at h1
  obtain ⟨z, hz, he⟩ := List.mem_map.1 h1
  rw [← he]
  exact h z hz
/-- What the law keeps: the given piece, its box, and the boxes of the two results. -/
structure RwT (W0 W : World) (b gg ga gb : Nat) (a0 a1 a2 b0 b1 b2 : Value) (A : Option Addr) (n c : Nat) (A' : Option Addr) (m c' : Nat) (A2 : Option Addr) (q cq : Nat) (C : List Cr) (S : List Int) (P : List EvP) : Prop where
  low : Below W0.heap.size W0 W
  giv : PcOw W b A n c A' m c' A2 q cq C S P
  bg : Blk W gg 28 #[.slice A n c, .slice A' m c', .slice A2 q cq]
  ba : Blk W ga 28 #[a0, a1, a2]
  bb : Blk W gb 28 #[b0, b1, b2]
theorem RwT.below {W0 W W' : World} {b gg ga gb : Nat} {a0 a1 a2 b0 b1 b2 : Value} {A : Option Addr} {n c : Nat} {A' : Option Addr} {m c' : Nat} {A2 : Option Addr} {q cq : Nat} {C : List Cr} {S : List Int} {P : List EvP}
    (h : RwT W0 W b gg ga gb a0 a1 a2 b0 b1 b2 A n c A' m c' A2 q cq C S P) (hb : Below W.heap.size W W') : RwT W0 W' b gg ga gb a0 a1 a2 b0 b1 b2 A n c A' m c' A2 q cq C S P :=
  ⟨bt h.low hb, h.giv.below hb, h.bg.below hb, h.ba.below hb, h.bb.below hb⟩
end Go.Proofs.YtdhjigaocamglaaDoor
