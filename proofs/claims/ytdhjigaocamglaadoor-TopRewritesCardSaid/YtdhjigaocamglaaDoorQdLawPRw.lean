/- Pieces: Join of the reference. -/
import Derived.Test.YtdhjigaocamglaaDoorQdRefFew
import Derived.Deep.CutRange
import Derived.Test.YtdhjigaocamglaaDoorQdSameI2
import Derived.Test.YtdhjigaocamglaaDoorQdWorks2
namespace Go.Proofs.YtdhjigaocamglaaDoor
open Go Go.RowKit

end Go.Proofs.YtdhjigaocamglaaDoor

/- The law PieceRewrites returns true for every piece. -/
namespace Go.Proofs.YtdhjigaocamglaaDoor
open Go Go.RowKit

theorem rwO_unit (st : Unit → TmP → Unit × EvP) (X : List TmP) : (rwO st () X).1 = X.map fun p => (st () p).2 := by
  have : ∀ (X : List TmP) (o : List EvP), (X.foldl (fun a p => (a.1 ++ [(st a.2 p).2], (st a.2 p).1)) (o, ())).1 = o ++ X.map fun p => (st () p).2 := by
    intro X
    induction X with
    | nil => intro o; simp
    | cons p r ih =>
      intro o
      rw [List.foldl_cons]
      show (List.foldl _ (o ++ [(st () p).2], ()) r).1 = _
      rw [ih]
      simp
  unfold rwO
  rw [this]
  simp
theorem tmPL_map : ∀ (P : List EvP) (n : Nat) (v : Int) (d t : Bool) (fm : Int), (tmPL P n v d t fm).map TmP.y = P
  | [], _, _, _, _, _ => rfl
  | y :: r, n, v, d, t, fm => by
    unfold tmPL
    split <;> simp [tmPL_map r]
theorem bare_out (P : List EvP) : (rwO bareSt () (tpL P)).1 = P.map bareE := by
  rw [rwO_unit]
  have := tmPL_map P 0 0 false false 0
  conv => rhs; rw [← this]
  rw [List.map_map]
  rfl
/-- What the law keeps: the given piece, its box, and the boxes of the two results. -/
structure RwT (W0 W : World) (b gg ga gb : Nat) (a0 a1 a2 b0 b1 b2 : Value) (A : Option Addr) (n c : Nat) (A' : Option Addr) (m c' : Nat) (A2 : Option Addr) (q cq : Nat) (C : List Cr) (S : List Int) (P : List EvP) : Prop where
  low : Below W0.heap.size W0 W
  giv : PcOw W b A n c A' m c' A2 q cq C S P
  bg : Blk W gg 28 #[.slice A n c, .slice A' m c', .slice A2 q cq]
  ba : Blk W ga 28 #[a0, a1, a2]
  bb : Blk W gb 28 #[b0, b1, b2]
theorem RwT.below {W0 W W' : World} {b gg ga gb : Nat} {a0 a1 a2 b0 b1 b2 : Value} {A : Option Addr} {n c : Nat} {A' : Option Addr} {m c' : Nat} {A2 : Option Addr} {q cq : Nat} {C : List Cr} {S : List Int} {P : List EvP}
    (h : RwT W0 W b gg ga gb a0 a1 a2 b0 b1 b2 A n c A' m c' A2 q cq C S P) (hb : Below W.heap.size W W') : RwT W0 W' b gg ga gb a0 a1 a2 b0 b1 b2 A n c A' m c' A2 q cq C S P :=
  ⟨bt h.low hb, h.giv.below hb, h.bg.below hb, h.ba.below hb, h.bb.below hb⟩
theorem PcOw.bd {w : World} {b : Nat} {A A' A2 : Option Addr} {n c m c' q cq : Nat} {C : List Cr} {S : List Int} {P : List EvP} (h : PcOw w b A n c A' m c' A2 q cq C S P) (h1 : C.length ≤ 65536) (h2 : S.length ≤ 65536) (h3 : P.length ≤ 65536) : n ≤ 65536 ∧ m ≤ 65536 ∧ q ≤ 65536 :=
  ⟨by rw [h.hn]; exact h1, by rw [h.hm]; exact h2, by rw [h.hq]; exact h3⟩

end Go.Proofs.YtdhjigaocamglaaDoor
