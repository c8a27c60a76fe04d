/- What slices.Equal returns at courses and at numbers: whether the two lists are one. -/
import Derived.Test.YtdhjigaocamglaaDoorQdCopy
import Derived.Test.YtdhjigaocamglaaDoorQdPcLeaf
import Derived.Test.YtdhjigaocamglaaDoorQdWorks2
import Derived.BigQuiet
import Derived.Test.YtdhjigaocamglaaDoorQdPcMeas2
import Derived.Test.YtdhjigaocamglaaDoorQdRr2
import Derived.Deep.RegionHeld3
import Derived.Deep.RegionHeldLaw
import Derived.Test.YtdhjigaocamglaaDoorQdRw6
namespace Go.Proofs.YtdhjigaocamglaaDoor
open Go.RowKit

end Go.Proofs.YtdhjigaocamglaaDoor

/- What Same returns, the program's and the reference's: whether two instruments have the same courses and steps. -/
namespace Go.Proofs.YtdhjigaocamglaaDoor
open Go.RowKit

end Go.Proofs.YtdhjigaocamglaaDoor

/- Pieces: when two are the same (piece.Same): stops, events, pieces compared, for any two. -/
namespace Go.Proofs.YtdhjigaocamglaaDoor
open Go Go.RowKit

end Go.Proofs.YtdhjigaocamglaaDoor

/- Pieces: piece.Same, for any two pieces. -/
namespace Go.Proofs.YtdhjigaocamglaaDoor
open Go Go.RowKit

end Go.Proofs.YtdhjigaocamglaaDoor

/- Pieces: the reference's Augment. -/
namespace Go.Proofs.YtdhjigaocamglaaDoor
open Go Go.RowKit

def augE (b : Int) (y : EvP) : EvP := if y.v = 0 then y else { y with v := y.v - b }
def augOk (b : Int) (y : EvP) : Bool := decide (y.v = 0) || (decide (1 ≤ y.v - b) && decide (y.v - b ≤ 7))
theorem rwO_aug (b : Int) : ∀ (X : List TmP) (o : List EvP) (s : Bool), X.foldl (fun a p => (a.1 ++ [(augSt b a.2 p).2], (augSt b a.2 p).1)) (o, s) = (o ++ X.map (fun p => augE b p.y), s && X.all (fun p => augOk b p.y)) := by
  intro X
  induction X with
  | nil => intro o s; simp
  | cons p r ih =>
    intro o s
    rw [List.foldl_cons]
    by_cases h : p.y.v = 0
    · have e : augSt b s p = (s, p.y) := if_pos h
      rw [e, ih]
      simp [augE, augOk, h]
    · have e : augSt b s p = (s && (decide (1 ≤ p.y.v - b) && decide (p.y.v - b ≤ 7)), { p.y with v := p.y.v - b }) := if_neg h
      rw [e, ih]
      simp [augE, augOk, h, Bool.and_assoc]
theorem tpL_map {α : Type} (f : EvP → α) : ∀ (P : List EvP) (n : Nat) (v : Int) (d t : Bool) (fm : Int), (tmPL P n v d t fm).map (fun p => f p.y) = P.map f
  | [], _, _, _, _, _ => rfl
  | y :: r, n, v, d, t, fm => by
    unfold tmPL
    split <;> simp [tpL_map f r]
theorem tpL_all (f : EvP → Bool) : ∀ (P : List EvP) (n : Nat) (v : Int) (d t : Bool) (fm : Int), (tmPL P n v d t fm).all (fun p => f p.y) = P.all f
  | [], _, _, _, _, _ => rfl
  | y :: r, n, v, d, t, fm => by
    unfold tmPL
    split <;> simp [tpL_all f r]
theorem aug_out (b : Int) (P : List EvP) : rwO (augSt b) true (tpL P) = (P.map (augE b), P.all (augOk b)) := by
  unfold rwO
  rw [rwO_aug, tpL_map, tpL_all]
  simp

/-- What a reference's loop over its own copy keeps. -/
structure RpA (w : World) (b qb rb : Nat) (A : Option Addr) (n c : Nat) (A' : Option Addr) (m c' : Nat) (A2 : Option Addr) (q cq : Nat) (C : List Cr) (S : List Int) (P : List EvP) (wr : World) : Prop where
  pc : ∃ E, PcOE wr b A n c A' m c' A2 q cq C S P E
  qx : Blk wr qb 28 #[.slice A n c, .slice A' m c', .slice A2 q cq]
  rs : Blk wr rb 28 #[.slice none 0 0, .slice none 0 0, .slice none 0 0]
  lo : Below w.heap.size w wr
theorem RpA.val {w : World} {b qb rb : Nat} {A : Option Addr} {n c : Nat} {A' : Option Addr} {m c' : Nat} {A2 : Option Addr} {q cq : Nat} {C : List Cr} {S : List Int} {P : List EvP} {wr : World}
    (h : RpA w b qb rb A n c A' m c' A2 q cq C S P wr) (hb : w.heap.size ≤ b) {k : Nat} {y : EvP} (hy : P[k]? = some y) :
    ∃ g, A2 = some ⟨g, 0, none⟩ ∧ g < wr.heap.size ∧ wr.cell? ⟨g, k * 6 + 1, none⟩ = some (.int .i64 y.v) ∧ (∀ j, wr.frozen? ⟨g, j, none⟩ = false) ∧ g ≠ qb ∧ qb ≠ g ∧ g ≠ rb ∧ rb ≠ g ∧
      (∀ v : Int, RpA w b qb rb A n c A' m c' A2 q cq C S (P.set k (upS y ⟨v, y.d, y.t⟩)) (wr.setCell ⟨g, k * 6 + 1, none⟩ (.int .i64 v))) := by
  obtain ⟨E, hE⟩ := h.pc
  obtain ⟨g, x, rfl, h1, h2, _, ⟨_, c1, _⟩, hf, ⟨cs, hB⟩, _, hs⟩ := hE.sign hy
  have hq := hB.ne h.qx (by decide)
  have hr := hB.ne h.rs (by decide)
  refine ⟨g, rfl, h2, c1, hf, hq, fun e => hq e.symm, hr, fun e => hr e.symm, fun v => ?_⟩
  exact ⟨⟨_, hs v⟩, h.qx.setOther (fun e => hq e.symm) _ _, h.rs.setOther (fun e => hr e.symm) _ _, h.lo.setCell (p := ⟨g, k * 6 + 1, none⟩) (Nat.le_trans hb h1) _⟩

end Go.Proofs.YtdhjigaocamglaaDoor

/- Pieces, the reference: SameEvent, SamePlaces, Same, for any two. -/
namespace Go.Proofs.YtdhjigaocamglaaDoor
open Go Go.RowKit

end Go.Proofs.YtdhjigaocamglaaDoor

/- Pieces, the reference: Same, for any two pieces. -/
namespace Go.Proofs.YtdhjigaocamglaaDoor
open Go Go.RowKit

end Go.Proofs.YtdhjigaocamglaaDoor

/- Pieces: what the laws share: a call that hands back a piece; the reference's Same at equal pieces. -/
namespace Go.Proofs.YtdhjigaocamglaaDoor
open Go Go.RowKit

end Go.Proofs.YtdhjigaocamglaaDoor

/- Pieces, plain: what stays valid when signs alone are changed; times twice as long. -/
namespace Go.Proofs.YtdhjigaocamglaaDoor
open Go Go.RowKit

/-! ### Augment by one -/
end Go.Proofs.YtdhjigaocamglaaDoor

/- Pieces: the places of an event's stops (place, changed), for any stops. -/
namespace Go.Proofs.YtdhjigaocamglaaDoor
open Go Go.RowKit

end Go.Proofs.YtdhjigaocamglaaDoor

/- Pieces: piece.Alike, for any two pieces. -/
namespace Go.Proofs.YtdhjigaocamglaaDoor
open Go Go.RowKit

end Go.Proofs.YtdhjigaocamglaaDoor

/- Pieces: piece.Alike, for any two pieces. -/
namespace Go.Proofs.YtdhjigaocamglaaDoor
open Go Go.RowKit

end Go.Proofs.YtdhjigaocamglaaDoor

/- Pieces, the reference: Alike, for any two pieces. -/
namespace Go.Proofs.YtdhjigaocamglaaDoor
open Go Go.RowKit

end Go.Proofs.YtdhjigaocamglaaDoor

/- Pieces: a piece is the same as itself, and alike if it is valid. -/
namespace Go.Proofs.YtdhjigaocamglaaDoor
open Go Go.RowKit

end Go.Proofs.YtdhjigaocamglaaDoor

/- Pieces: is a piece larger than what a statement looks at? -/
namespace Go.Proofs.YtdhjigaocamglaaDoor
open Go Go.RowKit

end Go.Proofs.YtdhjigaocamglaaDoor

/- What SameInts returns at two equal lists; what Long returns. -/
namespace Go.Proofs.YtdhjigaocamglaaDoor
open Go Go.RowKit

end Go.Proofs.YtdhjigaocamglaaDoor
