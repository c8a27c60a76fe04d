/- A list that a loop makes by append, one element a round, in memory of the call's own. -/
import Derived.Test.YtdhjigaocamglaaDoorQdCopy
import Derived.Test.YtdhjigaocamglaaDoorQdLeaf
import Derived.Test.YtdhjigaocamglaaDoorQdIterT
import Derived.RangeFuncBox
import Derived.Maps.AppendAt
import Derived.Test.YtdhjigaocamglaaDoorQdTkT
import Derived.Deep.RegionLaw
import Derived.Deep.AppendLies
import Derived.Laws.EntriesVeiled
import Derived.BigQuiet
namespace Go.Proofs.YtdhjigaocamglaaDoor
open Go.RowKit

/-- The slice (A, k, c) owns the cells xs in blocks laid since W1; what was there at W1 is as it was. -/
structure Own1 (W1 wr : World) (e : TypeId) (size : Nat) (A : Option Addr) (k c : Nat) (xs : List Value) : Prop where
  own : wr.ownsRow W1.heap.size e size (.slice A k c) k xs
  low : Below W1.heap.size W1 wr
theorem Own1.start {W1 wr : World} (h : Below W1.heap.size W1 wr) (e : TypeId) (size : Nat) : Own1 W1 wr e size none 0 0 [] := ⟨⟨by simp, .inl ⟨rfl, rfl⟩⟩, h⟩
theorem Own1.below {W1 wr w2 : World} {e : TypeId} {size : Nat} {A : Option Addr} {k c : Nat} {xs : List Value} (h : Own1 W1 wr e size A k c xs) (hb : Below wr.heap.size wr w2) : Own1 W1 w2 e size A k c xs := ⟨own_below h.own hb, bt h.low hb⟩
theorem blk_apart {w : World} {g : Nat} {t : TypeId} {cs : Array Value} {base : Nat} {e : TypeId} {size : Nat} {v : Value} {n : Nat} {xs : List Value} (h : Blk w g t cs) (ho : w.ownsRow base e size v n xs) (hne : t ≠ e) : some g ≠ v.ownBlock := by
  rcases ho.2 with ⟨rfl, _⟩ | ⟨g', cap, cur, rfl, _, hh, _⟩
  · intro hc; cases hc
  · intro hc
    have : g = g' := by simpa [Value.ownBlock] using hc
    subst this
    unfold Blk at h
    rw [hh] at h
    injection h with h
    injection h with _ he
    exact hne he.symm
theorem Own1.step {W1 wr w2 w3 : World} {e : TypeId} {size : Nat} {A : Option Addr} {k c : Nat} {xs news : List Value} {v' : Value} {O : Obj} {B : Nat} (h : Own1 W1 wr e size A k c xs) (hb : Below wr.heap.size wr w2) (hB : B = W1.heap.size)
    (hown : w3.ownsRow B e size v' (k + 1) (xs ++ news)) (hg : (w2.alloc O).grownBy w3 (Value.slice A k c).ownBlock) :
    ∃ A' c', v' = .slice A' (k + 1) c' ∧ Own1 W1 w3 e size A' (k + 1) c' (xs ++ news) ∧ (∀ g t cs, t ≠ e → Blk wr g t cs → Blk w3 g t cs) := by
  subst hB
  obtain ⟨A', c', rfl⟩ := own_slice hown
  have h2 := h.below hb
  refine ⟨A', c', rfl, ⟨hown, ?_⟩, ?_⟩
  · refine Below.grown (h2.low.alloc h2.low.size O) hg (h2.low.alloc h2.low.size O).size (fun g hh => ?_)
    exact (h.own.lt g hh).1
  · intro g t cs hne hB
    exact ((hB.below hb).below (ba _ _)).grown hg (blk_apart hB h.own hne)
theorem Own1.sl {W1 wr : World} {e : TypeId} {size : Nat} {A : Option Addr} {k c : Nat} {xs : List Value} (h : Own1 W1 wr e size A k c xs) : Sl wr wr.heap.size size A k c xs := Sl_own h.own

end Go.Proofs.YtdhjigaocamglaaDoor

/- Piece: Onsets, for any valid piece whose events lie in memory. -/
namespace Go.Proofs.YtdhjigaocamglaaDoor
open Go Go.RowKit

attribute [local go_sem] Oper.semAt_some

theorem ownsRow_heap {W W' : World} {base : Nat} {e : TypeId} {size : Nat} {v : Value} {k : Nat} {xs : List Value} (h : W.ownsRow base e size v k xs) (hs : ∀ g, v.ownBlock = some g → W'.heap[g]? = W.heap[g]?) : W'.ownsRow base e size v k xs := by
  refine ⟨h.1, ?_⟩
  rcases h.2 with ⟨h0, h1⟩ | ⟨g, cap, cur, rfl, h2, h3, h4⟩
  · exact .inl ⟨h0, h1⟩
  · exact .inr ⟨g, cap, cur, rfl, h2, (hs g rfl).trans h3, h4⟩
theorem set_other (W : World) (b o k : Nat) (u : Value) (hk : k ≠ b) : (W.setCell ⟨b, o, none⟩ u).heap[k]? = W.heap[k]? := by
  simp only [World.setCell, Array.getElem?_modify]
  rw [if_neg (fun e => hk e.symm)]
set_option maxHeartbeats 1600000 in
theorem withTimes_any (A : Option Addr) (n c : Nat) (A' : Option Addr) (m c' : Nat) (A2 : Option Addr) (q cq : Nat) (w : World) : Calls Tryd.prog 45 #[.agg #[.slice A n c, .slice A' m c', .slice A2 q cq]] w fun e w' => e = .returned (.func (.func 68) #[] #[.pointer (some ⟨w.heap.size, 0, none⟩)]) ∧ w.alloc (.cells #[.slice A n c, .slice A' m c', .slice A2 q cq] 28) = w' := by
  have hmf : ∀ (fn : Fn) (first cap : Array Value) (w : World), (Instr.makeFunc fn first cap).run Tryd.prog w = .ok (.func fn first cap) w := fun _ _ _ _ => rfl
  go_enter Tryd.func45, Tryd.ntmps45
  go_wp2_with (fail)
  go_ret
  exact ⟨rfl, rfl⟩

end Go.Proofs.YtdhjigaocamglaaDoor

/- Piece: the closure of Signs: a call that finds nothing, and one that takes a sign. -/
namespace Go.Proofs.YtdhjigaocamglaaDoor
open Go Go.RowKit

/-- The sign k of the table. -/
def sgv : Nat → Int × Bool × Bool
  | 0 => (1, true, false) | 1 => (1, false, false) | 2 => (2, true, false) | 3 => (1, false, true) | 4 => (2, false, false) | 5 => (3, true, false) | 6 => (2, false, true)
  | 7 => (3, false, false) | 8 => (4, true, false) | 9 => (3, false, true) | 10 => (4, false, false) | 11 => (5, true, false) | 12 => (4, false, true) | 13 => (5, false, false)
  | 14 => (6, true, false) | 15 => (5, false, true) | 16 => (6, false, false) | 17 => (7, true, false) | 18 => (6, false, true) | 19 => (7, false, false) | _ => (7, false, true)
def tks (k : Nat) : Int := tkV (sgv k).1 (sgv k).2.1 (sgv k).2.2
theorem tkV_bd0 (k : Nat) : 0 ≤ tks k ∧ tks k ≤ 576 := by
  have hb : ∀ v, 6 ≤ tbase v ∧ tbase v ≤ 384 := fun v => by
    unfold tbase
    repeat' split
    all_goals omega
  have := hb (sgv k).1
  unfold tks tkV
  repeat' split
  all_goals omega
/-- The table lies in its variable. -/
def SgT (w : World) : Prop := 0 < w.heap.size ∧ ∀ k, k < 21 → w.cell? ⟨0, k * 3, none⟩ = some (.int .i64 (sgv k).1) ∧ w.cell? ⟨0, k * 3 + 1, none⟩ = some (.bool (sgv k).2.1) ∧ w.cell? ⟨0, k * 3 + 2, none⟩ = some (.bool (sgv k).2.2)
theorem SgT.below {w w' : World} (h : SgT w) (hb : Below w.heap.size w w') : SgT w' := by
  have hs := hb.block 0 h.1
  have hc : ∀ (o : Nat) (v : Value), w.cell? ⟨0, o, none⟩ = some v → w'.cell? ⟨0, o, none⟩ = some v := fun o v hv => by
    unfold World.cell? at hv ⊢
    simp only at hv ⊢
    rw [hs]
    exact hv
  refine ⟨Nat.lt_of_lt_of_le h.1 hb.size, fun k hk => ?_⟩
  obtain ⟨h0, h1, h2⟩ := h.2 k hk
  exact ⟨hc _ _ h0, hc _ _ h1, hc _ _ h2⟩

set_option maxHeartbeats 1600000 in
theorem fill_zero (r i : Int) (cb fb : Value) (w : World) : Calls Tryd.prog 61 #[.int .i64 r, .int .i64 i, .int .i64 0, cb, fb] w fun e w' => e = .returned (.bool (decide (r = 0))) ∧ w = w' := by
  have H0 : Hid ((r == 0) = decide (r = 0)) := by
    unfold Hid
    by_cases h : r = 0 <;> simp [h]
  cases hr : decide (r = 0) with
  | true =>
    have h : r = 0 := by simpa using hr
    subst h
    clear hr H0
    go_enter Tryd.func61, Tryd.ntmps61
    go_wp2_with (fail)
    go_ret
    exact ⟨rfl, rfl⟩
  | false =>
    have h : (r == 0) = false := H0.out.trans hr
    clear hr H0
    go_enter Tryd.func61, Tryd.ntmps61
    go_wp2_with (fail)
    go_ret
    exact ⟨rfl, rfl⟩

end Go.Proofs.YtdhjigaocamglaaDoor

/- Piece: the closure of Signs: a call that takes a sign. -/
namespace Go.Proofs.YtdhjigaocamglaaDoor
open Go Go.RowKit

abbrev fillV (cb fb : Nat) : Value := .func (.func 61) #[] #[.pointer (some ⟨cb, 0, none⟩), .pointer (some ⟨fb, 0, none⟩)]
def sgL (k : Nat) : List Value := [.int .i64 (sgv k).1, .bool (sgv k).2.1, .bool (sgv k).2.2]
/-- What Signs holds: the list chosen so far, in memory of its own; the closure; the table. -/
structure FS (w0 : World) (cb fb : Nat) (n : Nat) (xs : List Value) (w : World) : Prop where
  row : ∃ v, Boxed w cb 69 v ∧ w.ownsRow w0.heap.size 48 3 v n xs
  fn : Boxed w fb 98 (fillV cb fb)
  low : Below w0.heap.size w0 w
  tab : SgT w
theorem FS.below {w0 : World} {cb fb n : Nat} {xs : List Value} {w w' : World} (h : FS w0 cb fb n xs w) (hb : Below w.heap.size w w') : FS w0 cb fb n xs w' := by
  obtain ⟨v, hv, hr⟩ := h.row
  exact ⟨⟨v, (hb.block cb hv.lt).trans hv, own_below hr hb⟩, (hb.block fb h.fn.lt).trans h.fn, h.low.trans (hb.mono h.low.size), h.tab.below hb⟩

theorem own_neF {W : World} {base : Nat} {e T : TypeId} {size : Nat} {v : Value} {k j : Nat} {xs : List Value} {cs : Array Value} {f : Nat × Nat} (h : W.ownsRow base e size v k xs) (hj : W.heap[j]? = some (.cells cs T f)) (hne : T ≠ e) : v.ownBlock ≠ some j := by
  rcases h.2 with ⟨rfl, _⟩ | ⟨g, cap, cur, rfl, _, h3, _⟩
  · intro e
    cases e
  · intro e
    obtain rfl : g = j := by simpa [Value.ownBlock] using e
    rw [hj] at h3
    injection h3 with h3
    injection h3 with _ h3
    exact hne h3
theorem set_otherF (W : World) (b o k : Nat) (u : Value) (hk : k ≠ b) : (W.setCell ⟨b, o, none⟩ u).heap[k]? = W.heap[k]? := by
  simp only [World.setCell, Array.getElem?_modify]
  rw [if_neg (fun e => hk e.symm)]
theorem cell_sameF {w w' : World} {b o : Nat} {v : Value} (h : w'.heap[b]? = w.heap[b]?) (hc : w.cell? ⟨b, o, none⟩ = some v) : w'.cell? ⟨b, o, none⟩ = some v := by
  unfold World.cell? at hc ⊢
  simp only at hc ⊢
  rw [h]
  exact hc
theorem SgT.heap {w w' : World} (h : SgT w) (hs : w'.heap[0]? = w.heap[0]?) (hl : 0 < w'.heap.size) : SgT w' :=
  ⟨hl, fun k hk => ⟨cell_sameF hs (h.2 k hk).1, cell_sameF hs (h.2 k hk).2.1, cell_sameF hs (h.2 k hk).2.2⟩⟩
theorem frozen_sameF {w w' : World} {b o : Nat} (h : w'.heap[b]? = w.heap[b]?) : w'.frozen? ⟨b, o, none⟩ = w.frozen? ⟨b, o, none⟩ := by
  unfold World.frozen?
  simp only
  rw [h]
end Go.Proofs.YtdhjigaocamglaaDoor

/- Piece: Signs(120). -/
namespace Go.Proofs.YtdhjigaocamglaaDoor
open Go Go.RowKit

end Go.Proofs.YtdhjigaocamglaaDoor

/- Piece: Check of the small piece that law 02 looks at. -/
namespace Go.Proofs.YtdhjigaocamglaaDoor
open Go Go.RowKit

abbrev e0W (sk : Nat) : EvT := ⟨false, 3, false, false, false, some ⟨sk, 0, none⟩, 1, 1⟩
abbrev e1W : EvT := ⟨false, 4, false, false, true, none, 0, 0⟩
end Go.Proofs.YtdhjigaocamglaaDoor

/- Piece: Check of the small piece that law 02 looks at, second part. -/
namespace Go.Proofs.YtdhjigaocamglaaDoor
open Go Go.RowKit

/-- The small piece lies in memory. -/
structure PW (w : World) (bc bs eb sk : Nat) : Prop where
  crs : Sl w w.heap.size 3 (some ⟨bc, 0, none⟩) 1 1 (crC [⟨60, 2, false⟩])
  stp : Sl w w.heap.size 1 (some ⟨bs, 0, none⟩) 2 2 (intC [1, 2])
  fr1 : w.cell? ⟨bc, 1, none⟩ = some (.int .i64 2)
  ev0 : EvAt w eb 0 0 (e0W sk)
  ev1 : EvAt w eb 0 1 e1W
  st : w.cell? ⟨sk, 0, none⟩ = some (.int .i64 1) ∧ w.cell? ⟨sk, 1, none⟩ = some (.int .i64 2) ∧ w.cell? ⟨sk, 2, none⟩ = some (.int .i64 0) ∧ w.cell? ⟨sk, 3, none⟩ = some (.int .i64 0) ∧ w.cell? ⟨sk, 4, none⟩ = some (.int .i64 1)
  hbc : bc < w.heap.size
  heb : eb < w.heap.size
  hsk : sk < w.heap.size
theorem PW.below {w w' : World} {bc bs eb sk : Nat} (h : PW w bc bs eb sk) (hb : Below w.heap.size w w') : PW w' bc bs eb sk := by
  have h1 := hb.block bc h.hbc
  have h2 := hb.block eb h.heb
  have h3 := hb.block sk h.hsk
  obtain ⟨s0, s1, s2, s3, s4⟩ := h.st
  exact ⟨h.crs.below hb, h.stp.below hb, cell_same h1 h.fr1, h.ev0.same h2, h.ev1.same h2, ⟨cell_same h3 s0, cell_same h3 s1, cell_same h3 s2, cell_same h3 s3, cell_same h3 s4⟩,
    Nat.lt_of_lt_of_le h.hbc hb.size, Nat.lt_of_lt_of_le h.heb hb.size, Nat.lt_of_lt_of_le h.hsk hb.size⟩
/-- The events' cells, at literals. -/
theorem PW.cells {w : World} {bc bs eb sk : Nat} (h : PW w bc bs eb sk) :
    (w.cell? ⟨eb, 0, none⟩ = some (.bool false) ∧ w.cell? ⟨eb, 1, none⟩ = some (.int .i64 3) ∧ w.cell? ⟨eb, 2, none⟩ = some (.bool false) ∧ w.cell? ⟨eb, 3, none⟩ = some (.bool false) ∧ w.cell? ⟨eb, 4, none⟩ = some (.bool false) ∧ w.cell? ⟨eb, 5, none⟩ = some (.slice (some ⟨sk, 0, none⟩) 1 1)) ∧
    (w.cell? ⟨eb, 6, none⟩ = some (.bool false) ∧ w.cell? ⟨eb, 7, none⟩ = some (.int .i64 4) ∧ w.cell? ⟨eb, 8, none⟩ = some (.bool false) ∧ w.cell? ⟨eb, 9, none⟩ = some (.bool false) ∧ w.cell? ⟨eb, 10, none⟩ = some (.bool true) ∧ w.cell? ⟨eb, 11, none⟩ = some (.slice none 0 0)) := by
  have a := h.ev0
  have b := h.ev1
  unfold EvAt at a b
  simp only [Nat.zero_mul, Nat.zero_add, Nat.one_mul] at a b
  exact ⟨a, b⟩
end Go.Proofs.YtdhjigaocamglaaDoor

/- Piece: Check of the small piece that law 02 looks at, third part: its stop. -/
namespace Go.Proofs.YtdhjigaocamglaaDoor
open Go Go.RowKit

end Go.Proofs.YtdhjigaocamglaaDoor

/- Piece: Check of the small piece that law 02 looks at, last part: its events. -/
namespace Go.Proofs.YtdhjigaocamglaaDoor
open Go Go.RowKit

end Go.Proofs.YtdhjigaocamglaaDoor

/- Law 02's look at the chapter's examples returns true, in every world that holds the table of signs. -/
namespace Go.Proofs.YtdhjigaocamglaaDoor
open Go Go.RowKit

end Go.Proofs.YtdhjigaocamglaaDoor
