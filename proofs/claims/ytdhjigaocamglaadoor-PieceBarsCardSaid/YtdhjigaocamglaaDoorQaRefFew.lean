/- Pieces: Join of the program, with its error. -/
import Derived.Test.YtdhjigaocamglaaDoorQaSameI2
import Derived.Test.YtdhjigaocamglaaDoorQaTrn
import Derived.Test.YtdhjigaocamglaaDoorQaRefAll
import Derived.BigQuiet
namespace Go.Proofs.YtdhjigaocamglaaDoor
open Go Go.RowKit

end Go.Proofs.YtdhjigaocamglaaDoor

/- Pieces: Join of the reference, as plain lists. -/
namespace Go.Proofs.YtdhjigaocamglaaDoor
open Go Go.RowKit

def stE (y : EvP) : EvP := { y with L := [] }
def tkE (y : EvP) : Int := tkV y.v y.d y.t
theorem getD_app {α : Type} (l : List α) (x d : α) (i : Nat) : (l ++ [x]).getD i d = if i < l.length then l.getD i d else if i = l.length then x else d := by
  rw [List.getD_eq_getElem?_getD]
  by_cases h : i < l.length
  · rw [if_pos h, List.getElem?_append_left h, List.getD_eq_getElem?_getD]
  · rw [if_neg h]
    by_cases h2 : i = l.length
    · subst h2
      simp
    · rw [if_neg h2, List.getElem?_eq_none (by simp; omega)]
      rfl
theorem get_app {α : Type} (l : List α) (x : α) (i : Nat) (y : α) (h : (l ++ [x])[i]? = some y) : (i < l.length ∧ l[i]? = some y) ∨ (i = l.length ∧ x = y) := by
  by_cases h2 : i < l.length
  · rw [List.getElem?_append_left h2] at h
    exact .inl ⟨h2, h⟩
  · have h3 := (List.getElem?_eq_some_iff.1 h).1
    simp at h3
    have : i = l.length := by omega
    subst this
    simp at h
    exact .inr ⟨rfl, h⟩
theorem tmPL_tk : ∀ (P : List EvP) (n : Nat) (v : Int) (d t : Bool) (fm : Int), ∀ p ∈ tmPL P n v d t fm, p.to - p.fm = tkV p.v p.d p.t
  | [], _, _, _, _, _, p, h => by simp [tmPL] at h
  | y :: r, n, v, d, t, fm, p, h => by
    unfold tmPL at h
    split at h
    · rcases List.mem_cons.1 h with rfl | h
      · dsimp only
        omega
      · exact tmPL_tk r _ _ _ _ _ p h
    · rcases List.mem_cons.1 h with rfl | h
      · dsimp only
        omega
      · exact tmPL_tk r _ _ _ _ _ p h
end Go.Proofs.YtdhjigaocamglaaDoor

/- Pieces: both Joins answer one list. -/
namespace Go.Proofs.YtdhjigaocamglaaDoor
open Go Go.RowKit

end Go.Proofs.YtdhjigaocamglaaDoor

/- Pieces: Join's loop of the reference: what it keeps. -/
namespace Go.Proofs.YtdhjigaocamglaaDoor
open Go Go.RowKit

/-- The marks: those that are told, and the rest. -/
def mgL (q : Nat) (mg : List Bool) : List Value := mg.map .bool ++ List.replicate (q - mg.length) (.bool false)
structure RjO (W5 : World) (b ob mb : Nat) (u0 u1 v : Value) (E : List EvT) (q : Nat) (Q : List EvP) (X : List EvT) (mg : List Bool) (W : World) : Prop where
  o : Blk W ob 28 #[u0, u1, v]
  row : W.ownsRow W5.heap.size 51 6 v Q.length (evC X)
  xl : X.length = Q.length
  m : Blk W mb 4 (mgL q mg).toArray
  cp : CpE W5 b X Q
  src : ∀ (k : Nat) (x : EvT), X[k]? = some x → ∃ j z, j < mg.length ∧ E[j]? = some z ∧ z.sa = x.sa ∧ z.sn = x.sn
  dst : DstE X
  kx : Kx (fun k => k = ob ∨ k = mb) W5.heap.size W5 W
theorem RjO.below {W5 : World} {b ob mb : Nat} {u0 u1 v : Value} {E : List EvT} {q : Nat} {Q : List EvP} {X : List EvT} {mg : List Bool} {W W' : World} (h : RjO W5 b ob mb u0 u1 v E q Q X mg W) (hb : Below W.heap.size W W') : RjO W5 b ob mb u0 u1 v E q Q X mg W' :=
  ⟨h.o.below hb, ownsRow_heap h.row (fun g hg => hb.block g (h.row.lt g hg).2), h.xl, h.m.below hb, h.cp, h.src, h.dst, h.kx.trans ((Kx.of_below hb).mono h.kx.size (fun _ _ h => h))⟩
end Go.Proofs.YtdhjigaocamglaaDoor

/- Pieces: Join of the reference: the second loop, what it keeps. -/
namespace Go.Proofs.YtdhjigaocamglaaDoor
open Go Go.RowKit

/-- The second loop: what it keeps. -/
structure RjP (w : World) (b ob mb qb : Nat) (A : Option Addr) (n c : Nat) (A' : Option Addr) (m c' : Nat) (A2 : Option Addr) (l cq : Nat) (C : List Cr) (S : List Int) (P : List EvP) (q : Nat) (mg : List Bool) (u2 : Value) (wr : World) : Prop where
  pc : ∃ E, PcOE wr b A n c A' m c' A2 l cq C S P E
  o : Blk wr ob 28 #[.slice A n c, .slice A' m c', .slice A2 l cq]
  mks : Blk wr mb 4 (mgL q mg).toArray
  x : Blk wr qb 28 #[.slice A n c, .slice A' m c', u2]
  rs : Blk wr (w.heap.size + 1) 28 #[.slice none 0 0, .slice none 0 0, .slice none 0 0]
  lo : Below w.heap.size w wr
theorem RjP.below {w : World} {b ob mb qb : Nat} {A : Option Addr} {n c : Nat} {A' : Option Addr} {m c' : Nat} {A2 : Option Addr} {l cq : Nat} {C : List Cr} {S : List Int} {P : List EvP} {q : Nat} {mg : List Bool} {u2 : Value} {wr wx : World}
    (h : RjP w b ob mb qb A n c A' m c' A2 l cq C S P q mg u2 wr) (hb : Below wr.heap.size wr wx) : RjP w b ob mb qb A n c A' m c' A2 l cq C S P q mg u2 wx := by
  obtain ⟨E, hE⟩ := h.pc
  exact ⟨⟨E, hE.below hb⟩, h.o.below hb, h.mks.below hb, h.x.below hb, h.rs.below hb, bt h.lo hb⟩
theorem RjP.stop {w : World} {b ob mb qb : Nat} {A : Option Addr} {n c : Nat} {A' : Option Addr} {m c' : Nat} {A2 : Option Addr} {l cq : Nat} {C : List Cr} {S : List Int} {P : List EvP} {q : Nat} {mg : List Bool} {u2 : Value} {wr : World}
    (h : RjP w b ob mb qb A n c A' m c' A2 l cq C S P q mg u2 wr) (hb : w.heap.size ≤ b) {i k : Nat} {y : EvP} (hy : P[i]? = some y) {s : St} (hs : y.L[k]? = some s) :
    ∃ ge g sc, A2 = some ⟨ge, 0, none⟩ ∧ ge < wr.heap.size ∧ wr.cell? ⟨ge, i * 6 + 5, none⟩ = some (.slice (some ⟨g, 0, none⟩) y.L.length sc) ∧ g < wr.heap.size ∧ (ge ≠ g ∧ g ≠ ge ∧ g ≠ ob ∧ ob ≠ g) ∧ wr.cell? ⟨g, k * 5 + 4, none⟩ = some (.int .i64 s.h) ∧ (∀ j, wr.frozen? ⟨g, j, none⟩ = false) ∧
      (∀ v : Int, RjP w b ob mb qb A n c A' m c' A2 l cq C S (P.set i { y with L := y.L.set k ⟨s.c, s.f, s.r, s.g, v⟩ }) q mg u2 (wr.setCell ⟨g, k * 5 + 4, none⟩ (.int .i64 v))) := by
  obtain ⟨E, hE⟩ := h.pc
  obtain ⟨ge, x, g, rfl, hbe, hle, hx, c5, hbg, hlg, n1, n2, cc, hf, ⟨cs, hB⟩, _, ht⟩ := hE.stop hy hs
  have ho := hB.ne h.o (by decide)
  have hm := hB.ne h.mks (by decide)
  have hq := hB.ne h.x (by decide)
  have hr := hB.ne h.rs (by decide)
  exact ⟨ge, g, x.sc, rfl, hle, c5, hlg, ⟨n1, n2, ho, fun e => ho e.symm⟩, cc.2.2.2.2, hf, fun v =>
    ⟨⟨E, ht v⟩, h.o.setOther (fun e => ho e.symm) _ _, h.mks.setOther (fun e => hm e.symm) _ _, h.x.setOther (fun e => hq e.symm) _ _, h.rs.setOther (fun e => hr e.symm) _ _, h.lo.setCell (p := ⟨g, k * 5 + 4, none⟩) (Nat.le_trans hb hbg) _⟩⟩
end Go.Proofs.YtdhjigaocamglaaDoor

/- The reference's table of fewest signs. -/
namespace Go.Proofs.YtdhjigaocamglaaDoor
open Go Go.RowKit

/-- The list of all signs and the table, filled up to i; at i stands o. -/
structure Few (w wr : World) (ga ca g n : Nat) (i : Nat) (o : Option Int) : Prop where
  all : wr.ownsRow w.heap.size 48 3 (.slice (some ⟨ga, 0, none⟩) 21 ca) 21 (alL 21)
  low : Below w.heap.size w wr
  base : w.heap.size ≤ g
  row : ∃ cur, Blk wr g 3 cur ∧ cur.size = n + 1 ∧ (∀ j, j < i → cur[j]? = some (.int .i64 (lv j))) ∧ (∀ c, o = some c → cur[i]? = some (.int .i64 c))
theorem Few.below {w wr w' : World} {ga ca g n i : Nat} {o : Option Int} (h : Few w wr ga ca g n i o) (hb : Below wr.heap.size wr w') : Few w w' ga ca g n i o := by
  obtain ⟨cur, h1, h2⟩ := h.row
  exact ⟨own_below h.all hb, bt h.low hb, h.base, cur, h1.below hb, h2⟩
theorem Few.cell {w wr : World} {ga ca g n i : Nat} {o : Option Int} (h : Few w wr ga ca g n i o) {j : Nat} (hj : j < i) : wr.cell? ⟨g, j, none⟩ = some (.int .i64 (lv j)) := by
  obtain ⟨cur, h1, _, h3, _⟩ := h.row
  rw [h1.cell, h3 j hj]
theorem Few.cur {w wr : World} {ga ca g n i : Nat} {c : Int} (h : Few w wr ga ca g n i (some c)) : wr.cell? ⟨g, i, none⟩ = some (.int .i64 c) := by
  obtain ⟨cur, h1, _, _, h4⟩ := h.row
  rw [h1.cell, h4 c rfl]
theorem Few.put {w wr : World} {ga ca g n i : Nat} {o : Option Int} (h : Few w wr ga ca g n i o) (hi : i ≤ n) (c : Int) : Few w (wr.setCell ⟨g, i, none⟩ (.int .i64 c)) ga ca g n i (some c) := by
  obtain ⟨cur, h1, h2, h3, _⟩ := h.row
  have hne : (Value.slice (some ⟨ga, 0, none⟩) 21 ca).ownBlock ≠ some g := own_neF h.all h1 (by decide)
  refine ⟨ownsRow_setCell_other h.all hne _, h.low.setCell h.base _, h.base, _, h1.set_ _ _, by simpa using h2, fun j hj => ?_, fun d hd => ?_⟩
  · rw [Array.getElem?_setIfInBounds_ne (by omega)]
    exact h3 j hj
  · injection hd with hd
    subst hd
    rw [Array.getElem?_setIfInBounds_self_of_lt (by omega)]
end Go.Proofs.YtdhjigaocamglaaDoor
