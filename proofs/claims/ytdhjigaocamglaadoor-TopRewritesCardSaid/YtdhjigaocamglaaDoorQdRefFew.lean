/- Pieces: Join of the program, with its error. -/
import Derived.Test.YtdhjigaocamglaaDoorQdJn2
import Derived.Test.YtdhjigaocamglaaDoorQdTrn
import Derived.Test.YtdhjigaocamglaaDoorQdRefAll
import Derived.BigQuiet
namespace Go.Proofs.YtdhjigaocamglaaDoor
open Go Go.RowKit

set_option maxRecDepth 100000 in
set_option maxHeartbeats 3200000 in
theorem pjoin_any (A : Option Addr) (n c : Nat) (A' : Option Addr) (m c' : Nat) (A2 : Option Addr) (q cq : Nat) (C : List Cr) (S : List Int) (P : List EvP) (w : World) (hP : PcIn w A n c A' m c' A2 q cq C S P) (hT : SgT w) (hnb : n ≤ 1000000) (hmb : m ≤ 1000000) (hqb : q ≤ 65536) (hst : ∀ y ∈ P, y.L.length ≤ 1000000) :
    Calls Tryd.prog 18 #[pcV A n c A' m c' A2 q cq] w (PcRes (pcErr C S P) C S (jnRes P) w) := by
  obtain ⟨X, hX⟩ : ∃ X, pcErr C S P = X := ⟨_, rfl⟩
  by_cases hX0 : X = 0
  · subst hX0
    rw [hX]
    exact join_fine A n c A' m c' A2 q cq C S P w hP hT hX hnb hmb hqb hst
  · have HP : Hid (∀ w', Below w.heap.size w w' → PcIn w' A n c A' m c' A2 q cq C S P) := fun w' hb => hP.below hb
    have HST := Lib.hid hst
    have HBX := Lib.hid (pbox w A n c A' m c' A2 q cq)
    have HX := Lib.hid hX
    rw [hX]
    have hXb : (X != 0) = true := by simpa using hX0
    have HX0 := Lib.hid hX0
    clear hX0 hX hP hst hT
    go_enter Tryd.func18, Tryd.ntmps18
    go_wp2_with (go_at_call 35; refine (pcheck_any A n c A' m c' A2 q cq C S P _ (HP.out _ HBX.out.2.2.1) hnb hmb (by omega) HST.out).mono ?_; rintro e W1 ⟨rfl, hb1⟩; rw [HX.out]; have hP1 := HBX.out.1.below hb1; have hR1 := HBX.out.2.1.below hb1; have p0 := hP1.cell 0; have p1 := hP1.cell 1; have p2 := hP1.cell 2; have r0 := hR1.cell 0; have r1 := hR1.cell 1; have r2 := hR1.cell 2; have f0 := hR1.frozen 0; have f1 := hR1.frozen 1; have f2 := hR1.frozen 2; simp at p0 p1 p2 r0 r1 r2; have hl0 := hP1.lt; have hl1 := hR1.lt; have HB1 := Lib.hid (And.intro hP1 (And.intro hR1 hb1)); clear hP1 hR1 hb1)
    exact err_ret w W1 X (bt HBX.out.2.2.1 HB1.out.2.2) HX0.out (by simp [results, Tryd.results18, go_sem, World.cell?_setCell_same', World.cell?_setCell_other, r0, r1, r2])

end Go.Proofs.YtdhjigaocamglaaDoor

/- Pieces: Join of the reference, as plain lists. -/
namespace Go.Proofs.YtdhjigaocamglaaDoor
open Go Go.RowKit

def stE (y : EvP) : EvP := { y with L := [] }
def tkE (y : EvP) : Int := tkV y.v y.d y.t
def tkLast (l : List EvP) : Int := tkE (l.getD (l.length - 1) z6)
theorem soOf_tk {x : Int} {s : Sg} (h : soOf x = some s) : tkV s.v s.d s.t = x := by
  unfold soOf at h
  obtain ⟨k, h1, rfl⟩ := Option.map_eq_some_iff.1 h
  have := List.find?_some h1
  exact of_decide_eq_true (p := soT k = x) this
theorem getD_app {α : Type} (l : List α) (x d : α) (i : Nat) : (l ++ [x]).getD i d = if i < l.length then l.getD i d else if i = l.length then x else d := by
  rw [List.getD_eq_getElem?_getD]
  by_cases h : i < l.length
  · rw [if_pos h, List.getElem?_append_left h, List.getD_eq_getElem?_getD]
  · rw [if_neg h]
    by_cases h2 : i = l.length
    · subst h2
      simp
    · rw [if_neg h2, List.getElem?_eq_none (by simp; omega)]
      rfl
theorem get_app {α : Type} (l : List α) (x : α) (i : Nat) (y : α) (h : (l ++ [x])[i]? = some y) : (i < l.length ∧ l[i]? = some y) ∨ (i = l.length ∧ x = y) := by
  by_cases h2 : i < l.length
  · rw [List.getElem?_append_left h2] at h
    exact .inl ⟨h2, h⟩
  · have h3 := (List.getElem?_eq_some_iff.1 h).1
    simp at h3
    have : i = l.length := by omega
    subst this
    simp at h
    exact .inr ⟨rfl, h⟩
theorem sLast_len (l : List EvP) (s : Sg) : (setLast l s).length = l.length := by simp [setLast]
theorem tmPL_tk : ∀ (P : List EvP) (n : Nat) (v : Int) (d t : Bool) (fm : Int), ∀ p ∈ tmPL P n v d t fm, p.to - p.fm = tkV p.v p.d p.t
  | [], _, _, _, _, _, p, h => by simp [tmPL] at h
  | y :: r, n, v, d, t, fm, p, h => by
    unfold tmPL at h
    split at h
    · rcases List.mem_cons.1 h with rfl | h
      · dsimp only
        omega
      · exact tmPL_tk r _ _ _ _ _ p h
    · rcases List.mem_cons.1 h with rfl | h
      · dsimp only
        omega
      · exact tmPL_tk r _ _ _ _ _ p h
end Go.Proofs.YtdhjigaocamglaaDoor

/- Pieces: both Joins answer one list. -/
namespace Go.Proofs.YtdhjigaocamglaaDoor
open Go Go.RowKit

end Go.Proofs.YtdhjigaocamglaaDoor

/- Pieces: Join's loop of the reference: what it keeps. -/
namespace Go.Proofs.YtdhjigaocamglaaDoor
open Go Go.RowKit

/-- The marks: those that are told, and the rest. -/
def mgL (q : Nat) (mg : List Bool) : List Value := mg.map .bool ++ List.replicate (q - mg.length) (.bool false)
theorem mgL_no {q : Nat} {mg : List Bool} (h : mg.length < q) : mgL q (mg ++ [false]) = mgL q mg := by
  unfold mgL
  obtain ⟨k, hk⟩ : ∃ k, q - mg.length = k + 1 := ⟨q - mg.length - 1, by omega⟩
  rw [hk, List.length_append, List.length_singleton, show q - (mg.length + 1) = k by omega, List.replicate_succ]
  simp
structure RjO (W5 : World) (b ob mb : Nat) (u0 u1 v : Value) (E : List EvT) (q : Nat) (Q : List EvP) (X : List EvT) (mg : List Bool) (W : World) : Prop where
  o : Blk W ob 28 #[u0, u1, v]
  row : W.ownsRow W5.heap.size 51 6 v Q.length (evC X)
  xl : X.length = Q.length
  m : Blk W mb 4 (mgL q mg).toArray
  cp : CpE W5 b X Q
  src : ∀ (k : Nat) (x : EvT), X[k]? = some x → ∃ j z, j < mg.length ∧ E[j]? = some z ∧ z.sa = x.sa ∧ z.sn = x.sn
  dst : DstE X
  kx : Kx (fun k => k = ob ∨ k = mb) W5.heap.size W5 W
theorem RjO.below {W5 : World} {b ob mb : Nat} {u0 u1 v : Value} {E : List EvT} {q : Nat} {Q : List EvP} {X : List EvT} {mg : List Bool} {W W' : World} (h : RjO W5 b ob mb u0 u1 v E q Q X mg W) (hb : Below W.heap.size W W') : RjO W5 b ob mb u0 u1 v E q Q X mg W' :=
  ⟨h.o.below hb, ownsRow_heap h.row (fun g hg => hb.block g (h.row.lt g hg).2), h.xl, h.m.below hb, h.cp, h.src, h.dst, h.kx.trans ((Kx.of_below hb).mono h.kx.size (fun _ _ h => h))⟩
/-- One event more. -/
theorem RjO.event {W5 : World} {b ob mb : Nat} {u0 u1 v : Value} {E : List EvT} {q : Nat} {Q : List EvP} {X : List EvT} {mg : List Bool} {W w6 : World} {O : Obj} {v' : Value} {news : List Value} (h : RjO W5 b ob mb u0 u1 v E q Q X mg W) {G : List EvP} (hC : CpE W5 b E G) (hD : DstE E) {y : EvP} {x : EvT} (hy : G[mg.length]? = some y) (hx : E[mg.length]? = some x)
    (hn : news = [.bool y.bar, .int .i64 y.v, .bool y.d, .bool y.t, .bool y.tie, .slice x.sa y.L.length x.sc]) (hq : mg.length < q)
    (hown : w6.ownsRow W5.heap.size 51 6 v' (Q.length + 1) (evC X ++ news)) (hg : (W.alloc O).grownBy w6 v.ownBlock) (ho : ob < W5.heap.size) (hom : mb ≠ ob) :
    Blk w6 ob 28 #[u0, u1, v] ∧ RjO W5 b ob mb u0 u1 v' E q (Q ++ [y]) (X ++ [x]) (mg ++ [false]) (w6.setCell ⟨ob, 2, none⟩ v') := by
  have hk : ∀ (g : Nat) (T : TypeId) (cs : Array Value), T ≠ 51 → Blk W g T cs → Blk w6 g T cs := fun g T cs hT hB => (hB.below (ba _ _)).grown hg (blk_apart hB h.row hT)
  have q6 := hk _ _ _ (by decide) h.o
  have m6 := hk _ _ _ (by decide) h.m
  have hz := h.kx.size
  obtain ⟨k1, k2⟩ := hC _ x y hx hy
  refine ⟨q6, ?_, ?_, ?_, ?_, ?_, ?_, ?_, ?_⟩
  · have := q6.set_ 2 v'
    simpa using this
  · rw [List.length_append, List.length_singleton, evC_append]
    have e : evC [x] = news := by
      rw [hn]
      show [Value.bool x.bar, .int .i64 x.v, .bool x.d, .bool x.t, .bool x.tie, .slice x.sa x.sn x.sc] = _
      rw [k1.1, k1.2.1, k1.2.2.1, k1.2.2.2.1, k1.2.2.2.2.1, k1.2.2.2.2.2]
    rw [e]
    exact ownsRow_heap hown (fun g2 hg2 => set_other _ _ _ _ _ (fun e => by have := (hown.lt g2 hg2).1; omega))
  · rw [List.length_append, List.length_append, h.xl]
    rfl
  · rw [mgL_no hq]
    exact m6.setOther hom _ _
  · exact h.cp.snoc2 h.xl k1 k2
  · intro k x' hx'
    rw [List.length_append, List.length_singleton]
    rcases Nat.lt_or_ge k X.length with hlt | hge
    · rw [List.getElem?_append_left hlt] at hx'
      obtain ⟨j, z, j1, j2⟩ := h.src k x' hx'
      exact ⟨j, z, by omega, j2⟩
    · have hl := (List.getElem?_eq_some_iff.1 hx').1
      rw [List.length_append, List.length_singleton] at hl
      have : k = X.length := by omega
      subst this
      simp at hx'
      subst hx'
      exact ⟨mg.length, x, by omega, hx, rfl, rfl⟩
  · intro i j x1 x2 hij h1 h2 n1 n2
    have hl := (List.getElem?_eq_some_iff.1 h2).1
    rw [List.length_append, List.length_singleton] at hl
    rw [List.getElem?_append_left (by omega)] at h1
    rcases Nat.lt_or_ge j X.length with hlt | hge
    · rw [List.getElem?_append_left hlt] at h2
      exact h.dst i j x1 x2 hij h1 h2 n1 n2
    · have : j = X.length := by omega
      subst this
      simp at h2
      subst h2
      obtain ⟨j', z, j1, j2, j3, j4⟩ := h.src i x1 h1
      rw [← j3]
      exact hD j' _ z _ j1 j2 hx (by omega) n2
  · have k1 := (h.kx.trans ((Kx.of_below (x := fun k => k = ob ∨ k = mb) (ba W O)).mono hz (fun _ _ h => h))).grown hg (by simp; omega) (fun k hk => (h.row.lt k hk).1) (fun k hk => by
      obtain ⟨cs, T, f, h3⟩ := row_cells h.row k hk
      exact ⟨cs, T, f, ((ba W O).block k (Array.getElem?_eq_some_iff.1 h3).1).trans h3⟩)
    exact k1.setBlk (.inr (.inl rfl)) q6 _ _
/-- The sign of the last event. -/
theorem RjO.last {W5 : World} {b ob mb : Nat} {u0 u1 v : Value} {E : List EvT} {q : Nat} {Q : List EvP} {X : List EvT} {mg : List Bool} {W : World} (h : RjO W5 b ob mb u0 u1 v E q Q X mg W) (hne : 0 < Q.length) (ho : ob < W5.heap.size) (hm : mb < W5.heap.size) :
    ∃ g cap y, ∃ X' : Sg → List EvT, v = .slice (some ⟨g, 0, none⟩) Q.length cap ∧ W5.heap.size ≤ g ∧ g < W.heap.size ∧ (∃ cs, Blk W g 51 cs) ∧ Q[Q.length - 1]? = some y ∧ tkLast Q = tkE y ∧
      (W.cell? ⟨g, (Q.length - 1) * 6 + 1, none⟩ = some (.int .i64 y.v) ∧ W.cell? ⟨g, (Q.length - 1) * 6 + 2, none⟩ = some (.bool y.d) ∧ W.cell? ⟨g, (Q.length - 1) * 6 + 3, none⟩ = some (.bool y.t)) ∧ (∀ j, W.frozen? ⟨g, j, none⟩ = false) ∧
      (∀ s : Sg, RjO W5 b ob mb u0 u1 v E q (setLast Q s) (X' s) mg (((W.setCell ⟨g, (Q.length - 1) * 6 + 1, none⟩ (.int .i64 s.v)).setCell ⟨g, (Q.length - 1) * 6 + 2, none⟩ (.bool s.d)).setCell ⟨g, (Q.length - 1) * 6 + 3, none⟩ (.bool s.t))) := by
  obtain ⟨hl, h2⟩ := h.row
  rcases h2 with ⟨_, e0⟩ | ⟨g, cap, cur', e1, e2, e3, e4, e5, e6, e7⟩
  · omega
  have hB : Blk W g 51 cur' := e3
  have hk : Q.length - 1 < Q.length := by omega
  have hkX : Q.length - 1 < X.length := by rw [h.xl]; omega
  have hy := List.getElem?_eq_getElem hk
  have hx := List.getElem?_eq_getElem hkX
  have hyd : Q.getD (Q.length - 1) z6 = Q[Q.length - 1] := by simp [List.getD_eq_getElem?_getD, hy]
  obtain ⟨k1, k2⟩ := h.cp _ _ _ hx hy
  obtain ⟨_, i1, i2, i3, _, _⟩ := evC_at _ _ _ hx
  rw [k1.2.1] at i1
  rw [k1.2.2.1] at i2
  rw [k1.2.2.2.1] at i3
  refine ⟨g, cap, Q[Q.length - 1], fun s => X.set (Q.length - 1) (upT X[Q.length - 1] s), e1, e2, hB.lt, ⟨_, hB⟩, hy, by unfold tkLast; rw [hyd], ⟨hB.cellOf e7 i1, hB.cellOf e7 i2, hB.cellOf e7 i3⟩, fun j => hB.frozen j, fun s => ?_⟩
  have hOw : Ow W W5.heap.size 51 6 (some ⟨g, 0, none⟩) Q.length cap (evC X) := by
    have := h.row
    rw [e1] at this
    exact Ow.of_own this
  have h3 := ((hOw.set_ ((Q.length - 1) * 6 + 1) (.int .i64 s.v)).set_ ((Q.length - 1) * 6 + 2) (.bool s.d)).set_ ((Q.length - 1) * 6 + 3) (.bool s.t)
  rw [evC_upT _ _ _ s hx] at h3
  have hls : (setLast Q s).length = Q.length := sLast_len Q s
  have hkb : ∀ (g2 : Nat) (T : TypeId) (cs : Array Value), g2 ≠ g → Blk W g2 T cs → Blk (((W.setCell ⟨g, (Q.length - 1) * 6 + 1, none⟩ (.int .i64 s.v)).setCell ⟨g, (Q.length - 1) * 6 + 2, none⟩ (.bool s.d)).setCell ⟨g, (Q.length - 1) * 6 + 3, none⟩ (.bool s.t)) g2 T cs := fun g2 T cs hT h2 =>
    ((h2.setOther hT _ _).setOther hT _ _).setOther hT _ _
  have hfx : ∀ (i : Nat) (x' : EvT), (X.set (Q.length - 1) (upT X[Q.length - 1] s))[i]? = some x' → ∃ x0, X[i]? = some x0 ∧ x0.sa = x'.sa ∧ x0.sn = x'.sn := fun i x' hx' => by
    by_cases hi : i = Q.length - 1
    · subst hi
      rw [List.getElem?_set_self hkX] at hx'
      injection hx' with hx'
      subst hx'
      exact ⟨_, hx, rfl, rfl⟩
    · rw [List.getElem?_set_ne (fun e => hi e.symm)] at hx'
      exact ⟨x', hx', rfl, rfl⟩
  obtain ⟨g3, cur3, f1, f2, f3, f4, f5⟩ := h3.2.2 hne
  injection f1 with f1
  injection f1 with f1
  subst f1
  refine ⟨hkb _ _ _ (by omega) h.o, ⟨by rw [hls]; exact h3.2.1, .inr ⟨g, cap, cur3, by rw [hls]; exact e1, e2, f3, by rw [hls]; exact e4, e5, f4, by rw [hls]; exact f5⟩⟩, by rw [List.length_set, hls]; exact h.xl, hkb _ _ _ (by omega) h.m, ?_, ?_, ?_, ((h.kx.setBlk (.inl e2) hB _ _).setBlk (.inl e2) (hB.set_ _ _) _ _).setBlk (.inl e2) ((hB.set_ _ _).set_ _ _) _ _⟩
  · intro j x' y' hx' hy'
    unfold setLast at hy'
    by_cases hj : j = Q.length - 1
    · subst hj
      rw [List.getElem?_set_self hkX] at hx'
      rw [List.getElem?_set_self hk] at hy'
      injection hx' with hx'
      injection hy' with hy'
      subst hx' hy'
      rw [hyd]
      exact ⟨⟨k1.1, rfl, rfl, rfl, k1.2.2.2.2.1, k1.2.2.2.2.2⟩, k2⟩
    · rw [List.getElem?_set_ne (fun e => hj e.symm)] at hx' hy'
      exact h.cp j x' y' hx' hy'
  · intro k x' hx'
    obtain ⟨x0, a1, a2, a3⟩ := hfx k x' hx'
    obtain ⟨j, z, j1, j2, j3, j4⟩ := h.src k x0 a1
    exact ⟨j, z, j1, j2, j3.trans a2, j4.trans a3⟩
  · intro i j x' y' hij hx' hy' h1 h2
    obtain ⟨a, a1, a2, a3⟩ := hfx i x' hx'
    obtain ⟨d, d1, d2, d3⟩ := hfx j y' hy'
    rw [← a2, ← d2]
    exact h.dst i j a d hij a1 d1 (by omega) (by omega)
end Go.Proofs.YtdhjigaocamglaaDoor

/- Pieces: Join of the reference: the second loop, what it keeps. -/
namespace Go.Proofs.YtdhjigaocamglaaDoor
open Go Go.RowKit

/-- The second loop: what it keeps. -/
structure RjP (w : World) (b ob mb qb : Nat) (A : Option Addr) (n c : Nat) (A' : Option Addr) (m c' : Nat) (A2 : Option Addr) (l cq : Nat) (C : List Cr) (S : List Int) (P : List EvP) (q : Nat) (mg : List Bool) (u2 : Value) (wr : World) : Prop where
  pc : ∃ E, PcOE wr b A n c A' m c' A2 l cq C S P E
  o : Blk wr ob 28 #[.slice A n c, .slice A' m c', .slice A2 l cq]
  mks : Blk wr mb 4 (mgL q mg).toArray
  x : Blk wr qb 28 #[.slice A n c, .slice A' m c', u2]
  rs : Blk wr (w.heap.size + 1) 28 #[.slice none 0 0, .slice none 0 0, .slice none 0 0]
  lo : Below w.heap.size w wr
theorem RjP.below {w : World} {b ob mb qb : Nat} {A : Option Addr} {n c : Nat} {A' : Option Addr} {m c' : Nat} {A2 : Option Addr} {l cq : Nat} {C : List Cr} {S : List Int} {P : List EvP} {q : Nat} {mg : List Bool} {u2 : Value} {wr wx : World}
    (h : RjP w b ob mb qb A n c A' m c' A2 l cq C S P q mg u2 wr) (hb : Below wr.heap.size wr wx) : RjP w b ob mb qb A n c A' m c' A2 l cq C S P q mg u2 wx := by
  obtain ⟨E, hE⟩ := h.pc
  exact ⟨⟨E, hE.below hb⟩, h.o.below hb, h.mks.below hb, h.x.below hb, h.rs.below hb, bt h.lo hb⟩
theorem RjP.stop {w : World} {b ob mb qb : Nat} {A : Option Addr} {n c : Nat} {A' : Option Addr} {m c' : Nat} {A2 : Option Addr} {l cq : Nat} {C : List Cr} {S : List Int} {P : List EvP} {q : Nat} {mg : List Bool} {u2 : Value} {wr : World}
    (h : RjP w b ob mb qb A n c A' m c' A2 l cq C S P q mg u2 wr) (hb : w.heap.size ≤ b) {i k : Nat} {y : EvP} (hy : P[i]? = some y) {s : St} (hs : y.L[k]? = some s) :
    ∃ ge g sc, A2 = some ⟨ge, 0, none⟩ ∧ ge < wr.heap.size ∧ wr.cell? ⟨ge, i * 6 + 5, none⟩ = some (.slice (some ⟨g, 0, none⟩) y.L.length sc) ∧ g < wr.heap.size ∧ (ge ≠ g ∧ g ≠ ge ∧ g ≠ ob ∧ ob ≠ g) ∧ wr.cell? ⟨g, k * 5 + 4, none⟩ = some (.int .i64 s.h) ∧ (∀ j, wr.frozen? ⟨g, j, none⟩ = false) ∧
      (∀ v : Int, RjP w b ob mb qb A n c A' m c' A2 l cq C S (P.set i { y with L := y.L.set k ⟨s.c, s.f, s.r, s.g, v⟩ }) q mg u2 (wr.setCell ⟨g, k * 5 + 4, none⟩ (.int .i64 v))) := by
  obtain ⟨E, hE⟩ := h.pc
  obtain ⟨ge, x, g, rfl, hbe, hle, hx, c5, hbg, hlg, n1, n2, cc, hf, ⟨cs, hB⟩, _, ht⟩ := hE.stop hy hs
  have ho := hB.ne h.o (by decide)
  have hm := hB.ne h.mks (by decide)
  have hq := hB.ne h.x (by decide)
  have hr := hB.ne h.rs (by decide)
  exact ⟨ge, g, x.sc, rfl, hle, c5, hlg, ⟨n1, n2, ho, fun e => ho e.symm⟩, cc.2.2.2.2, hf, fun v =>
    ⟨⟨E, ht v⟩, h.o.setOther (fun e => ho e.symm) _ _, h.mks.setOther (fun e => hm e.symm) _ _, h.x.setOther (fun e => hq e.symm) _ _, h.rs.setOther (fun e => hr e.symm) _ _, h.lo.setCell (p := ⟨g, k * 5 + 4, none⟩) (Nat.le_trans hb hbg) _⟩⟩
end Go.Proofs.YtdhjigaocamglaaDoor

/- The reference's table of fewest signs. -/
namespace Go.Proofs.YtdhjigaocamglaaDoor
open Go Go.RowKit

/-- The list of all signs and the table, filled up to i; at i stands o. -/
structure Few (w wr : World) (ga ca g n : Nat) (i : Nat) (o : Option Int) : Prop where
  all : wr.ownsRow w.heap.size 48 3 (.slice (some ⟨ga, 0, none⟩) 21 ca) 21 (alL 21)
  low : Below w.heap.size w wr
  base : w.heap.size ≤ g
  row : ∃ cur, Blk wr g 3 cur ∧ cur.size = n + 1 ∧ (∀ j, j < i → cur[j]? = some (.int .i64 (lv j))) ∧ (∀ c, o = some c → cur[i]? = some (.int .i64 c))
theorem Few.below {w wr w' : World} {ga ca g n i : Nat} {o : Option Int} (h : Few w wr ga ca g n i o) (hb : Below wr.heap.size wr w') : Few w w' ga ca g n i o := by
  obtain ⟨cur, h1, h2⟩ := h.row
  exact ⟨own_below h.all hb, bt h.low hb, h.base, cur, h1.below hb, h2⟩
theorem Few.cell {w wr : World} {ga ca g n i : Nat} {o : Option Int} (h : Few w wr ga ca g n i o) {j : Nat} (hj : j < i) : wr.cell? ⟨g, j, none⟩ = some (.int .i64 (lv j)) := by
  obtain ⟨cur, h1, _, h3, _⟩ := h.row
  rw [h1.cell, h3 j hj]
theorem Few.cur {w wr : World} {ga ca g n i : Nat} {c : Int} (h : Few w wr ga ca g n i (some c)) : wr.cell? ⟨g, i, none⟩ = some (.int .i64 c) := by
  obtain ⟨cur, h1, _, _, h4⟩ := h.row
  rw [h1.cell, h4 c rfl]
theorem Few.put {w wr : World} {ga ca g n i : Nat} {o : Option Int} (h : Few w wr ga ca g n i o) (hi : i ≤ n) (c : Int) : Few w (wr.setCell ⟨g, i, none⟩ (.int .i64 c)) ga ca g n i (some c) := by
  obtain ⟨cur, h1, h2, h3, _⟩ := h.row
  have hne : (Value.slice (some ⟨ga, 0, none⟩) 21 ca).ownBlock ≠ some g := own_neF h.all h1 (by decide)
  refine ⟨ownsRow_setCell_other h.all hne _, h.low.setCell h.base _, h.base, _, h1.set_ _ _, by simpa using h2, fun j hj => ?_, fun d hd => ?_⟩
  · rw [Array.getElem?_setIfInBounds_ne (by omega)]
    exact h3 j hj
  · injection hd with hd
    subst hd
    rw [Array.getElem?_setIfInBounds_self_of_lt (by omega)]
end Go.Proofs.YtdhjigaocamglaaDoor
