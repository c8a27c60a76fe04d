/- Sound: what is down on each course at each event, in the program (Courses), for any piece. -/
import Derived.Test.YtpcehgifpajmbaaCrs
import Derived.Test.YtpcehgifpajmbaaSndCs
import Derived.Test.YtpcehgifpajmbaaPcCopy
import Derived.Test.YtpcehgifpajmbaaSndRP
namespace Go.Proofs.Ytpcehgifpajmbaa
open Go Go.RowKit

/-- A row in memory. -/
structure RwT where
  a : Option Addr
  n : Nat
  c : Nat
def rwC (Z : List RwT) : List Value := Z.map fun x => .slice x.a x.n x.c
theorem rwC_len (Z : List RwT) : (rwC Z).length = Z.length := by simp [rwC]
theorem rwC_snoc (Z : List RwT) (x : RwT) : rwC (Z ++ [x]) = rwC Z ++ [.slice x.a x.n x.c] := by simp [rwC]
/-- The rows gathered so far: each lies in a block of its own. -/
def CpW (w : World) (B : Nat) (Z : List RwT) (L : List (List Int)) : Prop := Z.length = L.length ∧ ∀ (j : Nat) (x : RwT) (y : List Int), Z[j]? = some x → L[j]? = some y → x.n = y.length ∧ Ow w B 3 1 x.a x.n x.c (intC y)
theorem CpW.nil (w : World) (B : Nat) : CpW w B [] [] := ⟨rfl, fun j x y h => by simp at h⟩
theorem CpW.blk {w w' : World} {B : Nat} {Z : List RwT} {L : List (List Int)} (h : CpW w B Z L) (hk : ∀ g cs, Blk w g 3 cs → Blk w' g 3 cs) : CpW w' B Z L :=
  ⟨h.1, fun j x y hx hy => ⟨(h.2 j x y hx hy).1, (h.2 j x y hx hy).2.blk hk⟩⟩
theorem CpW.below {w w' : World} {B : Nat} {Z : List RwT} {L : List (List Int)} (h : CpW w B Z L) (hb : Below w.heap.size w w') : CpW w' B Z L := h.blk fun _ _ h => h.below hb
theorem CpW.snoc {w : World} {B : Nat} {Z : List RwT} {L : List (List Int)} {x : RwT} {y : List Int} (h : CpW w B Z L) (h1 : x.n = y.length) (h2 : Ow w B 3 1 x.a x.n x.c (intC y)) : CpW w B (Z ++ [x]) (L ++ [y]) :=
  ⟨by simp [h.1], fun j x' y' hx' hy' => by
    have hl := h.1
    by_cases hj : j < Z.length
    · rw [List.getElem?_append_left hj] at hx'
      rw [List.getElem?_append_left (by omega)] at hy'
      exact h.2 j x' y' hx' hy'
    · rw [List.getElem?_append_right (by omega)] at hx' hy'
      by_cases hj2 : j = Z.length
      · subst hj2
        rw [hl] at hx' hy'
        simp at hx' hy'
        subst hx' hy'
        exact ⟨h1, h2⟩
      · rw [List.getElem?_eq_none (by simp; omega)] at hx'
        cases hx'⟩
/-- A list of rows in memory. -/
def RwIn (w : World) (A : Option Addr) (n c : Nat) (L : List (List Int)) : Prop := n = L.length ∧ ∃ Z : List RwT, Z.length = L.length ∧ (∀ (j : Nat) (x : RwT) (y : List Int), Z[j]? = some x → L[j]? = some y → x.n = y.length ∧ Sl w w.heap.size 1 x.a x.n x.c (intC y)) ∧ Sl w w.heap.size 1 A n c (rwC Z)
theorem RwIn.below {w w' : World} {A : Option Addr} {n c : Nat} {L : List (List Int)} (h : RwIn w A n c L) (hb : Below w.heap.size w w') : RwIn w' A n c L := by
  obtain ⟨h1, Z, h2, h3, h4⟩ := h
  exact ⟨h1, Z, h2, fun j x y hx hy => ⟨(h3 j x y hx hy).1, (h3 j x y hx hy).2.below hb⟩, h4.below hb⟩
theorem RwIn.nil (w : World) : RwIn w none 0 0 [] := ⟨rfl, [], rfl, fun j x y h => by simp at h, Sl.none_ _ _ _⟩
theorem RwIn.of {w : World} {A : Option Addr} {n c B : Nat} {L : List (List Int)} {Z : List RwT} (hn : n = L.length) (h : CpW w B Z L) (hs : Sl w w.heap.size 1 A n c (rwC Z)) : RwIn w A n c L :=
  ⟨hn, Z, h.1, fun j x y hx hy => ⟨(h.2 j x y hx hy).1, (h.2 j x y hx hy).2.sl⟩, hs⟩
theorem RwIn.at {w : World} {A : Option Addr} {n c : Nat} {L : List (List Int)} (h : RwIn w A n c L) {k : Nat} (hk : k < n) :
    ∃ b off pa pc, A = some ⟨b, off, none⟩ ∧ b < w.heap.size ∧ L[k]? = some (L.getD k []) ∧ w.cell? ⟨b, off + k, none⟩ = some (.slice pa (L.getD k []).length pc) ∧ Sl w w.heap.size 1 pa (L.getD k []).length pc (intC (L.getD k [])) := by
  obtain ⟨hn, Z, hl, hz, hs⟩ := h
  obtain ⟨b, off, hA, hb, hc⟩ := hs.2.2 (by omega)
  have hkL : k < L.length := by omega
  have hkZ : k < Z.length := by omega
  have hg : L.getD k [] = L[k] := by simp [List.getD_eq_getElem?_getD, List.getElem?_eq_getElem hkL]
  obtain ⟨e3, hp⟩ := hz k Z[k] L[k] (List.getElem?_eq_getElem hkZ) (List.getElem?_eq_getElem hkL)
  have c0 : (rwC Z)[k]? = some (.slice Z[k].a Z[k].n Z[k].c) := by simp [rwC, List.getElem?_map, List.getElem?_eq_getElem hkZ]
  rw [hg]
  rw [e3] at hp c0
  exact ⟨b, off, Z[k].a, Z[k].c, hA, hb, List.getElem?_eq_getElem hkL, hc _ _ c0, hp⟩
/-- A call hands back rows and an error. -/
def RwPost (L : List (List Int)) (er : Int) (w : World) (e : Ending) (w' : World) : Prop :=
  ∃ B n d, e = .returned (.tuple #[.slice B n d, .int .i64 er]) ∧ RwIn w' B n d L ∧ Below w.heap.size w w'

def sv7 (x : Py) : List Value := [.int .i64 x.f, .int .i64 x.u, .int .i64 x.t.ev, .int .i64 x.t.c, .int .i64 x.t.p, .int .i64 x.t.fm, .int .i64 x.t.to]
theorem pyC_split (L : List Py) (k : Nat) (h : k < L.length) : pyC L = pyC (L.take k) ++ (sv7 (L.getD k zPy) ++ pyC (L.drop (k + 1))) := by
  have e : L = L.take k ++ (L.getD k zPy :: L.drop (k + 1)) := by
    have := List.take_append_drop k L
    rw [List.drop_eq_getElem_cons h] at this
    rw [List.getD_eq_getElem?_getD, List.getElem?_eq_getElem h]
    exact this.symm
  conv => lhs; rw [e]
  unfold pyC
  rw [List.flatMap_append, List.flatMap_cons]
  rfl
theorem app3 (A S R : List Value) {a j : Nat} (hA : A.length = a) (hS : S.length = 7) (h : a + 7 ≤ j) : (A ++ (S ++ R))[j]? = R[j - (a + 7)]? := by
  rw [List.getElem?_append_right (by omega), List.getElem?_append_right (by omega)]
  congr 1
  omega
theorem pyC_other {L : List Py} {k j : Nat} {x : Py} (h : k < L.length) (hj : j < k * 7 ∨ k * 7 + 7 ≤ j) : (pyC (L.set k x))[j]? = (pyC L)[j]? := by
  have e1 : (L.set k x).take k = L.take k := by
    refine List.ext_getElem? fun i => ?_
    rw [List.getElem?_take, List.getElem?_take]
    split
    · rw [List.getElem?_set_ne (by omega)]
    · rfl
  have e2 : (L.set k x).drop (k + 1) = L.drop (k + 1) := by
    refine List.ext_getElem? fun i => ?_
    rw [List.getElem?_drop, List.getElem?_drop, List.getElem?_set_ne (by omega)]
  have hl : (pyC (L.take k)).length = k * 7 := by rw [pyC_len, List.length_take, Nat.min_eq_left (by omega)]
  rw [pyC_split (L.set k x) k (by simpa using h), pyC_split L k h, e1, e2]
  rcases hj with hj | hj
  · rw [List.getElem?_append_left (by omega), List.getElem?_append_left (by omega)]
  · rw [app3 _ _ _ hl rfl hj, app3 _ _ _ hl rfl hj]
/-- The last stops of all courses lie in a block. -/
def DnR (wr : World) (g : Nat) (a : List Py) : Prop := ∃ cur, Blk wr g 71 cur ∧ cur.size = 98 ∧ ∀ (j : Nat) (u : Value), (pyC (dnL a))[j]? = some u → cur[j]? = some u
theorem DnR.below {wr w' : World} {g : Nat} {a : List Py} (h : DnR wr g a) (hb : Below wr.heap.size wr w') : DnR w' g a := by
  obtain ⟨cur, h1, h2, h3⟩ := h
  exact ⟨cur, h1.below hb, h2, h3⟩
theorem DnR.blk {wr w' : World} {g : Nat} {a : List Py} (h : DnR wr g a) (hk : ∀ cs, Blk wr g 71 cs → Blk w' g 71 cs) : DnR w' g a := by
  obtain ⟨cur, h1, h2, h3⟩ := h
  exact ⟨cur, hk _ h1, h2, h3⟩
theorem DnR.some_ {wr : World} {g : Nat} {a : List Py} (h : DnR wr g a) {j : Nat} (hj : j < 98) : (∃ u, wr.cell? ⟨g, j, none⟩ = some u) ∧ wr.frozen? ⟨g, j, none⟩ = false ∧ g < wr.heap.size := by
  obtain ⟨cur, h1, h2, h3⟩ := h
  exact ⟨⟨cur[j]'(by omega), by rw [h1.cell j]; simp [show j < cur.size by omega]⟩, h1.frozen j, h1.lt⟩
theorem DnR.at {wr : World} {g : Nat} {a : List Py} (h : DnR wr g a) {i : Nat} (hi : i < 14) : wr.cell? ⟨g, i * 7, none⟩ = some (.int .i64 (lastC a ((i : Int) + 1)).f) ∧ wr.cell? ⟨g, i * 7 + 1, none⟩ = some (.int .i64 (lastC a ((i : Int) + 1)).u) ∧ wr.cell? ⟨g, i * 7 + 2, none⟩ = some (.int .i64 (lastC a ((i : Int) + 1)).t.ev) ∧
    wr.cell? ⟨g, i * 7 + 3, none⟩ = some (.int .i64 (lastC a ((i : Int) + 1)).t.c) ∧ wr.cell? ⟨g, i * 7 + 4, none⟩ = some (.int .i64 (lastC a ((i : Int) + 1)).t.p) ∧ wr.cell? ⟨g, i * 7 + 5, none⟩ = some (.int .i64 (lastC a ((i : Int) + 1)).t.fm) ∧ wr.cell? ⟨g, i * 7 + 6, none⟩ = some (.int .i64 (lastC a ((i : Int) + 1)).t.to) := by
  obtain ⟨cur, h1, h2, h3⟩ := h
  obtain ⟨j0, j1, j2, j3, j4, j5, j6⟩ := pyC_at (dnL a) i (by rw [dnL_len]; exact hi)
  rw [dnL_at a hi] at j0 j1 j2 j3 j4 j5 j6
  exact ⟨by rw [h1.cell]; exact h3 _ _ j0, by rw [h1.cell]; exact h3 _ _ j1, by rw [h1.cell]; exact h3 _ _ j2, by rw [h1.cell]; exact h3 _ _ j3, by rw [h1.cell]; exact h3 _ _ j4, by rw [h1.cell]; exact h3 _ _ j5, by rw [h1.cell]; exact h3 _ _ j6⟩
theorem DnR.put {wr : World} {g : Nat} {a : List Py} (h : DnR wr g a) {k : Nat} (hk : k < 14) (x : Py) (hx : x.t.c = (k : Int) + 1) :
    DnR (((((((wr.setCell ⟨g, k * 7, none⟩ (.int .i64 x.f)).setCell ⟨g, k * 7 + 1, none⟩ (.int .i64 x.u)).setCell ⟨g, k * 7 + 2, none⟩ (.int .i64 x.t.ev)).setCell ⟨g, k * 7 + 3, none⟩ (.int .i64 x.t.c)).setCell ⟨g, k * 7 + 4, none⟩ (.int .i64 x.t.p)).setCell ⟨g, k * 7 + 5, none⟩ (.int .i64 x.t.fm)).setCell ⟨g, k * 7 + 6, none⟩ (.int .i64 x.t.to)) g (a ++ [x]) := by
  obtain ⟨cur, h1, h2, h3⟩ := h
  refine ⟨_, ((((((h1.set_ _ _).set_ _ _).set_ _ _).set_ _ _).set_ _ _).set_ _ _).set_ _ _, by simp [h2], fun j u hu => ?_⟩
  rw [dnL_set a x k hx] at hu
  have hl : ((dnL a).set k x).length = 14 := by rw [List.length_set, dnL_len]
  have hg : ((dnL a).set k x).getD k zPy = x := by rw [List.getD_eq_getElem?_getD, List.getElem?_set_self (by rw [dnL_len]; exact hk)]; rfl
  simp only [Array.getElem?_setIfInBounds, Array.size_setIfInBounds]
  by_cases hj : j < k * 7 ∨ k * 7 + 7 ≤ j
  · rw [pyC_other (by rw [dnL_len]; exact hk) hj] at hu
    rw [if_neg (by omega), if_neg (by omega), if_neg (by omega), if_neg (by omega), if_neg (by omega), if_neg (by omega), if_neg (by omega)]
    exact h3 j u hu
  · obtain ⟨i0, i1, i2, i3, i4, i5, i6⟩ := pyC_at ((dnL a).set k x) k (by omega)
    rw [hg] at i0 i1 i2 i3 i4 i5 i6
    have : j = k * 7 ∨ j = k * 7 + 1 ∨ j = k * 7 + 2 ∨ j = k * 7 + 3 ∨ j = k * 7 + 4 ∨ j = k * 7 + 5 ∨ j = k * 7 + 6 := by omega
    rcases this with rfl | rfl | rfl | rfl | rfl | rfl | rfl
    · rw [if_neg (by omega), if_neg (by omega), if_neg (by omega), if_neg (by omega), if_neg (by omega), if_neg (by omega), if_pos rfl, if_pos (by omega), ← i0, hu]
    · rw [if_neg (by omega), if_neg (by omega), if_neg (by omega), if_neg (by omega), if_neg (by omega), if_pos rfl, if_pos (by omega), ← i1, hu]
    · rw [if_neg (by omega), if_neg (by omega), if_neg (by omega), if_neg (by omega), if_pos rfl, if_pos (by omega), ← i2, hu]
    · rw [if_neg (by omega), if_neg (by omega), if_neg (by omega), if_pos rfl, if_pos (by omega), ← i3, hu]
    · rw [if_neg (by omega), if_neg (by omega), if_pos rfl, if_pos (by omega), ← i4, hu]
    · rw [if_neg (by omega), if_pos rfl, if_pos (by omega), ← i5, hu]
    · rw [if_pos rfl, if_pos (by omega), ← i6, hu]
theorem CfR.junk {w wr : World} {g n : Nat} {T : List Int} {k : Nat} (h : CfR w wr g n T k) (u : Value) : CfR w (wr.setCell ⟨g, k, none⟩ u) g n T k := by
  obtain ⟨h1, h2, cur, h3, h4, h5⟩ := h
  refine ⟨h1.setCell h2 _, h2, _, h3.set_ _ _, by simp [h4], fun j v hj hv => ?_⟩
  simp only [Array.getElem?_setIfInBounds]
  rw [if_neg (by omega)]
  exact h5 j v hj hv

def zr98 : Array Value := Array.replicate 98 (.int .i64 0)
theorem DnR.start (w : World) : DnR (w.alloc (.cells Try.zeroCells71 71)) w.heap.size [] := by
  rw [show Try.zeroCells71 = zr98 by kernel_rfl]
  refine ⟨zr98, heap_alloc_new w _, by simp [zr98], fun j u hu => ?_⟩
  have hl : j < 98 := by
    have := (List.getElem?_eq_some_iff.1 hu).1
    rw [pyC_len, dnL_len] at this
    omega
  have : ∀ u ∈ pyC (dnL []), u = .int .i64 0 := by
    intro u hu
    obtain ⟨x, hx, hux⟩ := List.mem_flatMap.1 hu
    obtain ⟨i, _, rfl⟩ := List.mem_map.1 hx
    simpa [lastC, zPy, zNt] using hux
  have h2 := this u (List.mem_of_getElem? hu)
  subst h2
  simp [zr98, hl]
/-- What is left of the stops' list. -/
def AllR (w1 : World) (Aa : Option Addr) (na ca : Nat) (T : List Py) (d : Nat) : Prop := d ≤ T.length ∧ Sl w1 w1.heap.size 7 Aa na ca (pyC (T.drop d))

theorem CfR.ow {w wr : World} {g n : Nat} {T : List Int} (h : CfR w wr g n T n) (hT : n = T.length) : Ow wr w.heap.size 3 1 (some ⟨g, 0, none⟩) n n (intC T) := by
  obtain ⟨h1, h2, cur, h3, h4, h5⟩ := h
  refine ⟨Nat.le_refl _, by simp [intC, hT], fun _ => ⟨g, cur, rfl, h2, h3, by omega, ?_⟩⟩
  refine List.ext_getElem? fun j => ?_
  by_cases hj : j < n
  · rw [List.getElem?_take, if_pos (by omega), Array.getElem?_toList, List.getElem?_eq_getElem (show j < (intC T).length by simp [intC]; omega)]
    exact h5 j _ hj (List.getElem?_eq_getElem (show j < (intC T).length by simp [intC]; omega))
  · rw [List.getElem?_take, if_neg (by omega), List.getElem?_eq_none (by simp [intC]; omega)]
/-- What the loops keep: the rows gathered, and the last stops. -/
def CrW (w1 wr : World) (g : Nat) (A1 : Option Addr) (k c1 : Nat) (Z : List RwT) (L : List (List Int)) (a : List Py) : Prop :=
  w1.heap.size ≤ g ∧ Own1 w1 wr 23 1 A1 k c1 (rwC Z) ∧ CpW wr w1.heap.size Z L ∧ DnR wr g a
theorem CrW.below {w1 wr w' : World} {g : Nat} {A1 : Option Addr} {k c1 : Nat} {Z : List RwT} {L : List (List Int)} {a : List Py} (h : CrW w1 wr g A1 k c1 Z L a) (hb : Below wr.heap.size wr w') : CrW w1 w' g A1 k c1 Z L a :=
  ⟨h.1, h.2.1.below hb, h.2.2.1.below hb, h.2.2.2.below hb⟩
theorem cr_set {w1 wr : World} {g : Nat} {A1 : Option Addr} {k c1 : Nat} {Z : List RwT} {L : List (List Int)} {cur : Array Value} (hg : w1.heap.size ≤ g) (h1 : Own1 w1 wr 23 1 A1 k c1 (rwC Z)) (h2 : CpW wr w1.heap.size Z L) (hB : Blk wr g 71 cur) (i : Nat) (u : Value) :
    Own1 w1 (wr.setCell ⟨g, i, none⟩ u) 23 1 A1 k c1 (rwC Z) ∧ CpW (wr.setCell ⟨g, i, none⟩ u) w1.heap.size Z L ∧ Blk (wr.setCell ⟨g, i, none⟩ u) g 71 (cur.setIfInBounds i u) :=
  ⟨⟨ownsRow_heap h1.own (fun g' hg' => set_other _ _ _ _ _ (fun e => blk_apart hB h1.own (by decide) (by rw [← e]; exact hg'.symm))), h1.low.setCell hg _⟩,
    h2.blk (fun g' cs h => h.setOther (h.ne hB (by decide)) _ _), hB.set_ _ _⟩
theorem CrW.put {w1 wr : World} {g : Nat} {A1 : Option Addr} {k c1 : Nat} {Z : List RwT} {L : List (List Int)} {a : List Py} (h : CrW w1 wr g A1 k c1 Z L a) {cn : Nat} (hk : cn < 14) (x : Py) (hx : x.t.c = (cn : Int) + 1) :
    CrW w1 (((((((wr.setCell ⟨g, cn * 7, none⟩ (.int .i64 x.f)).setCell ⟨g, cn * 7 + 1, none⟩ (.int .i64 x.u)).setCell ⟨g, cn * 7 + 2, none⟩ (.int .i64 x.t.ev)).setCell ⟨g, cn * 7 + 3, none⟩ (.int .i64 x.t.c)).setCell ⟨g, cn * 7 + 4, none⟩ (.int .i64 x.t.p)).setCell ⟨g, cn * 7 + 5, none⟩ (.int .i64 x.t.fm)).setCell ⟨g, cn * 7 + 6, none⟩ (.int .i64 x.t.to)) g A1 k c1 Z L (a ++ [x]) := by
  obtain ⟨hg, h1, h2, h3⟩ := h
  have h4 := h3.put hk x hx
  obtain ⟨cur, hB, _, _⟩ := h3
  obtain ⟨a1, a2, a3⟩ := cr_set hg h1 h2 hB (cn * 7) (.int .i64 x.f)
  obtain ⟨b1, b2, b3⟩ := cr_set hg a1 a2 a3 (cn * 7 + 1) (.int .i64 x.u)
  obtain ⟨c1', c2, c3⟩ := cr_set hg b1 b2 b3 (cn * 7 + 2) (.int .i64 x.t.ev)
  obtain ⟨d1, d2, d3⟩ := cr_set hg c1' c2 c3 (cn * 7 + 3) (.int .i64 x.t.c)
  obtain ⟨e1, e2, e3⟩ := cr_set hg d1 d2 d3 (cn * 7 + 4) (.int .i64 x.t.p)
  obtain ⟨f1, f2, f3⟩ := cr_set hg e1 e2 e3 (cn * 7 + 5) (.int .i64 x.t.fm)
  obtain ⟨g1, g2, _⟩ := cr_set hg f1 f2 f3 (cn * 7 + 6) (.int .i64 x.t.to)
  exact ⟨hg, g1, g2, h4⟩
theorem pyEv_take {C : List Cr} {S : List Int} {P : List EvP} {O : List Int} {k j : Nat} {L : List St} (hj : j < L.length) : pyEv C S P O k (L.take (j + 1)) = pyEv C S P O k (L.take j) ++ [pyOf C S P O k (L.getD j z5)] := by
  have e : L.take (j + 1) = L.take j ++ [L.getD j z5] := by rw [List.take_add_one]; simp [List.getElem?_eq_getElem hj]
  rw [e, pyEv, pyEv, List.map_append]
  rfl
theorem sl_drop7 {w : World} {B : Nat} {A : Option Addr} {m c : Nat} {T : List Py} (h : Sl w B 7 A m c (pyC T)) {j : Nat} (hj : j ≤ m) (hm : m = T.length) : Sl w B 7 (A.map fun a => a.add (j * 7)) (m - j) (c - j) (pyC (T.drop j)) := by
  refine ⟨by have := h.1; omega, by rw [pyC_len, List.length_drop]; omega, fun hn => ?_⟩
  obtain ⟨b, off, rfl, hb, hc⟩ := h.2.2 (by omega)
  refine ⟨b, off + j * 7, by simp [Go.WideShapes.add_plain], hb, fun i u hu => ?_⟩
  rw [Nat.add_assoc]
  refine hc _ _ ?_
  have e : pyC T = pyC (T.take j) ++ pyC (T.drop j) := by
    conv => lhs; rw [← List.take_append_drop j T]
    unfold pyC
    rw [List.flatMap_append]
  rw [e, List.getElem?_append_right (by rw [pyC_len, List.length_take]; omega), pyC_len, List.length_take, Nat.min_eq_left (by omega), show j * 7 + i - j * 7 = i by omega]
  exact hu

set_option maxRecDepth 100000 in
set_option maxHeartbeats 16000000 in
theorem courses_fine (A : Option Addr) (n c : Nat) (A' : Option Addr) (m c' : Nat) (A2 : Option Addr) (q cq : Nat) (C : List Cr) (S : List Int) (P : List EvP) (w : World) (hP : PcIn w A n c A' m c' A2 q cq C S P) (hnb : n ≤ 1000000) (hmb : m ≤ 1000000) (hq : q ≤ 65536) (hst : ∀ y ∈ P, y.L.length ≤ 1000000) (hX : pcErr C S P = 0) :
    Calls Try.prog 8 #[pcV A n c A' m c' A2 q cq] w (RwPost (crsL C S P) 0 w) := by
  have HP : Hid (∀ w', Below w.heap.size w w' → PcIn w' A n c A' m c' A2 q cq C S P) := fun w' hb => hP.below hb
  have HPY := Lib.hid (play_any A n c A' m c' A2 q cq C S P _ (hP.below (ba w (pcO A n c A' m c' A2 q cq))) hnb hmb hq hst)
  unfold PyPost at HPY
  rw [hX] at HPY
  have HL := Lib.hid hP.es.hq
  have HN := Lib.hid hP.hn
  have h400 : q ≤ 400 := by have := (pcErr_ok hX).2.1; have := hP.es.hq; omega
  have hn14 : n ≤ 14 := by have := (chk_ok (pcErr_ok hX).1).1; have := hP.hn; omega
  have hol := Lib.hid (onsL_q hX)
  have hn1' : 0 < n := by
    have h1 := (chk_facts (pcErr_ok hX).1).2.2.1
    have h2 := hP.hn
    omega
  obtain ⟨i0, ii1, ii2, ii3, ii4⟩ := info_parts Try.info3'
  obtain ⟨r0, rr1, rr2, rr3, rr4⟩ := info_parts (show (Try.prog.info? 23).map (fun i => (i.zero, i.size, i.bytes)) = some (some (.slice none 0 0), 1, 24) by kernel_rfl)
  have HT : Hid (∀ k, pyL C S P = pyTo C S P (onsL C S P) k ++ pyGo C S P (onsL C S P) k (P.drop k)) := fun k => by unfold pyL; rw [if_pos hX]; exact pyTo_all k
  have HTS : Hid (∀ {k : Nat} (_ : k < P.length), pyTo C S P (onsL C S P) (k + 1) = pyTo C S P (onsL C S P) k ++ pyEv C S P (onsL C S P) k (P.getD k z6).L) := fun h => pyTo_succ h
  have HSO : Hid (∀ (i : Nat) (y : EvP), P[i]? = some y → y.L.length ≤ 14 ∧ ∀ s ∈ y.L, StOk C P i s) := fun i y hy => ⟨ev_len hX hy, fun s hs => stOk_of hX hy hs⟩
  have HLL := Lib.hid (pyL_len C S P)
  have HUL := Lib.hid (crsL_len hX)
  have HUA : Hid (∀ {k : Nat} (_ : k < P.length), (crsL C S P).getD k [] = crsRow (pyL C S P) C.length (onAt (onsL C S P) k)) := fun {k} h => by
    unfold crsL
    rw [if_pos hX, List.getD_eq_getElem?_getD, List.getElem?_map, List.getElem?_range h]
    rfl
  have HUR : Hid (∀ {k : Nat} (_ : k < P.length), crsRow (pyL C S P) C.length (onAt (onsL C S P) k) = (List.range C.length).map fun (i : Nat) => if sndB (lastC (pyTo C S P (onsL C S P) (k + 1)) ((i : Int) + 1)).t (onAt (onsL C S P) k) then (lastC (pyTo C S P (onsL C S P) (k + 1)) ((i : Int) + 1)).f else -1) := fun h => crs_row hX h
  unfold RwPost
  clear hP hst hX
  generalize onsL C S P = O at *
  generalize pyL C S P = T at *
  generalize crsL C S P = U at *
  go_enter Try.func8, Try.ntmps8
  go_wp2_with (go_at_call 23; refine HPY.out.mono ?_; rintro e w1 ⟨A1, n1, c1, B1, m1, d1, rfl, hn1, hm1, hA1, hB1, hb1⟩; obtain ⟨p0, p1, p2⟩ := cell3 hb1; have HN1 := Lib.hid hn1; have HM1 := Lib.hid hm1; have HA1 := Lib.hid hA1; have HO := Lib.hid hB1; have HB1 := Lib.hid hb1; have hz1 : w.heap.size < w1.heap.size := (by have := hb1.size; simp at this; omega); clear hn1 hm1 hA1 hB1 hb1)
  have HC0 : Hid (CrW w1 (w1.alloc (.cells Try.zeroCells71 71)) w1.heap.size none 0 0 [] [] []) :=
    ⟨Nat.le_refl _, Own1.start (ba w1 _) _ _, CpW.nil _ _, DnR.start w1⟩
  go_loopw [27, 4, 7] (fun i al l wr => ∃ (k : Nat) (Z : List RwT) (A3 : Option Addr) (c3 : Nat) (Aa : Option Addr) (na ca : Nat), k ≤ q ∧ i = .int .i64 k ∧ al = .slice Aa na ca ∧ l = .slice A3 k c3 ∧ Hid (CrW w1 wr w1.heap.size A3 k c3 Z (U.take k) (pyTo C S P O k)) ∧ Hid (AllR w1 Aa na ca T (pyTo C S P O k).length)) (fun i _ _ _ => q - (intOf i).toNat)
  case atStart => exact ⟨0, [], none, 0, A1, n1, c1, by omega, rfl, rfl, rfl, by rw [pyTo_zero]; exact HC0, by rw [pyTo_zero]; exact ⟨Nat.zero_le _, HA1.out⟩⟩
  case round =>
    obtain ⟨k, Z, A3, c3, Aa, na, ca, hk, rfl, rfl, rfl, HC, HAL⟩ := hrel
    have HW : Hid (Below w1.heap.size w1 wr) := HC.out.2.1.low
    obtain ⟨p0, p1, p2⟩ := cell3 (bt HB1.out HW.out)
    have hzw : w.heap.size < wr.heap.size := by have := HW.out.size; omega
    by_cases hlt : k < q
    · obtain ⟨b, off, sa, sc', rfl, hbl, hPk, hd, ⟨e0, e1, e2, e3, e4, e5⟩, hS⟩ := (HP.out _ (bx (bt HB1.out HW.out))).es.at hlt
      have hkq : (k : Int) < (q : Int) := by omega
      have hkP : k < P.length := by have := HL.out; omega
      have HS := Lib.hid hS
      have HTK := Lib.hid (HTS.out hkP)
      have HTK1 := Lib.hid (HT.out (k + 1))
      have HU1 := Lib.hid ((HUA.out hkP).trans (HUR.out hkP))
      have hL14 : (P.getD k z6).L.length ≤ 14 := (HSO.out _ _ hPk).1
      have HOK : Hid (∀ s ∈ (P.getD k z6).L, StOk C P k s) := (HSO.out _ _ hPk).2
      clear hS hd hPk hkP
      generalize P.getD k z6 = y at *
      obtain ⟨bar, v, dt, tr, tie, L⟩ := y
      dsimp only at e0 e1 e2 e3 e4 e5 hL14 HS HOK HTK
      obtain ⟨N, hN⟩ : ∃ N, L.length = N := ⟨_, rfl⟩
      have HLN := Lib.hid hN
      rw [hN] at e5 hL14 HS
      clear hN
      obtain ⟨d0, hd0⟩ : ∃ d0, (pyTo C S P O k).length = d0 := ⟨_, rfl⟩
      have HD0 := Lib.hid hd0
      rw [hd0] at HAL
      clear hd0
      have HNA : Hid (na = T.length - d0 ∧ d0 + N ≤ T.length) := by
        have h1 := HAL.out.2.2.1
        rw [pyC_len, List.length_drop] at h1
        have h2 := congrArg List.length HTK1.out
        rw [List.length_append, HTK.out, List.length_append, HD0.out] at h2
        have h3 : (pyEv C S P O k L).length = N := by rw [pyEv, List.length_map]; exact HLN.out
        exact ⟨by omega, by omega⟩
      have hNa : (N : Int) ≤ (na : Int) := by have := HNA.out; omega
      have hNc : (N : Int) ≤ (ca : Int) := by have := HNA.out; have := HAL.out.2.1; omega
      have hE0 : Blk (wr.alloc (evO bar v dt tr tie sa N sc')) wr.heap.size 59 #[.bool bar, .int .i64 v, .bool dt, .bool tr, .bool tie, .slice sa N sc'] := heap_alloc_new wr _
      have HI0 : Hid (CrW w1 (wr.alloc (evO bar v dt tr tie sa N sc')) w1.heap.size A3 k c3 Z (U.take k) (pyTo C S P O k ++ pyEv C S P O k (L.take 0)) ∧ Blk (wr.alloc (evO bar v dt tr tie sa N sc')) wr.heap.size 59 #[.bool bar, .int .i64 v, .bool dt, .bool tr, .bool tie, .slice sa N sc']) :=
        ⟨by rw [show pyTo C S P O k ++ pyEv C S P O k (L.take 0) = pyTo C S P O k by simp [pyEv]]; exact HC.out.below (ba _ _), hE0⟩
      clear hE0
      go_wp2_with (fail)
      obtain ⟨wo, rfl⟩ : ∃ wo : World, wo = wr := ⟨_, rfl⟩
      have hwo1 : w1.heap.size < wo.heap.size := by
        obtain ⟨_, h1, _⟩ := HC.out.2.2.2
        exact h1.lt
      clear p0 p1 p2
      go_loopw [38] (fun i wr => ∃ j : Nat, j ≤ N ∧ i = .int .i64 j ∧ Hid (CrW w1 wr w1.heap.size A3 k c3 Z (U.take k) (pyTo C S P O k ++ pyEv C S P O k (L.take j)) ∧ Blk wr wo.heap.size 59 #[.bool bar, .int .i64 v, .bool dt, .bool tr, .bool tie, .slice sa N sc'])) (fun i _ => N - (intOf i).toNat)
      case atStart => exact ⟨0, by omega, rfl, HI0⟩
      case round =>
        obtain ⟨j, hj, rfl, HI⟩ := hrel
        have HW2 : Hid (Below w1.heap.size w1 wr) := HI.out.1.2.1.low
        obtain ⟨p0, p1, p2⟩ := cell3 (bt HB1.out HW2.out)
        have hzr : wo.heap.size < wr.heap.size := HI.out.2.lt
        have hzw2 : w.heap.size < wr.heap.size := by omega
        by_cases hlj : j < N
        · have hjN : (j : Int) < (N : Int) := by omega
          have hTj : T.getD (d0 + j) zPy = pyOf C S P O k (L.getD j z5) ∧ d0 + j < T.length := by
            have h2 := HTK1.out
            rw [HTK.out] at h2
            have h3 := HD0.out
            have h4 : j < L.length := by have := HLN.out; omega
            refine ⟨?_, by have := HNA.out.2; omega⟩
            rw [h2, List.getD_eq_getElem?_getD, List.append_assoc, List.getElem?_append_right (by omega), List.getElem?_append_left (by simp [pyEv]; omega)]
            rw [show d0 + j - (pyTo C S P O k).length = j by omega]
            simp [pyEv, List.getElem?_map, List.getElem?_eq_getElem h4]
          have HSK : Hid (StOk C P k (L.getD j z5)) := HOK.out _ (by
            have h4 : j < L.length := by have := HLN.out; omega
            rw [List.getD_eq_getElem?_getD, List.getElem?_eq_getElem h4]
            exact List.getElem_mem h4)
          obtain ⟨ab, ao, rfl, hab, hac⟩ := HAL.out.2.2.2 (by omega)
          have hlD : j < (T.drop d0).length := by rw [List.length_drop]; omega
          obtain ⟨j0, j1, j2, j3, j4, j5, j6⟩ := pyC_at (T.drop d0) j hlD
          have hTd : (T.drop d0).getD j zPy = pyOf C S P O k (L.getD j z5) := by
            rw [← hTj.1]
            simp [List.getD_eq_getElem?_getD, List.getElem?_drop]
          rw [hTd] at j0 j1 j2 j3 j4 j5 j6
          have HTAKE := Lib.hid (pyEv_take (C := C) (S := S) (P := P) (O := O) (k := k) (L := L) (j := j) (by have := HLN.out; omega))
          have HPC : Hid (∃ cn : Nat, cn < 14 ∧ (pyOf C S P O k (L.getD j z5)).t.c = (cn : Int) + 1) := by
            have h1 := HSK.out.c1
            have h2 := HSK.out.c2
            have h3 := HN.out
            exact ⟨((L.getD j z5).c - 1).toNat, by omega, by show (L.getD j z5).c = _; omega⟩
          have a0 := cell_same (HW2.out.block ab hab) (hac _ _ j0)
          have a1 := cell_same (HW2.out.block ab hab) (hac _ _ j1)
          have a2 := cell_same (HW2.out.block ab hab) (hac _ _ j2)
          have a3 := cell_same (HW2.out.block ab hab) (hac _ _ j3)
          have a4 := cell_same (HW2.out.block ab hab) (hac _ _ j4)
          have a5 := cell_same (HW2.out.block ab hab) (hac _ _ j5)
          have a6 := cell_same (HW2.out.block ab hab) (hac _ _ j6)
          rw [← Nat.add_assoc] at a1 a2 a3 a4 a5 a6
          clear hac j0 j1 j2 j3 j4 j5 j6 hTd hTj hlD hab
          generalize pyOf C S P O k (L.getD j z5) = x at *
          obtain ⟨xf, xu, ⟨t0, t1, t2, t3, t4⟩⟩ := x
          obtain ⟨cn, hcn, hc1⟩ := HPC.out
          dsimp only at a0 a1 a2 a3 a4 a5 a6 hc1
          subst hc1
          have hcw : IntKind.i64.wrap ((cn : Int) + 1 - 1) = (cn : Int) := by rw [show (cn : Int) + 1 - 1 = (cn : Int) by omega]; exact IntWalk.i64_in _ ⟨by omega, by omega⟩
          have hcn14 : (cn : Int) < 14 := by omega
          have HI2 := Lib.hid (And.intro (HI.out.1.below (ba wr (pyO xf xu t0 ((cn : Int) + 1) t2 t3 t4))) (HI.out.2.below (ba wr (pyO xf xu t0 ((cn : Int) + 1) t2 t3 t4))))
          obtain ⟨⟨u0, k0⟩, f0, hgw⟩ := HI2.out.1.2.2.2.some_ (j := cn * 7) (by omega)
          obtain ⟨⟨u1, k1⟩, f1, _⟩ := HI2.out.1.2.2.2.some_ (j := cn * 7 + 1) (by omega)
          obtain ⟨⟨u2, k2⟩, f2, _⟩ := HI2.out.1.2.2.2.some_ (j := cn * 7 + 2) (by omega)
          obtain ⟨⟨u3, k3⟩, f3, _⟩ := HI2.out.1.2.2.2.some_ (j := cn * 7 + 3) (by omega)
          obtain ⟨⟨u4, k4⟩, f4, _⟩ := HI2.out.1.2.2.2.some_ (j := cn * 7 + 4) (by omega)
          obtain ⟨⟨u5, k5⟩, f5, _⟩ := HI2.out.1.2.2.2.some_ (j := cn * 7 + 5) (by omega)
          obtain ⟨⟨u6, k6⟩, f6, _⟩ := HI2.out.1.2.2.2.some_ (j := cn * 7 + 6) (by omega)
          have HPUT := Lib.hid (HI2.out.1.put hcn ⟨xf, xu, ⟨t0, (cn : Int) + 1, t2, t3, t4⟩⟩ rfl)
          have hne : w1.heap.size ≠ wo.heap.size := by omega
          have HE3 := Lib.hid (((((((HI2.out.2.setOther hne.symm (cn * 7) (.int .i64 xf)).setOther hne.symm (cn * 7 + 1) (.int .i64 xu)).setOther hne.symm (cn * 7 + 2) (.int .i64 t0)).setOther hne.symm (cn * 7 + 3) (.int .i64 ((cn : Int) + 1))).setOther hne.symm (cn * 7 + 4) (.int .i64 t2)).setOther hne.symm (cn * 7 + 5) (.int .i64 t3)).setOther hne.symm (cn * 7 + 6) (.int .i64 t4))
          rw [List.append_assoc, ← HTAKE.out] at HPUT
          clear hne
          go_wp2_with (fail)
          go_roundw
          case rel => exact ⟨j + 1, by omega, by first | rfl | go_num, HPUT.out, HE3.out⟩
          case measure => simp [intOf]; omega
        · obtain rfl : j = N := by omega
          have HI3 : Hid (CrW w1 wr w1.heap.size A3 k c3 Z (U.take k) (pyTo C S P O (k + 1))) := by
            have h1 := HI.out.1
            rw [show L.take j = L from List.take_of_length_le (by have := HLN.out; omega), ← HTK.out] at h1
            exact h1
          have q5 := HI.out.2.cell 5
          simp at q5
          obtain ⟨R, hR⟩ : ∃ R, crsRow T C.length (onAt O k) = R := ⟨_, rfl⟩
          have HRU := Lib.hid ((HUA.out (show k < P.length by have := HL.out; omega)).trans hR)
          have HRL : Hid (R.length = n) := by unfold Hid; rw [← hR, crsRow_len]; exact HN.out.symm
          have HRA : Hid (∀ i, i < n → (intC R)[i]? = some (.int .i64 (if sndB (lastC (pyTo C S P O (k + 1)) ((i : Int) + 1)).t (onAt O k) then (lastC (pyTo C S P O (k + 1)) ((i : Int) + 1)).f else -1))) := fun i hi => by
            rw [← hR, HUR.out (show k < P.length by have := HL.out; omega)]
            unfold intC
            rw [List.map_map, List.getElem?_map, List.getElem?_range (by have := HN.out; omega)]
            rfl
          have HAN : Hid (∀ X nb cb, (X = (if ca = j then Aa else Aa.map fun a => a.add (j * 7)) ∧ nb = na - j ∧ cb = ca - j) → AllR w1 X nb cb T (pyTo C S P O (k + 1)).length) := by
            rintro X nb cb ⟨rfl, rfl, rfl⟩
            have e : (pyTo C S P O (k + 1)).length = d0 + j := by rw [HTK.out, List.length_append, HD0.out, pyEv, List.length_map, HLN.out]
            refine ⟨by rw [e]; exact HNA.out.2, ?_⟩
            have hs := sl_drop7 (j := j) HAL.out.2 (by have := HNA.out; omega) (by rw [List.length_drop]; exact HNA.out.1)
            rw [List.drop_drop] at hs
            rw [e]
            by_cases hcj : ca = j
            · rw [if_pos hcj]
              have hz : na - j = 0 := by have := HAL.out.2.1; omega
              rw [hz] at hs ⊢
              exact ⟨by omega, hs.2.1, fun h => absurd h (by omega)⟩
            · rw [if_neg hcj]; exact hs
          clear hR
          rcases Decidable.em (ca = j) with hcj | hcj
          all_goals (
            go_wp2_with (at_make; refine wpList_make_full _ rfl _ _ 23 rfl wr.heap.size 3 i0 _ 1 Try.underlying23 ii1 ii2 ii3 .i64 .i64 _ _ n rfl rfl rfl rfl (by rw [ii4]; omega) (by unfold maxLen; omega) (Nat.le_refl _) ?_)
            intro wm hown hgrow
            have hbm : Below wr.heap.size wr wm := Below.grown (Below.refl _ _) hgrow (Nat.le_refl _) (fun g h => by cases h)
            have hR0 : CfR wr wm wr.heap.size n R 0 := by
              obtain ⟨g, cur, ee1, _, ee3, ee4, _⟩ := (Ow.of_own hown).2.2 (by omega)
              injection ee1 with ee1
              injection ee1 with ee1
              subst ee1
              exact ⟨hbm, Nat.le_refl _, cur, ee3, by omega, fun j u hj => by omega⟩
            have HR0 := Lib.hid hR0
            clear hown hgrow hR0 hbm
            go_wp2_with (fail)
            obtain ⟨wx, rfl⟩ : ∃ wx : World, wx = wr := ⟨_, rfl⟩
            clear q5 p0 p1 p2
            go_loopw [61] (fun i wr => ∃ u : Nat, u ≤ n ∧ i = .int .i64 u ∧ Hid (CfR wx wr wx.heap.size n R u)) (fun i _ => n - (intOf i).toNat)
            case atStart => exact ⟨0, by omega, rfl, HR0⟩
            case round =>
              obtain ⟨u, hu, rfl, hRu⟩ := hrel
              by_cases hun : u < n
              · have hun' : (u : Int) < (n : Int) := by omega
                have hu14 : (u : Int) < 14 := by omega
                have HIT := Lib.hid (HRA.out u hun)
                obtain ⟨s0, _, s2, s3, s4, s5, s6⟩ := HI3.out.2.2.2.at (i := u) (by omega)
                obtain ⟨bO, oO, rfl, hbO, hcO⟩ := HO.out.2.2 (by have := HM1.out; have := hol.out; omega)
                have o0 := hcO _ _ (intC_at O k (by have := hol.out; have := HL.out; omega))
                have hkm : (k : Int) < (m1 : Int) := by have := HM1.out; have := hol.out; have := HL.out; omega
                rw [show O.getD k 0 = onAt O k from rfl] at o0
                generalize lastC (pyTo C S P O (k + 1)) ((u : Int) + 1) = x at *
                generalize onAt O k = tk at *
                obtain ⟨xf, xu, ⟨t0, t1, t2, t3, t4⟩⟩ := x
                dsimp only at s0 s2 s3 s4 s5 s6 HIT
                have hgx : w1.heap.size < wx.heap.size := by omega
                have HCELL : Hid (∀ w', Below wx.heap.size wx w' → (w'.cell? ⟨w1.heap.size, u * 7 + 2, none⟩ = some (.int .i64 t0) ∧ w'.cell? ⟨w1.heap.size, u * 7 + 3, none⟩ = some (.int .i64 t1) ∧ w'.cell? ⟨w1.heap.size, u * 7 + 4, none⟩ = some (.int .i64 t2) ∧ w'.cell? ⟨w1.heap.size, u * 7 + 5, none⟩ = some (.int .i64 t3) ∧ w'.cell? ⟨w1.heap.size, u * 7 + 6, none⟩ = some (.int .i64 t4)) ∧ w'.cell? ⟨bO, oO + k, none⟩ = some (.int .i64 tk)) := fun w' hb =>
                  ⟨⟨cell_same (hb.block _ hgx) s2, cell_same (hb.block _ hgx) s3, cell_same (hb.block _ hgx) s4, cell_same (hb.block _ hgx) s5, cell_same (hb.block _ hgx) s6⟩, cell_same ((bt HW2.out hb).block bO hbO) o0⟩
                have HCF : Hid (∀ w', Below wx.heap.size wx w' → w'.cell? ⟨w1.heap.size, u * 7, none⟩ = some (.int .i64 xf)) := fun w' hb => cell_same (hb.block _ hgx) s0
                obtain ⟨⟨v0, k0⟩, f0, hgw⟩ := hRu.out.some_ hun
                clear s0 s2 s3 s4 s5 s6 o0 hbO hcO
                cases hsb : sndB ⟨t0, t1, t2, t3, t4⟩ tk with
                | true =>
                  rw [hsb] at HIT
                  have HSB := Lib.hid hsb
                  have HJ := Lib.hid (hRu.out.junk (.int .i64 (-1)))
                  clear hsb
                  go_wp2_with (fail)
                  go_region_held_law (fun w' => (w'.cell? ⟨w1.heap.size, u * 7 + 2, none⟩ = some (.int .i64 t0) ∧ w'.cell? ⟨w1.heap.size, u * 7 + 3, none⟩ = some (.int .i64 t1) ∧ w'.cell? ⟨w1.heap.size, u * 7 + 4, none⟩ = some (.int .i64 t2) ∧ w'.cell? ⟨w1.heap.size, u * 7 + 5, none⟩ = some (.int .i64 t3) ∧ w'.cell? ⟨w1.heap.size, u * 7 + 6, none⟩ = some (.int .i64 t4)) ∧ w'.cell? ⟨bO, oO + k, none⟩ = some (.int .i64 tk))
                    (first | exact HCELL.out _ (bt HJ.out.1.drew hb6) | exact HCELL.out _ HJ.out.1.drew)
                    ((go_at_call 24; refine (sounds_any t0 t1 t2 t3 t4 tk _).mono ?_; rintro e w6 ⟨rfl, hb6⟩; rw [HSB.out]))
                  all_goals (
                    have HJ6 := Lib.hid (HJ.out.below (bt (Below.refl _ _).drew hb6))
                    obtain ⟨⟨v1, k1⟩, f1, hgw1⟩ := HJ6.out.some_ hun
                    have s0 := HCF.out _ HJ6.out.1
                    have HPUT := Lib.hid (HJ6.out.put hun xf HIT.out)
                    clear hb6
                    go_wp2_with (fail)
                    go_roundw
                    case rel => exact ⟨u + 1, by omega, by first | rfl | go_num, HPUT.out⟩
                    case measure => simp [intOf]; omega)
                | false =>
                  rw [hsb] at HIT
                  have HSB := Lib.hid hsb
                  have HJ := Lib.hid (hRu.out.put hun (-1) HIT.out)
                  clear hsb
                  go_wp2_with (fail)
                  go_region_held_law (fun w' => (w'.cell? ⟨w1.heap.size, u * 7 + 2, none⟩ = some (.int .i64 t0) ∧ w'.cell? ⟨w1.heap.size, u * 7 + 3, none⟩ = some (.int .i64 t1) ∧ w'.cell? ⟨w1.heap.size, u * 7 + 4, none⟩ = some (.int .i64 t2) ∧ w'.cell? ⟨w1.heap.size, u * 7 + 5, none⟩ = some (.int .i64 t3) ∧ w'.cell? ⟨w1.heap.size, u * 7 + 6, none⟩ = some (.int .i64 t4)) ∧ w'.cell? ⟨bO, oO + k, none⟩ = some (.int .i64 tk))
                    (first | exact HCELL.out _ (bt HJ.out.1.drew hb6) | exact HCELL.out _ HJ.out.1.drew)
                    ((go_at_call 24; refine (sounds_any t0 t1 t2 t3 t4 tk _).mono ?_; rintro e w6 ⟨rfl, hb6⟩; rw [HSB.out]))
                  all_goals (
                    have HJ6 := Lib.hid (HJ.out.below (bt (Below.refl _ _).drew hb6))
                    clear hb6
                    go_wp2_with (fail)
                    go_roundw
                    case rel => exact ⟨u + 1, by omega, by first | rfl | go_num, HJ6.out⟩
                    case measure => simp [intOf]; omega)
              · obtain rfl : u = n := by omega
                have HOW := Lib.hid (hRu.out.ow HRL.out.symm)
                have HB3 := Lib.hid hRu.out.1
                have HO3 := Lib.hid (HI3.out.2.1.below HB3.out)
                have hml : k + 1 ≤ maxLen := Nat.le_trans (show k + 1 ≤ 100000 by omega) (by decide)
                go_wp2_with (at_builtin; go_loud (refine wpList_append_own _ rfl _ _ 31 rfl w1.heap.size 23 r0 _ 1 24 Try.underlying31 rr1 rr2 rr3 rr4 rfl (by decide) (.slice A3 k c3) k _ rfl (HO3.out.own.alloc _) ⟨wr.heap.size, 0, none⟩ 1 1 [.slice (some ⟨wx.heap.size, 0, none⟩) u u] rfl rfl (cell_one_new _ _ _) (by simp [Value.oneCell']) hml (by omega) (by have := HO3.out.low.size; simp; omega) ?_))
                intro v' w3 hown' hgrow _
                obtain ⟨A4, c4, rfl, hO4, hkeep⟩ := Own1.step HO3.out (Below.refl _ _) rfl hown' hgrow
                have HC4 : Hid (CrW w1 w3 w1.heap.size A4 (k + 1) c4 (Z ++ [⟨some ⟨wx.heap.size, 0, none⟩, u, u⟩]) (U.take (k + 1)) (pyTo C S P O (k + 1))) := by
                  refine ⟨Nat.le_refl _, by rw [rwC_snoc]; exact hO4, ?_, (HI3.out.2.2.2.below HB3.out).blk (fun cs h => hkeep _ _ cs (by decide) h)⟩
                  have e : U.take (k + 1) = U.take k ++ [R] := by
                    rw [List.take_add_one, ← HRU.out]
                    simp [List.getElem?_eq_getElem (show k < U.length by have := HUL.out; have := HL.out; omega)]
                  rw [e]
                  refine CpW.snoc ((HI3.out.2.2.1.below HB3.out).blk (fun g cs h => hkeep _ _ cs (by decide) h)) HRL.out.symm ?_
                  exact (HOW.out.blk (fun g cs h => hkeep _ _ cs (by decide) h)).more (by omega)
                clear hown' hgrow hO4 hkeep
                go_wp2_with (fail)
                go_roundw
                case rel => exact ⟨k + 1, _, A4, c4, _, _, _, by omega, by first | rfl | go_num, rfl, rfl, HC4.out, HAN.out _ _ _ ⟨by first | rw [if_pos hcj] | rw [if_neg hcj], by omega, by omega⟩⟩
                case measure => simp [intOf]; omega)
    · obtain rfl : k = q := by omega
      go_wp2_with (fail)
      go_ret2
      have hT : U.take k = U := List.take_of_length_le (by have := HUL.out; have := HL.out; omega)
      have h2 := HC.out.2.2.1
      rw [hT] at h2
      exact ⟨A3, k, c3, rfl, RwIn.of (by have := HUL.out; have := HL.out; omega) h2 HC.out.2.1.sl, bx (bt HB1.out HW.out)⟩

set_option maxRecDepth 100000 in
set_option maxHeartbeats 1600000 in
theorem courses_any (A : Option Addr) (n c : Nat) (A' : Option Addr) (m c' : Nat) (A2 : Option Addr) (q cq : Nat) (C : List Cr) (S : List Int) (P : List EvP) (w : World) (hP : PcIn w A n c A' m c' A2 q cq C S P) (hnb : n ≤ 1000000) (hmb : m ≤ 1000000) (hq : q ≤ 65536) (hst : ∀ y ∈ P, y.L.length ≤ 1000000) :
    Calls Try.prog 8 #[pcV A n c A' m c' A2 q cq] w (RwPost (crsL C S P) (pcErr C S P) w) := by
  by_cases hX0 : pcErr C S P = 0
  · have := courses_fine A n c A' m c' A2 q cq C S P w hP hnb hmb hq hst hX0
    rw [hX0]
    exact this
  · have HPY := Lib.hid (play_any A n c A' m c' A2 q cq C S P _ (hP.below (ba w (pcO A n c A' m c' A2 q cq))) hnb hmb hq hst)
    unfold PyPost at HPY
    unfold RwPost
    rw [crsL_none hX0]
    obtain ⟨X, hX⟩ : ∃ X, pcErr C S P = X := ⟨_, rfl⟩
    rw [hX] at hX0 HPY ⊢
    have hXb : (X != 0) = true := by simpa using hX0
    clear hP hst hX hX0
    go_enter Try.func8, Try.ntmps8
    go_wp2_with (go_at_call 23; refine HPY.out.mono ?_; rintro e w1 ⟨A1, n1, c1, B1, m1, d1, rfl, hn1, hm1, hA1, hB1, hb1⟩; clear hn1 hm1 hA1 hB1)
    go_ret2
    exact ⟨none, 0, 0, rfl, RwIn.nil _, bx hb1⟩

end Go.Proofs.Ytpcehgifpajmbaa

/- Sound, the reference: what is down on each course at each event (Courses), for any piece. -/
namespace Go.Proofs.Ytpcehgifpajmbaa
open Go Go.RowKit

theorem nG_succ (c t : Int) {U : List Nt} {u : Nat} (h : u < U.length) : nG c t (U.take (u + 1)) = if crsM c t (U.getD u zNt) then 0 else nG c t (U.take u) := by
  have e : U.take (u + 1) = U.take u ++ [U.getD u zNt] := by rw [List.take_add_one]; simp [List.getElem?_eq_getElem h]
  unfold nG
  rw [e, List.foldl_append]
  rfl
theorem prG_succ (c t n0 : Int) {V : List Nt} {u : Nat} (h : u < V.length) : prG c t n0 (V.take (u + 1)) = if crsM c t (V.getD u zNt) then (V.getD u zNt).p else prG c t n0 (V.take u) := by
  have e : V.take (u + 1) = V.take u ++ [V.getD u zNt] := by rw [List.take_add_one]; simp [List.getElem?_eq_getElem h]
  unfold prG
  rw [e, List.foldl_append]
  rfl
theorem nt5_at {w : World} {A : Option Addr} {n c : Nat} {L : List Nt} (h : Sl w w.heap.size 5 A n c (ntC L)) (hn : n = L.length) {k : Nat} (hk : k < n) :
    ∃ b off, A = some ⟨b, off, none⟩ ∧ b < w.heap.size ∧ w.cell? ⟨b, off + k * 5, none⟩ = some (.int .i64 (L.getD k zNt).ev) ∧ w.cell? ⟨b, off + k * 5 + 1, none⟩ = some (.int .i64 (L.getD k zNt).c) ∧ w.cell? ⟨b, off + k * 5 + 2, none⟩ = some (.int .i64 (L.getD k zNt).p) ∧ w.cell? ⟨b, off + k * 5 + 3, none⟩ = some (.int .i64 (L.getD k zNt).fm) ∧ w.cell? ⟨b, off + k * 5 + 4, none⟩ = some (.int .i64 (L.getD k zNt).to) := by
  obtain ⟨b, off, hA, hb, hc⟩ := h.2.2 (by omega)
  obtain ⟨j0, j1, j2, j3, j4⟩ := ntC_at L k (by omega)
  refine ⟨b, off, hA, hb, hc _ _ j0, ?_, ?_, ?_, ?_⟩
  · have := hc _ _ j1; rwa [← Nat.add_assoc] at this
  · have := hc _ _ j2; rwa [← Nat.add_assoc] at this
  · have := hc _ _ j3; rwa [← Nat.add_assoc] at this
  · have := hc _ _ j4; rwa [← Nat.add_assoc] at this
theorem intC_snocR (S : List Int) (x : Int) : intC (S ++ [x]) = intC S ++ [.int .i64 x] := by simp [intC]
theorem take_snoc_int {L : List Int} {k : Nat} (h : k < L.length) : L.take (k + 1) = L.take k ++ [L.getD k 0] := by rw [List.take_add_one]; simp [List.getElem?_eq_getElem h]

set_option maxRecDepth 100000 in
set_option maxHeartbeats 16000000 in
theorem rcourses_fine (A : Option Addr) (n c : Nat) (A' : Option Addr) (m c' : Nat) (A2 : Option Addr) (q cq : Nat) (C : List Cr) (S : List Int) (P : List EvP) (w : World) (hP : PcIn w A n c A' m c' A2 q cq C S P) (hnb : n ≤ 1000000) (hmb : m ≤ 1000000) (hq : q ≤ 65536) (hst : ∀ y ∈ P, y.L.length ≤ 1000000) (hX : pcErr C S P = 0) :
    Calls Try.prog 10 #[pcV A n c A' m c' A2 q cq] w (RwPost (crsL C S P) 0 w) := by
  have HP : Hid (∀ w', Below w.heap.size w w' → PcIn w' A n c A' m c' A2 q cq C S P) := fun w' hb => hP.below hb
  have HL := Lib.hid hP.es.hq
  have HN := Lib.hid hP.hn
  have HST := Lib.hid hst
  have h400 : q ≤ 400 := by have := (pcErr_ok hX).2.1; have := hP.es.hq; omega
  have hn14 : n ≤ 14 := by have := (chk_ok (pcErr_ok hX).1).1; have := hP.hn; omega
  have hol := Lib.hid (onsL_q hX)
  have hn1' : 0 < n := by
    have h1 := (chk_facts (pcErr_ok hX).1).2.2.1
    have h2 := hP.hn
    omega
  obtain ⟨i0, ii1, ii2, ii3, ii4⟩ := info_parts Try.info3'
  obtain ⟨r0, rr1, rr2, rr3, rr4⟩ := info_parts (show (Try.prog.info? 23).map (fun i => (i.zero, i.size, i.bytes)) = some (some (.slice none 0 0), 1, 24) by kernel_rfl)
  have DO := Lib.hid (fun w' (h : PcIn w' A n c A' m c' A2 q cq C S P) => rOnsets_any A n c A' m c' A2 q cq C S P w' h hnb hmb hq hst)
  have DP := Lib.hid (fun w' (h : PcIn w' A n c A' m c' A2 q cq C S P) => rpresses_any A n c A' m c' A2 q cq C S P w' h hnb hmb hq hst)
  have DN := Lib.hid (fun w' (h : PcIn w' A n c A' m c' A2 q cq C S P) => rnotes_any A n c A' m c' A2 q cq C S P w' h hnb hmb hq hst)
  unfold OnPost at DO
  unfold NtPost at DP DN
  rw [hX] at DO DP DN
  have HUL := Lib.hid (crsL_len hX)
  have HNL := Lib.hid (ntL_len C S P)
  have HPL := Lib.hid (prL_len C S P)
  have HUA : Hid (∀ {k : Nat} (_ : k < P.length) {i : Nat} (_ : i < C.length), ((crsL C S P).getD k []).getD i 0 = prG ((i : Int) + 1) (onAt (onsL C S P) k) (nG ((i : Int) + 1) (onAt (onsL C S P) k) (ntL C S P)) (prL C S P)) := fun {k} h {i} hi => by
    rw [crs_rowR hX]
    have e : (crsL C S P).getD k [] = crsRow (pyL C S P) C.length (onAt (onsL C S P) k) := by
      unfold crsL
      rw [if_pos hX, List.getD_eq_getElem?_getD, List.getElem?_map, List.getElem?_range h]
      rfl
    rw [e, List.getD_eq_getElem?_getD]
    unfold crsRow
    rw [List.getElem?_map, List.getElem?_range hi]
    rfl
  have HUN : Hid (∀ {k : Nat} (_ : k < P.length), ((crsL C S P).getD k []).length = C.length) := fun {k} h => by
    unfold crsL
    rw [if_pos hX, List.getD_eq_getElem?_getD, List.getElem?_map, List.getElem?_range h]
    exact crsRow_len _ _ _
  unfold RwPost
  clear hP hst hX
  generalize onsL C S P = O at *
  generalize ntL C S P = U at *
  generalize prL C S P = V at *
  generalize crsL C S P = W at *
  go_enter Try.func10, Try.ntmps10
  go_wp2_with (first
    | (go_at_call 26; refine (DO.out _ (HP.out _ (ba w _))).mono ?_; rintro e w1 ⟨B1, m1, d1, rfl, hn1, hs1, hb1⟩; have HO := Lib.hid (And.intro hn1 hs1); have HB1 := Lib.hid hb1; obtain ⟨p0, p1, p2⟩ := cell3 hb1; clear hn1 hs1 hb1)
    | (go_at_call 27; refine (DP.out _ (HP.out _ (bx HB1.out))).mono ?_; rintro e w2 ⟨B2, m2, d2, rfl, hn2, hs2, hb2⟩; have HV := Lib.hid (And.intro hn2 hs2); have HB2 := Lib.hid (bt HB1.out hb2); clear hn2 hs2 p0 p1 p2; obtain ⟨p0, p1, p2⟩ := cell3 HB2.out; have HO := Lib.hid (And.intro HO.out.1 (HO.out.2.below hb2)); clear hb2)
    | (go_at_call 28; refine (DN.out _ (HP.out _ (bx HB2.out))).mono ?_; rintro e w3 ⟨B3, m3, d3, rfl, hn3, hs3, hb3⟩; have HU := Lib.hid (And.intro hn3 hs3); have HB3 := Lib.hid (bt HB2.out hb3); clear hn3 hs3 p0 p1 p2; obtain ⟨p0, p1, p2⟩ := cell3 HB3.out; have HO := Lib.hid (And.intro HO.out.1 (HO.out.2.below hb3)); have HV := Lib.hid (And.intro HV.out.1 (HV.out.2.below hb3)); clear hb3))
  have hm3 : m3 ≤ 5600 := by have := HU.out.1; have := HNL.out; omega
  have hm2 : m2 ≤ 5600 := by have := HV.out.1; have := HPL.out; omega
  clear p0 p1 p2
  go_loopw [11, 10] (fun i l wr => ∃ (k : Nat) (Z : List RwT) (A4 : Option Addr) (c4 : Nat), k ≤ q ∧ i = .int .i64 k ∧ l = .slice A4 k c4 ∧ Hid (Own1 w3 wr 23 1 A4 k c4 (rwC Z)) ∧ Hid (CpW wr w3.heap.size Z (W.take k))) (fun i _ _ => q - (intOf i).toNat)
  case atStart => exact ⟨0, [], none, 0, by omega, rfl, rfl, Own1.start (Below.refl _ _) _ _, CpW.nil _ _⟩
  case round =>
    obtain ⟨k, Z, A4, c4, hk, rfl, rfl, HOW, HC⟩ := hrel
    obtain ⟨p0, p1, p2⟩ := cell3 (bt HB3.out HOW.out.low)
    by_cases hlt : k < q
    · have hkq : (k : Int) < (q : Int) := by omega
      go_wp2_with (fail)
      obtain ⟨wo, rfl⟩ : ∃ wo : World, wo = wr := ⟨_, rfl⟩
      obtain ⟨R, hR⟩ : ∃ R, W.getD k [] = R := ⟨_, rfl⟩
      have HR := Lib.hid hR
      have HRL : Hid (R.length = n) := by unfold Hid; rw [← hR, HUN.out (by have := HL.out; omega)]; exact HN.out.symm
      obtain ⟨tk, htk⟩ : ∃ tk, onAt O k = tk := ⟨_, rfl⟩
      have HRA : Hid (∀ {i : Nat} (_ : i < n), R.getD i 0 = prG ((i : Int) + 1) tk (nG ((i : Int) + 1) tk U) V) := fun {i} hi => by
        rw [← hR, ← htk]
        exact HUA.out (by have := HL.out; omega) (by have := HN.out; omega)
      have HOC : Hid (∃ bO oO, B1 = some ⟨bO, oO, none⟩ ∧ ∀ w', Below w3.heap.size w3 w' → w'.cell? ⟨bO, oO + k, none⟩ = some (.int .i64 tk)) := by
        obtain ⟨bO, oO, e, hbO, hcO⟩ := HO.out.2.2.2 (by have := HO.out.1; have := hol.out; omega)
        refine ⟨bO, oO, e, fun w' hb => ?_⟩
        rw [← htk]
        exact cell_same (hb.block bO hbO) (hcO _ _ (intC_at O k (by have := hol.out; have := HL.out; omega)))
      have hkm : (k : Int) < (m1 : Int) := by have := HO.out.1; have := hol.out; have := HL.out; omega
      clear hR htk p0 p1 p2
      obtain ⟨bO, oO, rfl, hOC⟩ := HOC.out
      have HOC2 := Lib.hid hOC
      clear hOC HOC
      go_loopw [13, 12] (fun i l wr => ∃ (u : Nat) (A5 : Option Addr) (c5 : Nat), u ≤ n ∧ i = .int .i64 ((u : Int) + 1) ∧ l = .slice A5 u c5 ∧ Hid (Own1 wo wr 3 1 A5 u c5 (intC (R.take u)))) (fun i _ _ => n + 1 - (intOf i).toNat)
      case atStart => exact ⟨0, none, 0, by omega, rfl, rfl, Own1.start (Below.refl _ _) _ _⟩
      case round =>
        obtain ⟨u, A5, c5, hu, rfl, rfl, HRO⟩ := hrel
        have HW2 : Hid (Below w3.heap.size w3 wr) := bt HOW.out.low HRO.out.low
        obtain ⟨p0, p1, p2⟩ := cell3 (bt HB3.out HW2.out)
        by_cases hun : u < n
        · have hun' : (u : Int) + 1 ≤ (n : Int) := by omega
          go_wp2_with (fail)
          obtain ⟨wu, rfl⟩ : ∃ wu : World, wu = wr := ⟨_, rfl⟩
          clear p0 p1 p2
          go_loopw [15, 14] (fun i nn wr => ∃ (j : Nat) (v : Int), j ≤ m3 ∧ i = .int .i64 j ∧ nn = .int .i64 v ∧ Hid (v = nG ((u : Int) + 1) tk (U.take j)) ∧ Below wu.heap.size wu wr) (fun i _ _ => m3 - (intOf i).toNat)
          case atStart => exact ⟨0, -1, by omega, rfl, rfl, rfl, Below.refl _ _⟩
          case round =>
            obtain ⟨j, v, hj, rfl, rfl, HV1, hbw⟩ := hrel
            have HW4 := Lib.hid hbw
            clear hbw
            by_cases hjm : j < m3
            · have hjm' : (j : Int) < (m3 : Int) := by omega
              obtain ⟨b, off, rfl, hb, a0, a1, a2, a3, a4⟩ := nt5_at (HU.out.2.below (bt HW2.out HW4.out)) HU.out.1 hjm
              have HNS := Lib.hid (nG_succ ((u : Int) + 1) tk (U := U) (u := j) (by have := HU.out.1; omega))
              have o0 := HOC2.out _ (bt HW2.out HW4.out)
              clear hb a0 a2
              generalize U.getD j zNt = x at *
              obtain ⟨x0, x1, x2, x3, x4⟩ := x
              dsimp only at a1 a3 a4
              have HM : Hid (crsM ((u : Int) + 1) tk ⟨x0, x1, x2, x3, x4⟩ = (decide (x1 = (u : Int) + 1) && (decide (x3 ≤ tk) && decide (tk < x4)))) := rfl
              by_cases h1 : x1 = (u : Int) + 1
              · by_cases h2 : x3 ≤ tk
                · by_cases h3 : tk < x4
                  · have HX : Hid ((0 : Int) = nG ((u : Int) + 1) tk (U.take (j + 1))) := by unfold Hid; rw [HNS.out, HM.out, if_pos (by simp [h1, h2, h3])]
                    have g2 : decide (x3 ≤ tk) = true := by simpa using h2
                    have g3 : decide (tk < x4) = true := by simpa using h3
                    subst h1
                    go_wp2_with (fail)
                    go_quiet (fail)
                    go_wp2_with (fail)
                    go_roundw
                    case rel => exact ⟨j + 1, 0, by omega, by first | rfl | go_num, rfl, HX.out, bd HW4.out _⟩
                    case measure => simp [intOf]; omega
                  · have HX : Hid (v = nG ((u : Int) + 1) tk (U.take (j + 1))) := by unfold Hid; rw [HNS.out, HM.out, if_neg (by simp [h3])]; exact HV1.out
                    have g2 : decide (x3 ≤ tk) = true := by simpa using h2
                    have g3 : decide (tk < x4) = false := by simpa using h3
                    subst h1
                    go_wp2_with (fail)
                    go_quiet (fail)
                    go_wp2_with (fail)
                    go_roundw
                    case rel => exact ⟨j + 1, v, by omega, by first | rfl | go_num, rfl, HX.out, bd HW4.out _⟩
                    case measure => simp [intOf]; omega
                · have HX : Hid (v = nG ((u : Int) + 1) tk (U.take (j + 1))) := by unfold Hid; rw [HNS.out, HM.out, if_neg (by simp [h2])]; exact HV1.out
                  have g2 : decide (x3 ≤ tk) = false := by simpa using h2
                  subst h1
                  go_wp2_with (fail)
                  go_quiet (fail)
                  go_wp2_with (fail)
                  go_roundw
                  case rel => exact ⟨j + 1, v, by omega, by first | rfl | go_num, rfl, HX.out, bd HW4.out _⟩
                  case measure => simp [intOf]; omega
              · have HX : Hid (v = nG ((u : Int) + 1) tk (U.take (j + 1))) := by unfold Hid; rw [HNS.out, HM.out, if_neg (by simp [h1])]; exact HV1.out
                have g1 : (x1 == (u : Int) + 1) = false := by simpa using h1
                go_wp2_with (fail)
                go_quiet (fail)
                go_wp2_with (fail)
                go_roundw
                case rel => exact ⟨j + 1, v, by omega, by first | rfl | go_num, rfl, HX.out, bd HW4.out _⟩
                case measure => simp [intOf]; omega
            · obtain rfl : j = m3 := by omega
              have HNV : Hid (v = nG ((u : Int) + 1) tk U) := by
                have h1 := HV1.out
                rw [List.take_of_length_le (by have := HU.out.1; omega)] at h1
                exact h1
              clear HV1
              go_wp2_with (fail)
              obtain ⟨wv, rfl⟩ : ∃ wv : World, wv = wr := ⟨_, rfl⟩
              go_loopw [16, 14] (fun i nn wr => ∃ (j : Nat) (v2 : Int), j ≤ m2 ∧ i = .int .i64 j ∧ nn = .int .i64 v2 ∧ Hid (v2 = prG ((u : Int) + 1) tk v (V.take j)) ∧ Below wu.heap.size wu wr) (fun i _ _ => m2 - (intOf i).toNat)
              case atStart => exact ⟨0, v, by omega, rfl, rfl, rfl, HW4.out⟩
              case round =>
                obtain ⟨j2, v2, hj2, rfl, rfl, HV2, hbw⟩ := hrel
                have HW5 := Lib.hid hbw
                clear hbw
                by_cases hjm2 : j2 < m2
                · have hjm2' : (j2 : Int) < (m2 : Int) := by omega
                  obtain ⟨b, off, rfl, hb, a0, a1, a2, a3, a4⟩ := nt5_at (HV.out.2.below (bt HW2.out HW5.out)) HV.out.1 hjm2
                  have HNS := Lib.hid (prG_succ ((u : Int) + 1) tk v (V := V) (u := j2) (by have := HV.out.1; omega))
                  have o0 := HOC2.out _ (bt HW2.out HW5.out)
                  clear hb a0
                  generalize V.getD j2 zNt = x at *
                  obtain ⟨x0, x1, x2, x3, x4⟩ := x
                  dsimp only at a1 a2 a3 a4 HNS
                  have HM : Hid (crsM ((u : Int) + 1) tk ⟨x0, x1, x2, x3, x4⟩ = (decide (x1 = (u : Int) + 1) && (decide (x3 ≤ tk) && decide (tk < x4)))) := rfl
                  by_cases h1 : x1 = (u : Int) + 1
                  · by_cases h2 : x3 ≤ tk
                    · by_cases h3 : tk < x4
                      · have HX : Hid (x2 = prG ((u : Int) + 1) tk v (V.take (j2 + 1))) := by unfold Hid; rw [HNS.out, HM.out, if_pos (by simp [h1, h2, h3])]
                        have g2 : decide (x3 ≤ tk) = true := by simpa using h2
                        have g3 : decide (tk < x4) = true := by simpa using h3
                        subst h1
                        go_wp2_with (fail)
                        go_quiet (fail)
                        go_wp2_with (fail)
                        go_roundw
                        case rel => exact ⟨j2 + 1, x2, by omega, by first | rfl | go_num, rfl, HX.out, bd HW5.out _⟩
                        case measure => simp [intOf]; omega
                      · have HX : Hid (v2 = prG ((u : Int) + 1) tk v (V.take (j2 + 1))) := by unfold Hid; rw [HNS.out, HM.out, if_neg (by simp [h3])]; exact HV2.out
                        have g2 : decide (x3 ≤ tk) = true := by simpa using h2
                        have g3 : decide (tk < x4) = false := by simpa using h3
                        subst h1
                        go_wp2_with (fail)
                        go_quiet (fail)
                        go_wp2_with (fail)
                        go_roundw
                        case rel => exact ⟨j2 + 1, v2, by omega, by first | rfl | go_num, rfl, HX.out, bd HW5.out _⟩
                        case measure => simp [intOf]; omega
                    · have HX : Hid (v2 = prG ((u : Int) + 1) tk v (V.take (j2 + 1))) := by unfold Hid; rw [HNS.out, HM.out, if_neg (by simp [h2])]; exact HV2.out
                      have g2 : decide (x3 ≤ tk) = false := by simpa using h2
                      subst h1
                      go_wp2_with (fail)
                      go_quiet (fail)
                      go_wp2_with (fail)
                      go_roundw
                      case rel => exact ⟨j2 + 1, v2, by omega, by first | rfl | go_num, rfl, HX.out, bd HW5.out _⟩
                      case measure => simp [intOf]; omega
                  · have HX : Hid (v2 = prG ((u : Int) + 1) tk v (V.take (j2 + 1))) := by unfold Hid; rw [HNS.out, HM.out, if_neg (by simp [h1])]; exact HV2.out
                    have g1 : (x1 == (u : Int) + 1) = false := by simpa using h1
                    go_wp2_with (fail)
                    go_quiet (fail)
                    go_wp2_with (fail)
                    go_roundw
                    case rel => exact ⟨j2 + 1, v2, by omega, by first | rfl | go_num, rfl, HX.out, bd HW5.out _⟩
                    case measure => simp [intOf]; omega
                · obtain rfl : j2 = m2 := by omega
                  have HRV : Hid (v2 = R.getD u 0) := by
                    have h1 := HV2.out
                    rw [List.take_of_length_le (by have := HV.out.1; omega)] at h1
                    unfold Hid
                    rw [HRA.out hun, h1, HNV.out]
                  have HTS := Lib.hid (take_snoc_int (L := R) (k := u) (by have := HRL.out; omega))
                  have HRO5 := Lib.hid (HRO.out.below HW5.out)
                  have hml : u + 1 ≤ maxLen := Nat.le_trans (show u + 1 ≤ 100000 by omega) (by decide)
                  go_wp2_with (at_builtin; go_loud (refine wpList_append_own _ rfl _ _ 23 rfl wo.heap.size 3 i0 _ 1 8 Try.underlying23 ii1 ii2 ii3 ii4 rfl (by decide) (.slice A5 u c5) u _ rfl (HRO5.out.own.alloc _) ⟨wr.heap.size, 0, none⟩ 1 1 [.int .i64 v2] rfl rfl (cell_one_new _ _ _) (by simp [Value.oneCell']) hml (by omega) (by have := HRO5.out.low.size; simp; omega) ?_))
                  intro v' w6 hown' hgrow _
                  obtain ⟨A6, c6, rfl, hO6, _⟩ := Own1.step HRO5.out (Below.refl _ _) rfl hown' hgrow
                  have HRO6 : Hid (Own1 wo w6 3 1 A6 (u + 1) c6 (intC (R.take (u + 1)))) := by
                    unfold Hid
                    rw [HTS.out, intC_snocR, ← HRV.out]
                    exact hO6
                  clear hown' hgrow hO6
                  go_wp2_with (fail)
                  go_roundw
                  case rel => exact ⟨u + 1, A6, c6, by omega, by first | rfl | go_num, rfl, HRO6.out⟩
                  case measure => simp [intOf]; omega
        · obtain rfl : u = n := by omega
          have hun' : ¬ ((u : Int) + 1 ≤ (u : Int)) := by omega
          have HO7 := Lib.hid (HOW.out.below HRO.out.low)
          have hml : k + 1 ≤ maxLen := Nat.le_trans (show k + 1 ≤ 100000 by omega) (by decide)
          go_wp2_with (at_builtin; go_loud (refine wpList_append_own _ rfl _ _ 31 rfl w3.heap.size 23 r0 _ 1 24 Try.underlying31 rr1 rr2 rr3 rr4 rfl (by decide) (.slice A4 k c4) k _ rfl (HO7.out.own.alloc _) ⟨wr.heap.size, 0, none⟩ 1 1 [.slice A5 u c5] rfl rfl (cell_one_new _ _ _) (by simp [Value.oneCell']) hml (by omega) (by have := HO7.out.low.size; simp; omega) ?_))
          intro v' w8 hown' hgrow _
          obtain ⟨A8, c8, rfl, hO8, hkeep⟩ := Own1.step HO7.out (Below.refl _ _) rfl hown' hgrow
          have HO8 : Hid (Own1 w3 w8 23 1 A8 (k + 1) c8 (rwC (Z ++ [⟨A5, u, c5⟩]))) := by
            unfold Hid
            rw [rwC_snoc]
            exact hO8
          have HC8 : Hid (CpW w8 w3.heap.size (Z ++ [⟨A5, u, c5⟩]) (W.take (k + 1))) := by
            have e : W.take (k + 1) = W.take k ++ [R] := by
              rw [List.take_add_one, ← HR.out]
              simp [List.getElem?_eq_getElem (show k < W.length by have := HUL.out; have := HL.out; omega)]
            unfold Hid
            rw [e]
            refine CpW.snoc ((HC.out.below HRO.out.low).blk (fun g cs h => hkeep _ _ cs (by decide) h)) HRL.out.symm ?_
            have h1 := Ow.of_own HRO.out.own
            rw [List.take_of_length_le (by have := HRL.out; omega)] at h1
            exact (h1.blk (fun g cs h => hkeep _ _ cs (by decide) h)).more HOW.out.low.size
          clear hown' hgrow hO8 hkeep
          go_wp2_with (fail)
          go_roundw
          case rel => exact ⟨k + 1, _, A8, c8, by omega, by first | rfl | go_num, rfl, HO8.out, HC8.out⟩
          case measure => simp [intOf]; omega
    · obtain rfl : k = q := by omega
      go_wp2_with (fail)
      go_ret2
      have hT : W.take k = W := List.take_of_length_le (by have := HUL.out; have := HL.out; omega)
      have h2 := HC.out
      rw [hT] at h2
      exact ⟨A4, k, c4, rfl, RwIn.of (by have := HUL.out; have := HL.out; omega) h2 HOW.out.sl, bx (bt HB3.out HOW.out.low)⟩

set_option maxRecDepth 100000 in
set_option maxHeartbeats 1600000 in
theorem rcourses_any (A : Option Addr) (n c : Nat) (A' : Option Addr) (m c' : Nat) (A2 : Option Addr) (q cq : Nat) (C : List Cr) (S : List Int) (P : List EvP) (w : World) (hP : PcIn w A n c A' m c' A2 q cq C S P) (hnb : n ≤ 1000000) (hmb : m ≤ 1000000) (hq : q ≤ 65536) (hst : ∀ y ∈ P, y.L.length ≤ 1000000) :
    Calls Try.prog 10 #[pcV A n c A' m c' A2 q cq] w (RwPost (crsL C S P) (pcErr C S P) w) := by
  by_cases hX0 : pcErr C S P = 0
  · have := rcourses_fine A n c A' m c' A2 q cq C S P w hP hnb hmb hq hst hX0
    rw [hX0]
    exact this
  · have HP : Hid (∀ w', Below w.heap.size w w' → PcIn w' A n c A' m c' A2 q cq C S P) := fun w' hb => hP.below hb
    have DO := Lib.hid (fun w' (h : PcIn w' A n c A' m c' A2 q cq C S P) => rOnsets_any A n c A' m c' A2 q cq C S P w' h hnb hmb hq hst)
    unfold OnPost at DO
    unfold RwPost
    rw [crsL_none hX0]
    obtain ⟨X, hX⟩ : ∃ X, pcErr C S P = X := ⟨_, rfl⟩
    rw [hX] at hX0 DO ⊢
    have hXb : (X != 0) = true := by simpa using hX0
    clear hP hst hX hX0
    go_enter Try.func10, Try.ntmps10
    go_wp2_with (go_at_call 26; refine (DO.out _ (HP.out _ (ba w _))).mono ?_; rintro e w1 ⟨B, mo, d, rfl, hmo, hO, hb1⟩; clear hmo hO)
    go_ret2
    exact ⟨none, 0, 0, rfl, RwIn.nil _, bx hb1⟩

end Go.Proofs.Ytpcehgifpajmbaa
