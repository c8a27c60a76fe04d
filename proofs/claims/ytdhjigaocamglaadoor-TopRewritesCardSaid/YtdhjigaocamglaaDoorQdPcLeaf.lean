/- Pieces: what they are as plain lists, when they are valid, and how they lie in memory. -/
import Derived.Test.YtdhjigaocamglaaDoorQdTkT
import Derived.Test.YtdhjigaocamglaaDoorQdIterT
import Derived.Laws.EntriesVeiled
namespace Go.Proofs.YtdhjigaocamglaaDoor
open Go Go.RowKit

structure St where
  c : Int
  f : Int
  r : Int
  g : Int
  h : Int
def z5 : St := ⟨0, 0, 0, 0, 0⟩
structure EvP where
  bar : Bool
  v : Int
  d : Bool
  t : Bool
  tie : Bool
  L : List St
def z6 : EvP := ⟨false, 0, false, false, false, []⟩
def stC (L : List St) : List Value := L.flatMap fun s => [.int .i64 s.c, .int .i64 s.f, .int .i64 s.r, .int .i64 s.g, .int .i64 s.h]
theorem stC_len (L : List St) : (stC L).length = L.length * 5 := by
  induction L with
  | nil => rfl
  | cons c r ih => simp [stC] at ih ⊢; omega
theorem stC_at : ∀ (L : List St) (k : Nat), k < L.length → (stC L)[k * 5]? = some (.int .i64 (L.getD k z5).c) ∧ (stC L)[k * 5 + 1]? = some (.int .i64 (L.getD k z5).f) ∧ (stC L)[k * 5 + 2]? = some (.int .i64 (L.getD k z5).r) ∧ (stC L)[k * 5 + 3]? = some (.int .i64 (L.getD k z5).g) ∧ (stC L)[k * 5 + 4]? = some (.int .i64 (L.getD k z5).h)
  | c :: r, 0, _ => ⟨rfl, rfl, rfl, rfl, rfl⟩
  | c :: r, k + 1, h => by
    have := stC_at r k (by simpa using h)
    have e : stC (c :: r) = .int .i64 c.c :: .int .i64 c.f :: .int .i64 c.r :: .int .i64 c.g :: .int .i64 c.h :: stC r := rfl
    rw [e, show (k + 1) * 5 = k * 5 + 5 from by omega]
    exact this
theorem drop_consS (L : List St) (k : Nat) (h : k < L.length) : L.drop k = L.getD k z5 :: L.drop (k + 1) := by
  rw [List.drop_eq_getElem_cons h]; simp [List.getElem?_eq_getElem h]
theorem drop_consE (P : List EvP) (k : Nat) (h : k < P.length) : P.drop k = P.getD k z6 :: P.drop (k + 1) := by
  rw [List.drop_eq_getElem_cons h]; simp [List.getElem?_eq_getElem h]

def hsB (L : List St) (c : Int) : Bool := L.any fun s => decide (s.c = c)
def restB (y : EvP) : Bool := decide (y.L.length = 0) && !y.tie
/-- How far a hold may reach over the events behind it. -/
def lgGo (c : Int) : List EvP → Nat → Nat
  | [], h => h
  | y :: r, h => if h = 15 ∨ restB y = true ∨ hsB y.L c = true then h else lgGo c r (h + 1)
def lgst (P : List EvP) (k c : Int) : Nat := if k < 0 ∨ (P.length : Int) ≤ k then 0 else lgGo c (P.drop (k.toNat + 1)) 0
theorem lgGo_le (c : Int) : ∀ (r : List EvP) (h : Nat), h ≤ 15 → h ≤ lgGo c r h ∧ lgGo c r h ≤ 15
  | [], h, hh => ⟨Nat.le_refl _, hh⟩
  | y :: r, h, hh => by
    unfold lgGo
    split
    · exact ⟨Nat.le_refl _, hh⟩
    · rename_i hn
      have := lgGo_le c r (h + 1) (by omega)
      omega
theorem lgst_le (P : List EvP) (k c : Int) : lgst P k c ≤ 15 := by
  unfold lgst
  split
  · omega
  · exact (lgGo_le c _ 0 (by omega)).2
def stErr (C : List Cr) (P : List EvP) (k : Nat) (bf : Int) (s : St) : Int :=
  if s.c < 1 ∨ (C.length : Int) < s.c then 12
  else if s.f < 0 ∨ (C.getD (s.c - 1).toNat z0).f < s.f then 13
  else if s.c ≤ bf then 22
  else if s.r < 0 ∨ 3 < s.r ∨ s.g < 0 ∨ 4 < s.g then 23
  else if s.h < 0 ∨ (lgst P k s.c : Int) < s.h ∨ (0 < s.h ∧ s.f = 0) then 24 else 0
def stsErr (C : List Cr) (P : List EvP) (k : Nat) : Int → List St → Int
  | _, [] => 0
  | bf, s :: r => if stErr C P k bf s = 0 then stsErr C P k s.c r else stErr C P k bf s
def sgnB (k : Nat) (y : EvP) : Bool := !(!wrB y.v y.d y.t || okB y.v y.d y.t) || (decide (k = 0) && !wrB y.v y.d y.t)
def tieB (k : Nat) (y : EvP) : Bool := y.tie && (!decide (y.L.length = 0) || decide (k = 0))
def evErr (C : List Cr) (P : List EvP) (k : Nat) (y : EvP) : Int :=
  if sgnB k y = true then 20 else if tieB k y = true then 21 else stsErr C P k 0 y.L
def evsErr (C : List Cr) (P : List EvP) : Nat → List EvP → Int
  | _, [] => 0
  | k, y :: r => if evErr C P k y = 0 then evsErr C P (k + 1) r else evErr C P k y
def pcErr (C : List Cr) (S : List Int) (P : List EvP) : Int := if chk C S ≠ 0 then chk C S else if 400 < P.length then 2 else evsErr C P 0 P

/-- The cells of the events of a list. -/
def evC (E : List EvT) : List Value := E.flatMap fun x => [.bool x.bar, .int .i64 x.v, .bool x.d, .bool x.t, .bool x.tie, .slice x.sa x.sn x.sc]
theorem evC_len (E : List EvT) : (evC E).length = E.length * 6 := by
  induction E with
  | nil => rfl
  | cons c r ih => simp [evC] at ih ⊢; omega
theorem evC_at : ∀ (E : List EvT) (k : Nat) (x : EvT), E[k]? = some x → (evC E)[k * 6]? = some (.bool x.bar) ∧ (evC E)[k * 6 + 1]? = some (.int .i64 x.v) ∧ (evC E)[k * 6 + 2]? = some (.bool x.d) ∧ (evC E)[k * 6 + 3]? = some (.bool x.t) ∧ (evC E)[k * 6 + 4]? = some (.bool x.tie) ∧ (evC E)[k * 6 + 5]? = some (.slice x.sa x.sn x.sc)
  | c :: r, 0, x, h => by
    obtain rfl : c = x := by simpa using h
    exact ⟨rfl, rfl, rfl, rfl, rfl, rfl⟩
  | c :: r, k + 1, x, h => by
    have := evC_at r k x (by simpa using h)
    have e : evC (c :: r) = .bool c.bar :: .int .i64 c.v :: .bool c.d :: .bool c.t :: .bool c.tie :: .slice c.sa c.sn c.sc :: evC r := rfl
    rw [e, show (k + 1) * 6 = k * 6 + 6 from by omega]
    exact this
/-- An event in memory says what the plain one says. -/
def EvIn (w : World) (x : EvT) (y : EvP) : Prop := (x.bar = y.bar ∧ x.v = y.v ∧ x.d = y.d ∧ x.t = y.t ∧ x.tie = y.tie ∧ x.sn = y.L.length) ∧ Sl w w.heap.size 5 x.sa x.sn x.sc (stC y.L)
theorem EvIn.below {w w' : World} {x : EvT} {y : EvP} (h : EvIn w x y) (hb : Below w.heap.size w w') : EvIn w' x y := ⟨h.1, h.2.below hb⟩
def EvsIn (w : World) (E : List EvT) (P : List EvP) : Prop := E.length = P.length ∧ ∀ (k : Nat) (x : EvT) (y : EvP), E[k]? = some x → P[k]? = some y → EvIn w x y
theorem EvsIn.below {w w' : World} {E : List EvT} {P : List EvP} (h : EvsIn w E P) (hb : Below w.heap.size w w') : EvsIn w' E P := ⟨h.1, fun k x y hx hy => (h.2 k x y hx hy).below hb⟩
abbrev pcV (A : Option Addr) (n c : Nat) (A' : Option Addr) (m c' : Nat) (A2 : Option Addr) (q cq : Nat) : Value := .agg #[.slice A n c, .slice A' m c', .slice A2 q cq]
abbrev pcO (A : Option Addr) (n c : Nat) (A' : Option Addr) (m c' : Nat) (A2 : Option Addr) (q cq : Nat) : Obj := .cells #[.slice A n c, .slice A' m c', .slice A2 q cq] 28
/-- A list of events in memory. -/
structure EsIn (w : World) (A2 : Option Addr) (q cq : Nat) (P : List EvP) : Prop where
  hq : q = P.length
  evs : ∃ E, EvsIn w E P ∧ Sl w w.heap.size 6 A2 q cq (evC E)
theorem EsIn.below {w w' : World} {A2 : Option Addr} {q cq : Nat} {P : List EvP} (h : EsIn w A2 q cq P) (hb : Below w.heap.size w w') : EsIn w' A2 q cq P := by
  obtain ⟨h1, E, h2, h3⟩ := h
  exact ⟨h1, E, h2.below hb, h3.below hb⟩
/-- A piece in memory: its courses, its steps, its events. -/
structure PcIn (w : World) (A : Option Addr) (n c : Nat) (A' : Option Addr) (m c' : Nat) (A2 : Option Addr) (q cq : Nat) (C : List Cr) (S : List Int) (P : List EvP) : Prop where
  crs : Sl w w.heap.size 3 A n c (crC C)
  stp : Sl w w.heap.size 1 A' m c' (intC S)
  hn : n = C.length
  hm : m = S.length
  es : EsIn w A2 q cq P
theorem PcIn.below {w w' : World} {A A' A2 : Option Addr} {n c m c' q cq : Nat} {C : List Cr} {S : List Int} {P : List EvP} (h : PcIn w A n c A' m c' A2 q cq C S P) (hb : Below w.heap.size w w') : PcIn w' A n c A' m c' A2 q cq C S P :=
  ⟨h.crs.below hb, h.stp.below hb, h.hn, h.hm, h.es.below hb⟩
/-- One event of the list: its six cells and its stops. -/
theorem EsIn.at {w : World} {A2 : Option Addr} {q cq : Nat} {P : List EvP} (h : EsIn w A2 q cq P) {k : Nat} (hk : k < q) :
    ∃ b off sa sc, A2 = some ⟨b, off, none⟩ ∧ b < w.heap.size ∧ P[k]? = some (P.getD k z6) ∧ P.drop k = P.getD k z6 :: P.drop (k + 1) ∧
      (w.cell? ⟨b, off + k * 6, none⟩ = some (.bool (P.getD k z6).bar) ∧ w.cell? ⟨b, off + k * 6 + 1, none⟩ = some (.int .i64 (P.getD k z6).v) ∧ w.cell? ⟨b, off + k * 6 + 2, none⟩ = some (.bool (P.getD k z6).d) ∧ w.cell? ⟨b, off + k * 6 + 3, none⟩ = some (.bool (P.getD k z6).t) ∧
        w.cell? ⟨b, off + k * 6 + 4, none⟩ = some (.bool (P.getD k z6).tie) ∧ w.cell? ⟨b, off + k * 6 + 5, none⟩ = some (.slice sa (P.getD k z6).L.length sc)) ∧ Sl w w.heap.size 5 sa (P.getD k z6).L.length sc (stC (P.getD k z6).L) := by
  obtain ⟨hq, E, ⟨hl, hi⟩, hs⟩ := h
  obtain ⟨b, off, hA, hb, hc⟩ := hs.2.2 (by omega)
  have hkE : k < E.length := by omega
  have hkP : k < P.length := by omega
  have hg : P.getD k z6 = P[k] := by rw [List.getD_eq_getElem?_getD, List.getElem?_eq_getElem hkP]; rfl
  obtain ⟨⟨e1, e2, e3, e4, e5, e6⟩, hst⟩ := hi k E[k] P[k] (List.getElem?_eq_getElem hkE) (List.getElem?_eq_getElem hkP)
  obtain ⟨c0, c1, c2, c3, c4, c5⟩ := evC_at E k E[k] (List.getElem?_eq_getElem hkE)
  rw [hg]
  rw [e6] at hst c5
  rw [e1] at c0
  rw [e2] at c1
  rw [e3] at c2
  rw [e4] at c3
  rw [e5] at c4
  refine ⟨b, off, E[k].sa, E[k].sc, hA, hb, List.getElem?_eq_getElem hkP, List.drop_eq_getElem_cons hkP, ⟨hc _ _ c0, ?_, ?_, ?_, ?_, ?_⟩, hst⟩
  · have := hc _ _ c1; rwa [← Nat.add_assoc] at this
  · have := hc _ _ c2; rwa [← Nat.add_assoc] at this
  · have := hc _ _ c3; rwa [← Nat.add_assoc] at this
  · have := hc _ _ c4; rwa [← Nat.add_assoc] at this
  · have := hc _ _ c5; rwa [← Nat.add_assoc] at this
/-- One stop of a list. -/
theorem st_at {w : World} {sa : Option Addr} {sn sc : Nat} {L : List St} (h : Sl w w.heap.size 5 sa sn sc (stC L)) (hn : sn = L.length) {k : Nat} (hk : k < sn) :
    ∃ b off, sa = some ⟨b, off, none⟩ ∧ b < w.heap.size ∧ L.drop k = L.getD k z5 :: L.drop (k + 1) ∧ L[k]? = some (L.getD k z5) ∧ w.cell? ⟨b, off + k * 5, none⟩ = some (.int .i64 (L.getD k z5).c) ∧ w.cell? ⟨b, off + k * 5 + 1, none⟩ = some (.int .i64 (L.getD k z5).f) ∧
      w.cell? ⟨b, off + k * 5 + 2, none⟩ = some (.int .i64 (L.getD k z5).r) ∧ w.cell? ⟨b, off + k * 5 + 3, none⟩ = some (.int .i64 (L.getD k z5).g) ∧ w.cell? ⟨b, off + k * 5 + 4, none⟩ = some (.int .i64 (L.getD k z5).h) := by
  obtain ⟨b, off, hA, hb, hc⟩ := h.2.2 (by omega)
  obtain ⟨i0, i1, i2, i3, i4⟩ := stC_at L k (by omega)
  refine ⟨b, off, hA, hb, drop_consS L k (by omega), by simp [List.getElem?_eq_getElem (show k < L.length by omega)], hc _ _ i0, ?_, ?_, ?_, ?_⟩
  · have := hc _ _ i1; rwa [← Nat.add_assoc] at this
  · have := hc _ _ i2; rwa [← Nat.add_assoc] at this
  · have := hc _ _ i3; rwa [← Nat.add_assoc] at this
  · have := hc _ _ i4; rwa [← Nat.add_assoc] at this
abbrev evV (bar : Bool) (v : Int) (d t tie : Bool) (sa : Option Addr) (sn sc : Nat) : Value := .agg #[.bool bar, .int .i64 v, .bool d, .bool t, .bool tie, .slice sa sn sc]
abbrev evO (bar : Bool) (v : Int) (d t tie : Bool) (sa : Option Addr) (sn sc : Nat) : Obj := .cells #[.bool bar, .int .i64 v, .bool d, .bool t, .bool tie, .slice sa sn sc] 51
abbrev stV (s : St) : Value := .agg #[.int .i64 s.c, .int .i64 s.f, .int .i64 s.r, .int .i64 s.g, .int .i64 s.h]
theorem cell6 {w w1 : World} {u0 u1 u2 u3 u4 u5 : Value} {T : TypeId} (h : Below (w.alloc (.cells #[u0, u1, u2, u3, u4, u5] T)).heap.size (w.alloc (.cells #[u0, u1, u2, u3, u4, u5] T)) w1) :
    w1.cell? ⟨w.heap.size, 0, none⟩ = some u0 ∧ w1.cell? ⟨w.heap.size, 1, none⟩ = some u1 ∧ w1.cell? ⟨w.heap.size, 2, none⟩ = some u2 ∧ w1.cell? ⟨w.heap.size, 3, none⟩ = some u3 ∧ w1.cell? ⟨w.heap.size, 4, none⟩ = some u4 ∧ w1.cell? ⟨w.heap.size, 5, none⟩ = some u5 :=
  ⟨by simpa using (keepb h 0).1, by simpa using (keepb h 1).1, by simpa using (keepb h 2).1, by simpa using (keepb h 3).1, by simpa using (keepb h 4).1, by simpa using (keepb h 5).1⟩
theorem cell5 {w w1 : World} {u0 u1 u2 u3 u4 : Value} {T : TypeId} (h : Below (w.alloc (.cells #[u0, u1, u2, u3, u4] T)).heap.size (w.alloc (.cells #[u0, u1, u2, u3, u4] T)) w1) :
    w1.cell? ⟨w.heap.size, 0, none⟩ = some u0 ∧ w1.cell? ⟨w.heap.size, 1, none⟩ = some u1 ∧ w1.cell? ⟨w.heap.size, 2, none⟩ = some u2 ∧ w1.cell? ⟨w.heap.size, 3, none⟩ = some u3 ∧ w1.cell? ⟨w.heap.size, 4, none⟩ = some u4 :=
  ⟨by simpa using (keepb h 0).1, by simpa using (keepb h 1).1, by simpa using (keepb h 2).1, by simpa using (keepb h 3).1, by simpa using (keepb h 4).1⟩
theorem cell3 {w w1 : World} {u0 u1 u2 : Value} {T : TypeId} (h : Below (w.alloc (.cells #[u0, u1, u2] T)).heap.size (w.alloc (.cells #[u0, u1, u2] T)) w1) :
    w1.cell? ⟨w.heap.size, 0, none⟩ = some u0 ∧ w1.cell? ⟨w.heap.size, 1, none⟩ = some u1 ∧ w1.cell? ⟨w.heap.size, 2, none⟩ = some u2 :=
  ⟨by simpa using (keepb h 0).1, by simpa using (keepb h 1).1, by simpa using (keepb h 2).1⟩

end Go.Proofs.YtdhjigaocamglaaDoor

/- Pieces: is an event a rest, has it a stop on a course, in the program and in the reference. -/
namespace Go.Proofs.YtdhjigaocamglaaDoor
open Go Go.RowKit

set_option maxHeartbeats 1600000 in
theorem isRest_any (y : EvP) (sa : Option Addr) (sc : Nat) (w : World) : Calls Tryd.prog 73 #[evV y.bar y.v y.d y.t y.tie sa y.L.length sc] w fun e w' => e = .returned (.bool (restB y)) ∧ Below w.heap.size w w' := by
  have H : Hid (restB y = (decide (y.L.length = 0) && !y.tie)) := rfl
  generalize y.L.length = n at *
  cases ht : y.tie <;> rw [ht] at H
  · by_cases h : n = 0
    · subst h
      go_enter Tryd.func73, Tryd.ntmps73
      go_wp2_with (fail)
      go_ret
      exact ⟨ret_b (by rw [H.out]; rfl), ba _ _⟩
    · have h2 : ((n : Int) == 0) = false := by simpa using h
      go_enter Tryd.func73, Tryd.ntmps73
      go_wp2_with (fail)
      go_ret
      exact ⟨ret_b (by rw [H.out]; simp [h]), ba _ _⟩
  · by_cases h : n = 0
    · subst h
      go_enter Tryd.func73, Tryd.ntmps73
      go_wp2_with (fail)
      go_ret
      exact ⟨ret_b (by rw [H.out]; rfl), ba _ _⟩
    · have h2 : ((n : Int) == 0) = false := by simpa using h
      go_enter Tryd.func73, Tryd.ntmps73
      go_wp2_with (fail)
      go_ret
      exact ⟨ret_b (by rw [H.out]; simp), ba _ _⟩

end Go.Proofs.YtdhjigaocamglaaDoor
