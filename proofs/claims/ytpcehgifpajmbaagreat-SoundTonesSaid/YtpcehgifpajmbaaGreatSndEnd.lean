/- Pieces: how long a finger stays and a string sounds, as plain lists. -/
import Derived.Test.YtpcehgifpajmbaaGreatPcMeas2
import Derived.Test.YtpcehgifpajmbaaGreatPcHas
import Derived.Laws.EntriesVeiled
import Derived.BigQuiet
import Derived.Deep.RegionHeld3
namespace Go.Proofs.YtpcehgifpajmbaaGreat
open Go Go.RowKit

theorem lgGo_len (c : Int) : ∀ (r : List EvP) (h : Nat), lgGo c r h ≤ h + r.length
  | [], h => by simp [lgGo]
  | y :: r, h => by
    unfold lgGo
    split
    · omega
    · have := lgGo_len c r (h + 1)
      simp only [List.length_cons]
      omega
theorem stErr_ok {C : List Cr} {P : List EvP} {k : Nat} {bf : Int} {s : St} (h : stErr C P k bf s = 0) :
    (1 ≤ s.c ∧ s.c ≤ C.length) ∧ (0 ≤ s.f ∧ s.f ≤ (C.getD (s.c - 1).toNat z0).f) ∧ bf < s.c ∧ (0 ≤ s.h ∧ s.h ≤ lgst P k s.c) ∧ (s.f = 0 → s.h = 0) := by
  unfold stErr at h
  by_cases h1 : s.c < 1 ∨ (C.length : Int) < s.c
  · rw [if_pos h1] at h; cases h
  rw [if_neg h1] at h
  by_cases h2 : s.f < 0 ∨ (C.getD (s.c - 1).toNat z0).f < s.f
  · rw [if_pos h2] at h; cases h
  rw [if_neg h2] at h
  by_cases h3 : s.c ≤ bf
  · rw [if_pos h3] at h; cases h
  rw [if_neg h3] at h
  by_cases h4 : s.r < 0 ∨ 3 < s.r ∨ s.g < 0 ∨ 4 < s.g
  · rw [if_pos h4] at h; cases h
  rw [if_neg h4] at h
  by_cases h5 : s.h < 0 ∨ (lgst P k s.c : Int) < s.h ∨ (0 < s.h ∧ s.f = 0)
  · rw [if_pos h5] at h; cases h
  exact ⟨by omega, by omega, by omega, by omega, by omega⟩
theorem stsErr_mem {C : List Cr} {P : List EvP} {k : Nat} : ∀ (L : List St) (bf : Int), stsErr C P k bf L = 0 → ∀ s ∈ L, ∃ b, bf ≤ b ∧ stErr C P k b s = 0
  | [], _, _, s, hs => by cases hs
  | x :: r, bf, h, s, hs => by
    unfold stsErr at h
    by_cases hx : stErr C P k bf x = 0
    · rw [if_pos hx] at h
      rcases List.mem_cons.1 hs with rfl | hs
      · exact ⟨bf, by omega, hx⟩
      · obtain ⟨b, h1, h2⟩ := stsErr_mem r x.c h s hs
        exact ⟨b, by have := (stErr_ok hx).2.2.1; omega, h2⟩
    · rw [if_neg hx] at h; exact absurd h hx
/-- What a stop of a valid piece is. -/
structure StOk (C : List Cr) (P : List EvP) (i : Nat) (s : St) : Prop where
  c1 : 1 ≤ s.c
  c2 : s.c ≤ C.length
  f1 : 0 ≤ s.f
  f2 : s.f ≤ (C.getD (s.c - 1).toNat z0).f
  h1 : 0 ≤ s.h
  h2 : s.h ≤ 15
  h3 : i + 1 + s.h.toNat ≤ P.length
theorem stOk_of {C : List Cr} {S : List Int} {P : List EvP} (h : pcErr C S P = 0) {i : Nat} {y : EvP} (hy : P[i]? = some y) {s : St} (hs : s ∈ y.L) : StOk C P i s := by
  obtain ⟨_, _, h3⟩ := pcErr_ok h
  obtain ⟨_, _, h4⟩ := h3 i y hy
  obtain ⟨b, _, h5⟩ := stsErr_mem y.L 0 h4 s hs
  obtain ⟨⟨a1, a2⟩, ⟨a3, a4⟩, _, ⟨a5, a6⟩, _⟩ := stErr_ok h5
  have hi : i < P.length := (List.getElem?_eq_some_iff.1 hy).1
  have l1 := lgst_le P i s.c
  have l2 : lgst P i s.c ≤ P.length - (i + 1) := by
    rw [lgst_in hi]
    have := lgGo_len s.c (P.drop (i + 1)) 0
    simp only [List.length_drop] at this
    omega
  exact ⟨a1, a2, a3, a4, a5, by omega, by omega⟩
theorem tie_len {C : List Cr} {S : List Int} {P : List EvP} (h : pcErr C S P = 0) {i : Nat} {y : EvP} (hy : P[i]? = some y) (ht : y.tie = true) : y.L.length = 0 := by
  obtain ⟨_, _, h3⟩ := pcErr_ok h
  have h4 := (h3 i y hy).2.1
  unfold tieB at h4
  rw [ht] at h4
  by_cases h0 : y.L.length = 0
  · exact h0
  · simp [h0] at h4

/-- The event at which an open note ends. -/
def opGo (c : Int) : List EvP → Nat → Nat
  | [], j => j
  | y :: r, j => if restB y = true ∨ hsB y.L c = true then j else opGo c r (j + 1)
/-- The event behind the ties. -/
def tiGo : List EvP → Nat → Nat
  | [], j => j
  | y :: r, j => if y.tie = true then tiGo r (j + 1) else j
theorem opGo_bd (c : Int) : ∀ (r : List EvP) (j : Nat), j ≤ opGo c r j ∧ opGo c r j ≤ j + r.length
  | [], j => by simp [opGo]
  | y :: r, j => by
    unfold opGo
    split
    · simp
    · have := opGo_bd c r (j + 1)
      simp only [List.length_cons]
      omega
theorem tiGo_bd : ∀ (r : List EvP) (j : Nat), j ≤ tiGo r j ∧ tiGo r j ≤ j + r.length
  | [], j => by simp [tiGo]
  | y :: r, j => by
    unfold tiGo
    split
    · have := tiGo_bd r (j + 1)
      simp only [List.length_cons]
      omega
    · simp
def endN (P : List EvP) (i : Nat) (s : St) : Nat := if s.f = 0 then opGo s.c (P.drop (i + 1)) (i + 1) else tiGo (P.drop (i + 1 + s.h.toNat)) (i + 1 + s.h.toNat)
theorem endN_bd {C : List Cr} {P : List EvP} {i : Nat} {s : St} (hi : i < P.length) (h : StOk C P i s) : i < endN P i s ∧ endN P i s ≤ P.length := by
  unfold endN
  split
  · have := opGo_bd s.c (P.drop (i + 1)) (i + 1)
    simp only [List.length_drop] at this
    omega
  · have := tiGo_bd (P.drop (i + 1 + s.h.toNat)) (i + 1 + s.h.toNat)
    have := h.h3
    simp only [List.length_drop] at *
    omega

/-- A note; a stop with its note. -/
structure Nt where
  ev : Int
  c : Int
  p : Int
  fm : Int
  to : Int
def zNt : Nt := ⟨0, 0, 0, 0, 0⟩
structure Py where
  f : Int
  u : Int
  t : Nt
def zPy : Py := ⟨0, 0, zNt⟩
def ntC (L : List Nt) : List Value := L.flatMap fun x => [.int .i64 x.ev, .int .i64 x.c, .int .i64 x.p, .int .i64 x.fm, .int .i64 x.to]
def pyC (L : List Py) : List Value := L.flatMap fun x => [.int .i64 x.f, .int .i64 x.u, .int .i64 x.t.ev, .int .i64 x.t.c, .int .i64 x.t.p, .int .i64 x.t.fm, .int .i64 x.t.to]
theorem ntC_len (L : List Nt) : (ntC L).length = L.length * 5 := by
  induction L with
  | nil => rfl
  | cons c r ih => simp [ntC] at ih ⊢; omega
theorem pyC_len (L : List Py) : (pyC L).length = L.length * 7 := by
  induction L with
  | nil => rfl
  | cons c r ih => simp [pyC] at ih ⊢; omega
theorem ntC_snoc (L : List Nt) (x : Nt) : ntC (L ++ [x]) = ntC L ++ [.int .i64 x.ev, .int .i64 x.c, .int .i64 x.p, .int .i64 x.fm, .int .i64 x.to] := by simp [ntC]
theorem pyC_snoc (L : List Py) (x : Py) : pyC (L ++ [x]) = pyC L ++ [.int .i64 x.f, .int .i64 x.u, .int .i64 x.t.ev, .int .i64 x.t.c, .int .i64 x.t.p, .int .i64 x.t.fm, .int .i64 x.t.to] := by simp [pyC]
theorem ntC_at : ∀ (L : List Nt) (k : Nat), k < L.length → (ntC L)[k * 5]? = some (.int .i64 (L.getD k zNt).ev) ∧ (ntC L)[k * 5 + 1]? = some (.int .i64 (L.getD k zNt).c) ∧ (ntC L)[k * 5 + 2]? = some (.int .i64 (L.getD k zNt).p) ∧ (ntC L)[k * 5 + 3]? = some (.int .i64 (L.getD k zNt).fm) ∧ (ntC L)[k * 5 + 4]? = some (.int .i64 (L.getD k zNt).to)
  | c :: r, 0, _ => ⟨rfl, rfl, rfl, rfl, rfl⟩
  | c :: r, k + 1, h => by
    have := ntC_at r k (by simpa using h)
    have e : ntC (c :: r) = .int .i64 c.ev :: .int .i64 c.c :: .int .i64 c.p :: .int .i64 c.fm :: .int .i64 c.to :: ntC r := rfl
    rw [e, show (k + 1) * 5 = k * 5 + 5 from by omega]
    exact this
theorem pyC_at : ∀ (L : List Py) (k : Nat), k < L.length → (pyC L)[k * 7]? = some (.int .i64 (L.getD k zPy).f) ∧ (pyC L)[k * 7 + 1]? = some (.int .i64 (L.getD k zPy).u) ∧ (pyC L)[k * 7 + 2]? = some (.int .i64 (L.getD k zPy).t.ev) ∧ (pyC L)[k * 7 + 3]? = some (.int .i64 (L.getD k zPy).t.c) ∧ (pyC L)[k * 7 + 4]? = some (.int .i64 (L.getD k zPy).t.p) ∧ (pyC L)[k * 7 + 5]? = some (.int .i64 (L.getD k zPy).t.fm) ∧ (pyC L)[k * 7 + 6]? = some (.int .i64 (L.getD k zPy).t.to)
  | c :: r, 0, _ => ⟨rfl, rfl, rfl, rfl, rfl, rfl, rfl⟩
  | c :: r, k + 1, h => by
    have := pyC_at r k (by simpa using h)
    have e : pyC (c :: r) = .int .i64 c.f :: .int .i64 c.u :: .int .i64 c.t.ev :: .int .i64 c.t.c :: .int .i64 c.t.p :: .int .i64 c.t.fm :: .int .i64 c.t.to :: pyC r := rfl
    rw [e, show (k + 1) * 7 = k * 7 + 7 from by omega]
    exact this
def onAt (O : List Int) (k : Nat) : Int := O.getD k 0
/-- The note of a stop, with its fret and the event at which it ends. -/
def pyOf (C : List Cr) (S : List Int) (P : List EvP) (O : List Int) (i : Nat) (s : St) : Py := ⟨s.f, (endN P i s : Nat), ⟨(i : Nat), s.c, atP C S s.c s.f, onAt O i, onAt O (endN P i s)⟩⟩
def pyEv (C : List Cr) (S : List Int) (P : List EvP) (O : List Int) (i : Nat) (L : List St) : List Py := L.map (pyOf C S P O i)
def pyGo (C : List Cr) (S : List Int) (P : List EvP) (O : List Int) : Nat → List EvP → List Py
  | _, [] => []
  | i, y :: r => pyEv C S P O i y.L ++ pyGo C S P O (i + 1) r
def pyL (C : List Cr) (S : List Int) (P : List EvP) : List Py := if pcErr C S P = 0 then pyGo C S P (onsL C S P) 0 P else []
def ntL (C : List Cr) (S : List Int) (P : List EvP) : List Nt := (pyL C S P).map fun x => x.t
theorem py_enter {C : List Cr} {S : List Int} {P : List EvP} {O : List Int} {k : Nat} {acc T : List Py} (h : T = acc ++ pyGo C S P O k (P.drop k)) (hd : P.drop k = P.getD k z6 :: P.drop (k + 1)) :
    T = acc ++ (pyEv C S P O k ((P.getD k z6).L.drop 0) ++ pyGo C S P O (k + 1) (P.drop (k + 1))) := by
  rw [h, hd, pyGo]; rfl
theorem py_hit {C : List Cr} {S : List Int} {P : List EvP} {O : List Int} {k j : Nat} {L : List St} {acc T tail : List Py} (h : T = acc ++ (pyEv C S P O k (L.drop j) ++ tail)) (hd : L.drop j = L.getD j z5 :: L.drop (j + 1)) :
    T = (acc ++ [pyOf C S P O k (L.getD j z5)]) ++ (pyEv C S P O k (L.drop (j + 1)) ++ tail) := by
  rw [h, hd, pyEv, pyEv, List.map_cons]
  simp
theorem py_out {C : List Cr} {S : List Int} {P : List EvP} {O : List Int} {k j : Nat} {L : List St} {acc T tail : List Py} (h : T = acc ++ (pyEv C S P O k (L.drop j) ++ tail)) (hj : L.length ≤ j) : T = acc ++ tail := by
  rw [h, List.drop_of_length_le hj]
  rfl

end Go.Proofs.YtpcehgifpajmbaaGreat

/- Sound: is an event a rest, has it a stop on a course. -/
namespace Go.Proofs.YtpcehgifpajmbaaGreat
open Go Go.RowKit

set_option maxHeartbeats 1600000 in
theorem sisRest_any (y : EvP) (sa : Option Addr) (sc : Nat) (w : World) : Calls Tryz.prog 47 #[evV y.bar y.v y.d y.t y.tie sa y.L.length sc] w fun e w' => e = .returned (.bool (restB y)) ∧ Below w.heap.size w w' := by
  have H : Hid (restB y = (decide (y.L.length = 0) && !y.tie)) := rfl
  generalize y.L.length = n at *
  cases ht : y.tie <;> rw [ht] at H
  · by_cases h : n = 0
    · subst h
      go_enter Tryz.func47, Tryz.ntmps47
      go_wp2_with (fail)
      go_ret
      exact ⟨ret_b (by rw [H.out]; rfl), ba _ _⟩
    · have h2 : ((n : Int) == 0) = false := by simpa using h
      go_enter Tryz.func47, Tryz.ntmps47
      go_wp2_with (fail)
      go_ret
      exact ⟨ret_b (by rw [H.out]; simp [h]), ba _ _⟩
  · by_cases h : n = 0
    · subst h
      go_enter Tryz.func47, Tryz.ntmps47
      go_wp2_with (fail)
      go_ret
      exact ⟨ret_b (by rw [H.out]; rfl), ba _ _⟩
    · have h2 : ((n : Int) == 0) = false := by simpa using h
      go_enter Tryz.func47, Tryz.ntmps47
      go_wp2_with (fail)
      go_ret
      exact ⟨ret_b (by rw [H.out]; simp), ba _ _⟩

theorem hsB_goS {L : List St} {c : Int} {k : Nat} (h : L.drop k = L.getD k z5 :: L.drop (k + 1)) : hsB (L.drop k) c = (decide ((L.getD k z5).c = c) || hsB (L.drop (k + 1)) c) := by
  rw [h]
  rfl
set_option maxHeartbeats 1600000 in
theorem shasStop1_any (cb : Nat) (c : Int) (s : St) (w : World) (h : w.cell? ⟨cb, 0, none⟩ = some (.int .i64 c)) (hb : cb < w.heap.size) :
    Calls Tryz.prog 74 #[stV s, .pointer (some ⟨cb, 0, none⟩)] w fun e w' => e = .returned (.bool (decide (s.c = c))) ∧ Below w.heap.size w w' := by
  have h1 := cell_same ((ba w (.cells #[.int .i64 s.c, .int .i64 s.f, .int .i64 s.r, .int .i64 s.g, .int .i64 s.h] 42)).block cb hb) h
  go_enter Tryz.func74, Tryz.ntmps74
  go_wp2_with (fail)
  go_ret
  exact ⟨by first | rfl | exact ret_b (by simp), ba _ _⟩

set_option maxRecDepth 100000 in
set_option maxHeartbeats 1600000 in
theorem sindexFunc_any (cb : Nat) (c : Int) (sa : Option Addr) (sn sc : Nat) (L : List St) (w : World) (h : w.cell? ⟨cb, 0, none⟩ = some (.int .i64 c)) (hb : cb < w.heap.size) (hS : Sl w w.heap.size 5 sa sn sc (stC L)) (hn : sn = L.length) (hlim : sn ≤ 1000000) :
    Calls Tryz.prog 95 #[.slice sa sn sc, .func (.func 74) #[] #[.pointer (some ⟨cb, 0, none⟩)]] w fun e w' => ∃ r : Int, e = .returned (.int .i64 r) ∧ decide (0 ≤ r) = hsB L c ∧ Below w.heap.size w w' := by
  have HN := Lib.hid hn
  have HS : Hid (∀ w', Below w.heap.size w w' → Sl w' w'.heap.size 5 sa sn sc (stC L)) := fun w' hb' => hS.below hb'
  have HC : Hid (∀ w', Below w.heap.size w w' → w'.cell? ⟨cb, 0, none⟩ = some (.int .i64 c) ∧ cb < w'.heap.size) := fun w' hb' => ⟨cell_same (hb'.block cb hb) h, Nat.lt_of_lt_of_le hb hb'.size⟩
  clear hS hn h hb
  go_enter Tryz.func95, Tryz.ntmps95
  go_wp2_with (fail)
  go_loopw [8] (fun i wr => ∃ k : Nat, k ≤ sn ∧ i = .int .i64 k ∧ hsB L c = hsB (L.drop k) c ∧ Below w.heap.size w wr) (fun i _ => sn - (intOf i).toNat)
  case atStart => exact ⟨0, by omega, rfl, rfl, Below.refl _ _⟩
  case round =>
    obtain ⟨k, hk, rfl, hr, hbw⟩ := hrel
    have HR := Lib.hid hr
    have HB := Lib.hid hbw
    clear hr hbw
    by_cases hlt : k < sn
    · obtain ⟨b, off, rfl, hbl, hd, _, c0, c1, c2, c3, c4⟩ := st_at (HS.out _ HB.out) HN.out hlt
      have HD := Lib.hid (hsB_goS (c := c) hd)
      clear hd
      generalize L.getD k z5 = s at *
      obtain ⟨hcb, hcl⟩ := HC.out _ HB.out
      have HQ := Lib.hid (And.intro hcb hcl)
      clear hcb hcl
      cases hx : decide (s.c = c) with
      | true =>
        have HX := Lib.hid hx
        clear hx
        go_wp2_with (go_at_call 74; refine (shasStop1_any cb c s _ HQ.out.1 HQ.out.2).mono ?_; rintro e w2 ⟨rfl, hb2⟩; rw [HX.out])
        go_ret
        exact ⟨k, rfl, by rw [HR.out, HD.out, HX.out]; simp, bt HB.out hb2⟩
      | false =>
        have HX := Lib.hid hx
        clear hx
        go_wp2_with (go_at_call 74; refine (shasStop1_any cb c s _ HQ.out.1 HQ.out.2).mono ?_; rintro e w2 ⟨rfl, hb2⟩; rw [HX.out])
        go_roundw
        case rel => exact ⟨k + 1, by omega, rfl, by rw [HR.out, HD.out, HX.out]; rfl, bt HB.out hb2⟩
        case measure => simp [intOf]; omega
    · go_wp2_with (fail)
      go_ret
      exact ⟨-1, rfl, by rw [HR.out, List.drop_of_length_le (by have := HN.out; omega)]; rfl, HB.out⟩

set_option maxHeartbeats 1600000 in
theorem scontainsFunc_any (cb : Nat) (c : Int) (sa : Option Addr) (sn sc : Nat) (L : List St) (w : World) (h : w.cell? ⟨cb, 0, none⟩ = some (.int .i64 c)) (hb : cb < w.heap.size) (hS : Sl w w.heap.size 5 sa sn sc (stC L)) (hn : sn = L.length) (hlim : sn ≤ 1000000) :
    Calls Tryz.prog 73 #[.slice sa sn sc, .func (.func 74) #[] #[.pointer (some ⟨cb, 0, none⟩)]] w fun e w' => e = .returned (.bool (hsB L c)) ∧ Below w.heap.size w w' := by
  have HI := Lib.hid (sindexFunc_any cb c sa sn sc L w h hb hS hn hlim)
  clear h hb hS hn hlim
  generalize hsB L c = B at *
  go_enter Tryz.func73, Tryz.ntmps73
  go_wp2_with (go_at_call 95; refine HI.out.mono ?_; rintro e w1 ⟨r, rfl, hr, hb1⟩; have HR := Lib.hid hr; clear hr)
  go_ret
  exact ⟨ret_b (by rw [← HR.out]), hb1⟩

set_option maxHeartbeats 1600000 in
theorem shasStop_any (bar : Bool) (v : Int) (d t tie : Bool) (sa : Option Addr) (sn sc : Nat) (L : List St) (c : Int) (w : World) (hS : Sl w w.heap.size 5 sa sn sc (stC L)) (hn : sn = L.length) (hlim : sn ≤ 1000000) :
    Calls Tryz.prog 48 #[evV bar v d t tie sa sn sc, .int .i64 c] w fun e w' => e = .returned (.bool (hsB L c)) ∧ Below w.heap.size w w' := by
  have hmf : ∀ (fn : Fn) (first cap : Array Value) (w : World), (Instr.makeFunc fn first cap).run Tryz.prog w = .ok (.func fn first cap) w := fun _ _ _ _ => rfl
  have HS : Hid (∀ w', Below w.heap.size w w' → Sl w' w'.heap.size 5 sa sn sc (stC L)) := fun w' hb' => hS.below hb'
  have HN := Lib.hid (And.intro hn hlim)
  clear hS hn hlim
  go_enter Tryz.func48, Tryz.ntmps48
  go_wp2_with (go_at_call 73; refine (scontainsFunc_any (w.heap.size + 1) c sa sn sc L _ (by simp) (by simp) (HS.out _ (bt (ba w _) (ba _ _))) HN.out.1 HN.out.2).mono ?_; rintro e w1 ⟨rfl, hb1⟩)
  go_ret
  exact ⟨rfl, bx (bx hb1)⟩

end Go.Proofs.YtpcehgifpajmbaaGreat

/- Sound: the event at which a stop ceases to sound (sound.ending). -/
namespace Go.Proofs.YtpcehgifpajmbaaGreat
open Go Go.RowKit

abbrev stO5 (sc sf sr sg sh : Int) : Obj := .cells #[.int .i64 sc, .int .i64 sf, .int .i64 sr, .int .i64 sg, .int .i64 sh] 42
set_option maxRecDepth 100000 in
set_option maxHeartbeats 4000000 in
theorem ending_open (A2 : Option Addr) (q cq : Nat) (P : List EvP) (i : Nat) (sc sr sg sh : Int) (w : World) (hE : EsIn w A2 q cq P) (hi : i < q) (hq : q ≤ 65536) (hst : ∀ y ∈ P, y.L.length ≤ 1000000) :
    Calls Tryz.prog 34 #[.slice A2 q cq, .int .i64 i, .agg #[.int .i64 sc, .int .i64 0, .int .i64 sr, .int .i64 sg, .int .i64 sh]] w fun e w' => e = .returned (.int .i64 (opGo sc (P.drop (i + 1)) (i + 1) : Nat)) ∧ Below w.heap.size w w' := by
  have HE : Hid (∀ w', Below w.heap.size w w' → EsIn w' A2 q cq P) := fun w' hb => hE.below hb
  have HL := Lib.hid hE.hq
  have HST := Lib.hid hst
  clear hE hst
  go_enter Tryz.func34, Tryz.ntmps34
  go_wp2_with (fail)
  go_loopw [7] (fun u wr => ∃ k : Nat, i + 1 ≤ k ∧ k ≤ q ∧ u = .int .i64 k ∧ opGo sc (P.drop (i + 1)) (i + 1) = opGo sc (P.drop k) k ∧ Below (w.alloc (stO5 sc 0 sr sg sh)).heap.size (w.alloc (stO5 sc 0 sr sg sh)) wr) (fun u _ => q - (intOf u).toNat)
  case atStart => exact ⟨i + 1, by omega, by omega, by first | rfl | go_num, rfl, Below.refl _ _⟩
  case round =>
    obtain ⟨k, hk1, hk2, rfl, hr, hbw⟩ := hrel
    have HR := Lib.hid hr
    have HB := Lib.hid hbw
    obtain ⟨x0, _, _, _, _⟩ := cell5 hbw
    clear hr hbw
    by_cases hlt : k < q
    · have hkq : decide ((k : Int) < (q : Int)) = true := by simpa using hlt
      have hkq' : (k : Int) < (q : Int) := by omega
      obtain ⟨b, off, sa, sc', rfl, hbl, hPk, hd, ⟨c0, c1, c2, c3, c4, c5⟩, hS⟩ := (HE.out _ (bx HB.out)).at hlt
      have HS := Lib.hid hS
      have HD := Lib.hid hd
      have hL : (P.getD k z6).L.length ≤ 1000000 := HST.out _ (List.mem_of_getElem? hPk)
      clear hS hd hPk
      generalize P.getD k z6 = y at *
      obtain ⟨bar, v, d, t, tie, L⟩ := y
      dsimp only at c0 c1 c2 c3 c4 c5 hL HS
      have HG : Hid (∀ B, (restB ⟨bar, v, d, t, tie, L⟩ || hsB L sc) = B → opGo sc (P.drop (i + 1)) (i + 1) = if B then k else opGo sc (P.drop (k + 1)) (k + 1)) := fun B hB => by
        rw [HR.out, HD.out, opGo]
        subst hB
        cases restB ⟨bar, v, d, t, tie, L⟩ <;> cases hsB L sc <;> simp
      have HC : Hid (∀ w', Below wr.heap.size wr w' → (fun w' => (w'.cell? ⟨b, off + k * 6, none⟩ = some (.bool bar) ∧ w'.cell? ⟨b, off + k * 6 + 1, none⟩ = some (.int .i64 v) ∧ w'.cell? ⟨b, off + k * 6 + 2, none⟩ = some (.bool d) ∧ w'.cell? ⟨b, off + k * 6 + 3, none⟩ = some (.bool t) ∧ w'.cell? ⟨b, off + k * 6 + 4, none⟩ = some (.bool tie) ∧ w'.cell? ⟨b, off + k * 6 + 5, none⟩ = some (.slice sa L.length sc')) ∧ w'.cell? ⟨w.heap.size, 0, none⟩ = some (.int .i64 sc)) w') := by
        have hzz : w.heap.size < wr.heap.size := by have := HB.out.size; simp at this; omega
        exact fun w' hb => ⟨⟨cell_same (hb.block b hbl) c0, cell_same (hb.block b hbl) c1, cell_same (hb.block b hbl) c2, cell_same (hb.block b hbl) c3, cell_same (hb.block b hbl) c4, cell_same (hb.block b hbl) c5⟩, cell_same (hb.block w.heap.size hzz) x0⟩
      clear c0 c1 c2 c3 c4 c5 x0
      cases hrest : restB ⟨bar, v, d, t, tie, L⟩ with
      | true =>
        have HT := Lib.hid hrest
        clear hrest
        go_wp2_with (fail)
        refine wp_region_held_drew (S := (fun w' => (w'.cell? ⟨b, off + k * 6, none⟩ = some (.bool bar) ∧ w'.cell? ⟨b, off + k * 6 + 1, none⟩ = some (.int .i64 v) ∧ w'.cell? ⟨b, off + k * 6 + 2, none⟩ = some (.bool d) ∧ w'.cell? ⟨b, off + k * 6 + 3, none⟩ = some (.bool t) ∧ w'.cell? ⟨b, off + k * 6 + 4, none⟩ = some (.bool tie) ∧ w'.cell? ⟨b, off + k * 6 + 5, none⟩ = some (.slice sa L.length sc')) ∧ w'.cell? ⟨w.heap.size, 0, none⟩ = some (.int .i64 sc))) (by kernel_rfl) (HC.out _ (Below.refl wr.heap.size wr).drew) (fun hHeld => ?_)
        change wpAnyH _ _ _ _ _ 22 #[false, false, false, false, false, false, false, false, false, false, false, false, false, false, false, false, false, false, false, false, false, false] _ _
        refine wpAnyH_take (i := 0) (v := ?_) rfl (by kernel_rfl) (by kernel_rfl) (by kernel_rfl) (fun _ _ _ h => h) (Or.inl ⟨by rfl, ?_⟩) (by assumption) ?_
        rotate_left
        · intro w hSw
          (try dsimp only at hSw)
          go_simp
          try with_reducible rfl
        (try simp only [Act.put, List.getElem_toArray, List.getElem_cons_zero, List.setIfInBounds_toArray, List.set_cons_zero, List.set_cons_succ])
        refine wpAnyH_take (i := 1) (v := ?_) rfl (by kernel_rfl) (by kernel_rfl) (by kernel_rfl) (fun _ _ _ h => h) (Or.inl ⟨by rfl, ?_⟩) (by assumption) ?_
        rotate_left
        · intro w hSw
          (try dsimp only at hSw)
          go_simp
          try with_reducible rfl
        (try simp only [Act.put, List.getElem_toArray, List.getElem_cons_succ, List.getElem_cons_zero, List.setIfInBounds_toArray, List.set_cons_zero, List.set_cons_succ])
        refine wpAnyH_take (i := 2) (v := ?_) rfl (by kernel_rfl) (by kernel_rfl) (by kernel_rfl) (fun _ _ _ h => h) (Or.inl ⟨by rfl, ?_⟩) (by assumption) ?_
        rotate_left
        · intro w hSw
          (try dsimp only at hSw)
          go_simp
          try with_reducible rfl
        (try simp only [Act.put, List.getElem_toArray, List.getElem_cons_succ, List.getElem_cons_zero, List.setIfInBounds_toArray, List.set_cons_zero, List.set_cons_succ])
        refine wpAnyH_take (i := 3) (v := ?_) rfl (by kernel_rfl) (by kernel_rfl) (by kernel_rfl) (fun _ _ _ h => h) (Or.inl ⟨by rfl, ?_⟩) (by assumption) ?_
        rotate_left
        · intro w hSw
          (try dsimp only at hSw)
          go_simp
          try with_reducible rfl
        (try simp only [Act.put, List.getElem_toArray, List.getElem_cons_succ, List.getElem_cons_zero, List.setIfInBounds_toArray, List.set_cons_zero, List.set_cons_succ])
        refine wpAnyH_take (i := 4) (v := ?_) rfl (by kernel_rfl) (by kernel_rfl) (by kernel_rfl) (fun _ _ _ h => h) (Or.inl ⟨by rfl, ?_⟩) (by assumption) ?_
        rotate_left
        · intro w hSw
          (try dsimp only at hSw)
          go_simp
          try with_reducible rfl
        (try simp only [Act.put, List.getElem_toArray, List.getElem_cons_succ, List.getElem_cons_zero, List.setIfInBounds_toArray, List.set_cons_zero, List.set_cons_succ])
        refine wpAnyH_take (i := 5) (v := ?_) rfl (by kernel_rfl) (by kernel_rfl) (by kernel_rfl) (fun _ _ _ h => h) (Or.inl ⟨by rfl, ?_⟩) (by assumption) ?_
        rotate_left
        · intro w hSw
          (try dsimp only at hSw)
          go_simp
          try with_reducible rfl
        (try simp only [Act.put, List.getElem_toArray, List.getElem_cons_succ, List.getElem_cons_zero, List.setIfInBounds_toArray, List.set_cons_zero, List.set_cons_succ])
        refine wpAnyH_take (i := 6) (v := ?_) rfl (by kernel_rfl) (by kernel_rfl) (by kernel_rfl) (fun _ _ _ h => h) (Or.inl ⟨by rfl, ?_⟩) (by assumption) ?_
        rotate_left
        · intro w hSw
          (try dsimp only at hSw)
          go_simp
          try with_reducible rfl
        (try simp only [Act.put, List.getElem_toArray, List.getElem_cons_succ, List.getElem_cons_zero, List.setIfInBounds_toArray, List.set_cons_zero, List.set_cons_succ])
        refine wpAnyH_take (i := 7) (v := ?_) rfl (by kernel_rfl) (by kernel_rfl) (by kernel_rfl) (fun _ _ _ h => h) (Or.inl ⟨by rfl, ?_⟩) (by assumption) ?_
        rotate_left
        · intro w hSw
          (try dsimp only at hSw)
          go_simp
          try with_reducible rfl
        (try simp only [Act.put, List.getElem_toArray, List.getElem_cons_succ, List.getElem_cons_zero, List.setIfInBounds_toArray, List.set_cons_zero, List.set_cons_succ])
        refine wpAnyH_take (i := 8) (v := ?_) rfl (by kernel_rfl) (by kernel_rfl) (by kernel_rfl) (fun _ _ _ h => h) (Or.inl ⟨by rfl, ?_⟩) (by assumption) ?_
        rotate_left
        · intro w hSw
          (try dsimp only at hSw)
          go_simp
          try with_reducible rfl
        (try simp only [Act.put, List.getElem_toArray, List.getElem_cons_succ, List.getElem_cons_zero, List.setIfInBounds_toArray, List.set_cons_zero, List.set_cons_succ])
        refine wpAnyH_ready (rs := [9]) (by kernel_rfl) (by simp) ?_
        refine AllReadyH.cons rfl (fun K hK => ?_) ?_
        rotate_left
        · exact AllReadyH.nil
        go_simp
        refine (sisRest_any ⟨bar, v, d, t, tie, L⟩ sa sc' _).mono ?_
        rintro e w5 ⟨rfl, hb5⟩
        rw [HT.out]
        go_simp
        refine hK.out _ _ ?_ (fun hHeld => ?_)
        · exact HC.out _ (bt (Below.refl wr.heap.size wr).drew hb5)
        clear hK K
        (try simp only [List.setIfInBounds_toArray, List.set_cons_zero, List.set_cons_succ])
        refine wpAnyH_take (i := 10) (v := ?_) rfl (by kernel_rfl) (by kernel_rfl) (by kernel_rfl) (fun _ _ _ h => h) (Or.inl ⟨by rfl, ?_⟩) (by assumption) ?_
        rotate_left
        · intro w hSw
          (try dsimp only at hSw)
          go_simp
          try with_reducible rfl
        (try simp only [Act.put, List.getElem_toArray, List.getElem_cons_succ, List.getElem_cons_zero, List.setIfInBounds_toArray, List.set_cons_zero, List.set_cons_succ])
        refine wpAnyH_take (i := 11) (v := ?_) rfl (by kernel_rfl) (by kernel_rfl) (by kernel_rfl) (fun _ _ _ h => h) (Or.inl ⟨by rfl, ?_⟩) (by assumption) ?_
        rotate_left
        · intro w hSw
          (try dsimp only at hSw)
          go_simp
          try with_reducible rfl
        (try simp only [Act.put, List.getElem_toArray, List.getElem_cons_succ, List.getElem_cons_zero, List.setIfInBounds_toArray, List.set_cons_zero, List.set_cons_succ])
        refine wpAnyH_take (i := 12) (v := ?_) rfl (by kernel_rfl) (by kernel_rfl) (by kernel_rfl) (fun _ _ _ h => h) (Or.inl ⟨by rfl, ?_⟩) (by assumption) ?_
        rotate_left
        · intro w hSw
          (try dsimp only at hSw)
          go_simp
          try with_reducible rfl
        (try simp only [Act.put, List.getElem_toArray, List.getElem_cons_succ, List.getElem_cons_zero, List.setIfInBounds_toArray, List.set_cons_zero, List.set_cons_succ])
        refine wpAnyH_take (i := 13) (v := undef) rfl (by kernel_rfl) (by kernel_rfl) (by kernel_rfl) (fun _ _ _ h => h) (Or.inr ⟨by rfl, rfl⟩) (by assumption) ?_
        (try simp only [Act.put, List.getElem_toArray, List.getElem_cons_succ, List.getElem_cons_zero, List.setIfInBounds_toArray, List.set_cons_zero, List.set_cons_succ])
        refine wpAnyH_take (i := 14) (v := undef) rfl (by kernel_rfl) (by kernel_rfl) (by kernel_rfl) (fun _ _ _ h => h) (Or.inr ⟨by rfl, rfl⟩) (by assumption) ?_
        (try simp only [Act.put, List.getElem_toArray, List.getElem_cons_succ, List.getElem_cons_zero, List.setIfInBounds_toArray, List.set_cons_zero, List.set_cons_succ])
        refine wpAnyH_take (i := 15) (v := undef) rfl (by kernel_rfl) (by kernel_rfl) (by kernel_rfl) (fun _ _ _ h => h) (Or.inr ⟨by rfl, rfl⟩) (by assumption) ?_
        (try simp only [Act.put, List.getElem_toArray, List.getElem_cons_succ, List.getElem_cons_zero, List.setIfInBounds_toArray, List.set_cons_zero, List.set_cons_succ])
        refine wpAnyH_take (i := 16) (v := undef) rfl (by kernel_rfl) (by kernel_rfl) (by kernel_rfl) (fun _ _ _ h => h) (Or.inr ⟨by rfl, rfl⟩) (by assumption) ?_
        (try simp only [Act.put, List.getElem_toArray, List.getElem_cons_succ, List.getElem_cons_zero, List.setIfInBounds_toArray, List.set_cons_zero, List.set_cons_succ])
        refine wpAnyH_take (i := 17) (v := undef) rfl (by kernel_rfl) (by kernel_rfl) (by kernel_rfl) (fun _ _ _ h => h) (Or.inr ⟨by rfl, rfl⟩) (by assumption) ?_
        (try simp only [Act.put, List.getElem_toArray, List.getElem_cons_succ, List.getElem_cons_zero, List.setIfInBounds_toArray, List.set_cons_zero, List.set_cons_succ])
        refine wpAnyH_take (i := 18) (v := undef) rfl (by kernel_rfl) (by kernel_rfl) (by kernel_rfl) (fun _ _ _ h => h) (Or.inr ⟨by rfl, rfl⟩) (by assumption) ?_
        (try simp only [Act.put, List.getElem_toArray, List.getElem_cons_succ, List.getElem_cons_zero, List.setIfInBounds_toArray, List.set_cons_zero, List.set_cons_succ])
        refine wpAnyH_take (i := 19) (v := undef) rfl (by kernel_rfl) (by kernel_rfl) (by kernel_rfl) (fun _ _ _ h => h) (Or.inr ⟨by rfl, rfl⟩) (by assumption) ?_
        (try simp only [Act.put, List.getElem_toArray, List.getElem_cons_succ, List.getElem_cons_zero, List.setIfInBounds_toArray, List.set_cons_zero, List.set_cons_succ])
        refine wpAnyH_take (i := 20) (v := undef) rfl (by kernel_rfl) (by kernel_rfl) (by kernel_rfl) (fun _ _ _ h => h) (Or.inr ⟨by rfl, rfl⟩) (by assumption) ?_
        (try simp only [Act.put, List.getElem_toArray, List.getElem_cons_succ, List.getElem_cons_zero, List.setIfInBounds_toArray, List.set_cons_zero, List.set_cons_succ])
        refine wpAnyH_take (i := 21) (v := ?_) rfl (by kernel_rfl) (by kernel_rfl) (by kernel_rfl) (fun _ _ _ h => h) (Or.inl ⟨by rfl, ?_⟩) (by assumption) ?_
        rotate_left
        · intro w hSw
          (try dsimp only at hSw)
          go_simp
          try with_reducible rfl
        (try simp only [Act.put, List.getElem_toArray, List.getElem_cons_succ, List.getElem_cons_zero, List.setIfInBounds_toArray, List.set_cons_zero, List.set_cons_succ])
        refine wpAnyH_done (by kernel_rfl) ?_ _
        go_wp2_with (fail)
        go_ret
        exact ⟨ret_int (by rw [HG.out true (by rw [HT.out]; rfl)]; rfl), bt (bx HB.out) (bt (Below.refl wr.heap.size wr).drew hb5)⟩
      | false =>
        have HT := Lib.hid hrest
        clear hrest
        cases hhas : hsB L sc with
        | true =>
          have HU := Lib.hid hhas
          clear hhas
          go_wp2_with (fail)
          refine wp_region_held_drew (S := (fun w' => (w'.cell? ⟨b, off + k * 6, none⟩ = some (.bool bar) ∧ w'.cell? ⟨b, off + k * 6 + 1, none⟩ = some (.int .i64 v) ∧ w'.cell? ⟨b, off + k * 6 + 2, none⟩ = some (.bool d) ∧ w'.cell? ⟨b, off + k * 6 + 3, none⟩ = some (.bool t) ∧ w'.cell? ⟨b, off + k * 6 + 4, none⟩ = some (.bool tie) ∧ w'.cell? ⟨b, off + k * 6 + 5, none⟩ = some (.slice sa L.length sc')) ∧ w'.cell? ⟨w.heap.size, 0, none⟩ = some (.int .i64 sc))) (by kernel_rfl) (HC.out _ (Below.refl wr.heap.size wr).drew) (fun hHeld => ?_)
          change wpAnyH _ _ _ _ _ 22 #[false, false, false, false, false, false, false, false, false, false, false, false, false, false, false, false, false, false, false, false, false, false] _ _
          refine wpAnyH_take (i := 0) (v := ?_) rfl (by kernel_rfl) (by kernel_rfl) (by kernel_rfl) (fun _ _ _ h => h) (Or.inl ⟨by rfl, ?_⟩) (by assumption) ?_
          rotate_left
          · intro w hSw
            (try dsimp only at hSw)
            go_simp
            try with_reducible rfl
          (try simp only [Act.put, List.getElem_toArray, List.getElem_cons_zero, List.setIfInBounds_toArray, List.set_cons_zero, List.set_cons_succ])
          refine wpAnyH_take (i := 1) (v := ?_) rfl (by kernel_rfl) (by kernel_rfl) (by kernel_rfl) (fun _ _ _ h => h) (Or.inl ⟨by rfl, ?_⟩) (by assumption) ?_
          rotate_left
          · intro w hSw
            (try dsimp only at hSw)
            go_simp
            try with_reducible rfl
          (try simp only [Act.put, List.getElem_toArray, List.getElem_cons_succ, List.getElem_cons_zero, List.setIfInBounds_toArray, List.set_cons_zero, List.set_cons_succ])
          refine wpAnyH_take (i := 2) (v := ?_) rfl (by kernel_rfl) (by kernel_rfl) (by kernel_rfl) (fun _ _ _ h => h) (Or.inl ⟨by rfl, ?_⟩) (by assumption) ?_
          rotate_left
          · intro w hSw
            (try dsimp only at hSw)
            go_simp
            try with_reducible rfl
          (try simp only [Act.put, List.getElem_toArray, List.getElem_cons_succ, List.getElem_cons_zero, List.setIfInBounds_toArray, List.set_cons_zero, List.set_cons_succ])
          refine wpAnyH_take (i := 3) (v := ?_) rfl (by kernel_rfl) (by kernel_rfl) (by kernel_rfl) (fun _ _ _ h => h) (Or.inl ⟨by rfl, ?_⟩) (by assumption) ?_
          rotate_left
          · intro w hSw
            (try dsimp only at hSw)
            go_simp
            try with_reducible rfl
          (try simp only [Act.put, List.getElem_toArray, List.getElem_cons_succ, List.getElem_cons_zero, List.setIfInBounds_toArray, List.set_cons_zero, List.set_cons_succ])
          refine wpAnyH_take (i := 4) (v := ?_) rfl (by kernel_rfl) (by kernel_rfl) (by kernel_rfl) (fun _ _ _ h => h) (Or.inl ⟨by rfl, ?_⟩) (by assumption) ?_
          rotate_left
          · intro w hSw
            (try dsimp only at hSw)
            go_simp
            try with_reducible rfl
          (try simp only [Act.put, List.getElem_toArray, List.getElem_cons_succ, List.getElem_cons_zero, List.setIfInBounds_toArray, List.set_cons_zero, List.set_cons_succ])
          refine wpAnyH_take (i := 5) (v := ?_) rfl (by kernel_rfl) (by kernel_rfl) (by kernel_rfl) (fun _ _ _ h => h) (Or.inl ⟨by rfl, ?_⟩) (by assumption) ?_
          rotate_left
          · intro w hSw
            (try dsimp only at hSw)
            go_simp
            try with_reducible rfl
          (try simp only [Act.put, List.getElem_toArray, List.getElem_cons_succ, List.getElem_cons_zero, List.setIfInBounds_toArray, List.set_cons_zero, List.set_cons_succ])
          refine wpAnyH_take (i := 6) (v := ?_) rfl (by kernel_rfl) (by kernel_rfl) (by kernel_rfl) (fun _ _ _ h => h) (Or.inl ⟨by rfl, ?_⟩) (by assumption) ?_
          rotate_left
          · intro w hSw
            (try dsimp only at hSw)
            go_simp
            try with_reducible rfl
          (try simp only [Act.put, List.getElem_toArray, List.getElem_cons_succ, List.getElem_cons_zero, List.setIfInBounds_toArray, List.set_cons_zero, List.set_cons_succ])
          refine wpAnyH_take (i := 7) (v := ?_) rfl (by kernel_rfl) (by kernel_rfl) (by kernel_rfl) (fun _ _ _ h => h) (Or.inl ⟨by rfl, ?_⟩) (by assumption) ?_
          rotate_left
          · intro w hSw
            (try dsimp only at hSw)
            go_simp
            try with_reducible rfl
          (try simp only [Act.put, List.getElem_toArray, List.getElem_cons_succ, List.getElem_cons_zero, List.setIfInBounds_toArray, List.set_cons_zero, List.set_cons_succ])
          refine wpAnyH_take (i := 8) (v := ?_) rfl (by kernel_rfl) (by kernel_rfl) (by kernel_rfl) (fun _ _ _ h => h) (Or.inl ⟨by rfl, ?_⟩) (by assumption) ?_
          rotate_left
          · intro w hSw
            (try dsimp only at hSw)
            go_simp
            try with_reducible rfl
          (try simp only [Act.put, List.getElem_toArray, List.getElem_cons_succ, List.getElem_cons_zero, List.setIfInBounds_toArray, List.set_cons_zero, List.set_cons_succ])
          refine wpAnyH_ready (rs := [9]) (by kernel_rfl) (by simp) ?_
          refine AllReadyH.cons rfl (fun K hK => ?_) ?_
          rotate_left
          · exact AllReadyH.nil
          go_simp
          refine (sisRest_any ⟨bar, v, d, t, tie, L⟩ sa sc' _).mono ?_
          rintro e w5 ⟨rfl, hb5⟩
          rw [HT.out]
          go_simp
          refine hK.out _ _ ?_ (fun hHeld => ?_)
          · exact HC.out _ (bt (Below.refl wr.heap.size wr).drew hb5)
          clear hK K
          (try simp only [List.setIfInBounds_toArray, List.set_cons_zero, List.set_cons_succ])
          refine wpAnyH_take (i := 10) (v := ?_) rfl (by kernel_rfl) (by kernel_rfl) (by kernel_rfl) (fun _ _ _ h => h) (Or.inl ⟨by rfl, ?_⟩) (by assumption) ?_
          rotate_left
          · intro w hSw
            (try dsimp only at hSw)
            go_simp
            try with_reducible rfl
          (try simp only [Act.put, List.getElem_toArray, List.getElem_cons_succ, List.getElem_cons_zero, List.setIfInBounds_toArray, List.set_cons_zero, List.set_cons_succ])
          refine wpAnyH_take (i := 11) (v := ?_) rfl (by kernel_rfl) (by kernel_rfl) (by kernel_rfl) (fun _ _ _ h => h) (Or.inl ⟨by rfl, ?_⟩) (by assumption) ?_
          rotate_left
          · intro w hSw
            (try dsimp only at hSw)
            go_simp
            try with_reducible rfl
          (try simp only [Act.put, List.getElem_toArray, List.getElem_cons_succ, List.getElem_cons_zero, List.setIfInBounds_toArray, List.set_cons_zero, List.set_cons_succ])
          refine wpAnyH_take (i := 12) (v := ?_) rfl (by kernel_rfl) (by kernel_rfl) (by kernel_rfl) (fun _ _ _ h => h) (Or.inl ⟨by rfl, ?_⟩) (by assumption) ?_
          rotate_left
          · intro w hSw
            (try dsimp only at hSw)
            go_simp
            try with_reducible rfl
          (try simp only [Act.put, List.getElem_toArray, List.getElem_cons_succ, List.getElem_cons_zero, List.setIfInBounds_toArray, List.set_cons_zero, List.set_cons_succ])
          refine wpAnyH_take (i := 13) (v := ?_) rfl (by kernel_rfl) (by kernel_rfl) (by kernel_rfl) (fun _ _ _ h => h) (Or.inl ⟨by rfl, ?_⟩) (by assumption) ?_
          rotate_left
          · intro w hSw
            (try dsimp only at hSw)
            go_simp
            try with_reducible rfl
          (try simp only [Act.put, List.getElem_toArray, List.getElem_cons_succ, List.getElem_cons_zero, List.setIfInBounds_toArray, List.set_cons_zero, List.set_cons_succ])
          refine wpAnyH_take (i := 14) (v := ?_) rfl (by kernel_rfl) (by kernel_rfl) (by kernel_rfl) (fun _ _ _ h => h) (Or.inl ⟨by rfl, ?_⟩) (by assumption) ?_
          rotate_left
          · intro w hSw
            (try dsimp only at hSw)
            go_simp
            try with_reducible rfl
          (try simp only [Act.put, List.getElem_toArray, List.getElem_cons_succ, List.getElem_cons_zero, List.setIfInBounds_toArray, List.set_cons_zero, List.set_cons_succ])
          refine wpAnyH_take (i := 15) (v := ?_) rfl (by kernel_rfl) (by kernel_rfl) (by kernel_rfl) (fun _ _ _ h => h) (Or.inl ⟨by rfl, ?_⟩) (by assumption) ?_
          rotate_left
          · intro w hSw
            (try dsimp only at hSw)
            go_simp
            try with_reducible rfl
          (try simp only [Act.put, List.getElem_toArray, List.getElem_cons_succ, List.getElem_cons_zero, List.setIfInBounds_toArray, List.set_cons_zero, List.set_cons_succ])
          refine wpAnyH_take (i := 16) (v := ?_) rfl (by kernel_rfl) (by kernel_rfl) (by kernel_rfl) (fun _ _ _ h => h) (Or.inl ⟨by rfl, ?_⟩) (by assumption) ?_
          rotate_left
          · intro w hSw
            (try dsimp only at hSw)
            go_simp
            try with_reducible rfl
          (try simp only [Act.put, List.getElem_toArray, List.getElem_cons_succ, List.getElem_cons_zero, List.setIfInBounds_toArray, List.set_cons_zero, List.set_cons_succ])
          refine wpAnyH_take (i := 17) (v := ?_) rfl (by kernel_rfl) (by kernel_rfl) (by kernel_rfl) (fun _ _ _ h => h) (Or.inl ⟨by rfl, ?_⟩) (by assumption) ?_
          rotate_left
          · intro w hSw
            (try dsimp only at hSw)
            go_simp
            try with_reducible rfl
          (try simp only [Act.put, List.getElem_toArray, List.getElem_cons_succ, List.getElem_cons_zero, List.setIfInBounds_toArray, List.set_cons_zero, List.set_cons_succ])
          refine wpAnyH_take (i := 18) (v := ?_) rfl (by kernel_rfl) (by kernel_rfl) (by kernel_rfl) (fun _ _ _ h => h) (Or.inl ⟨by rfl, ?_⟩) (by assumption) ?_
          rotate_left
          · intro w hSw
            (try dsimp only at hSw)
            go_simp
            try with_reducible rfl
          (try simp only [Act.put, List.getElem_toArray, List.getElem_cons_succ, List.getElem_cons_zero, List.setIfInBounds_toArray, List.set_cons_zero, List.set_cons_succ])
          refine wpAnyH_ready (rs := [19]) (by kernel_rfl) (by simp) ?_
          refine AllReadyH.cons rfl (fun K hK => ?_) ?_
          rotate_left
          · exact AllReadyH.nil
          go_simp
          refine (shasStop_any bar v d t tie sa L.length sc' L sc _ (HS.out.below (bt (Below.refl wr.heap.size wr).drew hb5)) rfl hL).mono ?_
          rintro e w6 ⟨rfl, hb6⟩
          rw [HU.out]
          go_simp
          refine hK.out _ _ ?_ (fun hHeld => ?_)
          · exact HC.out _ (bt (bt (Below.refl wr.heap.size wr).drew hb5) hb6)
          clear hK K
          (try simp only [List.setIfInBounds_toArray, List.set_cons_zero, List.set_cons_succ])
          refine wpAnyH_take (i := 20) (v := ?_) rfl (by kernel_rfl) (by kernel_rfl) (by kernel_rfl) (fun _ _ _ h => h) (Or.inl ⟨by rfl, ?_⟩) (by assumption) ?_
          rotate_left
          · intro w hSw
            (try dsimp only at hSw)
            go_simp
            try with_reducible rfl
          (try simp only [Act.put, List.getElem_toArray, List.getElem_cons_succ, List.getElem_cons_zero, List.setIfInBounds_toArray, List.set_cons_zero, List.set_cons_succ])
          refine wpAnyH_take (i := 21) (v := ?_) rfl (by kernel_rfl) (by kernel_rfl) (by kernel_rfl) (fun _ _ _ h => h) (Or.inl ⟨by rfl, ?_⟩) (by assumption) ?_
          rotate_left
          · intro w hSw
            (try dsimp only at hSw)
            go_simp
            try with_reducible rfl
          (try simp only [Act.put, List.getElem_toArray, List.getElem_cons_succ, List.getElem_cons_zero, List.setIfInBounds_toArray, List.set_cons_zero, List.set_cons_succ])
          refine wpAnyH_done (by kernel_rfl) ?_ _
          go_wp2_with (fail)
          go_ret
          exact ⟨ret_int (by rw [HG.out true (by rw [HU.out]; simp)]; rfl), bt (bx HB.out) (bt (bt (Below.refl wr.heap.size wr).drew hb5) hb6)⟩
        | false =>
          have HU := Lib.hid hhas
          clear hhas
          go_wp2_with (fail)
          refine wp_region_held_drew (S := (fun w' => (w'.cell? ⟨b, off + k * 6, none⟩ = some (.bool bar) ∧ w'.cell? ⟨b, off + k * 6 + 1, none⟩ = some (.int .i64 v) ∧ w'.cell? ⟨b, off + k * 6 + 2, none⟩ = some (.bool d) ∧ w'.cell? ⟨b, off + k * 6 + 3, none⟩ = some (.bool t) ∧ w'.cell? ⟨b, off + k * 6 + 4, none⟩ = some (.bool tie) ∧ w'.cell? ⟨b, off + k * 6 + 5, none⟩ = some (.slice sa L.length sc')) ∧ w'.cell? ⟨w.heap.size, 0, none⟩ = some (.int .i64 sc))) (by kernel_rfl) (HC.out _ (Below.refl wr.heap.size wr).drew) (fun hHeld => ?_)
          change wpAnyH _ _ _ _ _ 22 #[false, false, false, false, false, false, false, false, false, false, false, false, false, false, false, false, false, false, false, false, false, false] _ _
          refine wpAnyH_take (i := 0) (v := ?_) rfl (by kernel_rfl) (by kernel_rfl) (by kernel_rfl) (fun _ _ _ h => h) (Or.inl ⟨by rfl, ?_⟩) (by assumption) ?_
          rotate_left
          · intro w hSw
            (try dsimp only at hSw)
            go_simp
            try with_reducible rfl
          (try simp only [Act.put, List.getElem_toArray, List.getElem_cons_zero, List.setIfInBounds_toArray, List.set_cons_zero, List.set_cons_succ])
          refine wpAnyH_take (i := 1) (v := ?_) rfl (by kernel_rfl) (by kernel_rfl) (by kernel_rfl) (fun _ _ _ h => h) (Or.inl ⟨by rfl, ?_⟩) (by assumption) ?_
          rotate_left
          · intro w hSw
            (try dsimp only at hSw)
            go_simp
            try with_reducible rfl
          (try simp only [Act.put, List.getElem_toArray, List.getElem_cons_succ, List.getElem_cons_zero, List.setIfInBounds_toArray, List.set_cons_zero, List.set_cons_succ])
          refine wpAnyH_take (i := 2) (v := ?_) rfl (by kernel_rfl) (by kernel_rfl) (by kernel_rfl) (fun _ _ _ h => h) (Or.inl ⟨by rfl, ?_⟩) (by assumption) ?_
          rotate_left
          · intro w hSw
            (try dsimp only at hSw)
            go_simp
            try with_reducible rfl
          (try simp only [Act.put, List.getElem_toArray, List.getElem_cons_succ, List.getElem_cons_zero, List.setIfInBounds_toArray, List.set_cons_zero, List.set_cons_succ])
          refine wpAnyH_take (i := 3) (v := ?_) rfl (by kernel_rfl) (by kernel_rfl) (by kernel_rfl) (fun _ _ _ h => h) (Or.inl ⟨by rfl, ?_⟩) (by assumption) ?_
          rotate_left
          · intro w hSw
            (try dsimp only at hSw)
            go_simp
            try with_reducible rfl
          (try simp only [Act.put, List.getElem_toArray, List.getElem_cons_succ, List.getElem_cons_zero, List.setIfInBounds_toArray, List.set_cons_zero, List.set_cons_succ])
          refine wpAnyH_take (i := 4) (v := ?_) rfl (by kernel_rfl) (by kernel_rfl) (by kernel_rfl) (fun _ _ _ h => h) (Or.inl ⟨by rfl, ?_⟩) (by assumption) ?_
          rotate_left
          · intro w hSw
            (try dsimp only at hSw)
            go_simp
            try with_reducible rfl
          (try simp only [Act.put, List.getElem_toArray, List.getElem_cons_succ, List.getElem_cons_zero, List.setIfInBounds_toArray, List.set_cons_zero, List.set_cons_succ])
          refine wpAnyH_take (i := 5) (v := ?_) rfl (by kernel_rfl) (by kernel_rfl) (by kernel_rfl) (fun _ _ _ h => h) (Or.inl ⟨by rfl, ?_⟩) (by assumption) ?_
          rotate_left
          · intro w hSw
            (try dsimp only at hSw)
            go_simp
            try with_reducible rfl
          (try simp only [Act.put, List.getElem_toArray, List.getElem_cons_succ, List.getElem_cons_zero, List.setIfInBounds_toArray, List.set_cons_zero, List.set_cons_succ])
          refine wpAnyH_take (i := 6) (v := ?_) rfl (by kernel_rfl) (by kernel_rfl) (by kernel_rfl) (fun _ _ _ h => h) (Or.inl ⟨by rfl, ?_⟩) (by assumption) ?_
          rotate_left
          · intro w hSw
            (try dsimp only at hSw)
            go_simp
            try with_reducible rfl
          (try simp only [Act.put, List.getElem_toArray, List.getElem_cons_succ, List.getElem_cons_zero, List.setIfInBounds_toArray, List.set_cons_zero, List.set_cons_succ])
          refine wpAnyH_take (i := 7) (v := ?_) rfl (by kernel_rfl) (by kernel_rfl) (by kernel_rfl) (fun _ _ _ h => h) (Or.inl ⟨by rfl, ?_⟩) (by assumption) ?_
          rotate_left
          · intro w hSw
            (try dsimp only at hSw)
            go_simp
            try with_reducible rfl
          (try simp only [Act.put, List.getElem_toArray, List.getElem_cons_succ, List.getElem_cons_zero, List.setIfInBounds_toArray, List.set_cons_zero, List.set_cons_succ])
          refine wpAnyH_take (i := 8) (v := ?_) rfl (by kernel_rfl) (by kernel_rfl) (by kernel_rfl) (fun _ _ _ h => h) (Or.inl ⟨by rfl, ?_⟩) (by assumption) ?_
          rotate_left
          · intro w hSw
            (try dsimp only at hSw)
            go_simp
            try with_reducible rfl
          (try simp only [Act.put, List.getElem_toArray, List.getElem_cons_succ, List.getElem_cons_zero, List.setIfInBounds_toArray, List.set_cons_zero, List.set_cons_succ])
          refine wpAnyH_ready (rs := [9]) (by kernel_rfl) (by simp) ?_
          refine AllReadyH.cons rfl (fun K hK => ?_) ?_
          rotate_left
          · exact AllReadyH.nil
          go_simp
          refine (sisRest_any ⟨bar, v, d, t, tie, L⟩ sa sc' _).mono ?_
          rintro e w5 ⟨rfl, hb5⟩
          rw [HT.out]
          go_simp
          refine hK.out _ _ ?_ (fun hHeld => ?_)
          · exact HC.out _ (bt (Below.refl wr.heap.size wr).drew hb5)
          clear hK K
          (try simp only [List.setIfInBounds_toArray, List.set_cons_zero, List.set_cons_succ])
          refine wpAnyH_take (i := 10) (v := ?_) rfl (by kernel_rfl) (by kernel_rfl) (by kernel_rfl) (fun _ _ _ h => h) (Or.inl ⟨by rfl, ?_⟩) (by assumption) ?_
          rotate_left
          · intro w hSw
            (try dsimp only at hSw)
            go_simp
            try with_reducible rfl
          (try simp only [Act.put, List.getElem_toArray, List.getElem_cons_succ, List.getElem_cons_zero, List.setIfInBounds_toArray, List.set_cons_zero, List.set_cons_succ])
          refine wpAnyH_take (i := 11) (v := ?_) rfl (by kernel_rfl) (by kernel_rfl) (by kernel_rfl) (fun _ _ _ h => h) (Or.inl ⟨by rfl, ?_⟩) (by assumption) ?_
          rotate_left
          · intro w hSw
            (try dsimp only at hSw)
            go_simp
            try with_reducible rfl
          (try simp only [Act.put, List.getElem_toArray, List.getElem_cons_succ, List.getElem_cons_zero, List.setIfInBounds_toArray, List.set_cons_zero, List.set_cons_succ])
          refine wpAnyH_take (i := 12) (v := ?_) rfl (by kernel_rfl) (by kernel_rfl) (by kernel_rfl) (fun _ _ _ h => h) (Or.inl ⟨by rfl, ?_⟩) (by assumption) ?_
          rotate_left
          · intro w hSw
            (try dsimp only at hSw)
            go_simp
            try with_reducible rfl
          (try simp only [Act.put, List.getElem_toArray, List.getElem_cons_succ, List.getElem_cons_zero, List.setIfInBounds_toArray, List.set_cons_zero, List.set_cons_succ])
          refine wpAnyH_take (i := 13) (v := ?_) rfl (by kernel_rfl) (by kernel_rfl) (by kernel_rfl) (fun _ _ _ h => h) (Or.inl ⟨by rfl, ?_⟩) (by assumption) ?_
          rotate_left
          · intro w hSw
            (try dsimp only at hSw)
            go_simp
            try with_reducible rfl
          (try simp only [Act.put, List.getElem_toArray, List.getElem_cons_succ, List.getElem_cons_zero, List.setIfInBounds_toArray, List.set_cons_zero, List.set_cons_succ])
          refine wpAnyH_take (i := 14) (v := ?_) rfl (by kernel_rfl) (by kernel_rfl) (by kernel_rfl) (fun _ _ _ h => h) (Or.inl ⟨by rfl, ?_⟩) (by assumption) ?_
          rotate_left
          · intro w hSw
            (try dsimp only at hSw)
            go_simp
            try with_reducible rfl
          (try simp only [Act.put, List.getElem_toArray, List.getElem_cons_succ, List.getElem_cons_zero, List.setIfInBounds_toArray, List.set_cons_zero, List.set_cons_succ])
          refine wpAnyH_take (i := 15) (v := ?_) rfl (by kernel_rfl) (by kernel_rfl) (by kernel_rfl) (fun _ _ _ h => h) (Or.inl ⟨by rfl, ?_⟩) (by assumption) ?_
          rotate_left
          · intro w hSw
            (try dsimp only at hSw)
            go_simp
            try with_reducible rfl
          (try simp only [Act.put, List.getElem_toArray, List.getElem_cons_succ, List.getElem_cons_zero, List.setIfInBounds_toArray, List.set_cons_zero, List.set_cons_succ])
          refine wpAnyH_take (i := 16) (v := ?_) rfl (by kernel_rfl) (by kernel_rfl) (by kernel_rfl) (fun _ _ _ h => h) (Or.inl ⟨by rfl, ?_⟩) (by assumption) ?_
          rotate_left
          · intro w hSw
            (try dsimp only at hSw)
            go_simp
            try with_reducible rfl
          (try simp only [Act.put, List.getElem_toArray, List.getElem_cons_succ, List.getElem_cons_zero, List.setIfInBounds_toArray, List.set_cons_zero, List.set_cons_succ])
          refine wpAnyH_take (i := 17) (v := ?_) rfl (by kernel_rfl) (by kernel_rfl) (by kernel_rfl) (fun _ _ _ h => h) (Or.inl ⟨by rfl, ?_⟩) (by assumption) ?_
          rotate_left
          · intro w hSw
            (try dsimp only at hSw)
            go_simp
            try with_reducible rfl
          (try simp only [Act.put, List.getElem_toArray, List.getElem_cons_succ, List.getElem_cons_zero, List.setIfInBounds_toArray, List.set_cons_zero, List.set_cons_succ])
          refine wpAnyH_take (i := 18) (v := ?_) rfl (by kernel_rfl) (by kernel_rfl) (by kernel_rfl) (fun _ _ _ h => h) (Or.inl ⟨by rfl, ?_⟩) (by assumption) ?_
          rotate_left
          · intro w hSw
            (try dsimp only at hSw)
            go_simp
            try with_reducible rfl
          (try simp only [Act.put, List.getElem_toArray, List.getElem_cons_succ, List.getElem_cons_zero, List.setIfInBounds_toArray, List.set_cons_zero, List.set_cons_succ])
          refine wpAnyH_ready (rs := [19]) (by kernel_rfl) (by simp) ?_
          refine AllReadyH.cons rfl (fun K hK => ?_) ?_
          rotate_left
          · exact AllReadyH.nil
          go_simp
          refine (shasStop_any bar v d t tie sa L.length sc' L sc _ (HS.out.below (bt (Below.refl wr.heap.size wr).drew hb5)) rfl hL).mono ?_
          rintro e w6 ⟨rfl, hb6⟩
          rw [HU.out]
          go_simp
          refine hK.out _ _ ?_ (fun hHeld => ?_)
          · exact HC.out _ (bt (bt (Below.refl wr.heap.size wr).drew hb5) hb6)
          clear hK K
          (try simp only [List.setIfInBounds_toArray, List.set_cons_zero, List.set_cons_succ])
          refine wpAnyH_take (i := 20) (v := ?_) rfl (by kernel_rfl) (by kernel_rfl) (by kernel_rfl) (fun _ _ _ h => h) (Or.inl ⟨by rfl, ?_⟩) (by assumption) ?_
          rotate_left
          · intro w hSw
            (try dsimp only at hSw)
            go_simp
            try with_reducible rfl
          (try simp only [Act.put, List.getElem_toArray, List.getElem_cons_succ, List.getElem_cons_zero, List.setIfInBounds_toArray, List.set_cons_zero, List.set_cons_succ])
          refine wpAnyH_take (i := 21) (v := ?_) rfl (by kernel_rfl) (by kernel_rfl) (by kernel_rfl) (fun _ _ _ h => h) (Or.inl ⟨by rfl, ?_⟩) (by assumption) ?_
          rotate_left
          · intro w hSw
            (try dsimp only at hSw)
            go_simp
            try with_reducible rfl
          (try simp only [Act.put, List.getElem_toArray, List.getElem_cons_succ, List.getElem_cons_zero, List.setIfInBounds_toArray, List.set_cons_zero, List.set_cons_succ])
          refine wpAnyH_done (by kernel_rfl) ?_ _
          go_wp2_with (fail)
          go_roundw
          case rel => exact ⟨k + 1, by omega, by omega, by first | rfl | go_num, by rw [HG.out false (by rw [HT.out, HU.out]; rfl)]; rfl, bt HB.out (bt (bt (Below.refl wr.heap.size wr).drew hb5) hb6)⟩
          case measure => simp [intOf]; omega
    · have hkq : decide ((k : Int) < (q : Int)) = false := by simpa using hlt
      have HZ : Hid (opGo sc (P.drop (i + 1)) (i + 1) = k) := by
        unfold Hid
        rw [HR.out, List.drop_of_length_le (by have := HL.out; omega)]
        rfl
      go_wp2_with (fail)
      go_quiet (fail)
      have hq5 := bd HB.out nq
      generalize wr.drewN nq = wd at *
      go_wp2_with (fail)
      go_ret
      exact ⟨ret_int (by rw [HZ.out]), bx hq5⟩

set_option maxRecDepth 100000 in
set_option maxHeartbeats 4000000 in
theorem ending_stop (A2 : Option Addr) (q cq : Nat) (P : List EvP) (i : Nat) (sc sf sr sg : Int) (h : Nat) (w : World) (hE : EsIn w A2 q cq P) (hi : i + 1 + h ≤ q) (hq : q ≤ 65536) (hsf : (sf == 0) = false) :
    Calls Tryz.prog 34 #[.slice A2 q cq, .int .i64 i, .agg #[.int .i64 sc, .int .i64 sf, .int .i64 sr, .int .i64 sg, .int .i64 h]] w fun e w' => e = .returned (.int .i64 (tiGo (P.drop (i + 1 + h)) (i + 1 + h) : Nat)) ∧ Below w.heap.size w w' := by
  have HE : Hid (∀ w', Below w.heap.size w w' → EsIn w' A2 q cq P) := fun w' hb => hE.below hb
  have HL := Lib.hid hE.hq
  clear hE
  go_enter Tryz.func34, Tryz.ntmps34
  go_wp2_with (fail)
  go_loopw [7] (fun u wr => ∃ k : Nat, i + 1 + h ≤ k ∧ k ≤ q ∧ u = .int .i64 k ∧ tiGo (P.drop (i + 1 + h)) (i + 1 + h) = tiGo (P.drop k) k ∧ Below w.heap.size w wr) (fun u _ => q - (intOf u).toNat)
  case atStart => exact ⟨i + 1 + h, by omega, by omega, by first | rfl | go_num, rfl, ba _ _⟩
  case round =>
    obtain ⟨k, hk1, hk2, rfl, hr, hbw⟩ := hrel
    have HR := Lib.hid hr
    have HB := Lib.hid hbw
    clear hr hbw
    by_cases hlt : k < q
    · have hkq : decide ((k : Int) < (q : Int)) = true := by simpa using hlt
      have hkq' : (k : Int) < (q : Int) := by omega
      obtain ⟨b, off, sa, sc', rfl, hbl, _, hd, ⟨_, _, _, _, c4, _⟩, _⟩ := (HE.out _ HB.out).at hlt
      have HD := Lib.hid hd
      clear hd
      generalize P.getD k z6 = y at *
      obtain ⟨bar, v, d, t, tie, L⟩ := y
      dsimp only at c4
      have HG : Hid (tiGo (P.drop (i + 1 + h)) (i + 1 + h) = if tie then tiGo (P.drop (k + 1)) (k + 1) else k) := by
        unfold Hid
        rw [HR.out, HD.out, tiGo]
      cases tie with
      | true =>
        go_wp2_with (fail)
        go_roundw
        case rel => exact ⟨k + 1, by omega, by omega, by first | rfl | go_num, by rw [HG.out]; rfl, HB.out⟩
        case measure => simp [intOf]; omega
      | false =>
        go_wp2_with (fail)
        go_ret
        exact ⟨ret_int (by rw [HG.out]; rfl), HB.out⟩
    · have HZ : Hid (tiGo (P.drop (i + 1 + h)) (i + 1 + h) = k) := by
        unfold Hid
        rw [HR.out, List.drop_of_length_le (by have := HL.out; omega)]
        rfl
      go_wp2_with (fail)
      go_ret
      exact ⟨ret_int (by rw [HZ.out]), HB.out⟩

theorem ending_any (A2 : Option Addr) (q cq : Nat) (C : List Cr) (P : List EvP) (i : Nat) (s : St) (w : World) (hE : EsIn w A2 q cq P) (hi : i < q) (hq : q ≤ 65536) (hst : ∀ y ∈ P, y.L.length ≤ 1000000) (hs : StOk C P i s) :
    Calls Tryz.prog 34 #[.slice A2 q cq, .int .i64 i, stV s] w fun e w' => e = .returned (.int .i64 (endN P i s : Nat)) ∧ Below w.heap.size w w' := by
  have hl := hE.hq
  obtain ⟨sc, sf, sr, sg, sh⟩ := s
  obtain ⟨h, rfl⟩ := Int.eq_ofNat_of_zero_le hs.h1
  have h3 := hs.h3
  unfold endN
  dsimp only at *
  by_cases hf : sf = 0
  · subst hf
    rw [if_pos rfl]
    exact ending_open A2 q cq P i sc sr sg h w hE hi hq hst
  · rw [if_neg hf]
    exact ending_stop A2 q cq P i sc sf sr sg h w hE (by omega) hq (by simpa using hf)

end Go.Proofs.YtpcehgifpajmbaaGreat
