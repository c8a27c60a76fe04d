/- Pieces: Join of the program, with its error. -/
import Derived.Test.YtjobablfojnppaaDoorJn2
import Derived.Test.YtjobablfojnppaaDoorTrn
namespace Go.Proofs.YtjobablfojnppaaDoor
open Go Go.RowKit

set_option maxRecDepth 100000 in
set_option maxHeartbeats 3200000 in
theorem pjoin_any (A : Option Addr) (n c : Nat) (A' : Option Addr) (m c' : Nat) (A2 : Option Addr) (q cq : Nat) (C : List Cr) (S : List Int) (P : List EvP) (w : World) (hP : PcIn w A n c A' m c' A2 q cq C S P) (hT : SgT w) (hnb : n ≤ 1000000) (hmb : m ≤ 1000000) (hqb : q ≤ 65536) (hst : ∀ y ∈ P, y.L.length ≤ 1000000) :
    Calls Tryd.prog 24 #[pcV A n c A' m c' A2 q cq] w (PcRes (pcErr C S P) C S (jnRes P) w) := by
  obtain ⟨X, hX⟩ : ∃ X, pcErr C S P = X := ⟨_, rfl⟩
  by_cases hX0 : X = 0
  · subst hX0
    rw [hX]
    exact join_fine A n c A' m c' A2 q cq C S P w hP hT hX hnb hmb hqb hst
  · have HP : Hid (∀ w', Below w.heap.size w w' → PcIn w' A n c A' m c' A2 q cq C S P) := fun w' hb => hP.below hb
    have HST := Lib.hid hst
    have HBX := Lib.hid (pbox w A n c A' m c' A2 q cq)
    have HX := Lib.hid hX
    rw [hX]
    have hXb : (X != 0) = true := by simpa using hX0
    have HX0 := Lib.hid hX0
    clear hX0 hX hP hst hT
    go_enter Tryd.func24, Tryd.ntmps24
    go_wp2_with (go_at_call 40; refine (pcheck_any A n c A' m c' A2 q cq C S P _ (HP.out _ HBX.out.2.2.1) hnb hmb (by omega) HST.out).mono ?_; rintro e W1 ⟨rfl, hb1⟩; rw [HX.out]; have hP1 := HBX.out.1.below hb1; have hR1 := HBX.out.2.1.below hb1; have p0 := hP1.cell 0; have p1 := hP1.cell 1; have p2 := hP1.cell 2; have r0 := hR1.cell 0; have r1 := hR1.cell 1; have r2 := hR1.cell 2; have f0 := hR1.frozen 0; have f1 := hR1.frozen 1; have f2 := hR1.frozen 2; simp at p0 p1 p2 r0 r1 r2; have hl0 := hP1.lt; have hl1 := hR1.lt; have HB1 := Lib.hid (And.intro hP1 (And.intro hR1 hb1)); clear hP1 hR1 hb1)
    exact err_ret w W1 X (bt HBX.out.2.2.1 HB1.out.2.2) HX0.out (by simp [results, Tryd.results24, go_sem, World.cell?_setCell_same', World.cell?_setCell_other, r0, r1, r2])

end Go.Proofs.YtjobablfojnppaaDoor

/- Pieces: Join of the reference, as plain lists. -/
namespace Go.Proofs.YtjobablfojnppaaDoor
open Go Go.RowKit

def stE (y : EvP) : EvP := { y with L := [] }
def tkE (y : EvP) : Int := tkV y.v y.d y.t
structure RjS where
  out : List EvP
  mg : List Bool
def rjNew (r : RjS) (y : EvP) : RjS := ⟨r.out ++ [y], r.mg ++ [false]⟩
def tkLast (l : List EvP) : Int := tkE (l.getD (l.length - 1) z6)
def rjStep (r : RjS) (y : EvP) : RjS :=
  match soOf (tkLast r.out + tkE y) with
  | some s => if (y.tie && !y.bar) = true then ⟨setLast r.out s, r.mg ++ [true]⟩ else rjNew r y
  | none => rjNew r y
def rjAll (Y : List EvP) : RjS := Y.foldl rjStep ⟨[], []⟩
theorem rjAll_snoc (Y : List EvP) (y : EvP) : rjAll (Y ++ [y]) = rjStep (rjAll Y) y := by simp [rjAll]
theorem soOf_tk {x : Int} {s : Sg} (h : soOf x = some s) : tkV s.v s.d s.t = x := by
  unfold soOf at h
  obtain ⟨k, h1, rfl⟩ := Option.map_eq_some_iff.1 h
  have := List.find?_some h1
  exact of_decide_eq_true (p := soT k = x) this
structure RJ (Y : List EvP) (a : JnS) (r : RjS) : Prop where
  ev : a.ev = r.out.map stE
  ml : r.mg.length = Y.length
  bl : a.bc.length = Y.length
  ol : r.out.length = r.mg.count false
  ne : 0 < Y.length → 0 < r.out.length
  bc : ∀ i : Nat, i < Y.length → a.bc.getD i 0 = ((r.mg.take (i + 1)).count false : Int) - 1
  cur : 0 < r.out.length → a.cur = tkLast r.out
  src : ∀ i : Nat, r.mg[i]? = some false → ∃ y : EvP, r.out[(r.mg.take i).count false]? = some y ∧ ∃ z : EvP, Y[i]? = some z ∧ y.L = z.L
  tie : ∀ i : Nat, r.mg[i]? = some true → ∃ y : EvP, Y[i]? = some y ∧ y.tie = true
theorem rj_nil : RJ [] ⟨[], [], 0⟩ ⟨[], []⟩ := ⟨rfl, rfl, rfl, rfl, fun h => h, fun i h => by simp at h, fun h => by simp at h, fun i h => by simp at h, fun i h => by simp at h⟩
theorem getD_app {α : Type} (l : List α) (x d : α) (i : Nat) : (l ++ [x]).getD i d = if i < l.length then l.getD i d else if i = l.length then x else d := by
  rw [List.getD_eq_getElem?_getD]
  by_cases h : i < l.length
  · rw [if_pos h, List.getElem?_append_left h, List.getD_eq_getElem?_getD]
  · rw [if_neg h]
    by_cases h2 : i = l.length
    · subst h2
      simp
    · rw [if_neg h2, List.getElem?_eq_none (by simp; omega)]
      rfl
theorem get_app {α : Type} (l : List α) (x : α) (i : Nat) (y : α) (h : (l ++ [x])[i]? = some y) : (i < l.length ∧ l[i]? = some y) ∨ (i = l.length ∧ x = y) := by
  by_cases h2 : i < l.length
  · rw [List.getElem?_append_left h2] at h
    exact .inl ⟨h2, h⟩
  · have h3 := (List.getElem?_eq_some_iff.1 h).1
    simp at h3
    have : i = l.length := by omega
    subst this
    simp at h
    exact .inr ⟨rfl, h⟩
theorem rj_new {Y : List EvP} {a : JnS} {r : RjS} (h : RJ Y a r) (p : TmP) (hp : p.to - p.fm = tkV p.v p.d p.t) : RJ (Y ++ [upS p.y ⟨p.v, p.d, p.t⟩]) (jnNew a p) (rjNew r (upS p.y ⟨p.v, p.d, p.t⟩)) := by
  have hel : a.ev.length = r.out.length := by rw [h.ev, List.length_map]
  constructor
  · simp only [jnNew, rjNew, List.map_append, h.ev, List.map_cons, List.map_nil]
    rfl
  · simp [rjNew, h.ml]
  · simp [jnNew, h.bl]
  · simp [rjNew, h.ol]
  · intro _
    simp [rjNew]
  · intro i hi
    simp only [jnNew, rjNew, getD_app, List.length_append, List.length_singleton] at hi ⊢
    by_cases hlt : i < Y.length
    · rw [if_pos (by rw [h.bl]; exact hlt), h.bc i hlt, List.take_append_of_le_length (by rw [h.ml]; omega)]
    · rw [if_neg (by rw [h.bl]; exact hlt), if_pos (by rw [h.bl]; omega), List.take_of_length_le (by simp [h.ml]; omega), hel, h.ol]
      simp
  · intro _
    simp only [jnNew, rjNew, tkLast, getD_app, List.length_append, List.length_singleton]
    rw [if_neg (by omega), if_pos (by omega), hp]
    rfl
  · intro i hi
    rcases get_app _ _ _ _ hi with ⟨h1, h2⟩ | ⟨h1, _⟩
    · obtain ⟨y, e1, z, e2, e3⟩ := h.src i h2
      refine ⟨y, ?_, z, ?_, e3⟩
      · simp only [rjNew]
        rw [List.take_append_of_le_length (by omega), List.getElem?_append_left (List.getElem?_eq_some_iff.1 e1).1]
        exact e1
      · rw [List.getElem?_append_left (List.getElem?_eq_some_iff.1 e2).1]
        exact e2
    · refine ⟨upS p.y ⟨p.v, p.d, p.t⟩, ?_, upS p.y ⟨p.v, p.d, p.t⟩, ?_, rfl⟩
      · simp only [rjNew]
        rw [h1, List.take_left, ← h.ol]
        simp
      · rw [h1, h.ml]
        simp
  · intro i hi
    rcases get_app _ _ _ _ hi with ⟨h1, h2⟩ | ⟨_, h2⟩
    · obtain ⟨y, e1, e2⟩ := h.tie i h2
      exact ⟨y, by rw [List.getElem?_append_left (List.getElem?_eq_some_iff.1 e1).1]; exact e1, e2⟩
    · cases h2
theorem sLast_len (l : List EvP) (s : Sg) : (setLast l s).length = l.length := by simp [setLast]
theorem sLast_tk (l : List EvP) (s : Sg) (h : 0 < l.length) : tkLast (setLast l s) = tkV s.v s.d s.t := by
  unfold tkLast
  rw [sLast_len]
  unfold setLast
  rw [List.getD_eq_getElem?_getD, List.getElem?_set_self (by omega)]
  rfl
theorem sLast_L (l : List EvP) (s : Sg) (i : Nat) (y : EvP) (h : l[i]? = some y) : ∃ y', (setLast l s)[i]? = some y' ∧ y'.L = y.L := by
  unfold setLast
  by_cases hi : i = l.length - 1
  · have hl := (List.getElem?_eq_some_iff.1 h).1
    refine ⟨_, by rw [← hi]; exact List.getElem?_set_self hl, ?_⟩
    rw [List.getD_eq_getElem?_getD, h]
    rfl
  · exact ⟨y, by rw [List.getElem?_set_ne (by omega)]; exact h, rfl⟩
theorem sLast_map (l : List EvP) (s : Sg) (h : 0 < l.length) : setLast (l.map stE) s = (setLast l s).map stE := by
  unfold setLast
  rw [List.map_set, List.length_map]
  congr 1
  rw [List.getD_eq_getElem?_getD, List.getD_eq_getElem?_getD, List.getElem?_map, List.getElem?_eq_getElem (show l.length - 1 < l.length by omega)]
  rfl
theorem rj_mrg {Y : List EvP} {a : JnS} {r : RjS} (h : RJ Y a r) (p : TmP) (s : Sg) (hY : 0 < Y.length) (hs : tkV s.v s.d s.t = a.cur + (p.to - p.fm)) (ht : p.y.tie = true) :
    RJ (Y ++ [upS p.y ⟨p.v, p.d, p.t⟩]) ⟨setLast a.ev s, a.bc ++ [(a.ev.length : Int) - 1], a.cur + (p.to - p.fm)⟩ ⟨setLast r.out s, r.mg ++ [true]⟩ := by
  have hel : a.ev.length = r.out.length := by rw [h.ev, List.length_map]
  have hne := h.ne hY
  constructor
  · dsimp only
    rw [h.ev, sLast_map _ _ hne]
  · simp [h.ml]
  · simp [h.bl]
  · simp [sLast_len, h.ol]
  · intro _
    simpa [sLast_len] using hne
  · intro i hi
    simp only [getD_app, List.length_append, List.length_singleton] at hi ⊢
    by_cases hlt : i < Y.length
    · rw [if_pos (by rw [h.bl]; exact hlt), h.bc i hlt, List.take_append_of_le_length (by rw [h.ml]; omega)]
    · rw [if_neg (by rw [h.bl]; exact hlt), if_pos (by rw [h.bl]; omega), List.take_of_length_le (by simp [h.ml]; omega), hel, h.ol]
      simp
  · intro _
    dsimp only
    rw [sLast_tk _ _ hne, hs]
  · intro i hi
    rcases get_app _ _ _ _ hi with ⟨h1, h2⟩ | ⟨h1, h2⟩
    · obtain ⟨y, e1, z, e2, e3⟩ := h.src i h2
      obtain ⟨y', f1, f2⟩ := sLast_L r.out s _ _ e1
      refine ⟨y', ?_, z, ?_, f2.trans e3⟩
      · dsimp only
        rw [List.take_append_of_le_length (by omega)]
        exact f1
      · rw [List.getElem?_append_left (List.getElem?_eq_some_iff.1 e2).1]
        exact e2
    · cases h2
  · intro i hi
    rcases get_app _ _ _ _ hi with ⟨h1, h2⟩ | ⟨h1, h2⟩
    · obtain ⟨y, e1, e2⟩ := h.tie i h2
      exact ⟨y, by rw [List.getElem?_append_left (List.getElem?_eq_some_iff.1 e1).1]; exact e1, e2⟩
    · exact ⟨upS p.y ⟨p.v, p.d, p.t⟩, by rw [h1, h.ml]; simp, ht⟩
theorem rj_step {Y : List EvP} {a : JnS} {r : RjS} (h : RJ Y a r) (p : TmP) (hp : p.to - p.fm = tkV p.v p.d p.t) (h0 : p.y.tie = true → 0 < Y.length) : RJ (Y ++ [upS p.y ⟨p.v, p.d, p.t⟩]) (jnStep a p) (rjStep r (upS p.y ⟨p.v, p.d, p.t⟩)) := by
  have e1 : (upS p.y ⟨p.v, p.d, p.t⟩).tie = p.y.tie := rfl
  have e2 : (upS p.y ⟨p.v, p.d, p.t⟩).bar = p.y.bar := rfl
  have e3 : tkE (upS p.y ⟨p.v, p.d, p.t⟩) = p.to - p.fm := hp.symm
  unfold jnStep rjStep
  rw [e1, e2, e3]
  by_cases hc : (p.y.tie && !p.y.bar) = true
  · have ht : p.y.tie = true := by
      cases h : p.y.tie
      · rw [h] at hc; simp at hc
      · rfl
    have hcur := h.cur (h.ne (h0 ht))
    rw [← hcur]
    cases hs : soOf (a.cur + (p.to - p.fm)) with
    | none => exact rj_new h p hp
    | some s =>
      dsimp only
      rw [if_pos hc, if_pos hc]
      exact rj_mrg h p s (h0 ht) (soOf_tk hs) ht
  · have this := rj_new h p hp
    cases hs1 : soOf (a.cur + (p.to - p.fm)) with
    | none =>
      cases hs2 : soOf (tkLast r.out + (p.to - p.fm)) with
      | none => exact this
      | some s2 =>
        dsimp only
        rw [if_neg hc]
        exact this
    | some s1 =>
      cases hs2 : soOf (tkLast r.out + (p.to - p.fm)) with
      | none =>
        dsimp only
        rw [if_neg hc]
        exact this
      | some s2 =>
        dsimp only
        rw [if_neg hc, if_neg hc]
        exact this
theorem tmPL_tk : ∀ (P : List EvP) (n : Nat) (v : Int) (d t : Bool) (fm : Int), ∀ p ∈ tmPL P n v d t fm, p.to - p.fm = tkV p.v p.d p.t
  | [], _, _, _, _, _, p, h => by simp [tmPL] at h
  | y :: r, n, v, d, t, fm, p, h => by
    unfold tmPL at h
    split at h
    · rcases List.mem_cons.1 h with rfl | h
      · dsimp only
        omega
      · exact tmPL_tk r _ _ _ _ _ p h
    · rcases List.mem_cons.1 h with rfl | h
      · dsimp only
        omega
      · exact tmPL_tk r _ _ _ _ _ p h
def upP (p : TmP) : EvP := upS p.y ⟨p.v, p.d, p.t⟩
theorem rj_fold : ∀ (X : List TmP) (Y : List EvP) (a : JnS) (r : RjS), RJ Y a r → (∀ p ∈ X, p.to - p.fm = tkV p.v p.d p.t) → (Y = [] → ∀ p, X.head? = some p → p.y.tie = false) → RJ (Y ++ X.map upP) (X.foldl jnStep a) ((X.map upP).foldl rjStep r)
  | [], Y, a, r, h, _, _ => by simpa using h
  | p :: X, Y, a, r, h, h1, h2 => by
    have h3 := rj_step h p (h1 p (List.mem_cons_self ..)) (fun ht => by
      rcases Nat.eq_zero_or_pos Y.length with h4 | h4
      · have := h2 (List.length_eq_zero_iff.1 h4) p rfl
        rw [this] at ht
        cases ht
      · exact h4)
    have := rj_fold X _ _ _ h3 (fun q hq => h1 q (List.mem_cons_of_mem _ hq)) (fun e => by simp at e)
    simpa [upP] using this

end Go.Proofs.YtjobablfojnppaaDoor

/- Pieces: both Joins answer one list. -/
namespace Go.Proofs.YtjobablfojnppaaDoor
open Go Go.RowKit

def atK (mg : List Bool) (k : Nat) : Nat := (mg.take k).count false
def cntM (mg : List Bool) (i h : Nat) : Nat := ((mg.drop (i + 1)).take h).count true
def lowS (mg : List Bool) (i : Nat) (s : St) : St := ⟨s.c, s.f, s.r, s.g, s.h - cntM mg i s.h.toNat⟩
def lowK (mg : List Bool) : Nat → List EvP → List EvP
  | 0, Q => Q
  | k + 1, Q => if mg.getD k false = true then lowK mg k Q else (lowK mg k Q).set (atK mg k) { (lowK mg k Q).getD (atK mg k) z6 with L := ((lowK mg k Q).getD (atK mg k) z6).L.map (lowS mg k) }
theorem atK_t {mg : List Bool} {k : Nat} (h : mg[k]? = some true) : atK mg (k + 1) = atK mg k := by
  unfold atK
  rw [List.take_add_one, h]
  simp
theorem atK_f {mg : List Bool} {k : Nat} (h : mg[k]? = some false) : atK mg (k + 1) = atK mg k + 1 := by
  unfold atK
  rw [List.take_add_one, h]
  simp
theorem cnt_tf (l : List Bool) : l.count false + l.count true = l.length := by
  induction l with
  | nil => rfl
  | cons b r ih => cases b <;> simp <;> omega
theorem atK_add (mg : List Bool) (i h : Nat) (hl : i + 1 + h ≤ mg.length) : atK mg (i + 1 + h) + cntM mg i h = atK mg (i + 1) + h := by
  unfold atK cntM
  rw [List.take_add, List.count_append]
  have := cnt_tf ((mg.drop (i + 1)).take h)
  rw [List.length_take, List.length_drop] at this
  omega
theorem lowK_len (mg : List Bool) (Q : List EvP) : ∀ k, (lowK mg k Q).length = Q.length
  | 0 => rfl
  | k + 1 => by
    unfold lowK
    split
    · exact lowK_len mg Q k
    · rw [List.length_set]
      exact lowK_len mg Q k
theorem join_eq {C : List Cr} {S : List Int} {P : List EvP} (h0 : pcErr C S P = 0) :
    RJ (setG P (frcL s0g P)) (jnAll (tpL P)) (rjAll (setG P (frcL s0g P))) ∧ lowK (rjAll (setG P (frcL s0g P))).mg P.length (rjAll (setG P (frcL s0g P))).out = jnRes P := by
  have hY : (tpL P).map upP = setG P (frcL s0g P) := by
    rw [← plain_out (sgr_of h0), rwO_plain]
    rfl
  have R := rj_fold (tpL P) [] _ _ rj_nil (tmPL_tk P 0 0 false false 0) (fun _ p hp => by
    have h1 : (tpL P)[0]? = some p := by rw [← List.head?_eq_getElem?]; exact hp
    obtain ⟨_, h2, _⟩ := tmPL_bd P 0 0 false false 0 0 p h1
    have := ((pcErr_ok h0).2.2 0 _ h2).2.1
    unfold tieB at this
    simpa using this)
  rw [List.nil_append, hY] at R
  change RJ (setG P (frcL s0g P)) (jnAll (tpL P)) (rjAll (setG P (frcL s0g P))) at R
  refine ⟨R, ?_⟩
  have hYl : (setG P (frcL s0g P)).length = P.length := by rw [← hY, List.length_map, tmPL_len]
  have hYi : ∀ (i : Nat) (z : EvP), (setG P (frcL s0g P))[i]? = some z → ∃ y, P[i]? = some y ∧ z.L = y.L ∧ z.tie = y.tie := fun i z hz => by
    rw [← hY, List.getElem?_map] at hz
    obtain ⟨p, hp, rfl⟩ := Option.map_eq_some_iff.1 hz
    exact ⟨p.y, (tmPL_bd P 0 0 false false 0 i p hp).2.1, rfl, rfl⟩
  unfold jnRes
  generalize jnAll (tpL P) = a at R ⊢
  generalize rjAll (setG P (frcL s0g P)) = r at R ⊢
  generalize setG P (frcL s0g P) = Y at R hYl hYi
  have hml : r.mg.length = P.length := R.ml.trans hYl
  have hbc : ∀ i, i < P.length → a.bc.getD i 0 = (atK r.mg (i + 1) : Int) - 1 := fun i hi => R.bc i (by omega)
  have key : ∀ k, k ≤ P.length → (∀ x, x < atK r.mg k → (lowK r.mg k r.out)[x]? = (mvL a.bc P k a.ev)[x]?) ∧ (∀ x, atK r.mg k ≤ x → (lowK r.mg k r.out)[x]? = r.out[x]? ∧ (mvL a.bc P k a.ev)[x]? = a.ev[x]?) := by
    intro k
    induction k with
    | zero =>
      intro _
      exact ⟨fun x hx => by simp [atK] at hx, fun x _ => ⟨rfl, rfl⟩⟩
    | succ k ih =>
      intro hk
      obtain ⟨i1, i2⟩ := ih (by omega)
      have hmk : r.mg[k]? = some (r.mg.getD k false) := by simp [List.getD_eq_getElem?_getD, List.getElem?_eq_getElem (show k < r.mg.length by omega)]
      have hPk : P[k]? = some (P.getD k z6) := by simp [List.getD_eq_getElem?_getD, List.getElem?_eq_getElem (show k < P.length by omega)]
      cases hm : r.mg.getD k false with
      | true =>
        rw [hm] at hmk
        obtain ⟨z, e1, e2⟩ := R.tie k hmk
        obtain ⟨y, f1, f2, f3⟩ := hYi k z e1
        have hy : P.getD k z6 = y := by rw [hPk] at f1; injection f1
        have hL : y.L = [] := by
          have := ((pcErr_ok h0).2.2 k y f1).2.1
          unfold tieB at this
          rw [← f3, e2] at this
          simp at this
          exact this.1
        have g1 : lowK r.mg (k + 1) r.out = lowK r.mg k r.out := by rw [lowK, if_pos hm]
        have g2 : mvL a.bc P (k + 1) a.ev = mvL a.bc P k a.ev := by rw [mvL, if_pos (by rw [hy]; exact hL)]
        rw [g1, g2, atK_t hmk]
        exact ⟨i1, i2⟩
      | false =>
        rw [hm] at hmk
        obtain ⟨y, e1, z, e2, e3⟩ := R.src k hmk
        change r.out[atK r.mg k]? = some y at e1
        obtain ⟨yp, f1, f2, _⟩ := hYi k z e2
        have hy : P.getD k z6 = yp := by rw [hPk] at f1; injection f1
        have hLy : y.L = (P.getD k z6).L := by rw [hy, ← f2]; exact e3
        have hlt := (List.getElem?_eq_some_iff.1 e1).1
        have hev : a.ev[atK r.mg k]? = some (stE y) := by rw [R.ev, List.getElem?_map, e1]; rfl
        have hO := (i2 _ (Nat.le_refl _)).1.trans e1
        have hV := (i2 _ (Nat.le_refl _)).2.trans hev
        have hOd : (lowK r.mg k r.out).getD (atK r.mg k) z6 = y := by rw [List.getD_eq_getElem?_getD, hO]; rfl
        have hVd : (mvL a.bc P k a.ev).getD (atK r.mg k) z6 = stE y := by rw [List.getD_eq_getElem?_getD, hV]; rfl
        have hbk : (a.bc.getD k 0).toNat = atK r.mg k := by rw [hbc k (by omega), atK_f hmk]; omega
        have g1 : lowK r.mg (k + 1) r.out = (lowK r.mg k r.out).set (atK r.mg k) { y with L := y.L.map (lowS r.mg k) } := by rw [lowK, if_neg (by rw [hm]; decide), hOd]
        have hmap : y.L.map (lowS r.mg k) = (P.getD k z6).L.map (mvS a.bc k) := by
          rw [hLy]
          refine List.map_congr_left (fun s hs => ?_)
          obtain ⟨h1, h2⟩ := hold_in h0 (show k < P.length by omega) s hs
          obtain ⟨h, hh⟩ := Int.eq_ofNat_of_zero_le h1
          rw [hh] at h2
          have hadd := atK_add r.mg k h (by omega)
          have b1 := hbc k (by omega)
          have b2 := hbc (k + h) (by omega)
          rw [show k + h + 1 = k + 1 + h by omega] at b2
          unfold lowS mvS
          rw [hh, Int.toNat_natCast, b1, b2]
          congr 1
          omega
        have hVl : atK r.mg k < (mvL a.bc P k a.ev).length := (List.getElem?_eq_some_iff.1 hV).1
        have hOl : atK r.mg k < (lowK r.mg k r.out).length := (List.getElem?_eq_some_iff.1 hO).1
        have g2 : (mvL a.bc P (k + 1) a.ev)[atK r.mg k]? = some { y with L := (P.getD k z6).L.map (mvS a.bc k) } ∧ ∀ x, x ≠ atK r.mg k → (mvL a.bc P (k + 1) a.ev)[x]? = (mvL a.bc P k a.ev)[x]? := by
          rw [mvL]
          by_cases hn : (P.getD k z6).L = []
          · rw [if_pos hn, hn]
            exact ⟨hV, fun _ _ => rfl⟩
          · rw [if_neg hn, hbk, hVd]
            exact ⟨by rw [List.getElem?_set_self hVl]; rfl, fun x hx => List.getElem?_set_ne (fun e => hx e.symm)⟩
        rw [atK_f hmk, g1, hmap]
        refine ⟨fun x hx => ?_, fun x hx => ?_⟩
        · by_cases hxe : x = atK r.mg k
          · rw [hxe, g2.1, List.getElem?_set_self hOl]
          · rw [List.getElem?_set_ne (fun e => hxe e.symm), g2.2 x hxe]
            exact i1 x (by omega)
        · rw [List.getElem?_set_ne (by omega), g2.2 x (by omega)]
          exact i2 x (by omega)
  obtain ⟨k1, k2⟩ := key P.length (Nat.le_refl _)
  refine List.ext_getElem? (fun x => ?_)
  by_cases hx : x < atK r.mg P.length
  · exact k1 x hx
  · obtain ⟨e1, e2⟩ := k2 x (by omega)
    have : atK r.mg P.length = r.out.length := by
      unfold atK
      rw [List.take_of_length_le (by omega), R.ol]
    rw [e1, e2, List.getElem?_eq_none (by omega), List.getElem?_eq_none (by rw [R.ev, List.length_map]; omega)]

end Go.Proofs.YtjobablfojnppaaDoor

/- Pieces: Join's loop of the reference: what it keeps. -/
namespace Go.Proofs.YtjobablfojnppaaDoor
open Go Go.RowKit

/-- The marks: those that are told, and the rest. -/
def mgL (q : Nat) (mg : List Bool) : List Value := mg.map .bool ++ List.replicate (q - mg.length) (.bool false)
theorem mgL_len {q : Nat} {mg : List Bool} (h : mg.length ≤ q) : (mgL q mg).length = q := by
  unfold mgL
  rw [List.length_append, List.length_map, List.length_replicate]
  omega
theorem mgL_no {q : Nat} {mg : List Bool} (h : mg.length < q) : mgL q (mg ++ [false]) = mgL q mg := by
  unfold mgL
  obtain ⟨k, hk⟩ : ∃ k, q - mg.length = k + 1 := ⟨q - mg.length - 1, by omega⟩
  rw [hk, List.length_append, List.length_singleton, show q - (mg.length + 1) = k by omega, List.replicate_succ]
  simp
theorem mgL_yes {q : Nat} {mg : List Bool} (h : mg.length < q) : (mgL q mg).set mg.length (.bool true) = mgL q (mg ++ [true]) := by
  unfold mgL
  obtain ⟨k, hk⟩ : ∃ k, q - mg.length = k + 1 := ⟨q - mg.length - 1, by omega⟩
  rw [hk, List.length_append, List.length_singleton, show q - (mg.length + 1) = k by omega, List.replicate_succ, List.set_append_right _ _ (by simp)]
  simp
theorem mgL_at {q : Nat} {mg : List Bool} {k : Nat} (h : mg.length = q) (hk : k < q) : (mgL q mg)[k]? = some (.bool (mg.getD k false)) := by
  unfold mgL
  rw [List.getElem?_append_left (by rw [List.length_map]; omega), List.getElem?_map, List.getD_eq_getElem?_getD, List.getElem?_eq_getElem (show k < mg.length by omega)]
  rfl
structure RjO (W5 : World) (b ob mb : Nat) (u0 u1 v : Value) (E : List EvT) (q : Nat) (Q : List EvP) (X : List EvT) (mg : List Bool) (W : World) : Prop where
  o : Blk W ob 28 #[u0, u1, v]
  row : W.ownsRow W5.heap.size 41 6 v Q.length (evC X)
  xl : X.length = Q.length
  m : Blk W mb 4 (mgL q mg).toArray
  cp : CpE W5 b X Q
  src : ∀ (k : Nat) (x : EvT), X[k]? = some x → ∃ j z, j < mg.length ∧ E[j]? = some z ∧ z.sa = x.sa ∧ z.sn = x.sn
  dst : DstE X
  kx : Kx (fun k => k = ob ∨ k = mb) W5.heap.size W5 W
theorem RjO.below {W5 : World} {b ob mb : Nat} {u0 u1 v : Value} {E : List EvT} {q : Nat} {Q : List EvP} {X : List EvT} {mg : List Bool} {W W' : World} (h : RjO W5 b ob mb u0 u1 v E q Q X mg W) (hb : Below W.heap.size W W') : RjO W5 b ob mb u0 u1 v E q Q X mg W' :=
  ⟨h.o.below hb, ownsRow_heap h.row (fun g hg => hb.block g (h.row.lt g hg).2), h.xl, h.m.below hb, h.cp, h.src, h.dst, h.kx.trans ((Kx.of_below hb).mono h.kx.size (fun _ _ h => h))⟩
/-- One event more. -/
theorem RjO.event {W5 : World} {b ob mb : Nat} {u0 u1 v : Value} {E : List EvT} {q : Nat} {Q : List EvP} {X : List EvT} {mg : List Bool} {W w6 : World} {O : Obj} {v' : Value} {news : List Value} (h : RjO W5 b ob mb u0 u1 v E q Q X mg W) {G : List EvP} (hC : CpE W5 b E G) (hD : DstE E) {y : EvP} {x : EvT} (hy : G[mg.length]? = some y) (hx : E[mg.length]? = some x)
    (hn : news = [.bool y.bar, .int .i64 y.v, .bool y.d, .bool y.t, .bool y.tie, .slice x.sa y.L.length x.sc]) (hq : mg.length < q)
    (hown : w6.ownsRow W5.heap.size 41 6 v' (Q.length + 1) (evC X ++ news)) (hg : (W.alloc O).grownBy w6 v.ownBlock) (ho : ob < W5.heap.size) (hom : mb ≠ ob) :
    Blk w6 ob 28 #[u0, u1, v] ∧ RjO W5 b ob mb u0 u1 v' E q (Q ++ [y]) (X ++ [x]) (mg ++ [false]) (w6.setCell ⟨ob, 2, none⟩ v') := by
  have hk : ∀ (g : Nat) (T : TypeId) (cs : Array Value), T ≠ 41 → Blk W g T cs → Blk w6 g T cs := fun g T cs hT hB => (hB.below (ba _ _)).grown hg (blk_apart hB h.row hT)
  have q6 := hk _ _ _ (by decide) h.o
  have m6 := hk _ _ _ (by decide) h.m
  have hz := h.kx.size
  obtain ⟨k1, k2⟩ := hC _ x y hx hy
  refine ⟨q6, ?_, ?_, ?_, ?_, ?_, ?_, ?_, ?_⟩
  · have := q6.set_ 2 v'
    simpa using this
  · rw [List.length_append, List.length_singleton, evC_append]
    have e : evC [x] = news := by
      rw [hn]
      show [Value.bool x.bar, .int .i64 x.v, .bool x.d, .bool x.t, .bool x.tie, .slice x.sa x.sn x.sc] = _
      rw [k1.1, k1.2.1, k1.2.2.1, k1.2.2.2.1, k1.2.2.2.2.1, k1.2.2.2.2.2]
    rw [e]
    exact ownsRow_heap hown (fun g2 hg2 => set_other _ _ _ _ _ (fun e => by have := (hown.lt g2 hg2).1; omega))
  · rw [List.length_append, List.length_append, h.xl]
    rfl
  · rw [mgL_no hq]
    exact m6.setOther hom _ _
  · exact h.cp.snoc2 h.xl k1 k2
  · intro k x' hx'
    rw [List.length_append, List.length_singleton]
    rcases Nat.lt_or_ge k X.length with hlt | hge
    · rw [List.getElem?_append_left hlt] at hx'
      obtain ⟨j, z, j1, j2⟩ := h.src k x' hx'
      exact ⟨j, z, by omega, j2⟩
    · have hl := (List.getElem?_eq_some_iff.1 hx').1
      rw [List.length_append, List.length_singleton] at hl
      have : k = X.length := by omega
      subst this
      simp at hx'
      subst hx'
      exact ⟨mg.length, x, by omega, hx, rfl, rfl⟩
  · intro i j x1 x2 hij h1 h2 n1 n2
    have hl := (List.getElem?_eq_some_iff.1 h2).1
    rw [List.length_append, List.length_singleton] at hl
    rw [List.getElem?_append_left (by omega)] at h1
    rcases Nat.lt_or_ge j X.length with hlt | hge
    · rw [List.getElem?_append_left hlt] at h2
      exact h.dst i j x1 x2 hij h1 h2 n1 n2
    · have : j = X.length := by omega
      subst this
      simp at h2
      subst h2
      obtain ⟨j', z, j1, j2, j3, j4⟩ := h.src i x1 h1
      rw [← j3]
      exact hD j' _ z _ j1 j2 hx (by omega) n2
  · have k1 := (h.kx.trans ((Kx.of_below (x := fun k => k = ob ∨ k = mb) (ba W O)).mono hz (fun _ _ h => h))).grown hg (by simp; omega) (fun k hk => (h.row.lt k hk).1) (fun k hk => by
      obtain ⟨cs, T, f, h3⟩ := row_cells h.row k hk
      exact ⟨cs, T, f, ((ba W O).block k (Array.getElem?_eq_some_iff.1 h3).1).trans h3⟩)
    exact k1.setBlk (.inr (.inl rfl)) q6 _ _
/-- One mark. -/
theorem RjO.flag {W5 : World} {b ob mb : Nat} {u0 u1 v : Value} {E : List EvT} {q : Nat} {Q : List EvP} {X : List EvT} {mg : List Bool} {W : World} (h : RjO W5 b ob mb u0 u1 v E q Q X mg W) (hq : mg.length < q) (hm : mb < W5.heap.size) (hom : mb ≠ ob) :
    RjO W5 b ob mb u0 u1 v E q Q X (mg ++ [true]) (W.setCell ⟨mb, mg.length, none⟩ (.bool true)) := by
  refine ⟨h.o.setOther (fun e => hom e.symm) _ _, ownsRow_heap h.row (fun g2 hg2 => set_other _ _ _ _ _ (fun e => by have := (h.row.lt g2 hg2).1; omega)), h.xl, ?_, h.cp, ?_, h.dst, h.kx.setBlk (.inr (.inr rfl)) h.m _ _⟩
  · have := h.m.set_ mg.length (.bool true)
    rw [← mgL_yes hq]
    simpa using this
  · intro k x hx
    obtain ⟨j, z, j1, j2⟩ := h.src k x hx
    exact ⟨j, z, by rw [List.length_append]; omega, j2⟩
/-- The sign of the last event. -/
theorem RjO.last {W5 : World} {b ob mb : Nat} {u0 u1 v : Value} {E : List EvT} {q : Nat} {Q : List EvP} {X : List EvT} {mg : List Bool} {W : World} (h : RjO W5 b ob mb u0 u1 v E q Q X mg W) (hne : 0 < Q.length) (ho : ob < W5.heap.size) (hm : mb < W5.heap.size) :
    ∃ g cap y, ∃ X' : Sg → List EvT, v = .slice (some ⟨g, 0, none⟩) Q.length cap ∧ W5.heap.size ≤ g ∧ g < W.heap.size ∧ (∃ cs, Blk W g 41 cs) ∧ Q[Q.length - 1]? = some y ∧ tkLast Q = tkE y ∧
      (W.cell? ⟨g, (Q.length - 1) * 6 + 1, none⟩ = some (.int .i64 y.v) ∧ W.cell? ⟨g, (Q.length - 1) * 6 + 2, none⟩ = some (.bool y.d) ∧ W.cell? ⟨g, (Q.length - 1) * 6 + 3, none⟩ = some (.bool y.t)) ∧ (∀ j, W.frozen? ⟨g, j, none⟩ = false) ∧
      (∀ s : Sg, RjO W5 b ob mb u0 u1 v E q (setLast Q s) (X' s) mg (((W.setCell ⟨g, (Q.length - 1) * 6 + 1, none⟩ (.int .i64 s.v)).setCell ⟨g, (Q.length - 1) * 6 + 2, none⟩ (.bool s.d)).setCell ⟨g, (Q.length - 1) * 6 + 3, none⟩ (.bool s.t))) := by
  obtain ⟨hl, h2⟩ := h.row
  rcases h2 with ⟨_, e0⟩ | ⟨g, cap, cur', e1, e2, e3, e4, e5, e6, e7⟩
  · omega
  have hB : Blk W g 41 cur' := e3
  have hk : Q.length - 1 < Q.length := by omega
  have hkX : Q.length - 1 < X.length := by rw [h.xl]; omega
  have hy := List.getElem?_eq_getElem hk
  have hx := List.getElem?_eq_getElem hkX
  have hyd : Q.getD (Q.length - 1) z6 = Q[Q.length - 1] := by simp [List.getD_eq_getElem?_getD, hy]
  obtain ⟨k1, k2⟩ := h.cp _ _ _ hx hy
  obtain ⟨_, i1, i2, i3, _, _⟩ := evC_at _ _ _ hx
  rw [k1.2.1] at i1
  rw [k1.2.2.1] at i2
  rw [k1.2.2.2.1] at i3
  refine ⟨g, cap, Q[Q.length - 1], fun s => X.set (Q.length - 1) (upT X[Q.length - 1] s), e1, e2, hB.lt, ⟨_, hB⟩, hy, by unfold tkLast; rw [hyd], ⟨hB.cellOf e7 i1, hB.cellOf e7 i2, hB.cellOf e7 i3⟩, fun j => hB.frozen j, fun s => ?_⟩
  have hOw : Ow W W5.heap.size 41 6 (some ⟨g, 0, none⟩) Q.length cap (evC X) := by
    have := h.row
    rw [e1] at this
    exact Ow.of_own this
  have h3 := ((hOw.set_ ((Q.length - 1) * 6 + 1) (.int .i64 s.v)).set_ ((Q.length - 1) * 6 + 2) (.bool s.d)).set_ ((Q.length - 1) * 6 + 3) (.bool s.t)
  rw [evC_upT _ _ _ s hx] at h3
  have hls : (setLast Q s).length = Q.length := sLast_len Q s
  have hkb : ∀ (g2 : Nat) (T : TypeId) (cs : Array Value), g2 ≠ g → Blk W g2 T cs → Blk (((W.setCell ⟨g, (Q.length - 1) * 6 + 1, none⟩ (.int .i64 s.v)).setCell ⟨g, (Q.length - 1) * 6 + 2, none⟩ (.bool s.d)).setCell ⟨g, (Q.length - 1) * 6 + 3, none⟩ (.bool s.t)) g2 T cs := fun g2 T cs hT h2 =>
    ((h2.setOther hT _ _).setOther hT _ _).setOther hT _ _
  have hfx : ∀ (i : Nat) (x' : EvT), (X.set (Q.length - 1) (upT X[Q.length - 1] s))[i]? = some x' → ∃ x0, X[i]? = some x0 ∧ x0.sa = x'.sa ∧ x0.sn = x'.sn := fun i x' hx' => by
    by_cases hi : i = Q.length - 1
    · subst hi
      rw [List.getElem?_set_self hkX] at hx'
      injection hx' with hx'
      subst hx'
      exact ⟨_, hx, rfl, rfl⟩
    · rw [List.getElem?_set_ne (fun e => hi e.symm)] at hx'
      exact ⟨x', hx', rfl, rfl⟩
  obtain ⟨g3, cur3, f1, f2, f3, f4, f5⟩ := h3.2.2 hne
  injection f1 with f1
  injection f1 with f1
  subst f1
  refine ⟨hkb _ _ _ (by omega) h.o, ⟨by rw [hls]; exact h3.2.1, .inr ⟨g, cap, cur3, by rw [hls]; exact e1, e2, f3, by rw [hls]; exact e4, e5, f4, by rw [hls]; exact f5⟩⟩, by rw [List.length_set, hls]; exact h.xl, hkb _ _ _ (by omega) h.m, ?_, ?_, ?_, ((h.kx.setBlk (.inl e2) hB _ _).setBlk (.inl e2) (hB.set_ _ _) _ _).setBlk (.inl e2) ((hB.set_ _ _).set_ _ _) _ _⟩
  · intro j x' y' hx' hy'
    unfold setLast at hy'
    by_cases hj : j = Q.length - 1
    · subst hj
      rw [List.getElem?_set_self hkX] at hx'
      rw [List.getElem?_set_self hk] at hy'
      injection hx' with hx'
      injection hy' with hy'
      subst hx' hy'
      rw [hyd]
      exact ⟨⟨k1.1, rfl, rfl, rfl, k1.2.2.2.2.1, k1.2.2.2.2.2⟩, k2⟩
    · rw [List.getElem?_set_ne (fun e => hj e.symm)] at hx' hy'
      exact h.cp j x' y' hx' hy'
  · intro k x' hx'
    obtain ⟨x0, a1, a2, a3⟩ := hfx k x' hx'
    obtain ⟨j, z, j1, j2, j3, j4⟩ := h.src k x0 a1
    exact ⟨j, z, j1, j2, j3.trans a2, j4.trans a3⟩
  · intro i j x' y' hij hx' hy' h1 h2
    obtain ⟨a, a1, a2, a3⟩ := hfx i x' hx'
    obtain ⟨d, d1, d2, d3⟩ := hfx j y' hy'
    rw [← a2, ← d2]
    exact h.dst i j a d hij a1 d1 (by omega) (by omega)
theorem rjStep_mg (r : RjS) (y : EvP) : (rjStep r y).mg.length = r.mg.length + 1 ∧ r.out.length ≤ (rjStep r y).out.length ∧ (rjStep r y).out.length ≤ r.out.length + 1 := by
  unfold rjStep
  cases soOf (tkLast r.out + tkE y) with
  | none => simp [rjNew]
  | some s =>
    dsimp only
    split
    · simp [sLast_len]
    · simp [rjNew]
theorem rjF_mg : ∀ (Y : List EvP) (r : RjS), (Y.foldl rjStep r).mg.length = r.mg.length + Y.length ∧ r.out.length ≤ (Y.foldl rjStep r).out.length ∧ (Y.foldl rjStep r).out.length ≤ r.out.length + Y.length
  | [], r => ⟨rfl, Nat.le_refl _, Nat.le_refl _⟩
  | y :: Y, r => by
    obtain ⟨h1, h2, h3⟩ := rjStep_mg r y
    obtain ⟨k1, k2, k3⟩ := rjF_mg Y (rjStep r y)
    rw [List.foldl_cons, List.length_cons]
    omega
theorem rjAll_len (Y : List EvP) : (rjAll Y).mg.length = Y.length ∧ (rjAll Y).out.length ≤ Y.length := by
  have := rjF_mg Y ⟨[], []⟩
  simp at this
  exact ⟨this.1, this.2⟩
theorem rjAll_ne (Y : List EvP) (h : 0 < Y.length) (h0 : (Y.getD 0 z6).tie = false) : 0 < (rjAll Y).out.length := by
  cases Y with
  | nil => simp at h
  | cons y Y =>
    have hy : y.tie = false := by simpa using h0
    have e : rjStep ⟨[], []⟩ y = rjNew ⟨[], []⟩ y := by
      unfold rjStep
      rw [hy]
      cases soOf (tkLast [] + tkE y) with
      | none => rfl
      | some s => rfl
    have := (rjF_mg Y (rjStep ⟨[], []⟩ y)).2.1
    unfold rjAll
    rw [List.foldl_cons]
    rw [e] at this ⊢
    simp only [rjNew, List.nil_append, List.length_singleton] at this ⊢
    omega

end Go.Proofs.YtjobablfojnppaaDoor

/- Pieces: Join of the reference: the second loop, what it keeps. -/
namespace Go.Proofs.YtjobablfojnppaaDoor
open Go Go.RowKit

/-- The marks in force below. -/
theorem atK_le (mg : List Bool) (k : Nat) : atK mg k ≤ atK mg (k + 1) := by
  unfold atK
  rw [List.take_add_one, List.count_append]
  omega
theorem lowK_ge (mg : List Bool) (Q : List EvP) : ∀ (k x : Nat), k ≤ mg.length → atK mg k ≤ x → (lowK mg k Q)[x]? = Q[x]?
  | 0, _, _, _ => rfl
  | k + 1, x, hk, hx => by
    have hmk : mg[k]? = some (mg.getD k false) := by simp [List.getD_eq_getElem?_getD, List.getElem?_eq_getElem (show k < mg.length by omega)]
    have h1 := atK_le mg k
    cases hm : mg.getD k false with
    | true =>
      rw [lowK, if_pos hm]
      exact lowK_ge mg Q k x (by omega) (by omega)
    | false =>
      rw [hm] at hmk
      have := atK_f hmk
      rw [lowK, if_neg (by rw [hm]; decide), List.getElem?_set_ne (by omega)]
      exact lowK_ge mg Q k x (by omega) (by omega)
theorem cntM_succ {mg : List Bool} {i c : Nat} (h : i + 1 + c < mg.length) : cntM mg i (c + 1) = cntM mg i c + (if mg.getD (i + 1 + c) false = true then 1 else 0) := by
  unfold cntM
  have e : (mg.drop (i + 1))[c]? = some (mg.getD (i + 1 + c) false) := by
    rw [List.getElem?_drop]
    simp [List.getD_eq_getElem?_getD, List.getElem?_eq_getElem h]
  rw [List.take_add_one, e, List.count_append]
  cases mg.getD (i + 1 + c) false <;> simp
theorem cntM_le (mg : List Bool) (i c : Nat) : cntM mg i c ≤ c := by
  unfold cntM
  have := List.count_le_length (a := true) (l := (mg.drop (i + 1)).take c)
  rw [List.length_take] at this
  omega
theorem cntM_zero (mg : List Bool) (i : Nat) : cntM mg i 0 = 0 := by simp [cntM]
/-- The second loop: what it keeps. -/
structure RjP (w : World) (b ob mb qb : Nat) (A : Option Addr) (n c : Nat) (A' : Option Addr) (m c' : Nat) (A2 : Option Addr) (l cq : Nat) (C : List Cr) (S : List Int) (P : List EvP) (q : Nat) (mg : List Bool) (u2 : Value) (wr : World) : Prop where
  pc : ∃ E, PcOE wr b A n c A' m c' A2 l cq C S P E
  o : Blk wr ob 28 #[.slice A n c, .slice A' m c', .slice A2 l cq]
  mks : Blk wr mb 4 (mgL q mg).toArray
  x : Blk wr qb 28 #[.slice A n c, .slice A' m c', u2]
  rs : Blk wr (w.heap.size + 1) 28 #[.slice none 0 0, .slice none 0 0, .slice none 0 0]
  lo : Below w.heap.size w wr
theorem RjP.below {w : World} {b ob mb qb : Nat} {A : Option Addr} {n c : Nat} {A' : Option Addr} {m c' : Nat} {A2 : Option Addr} {l cq : Nat} {C : List Cr} {S : List Int} {P : List EvP} {q : Nat} {mg : List Bool} {u2 : Value} {wr wx : World}
    (h : RjP w b ob mb qb A n c A' m c' A2 l cq C S P q mg u2 wr) (hb : Below wr.heap.size wr wx) : RjP w b ob mb qb A n c A' m c' A2 l cq C S P q mg u2 wx := by
  obtain ⟨E, hE⟩ := h.pc
  exact ⟨⟨E, hE.below hb⟩, h.o.below hb, h.mks.below hb, h.x.below hb, h.rs.below hb, bt h.lo hb⟩
theorem RjP.stop {w : World} {b ob mb qb : Nat} {A : Option Addr} {n c : Nat} {A' : Option Addr} {m c' : Nat} {A2 : Option Addr} {l cq : Nat} {C : List Cr} {S : List Int} {P : List EvP} {q : Nat} {mg : List Bool} {u2 : Value} {wr : World}
    (h : RjP w b ob mb qb A n c A' m c' A2 l cq C S P q mg u2 wr) (hb : w.heap.size ≤ b) {i k : Nat} {y : EvP} (hy : P[i]? = some y) {s : St} (hs : y.L[k]? = some s) :
    ∃ ge g sc, A2 = some ⟨ge, 0, none⟩ ∧ ge < wr.heap.size ∧ wr.cell? ⟨ge, i * 6 + 5, none⟩ = some (.slice (some ⟨g, 0, none⟩) y.L.length sc) ∧ g < wr.heap.size ∧ (ge ≠ g ∧ g ≠ ge ∧ g ≠ ob ∧ ob ≠ g) ∧ wr.cell? ⟨g, k * 5 + 4, none⟩ = some (.int .i64 s.h) ∧ (∀ j, wr.frozen? ⟨g, j, none⟩ = false) ∧
      (∀ v : Int, RjP w b ob mb qb A n c A' m c' A2 l cq C S (P.set i { y with L := y.L.set k ⟨s.c, s.f, s.r, s.g, v⟩ }) q mg u2 (wr.setCell ⟨g, k * 5 + 4, none⟩ (.int .i64 v))) := by
  obtain ⟨E, hE⟩ := h.pc
  obtain ⟨ge, x, g, rfl, hbe, hle, hx, c5, hbg, hlg, n1, n2, cc, hf, ⟨cs, hB⟩, _, ht⟩ := hE.stop hy hs
  have ho := hB.ne h.o (by decide)
  have hm := hB.ne h.mks (by decide)
  have hq := hB.ne h.x (by decide)
  have hr := hB.ne h.rs (by decide)
  exact ⟨ge, g, x.sc, rfl, hle, c5, hlg, ⟨n1, n2, ho, fun e => ho e.symm⟩, cc.2.2.2.2, hf, fun v =>
    ⟨⟨E, ht v⟩, h.o.setOther (fun e => ho e.symm) _ _, h.mks.setOther (fun e => hm e.symm) _ _, h.x.setOther (fun e => hq e.symm) _ _, h.rs.setOther (fun e => hr e.symm) _ _, h.lo.setCell (p := ⟨g, k * 5 + 4, none⟩) (Nat.le_trans hb hbg) _⟩⟩
theorem RjP.slen {w : World} {b ob mb qb : Nat} {A : Option Addr} {n c : Nat} {A' : Option Addr} {m c' : Nat} {A2 : Option Addr} {l cq : Nat} {C : List Cr} {S : List Int} {P : List EvP} {q : Nat} {mg : List Bool} {u2 : Value} {wr : World}
    (h : RjP w b ob mb qb A n c A' m c' A2 l cq C S P q mg u2 wr) {i : Nat} {y : EvP} (hy : P[i]? = some y) :
    ∃ ge sa sc, A2 = some ⟨ge, 0, none⟩ ∧ ge < wr.heap.size ∧ wr.cell? ⟨ge, i * 6 + 5, none⟩ = some (.slice sa y.L.length sc) := by
  obtain ⟨E, hE⟩ := h.pc
  obtain ⟨ge, x, e, hl, _, c5⟩ := hE.slen hy
  exact ⟨ge, x.sa, x.sc, e, hl, c5⟩
theorem RjP.mark {w : World} {b ob mb qb : Nat} {A : Option Addr} {n c : Nat} {A' : Option Addr} {m c' : Nat} {A2 : Option Addr} {l cq : Nat} {C : List Cr} {S : List Int} {P : List EvP} {q : Nat} {mg : List Bool} {u2 : Value} {wr : World}
    (h : RjP w b ob mb qb A n c A' m c' A2 l cq C S P q mg u2 wr) {k : Nat} (hm : mg.length = q) (hk : k < q) : mb < wr.heap.size ∧ wr.cell? ⟨mb, k, none⟩ = some (.bool (mg.getD k false)) := by
  refine ⟨h.mks.lt, ?_⟩
  have := h.mks.cell k
  rw [this]
  simpa using mgL_at hm hk
/-- Behind the first loop. -/
theorem RjO.toP {w W5 : World} {b ob mb qb : Nat} {A : Option Addr} {n c : Nat} {A' : Option Addr} {m c' : Nat} {v : Value} {E : List EvT} {q : Nat} {Q : List EvP} {X : List EvT} {mg : List Bool} {W : World} {B2 : Option Addr} {q1 d2 : Nat} {C : List Cr} {S : List Int} {G : List EvP} {co cm : Array Value}
    (h : RjO W5 b ob mb (.slice A n c) (.slice A' m c') v E q Q X mg W) (hO : PcOE W5 b A n c A' m c' B2 q1 d2 C S G E) (h0 : Blk W5 ob 28 co) (h1 : Blk W5 mb 4 cm) (hb5 : b ≤ W5.heap.size) {u2 : Value} (hx : Blk W5 qb 28 #[.slice A n c, .slice A' m c', u2]) (hqo : qb ≠ ob)
    (hr : Blk W5 (w.heap.size + 1) 28 #[.slice none 0 0, .slice none 0 0, .slice none 0 0]) (hro : w.heap.size + 1 ≠ ob) (hlo : Below w.heap.size w W5) (hwo : w.heap.size ≤ ob) (hwm : w.heap.size ≤ mb) :
    ∃ A2 cq, v = .slice A2 Q.length cq ∧ RjP w b ob mb qb A n c A' m c' A2 Q.length cq C S Q q mg u2 W := by
  have hkk : ∀ g : Nat, g < W5.heap.size → g ≠ ob → g ≠ mb → W.heap[g]? = W5.heap[g]? := fun g h1 h2 h3 => h.kx.block g h1 (fun e => by rcases e with e | e <;> omega)
  have hkb : ∀ (g : Nat) (T : TypeId) (cs : Array Value), T ≠ 28 → T ≠ 4 → Blk W5 g T cs → Blk W g T cs := fun g T cs h2 h3 hB => (hkk g hB.lt (hB.ne h0 h2) (hB.ne h1 h3)).trans hB
  obtain ⟨A2, cq, rfl⟩ := own_slice h.row
  refine ⟨A2, cq, rfl, ⟨X, ⟨hO.o3.crs.blk (fun g cs h2 => hkb g _ cs (by decide) (by decide) h2), hO.o3.stp.blk (fun g cs h2 => hkb g _ cs (by decide) (by decide) h2), hO.o3.hn, hO.o3.hm, rfl⟩, h.xl, h.cp.blk (fun g cs h2 => hkb g _ cs (by decide) (by decide) h2), (Ow.of_own h.row).more hb5, h.dst⟩, h.o, h.m, (hkk qb hx.lt hqo (hx.ne h1 (by decide))).trans hx, (hkk _ hr.lt hro (hr.ne h1 (by decide))).trans hr, hlo.trans ?_⟩
  exact ⟨h.kx.os, h.kx.tape, h.kx.output, h.kx.size, fun k hk => h.kx.block k (Nat.lt_of_lt_of_le hk hlo.size) (fun e => by rcases e with e | e <;> omega)⟩

end Go.Proofs.YtjobablfojnppaaDoor
