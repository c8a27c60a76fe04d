/- Pieces: Break's loop: the lists, and what it keeps. -/
import Derived.Test.YtdhjigaocamglaaDoorQdBk2
import Derived.Test.YtdhjigaocamglaaDoorQdBk3
import Derived.Test.YtdhjigaocamglaaDoorQdRfS
namespace Go.Proofs.YtdhjigaocamglaaDoor
open Go Go.RowKit

attribute [local go_sem] Oper.semAt_some

set_option maxRecDepth 100000 in
set_option maxHeartbeats 4000000 in
theorem times_nilS (n : Nat) (Bp : Nat) (A2 : Option Addr) (cE : Nat) (keep : Nat → Prop) (w : World) (hBp : Bp < w.heap.size) (sb : Nat) (hc : w.cell? ⟨Bp, 2, none⟩ = some (.slice A2 0 cE)) :
    IterS Fence.wide n Tryd.prog 68 #[.pointer (some ⟨Bp, 0, none⟩)] (fun x : Tm => #[tmV x]) keep sb 48 [] w := fun l J Jx W hW hlow hJ hJx hY h0 => by
  have hc' : W.cell? ⟨Bp, 2, none⟩ = some (.slice A2 0 cE) := cell_same (hlow.block Bp hBp) hc
  have hc2 : ∀ o, (W.alloc o).cell? ⟨Bp, 2, none⟩ = some (.slice A2 0 cE) := fun o => cell_same ((ba W o).block Bp (by have := hlow.size; omega)) hc'
  refine callsIn_of_wp Tryd.func68 rfl trivial ?_ rfl
  simp only [Tryd.ntmps68, List.size_toArray, List.length_cons, List.length_nil, Nat.reduceAdd, Nat.reduceSub, Array.replicate_succ, Array.replicate_zero, List.push_toArray, List.append_toArray, List.nil_append, List.cons_append]
  gi_wp2
  gi_loopw [4, 11] (fun f i wr => i = .int .i64 0 ∧ f = .int .i64 0 ∧ J [] wr) (fun _ _ _ => 0)
  case atStart => exact ⟨rfl, rfl, hJ.low _ _ _ h0 (ba W _)⟩
  case round =>
    obtain ⟨rfl, rfl, hJp⟩ := hrel
    gi_wp2
    go_end0
    exact ⟨⟨_, rfl⟩, .inl hJp⟩
theorem times_anyS (n : Nat) (hn : 1 ≤ n) (Bp : Nat) (A2 : Option Addr) (q cE : Nat) (E : List EvT) (hE : q = E.length) (hlim : q ≤ 1000000) (keep : Nat → Prop) (w : World) (hBp : Bp < w.heap.size) (kBp : keep Bp)
    (sb : Nat) (hsb : w.heap.size ≤ sb) (ksb : keep sb) (hc : w.cell? ⟨Bp, 2, none⟩ = some (.slice A2 q cE))
    (hA : 0 < q → ∃ eb off, A2 = some ⟨eb, off, none⟩ ∧ eb < w.heap.size ∧ keep eb ∧ ∀ (k : Nat) (x : EvT), E[k]? = some x → EvAt w eb off k x) :
    IterS Fence.wide n Tryd.prog 68 #[.pointer (some ⟨Bp, 0, none⟩)] (fun x : Tm => #[tmV x]) keep sb 48 (tmL E 0 0 false false 0) w := by
  by_cases h0 : q = 0
  · subst h0
    obtain rfl : E = [] := List.length_eq_zero_iff.1 hE.symm
    exact times_nilS n Bp A2 cE keep w hBp sb hc
  · obtain ⟨eb, off, rfl, e1, e2, e3⟩ := hA (by omega)
    exact times_iterS n hn Bp eb off q cE E hE hlim keep w hBp e1 kBp e2 sb hsb ksb hc e3

theorem brGo_app (bar : Int) : ∀ (X Y : List TmP) (a : BrS), brGo bar (X ++ Y) a = (brGo bar X a).bind fun b => brGo bar Y b
  | [], _, _ => rfl
  | p :: X, Y, a => by
    simp only [List.cons_append, brGo]
    cases brF bar p with
    | none => rfl
    | some l => exact brGo_app bar X Y _
theorem brGo_snoc {bar : Int} {X : List TmP} {p : TmP} {a b : BrS} (h : brGo bar X a = some b) : brGo bar (X ++ [p]) a = match brF bar p with | none => none | some l => some ⟨b.ev ++ l, b.bc ++ [(b.ev.length : Int)]⟩ := by
  rw [brGo_app, h]
  show brGo bar [p] b = _
  simp only [brGo]
  cases brF bar p <;> rfl
/-- What the lists say. -/
structure BrOk (k : Nat) (T : Int) (a : BrS) : Prop where
  bl : a.bc.length = k
  el : 4 * (a.ev.length : Int) ≤ T
  be : ∀ x ∈ a.bc, 0 ≤ x ∧ x < a.ev.length
  eL : ∀ y ∈ a.ev, y.L = []
theorem tm_okB : ∀ (P : List EvP) (n : Nat) (v : Int) (d t : Bool) (fm : Int), SgR P → (okB v d t = true ∨ ∀ y, P.head? = some y → wrB y.v y.d y.t = true) → ∀ p ∈ tmPL P n v d t fm, okB p.v p.d p.t = true
  | [], _, _, _, _, _, _, _, p, h => by simp [tmPL] at h
  | y :: r, n, v, d, t, fm, hS, h0, p, h => by
    obtain ⟨s1, s2⟩ := hS y (List.mem_cons_self ..)
    have hr : SgR r := fun z hz => hS z (List.mem_cons_of_mem _ hz)
    unfold tmPL at h
    cases hw : wrB y.v y.d y.t with
    | true =>
      rw [if_pos hw] at h
      have hok : okB y.v y.d y.t = true := s2 (fun e => by rw [hw, e] at s1; simp at s1)
      rcases List.mem_cons.1 h with rfl | h
      · exact hok
      · exact tm_okB r _ _ _ _ _ hr (.inl hok) p h
    | false =>
      rw [if_neg (by rw [hw]; simp)] at h
      have hok : okB v d t = true := by
        rcases h0 with h0 | h0
        · exact h0
        · have := h0 y rfl
          rw [hw] at this
          cases this
      rcases List.mem_cons.1 h with rfl | h
      · exact hok
      · exact tm_okB r _ _ _ _ _ hr (.inl hok) p h
theorem brS_L (tie : Bool) (bar : Int) : ∀ (l : List Sg) (fm : Int), ∀ y ∈ brS tie bar fm l, y.L = []
  | [], _, y, h => by simp [brS] at h
  | s :: r, fm, y, h => by
    rcases List.mem_cons.1 h with rfl | h
    · rfl
    · exact brS_L tie bar r _ y h
theorem tie1_L {b : Bool} {l : List EvP} (h : ∀ y ∈ l, y.L = []) : ∀ y ∈ tie1 b l, y.L = [] := by
  cases l with
  | nil => exact h
  | cons x r =>
    intro y hy
    rcases List.mem_cons.1 hy with rfl | hy
    · exact h x (List.mem_cons_self ..)
    · exact h y (List.mem_cons_of_mem _ hy)
theorem brF_len {bar : Int} {p : TmP} {l : List EvP} (hb : 1 ≤ bar) (hf : p.fm < p.to) (h : brF bar p = some l) : 0 < l.length ∧ 4 * (l.length : Int) ≤ p.to - p.fm ∧ ∀ y ∈ l, y.L = [] := by
  unfold brF at h
  obtain ⟨S, hS, rfl⟩ := Option.map_eq_some_iff.1 h
  obtain ⟨h1, h2⟩ := sgAll_sum _ bar p.fm p.to S hb rfl (by omega) hS
  have h3 := tkSum_len (S := S) (fun s hs => (h2 s hs).2.1)
  rw [tie1_len, brS_len]
  refine ⟨?_, by omega, tie1_L (brS_L _ _ _ _)⟩
  rcases Nat.eq_zero_or_pos S.length with h0 | h0
  · rw [List.length_eq_zero_iff] at h0
    rw [h0] at h1
    simp [tkSum] at h1
    omega
  · exact h0
theorem br_ok {bar : Int} (hb : 1 ≤ bar) : ∀ (P : List EvP) (n : Nat) (v : Int) (d t : Bool) (fm : Int) (k0 : Nat) (a a' : BrS) (k : Nat), (∀ p ∈ tmPL P n v d t fm, okB p.v p.d p.t = true) → BrOk k0 fm a → k ≤ P.length →
    brGo bar ((tmPL P n v d t fm).take k) a = some a' → ∃ T, BrOk (k0 + k) T a' ∧ (∀ p, (tmPL P n v d t fm)[k]? = some p → p.fm = T) ∧ T ≤ fm + 576 * k
  | [], _, _, _, _, fm, k0, a, a', 0, _, ha, _, h => by
    injection h with h
    subst h
    exact ⟨fm, ha, fun p hp => by simp [tmPL] at hp, by omega⟩
  | [], _, _, _, _, _, _, _, _, k + 1, _, _, hk, _ => by simp at hk
  | y :: r, n, v, d, t, fm, k0, a, a', 0, _, ha, _, h => by
    injection h with h
    subst h
    refine ⟨fm, ha, fun p hp => ?_, by omega⟩
    unfold tmPL at hp
    split at hp
    all_goals
      simp at hp
      subst hp
      rfl
  | y :: r, n, v, d, t, fm, k0, a, a', k + 1, hok, ha, hk, h => by
    have key : ∀ (v' : Int) (d' t' : Bool), tmPL (y :: r) n v d t fm = ⟨n, y, v', d', t', fm, fm + tkV v' d' t'⟩ :: tmPL r (n + 1) v' d' t' (fm + tkV v' d' t') →
        ∃ T, BrOk (k0 + (k + 1)) T a' ∧ (∀ p, (tmPL (y :: r) n v d t fm)[k + 1]? = some p → p.fm = T) ∧ T ≤ fm + 576 * ((k + 1 : Nat) : Int) := fun v' d' t' he => by
      rw [he] at h hok ⊢
      rw [List.take_succ_cons] at h
      simp only [brGo] at h
      have ho := hok _ (List.mem_cons_self ..)
      obtain ⟨i, hi, hq⟩ := sgn_idx ho
      have hb4 : 4 ≤ tkV v' d' t' ∧ tkV v' d' t' ≤ 576 := by
        have h4 := tks_four hi
        have e1 : v' = (soQ i).v := by rw [hq]
        have e2 : d' = (soQ i).d := by rw [hq]
        have e3 : t' = (soQ i).t := by rw [hq]
        rw [e1, e2, e3]
        exact h4
      cases hf : brF bar ⟨n, y, v', d', t', fm, fm + tkV v' d' t'⟩ with
      | none => rw [hf] at h; cases h
      | some l =>
        rw [hf] at h
        obtain ⟨l1, l2, l3⟩ := brF_len hb (show fm < fm + tkV v' d' t' by omega) hf
        have hstep : BrOk (k0 + 1) (fm + tkV v' d' t') ⟨a.ev ++ l, a.bc ++ [(a.ev.length : Int)]⟩ := by
          refine ⟨by simp [ha.bl], ?_, fun x hx => ?_, fun z hz => ?_⟩
          · have := ha.el
            simp only [List.length_append]
            push_cast
            dsimp only at l2
            omega
          · simp only [List.length_append]
            rcases List.mem_append.1 hx with hx | hx
            · have := ha.be x hx
              push_cast
              omega
            · obtain rfl : x = _ := by simpa using hx
              push_cast
              omega
          · rcases List.mem_append.1 hz with hz | hz
            · exact ha.eL z hz
            · exact l3 z hz
        obtain ⟨T, t1, t2, t3⟩ := br_ok hb r (n + 1) v' d' t' (fm + tkV v' d' t') (k0 + 1) _ a' k (fun p hp => hok p (List.mem_cons_of_mem _ hp)) hstep (by simpa using hk) h
        refine ⟨T, by rw [show k0 + (k + 1) = k0 + 1 + k by omega]; exact t1, fun p hp => t2 p (by simpa using hp), by push_cast; omega⟩
    cases hw : wrB y.v y.d y.t with
    | true => exact key y.v y.d y.t (by rw [tmPL, if_pos hw])
    | false => exact key v d t (by rw [tmPL, if_neg (by rw [hw]; simp)])
/-- Several events more. -/
theorem JnO.events {W5 : World} {qb rb cb sb : Nat} {u0 u1 v bv : Value} {ev : List EvP} {bc : List Int} {cur : Int} {W w6 : World} {v' : Value} (h : JnO W5 qb rb cb sb u0 u1 v bv ev bc cur W) (L : List EvP)
    (hown : w6.ownsRow W5.heap.size 51 6 v' (ev.length + L.length) (evC (ev.map zT) ++ evC (L.map zT))) (hg : W.grownBy w6 v.ownBlock) {scs : Array Value} {sf : Nat × Nat} (hsb : W.heap[sb]? = some (.cells scs 48 sf))
    (hq : qb < W5.heap.size) (n1 : rb ≠ qb) (n2 : cb ≠ qb) :
    Blk w6 qb 28 #[u0, u1, v] ∧ w6.heap[sb]? = some (.cells scs 48 sf) ∧ (∀ g T cs, T ≠ 51 → Blk W g T cs → Blk w6 g T cs) ∧ JnO W5 qb rb cb sb u0 u1 v' bv (ev ++ L) bc cur (w6.setCell ⟨qb, 2, none⟩ v') := by
  have hk : ∀ (g : Nat) (T : TypeId) (cs : Array Value), T ≠ 51 → Blk W g T cs → Blk w6 g T cs := fun g T cs hT hB => hB.grown hg (blk_apart hB h.row hT)
  have q6 := hk _ _ _ (by decide) h.q
  have c6 := hk _ _ _ (by decide) h.c
  have r6 := hk _ _ _ (by decide) h.r
  have hz := h.kx.size
  have hs6 : w6.heap[sb]? = some (.cells scs 48 sf) := (hg.block sb (Array.getElem?_eq_some_iff.1 hsb).1 (fun e => h.ns e.symm)).trans hsb
  refine ⟨q6, hs6, hk, ?_, ?_, r6.setOther n1 _ _, ?_, c6.setOther n2 _ _, row_ne hown hs6 (by decide), h.nb, ?_⟩
  · have := q6.set_ 2 v'
    simpa using this
  · rw [List.length_append, List.map_append, evC_append]
    exact ownsRow_heap hown (fun g2 hg2 => set_other _ _ _ _ _ (fun e => by have := (hown.lt g2 hg2).1; omega))
  · refine ownsRow_heap (W := w6) ?_ (fun g2 hg2 => set_other _ _ _ _ _ (fun e => by have := (h.brow.lt g2 hg2).1; omega))
    refine ⟨h.brow.1, ?_⟩
    rcases h.brow.2 with h2 | ⟨g, cap, cur, e1, e2, e3, e4⟩
    · exact .inl h2
    · exact .inr ⟨g, cap, cur, e1, e2, hk g _ _ (by decide) e3, e4⟩
  · have k1 := h.kx.grown hg hz (fun k hk => (h.row.lt k hk).1) (row_cells h.row)
    exact k1.setBlk (.inr (.inl rfl)) q6 _ _
/-- The loop's relation. -/
def BkI (W5 : World) (qb rb cb sb : Nat) (u0 u1 : Value) (bar : Int) (X : List TmP) (pre : List Tm) (W : World) : Prop :=
  ∃ v bv a, brGo bar (X.take pre.length) ⟨[], []⟩ = some a ∧ JnO W5 qb rb cb sb u0 u1 v bv a.ev a.bc bar W
theorem jnO_put {W5 : World} {qb rb cb sb : Nat} {u0 u1 v bv : Value} {ev : List EvP} {bc : List Int} {cur : Int} (hs : W5.heap.size ≤ sb) (hq : qb < W5.heap.size) (hr : rb < W5.heap.size) (hc : cb < W5.heap.size) {W : World} (h : JnO W5 qb rb cb sb u0 u1 v bv ev bc cur W) (a : Addr) (u : Value) (hb : a.block = sb) : JnO W5 qb rb cb sb u0 u1 v bv ev bc cur (W.setCell a u) := by
  obtain ⟨b, o, sp⟩ := a
  dsimp only at hb
  have hz1 : Kx (fun k => k = qb ∨ k = rb ∨ k = cb) W5.heap.size W (W.setCell ⟨b, o, sp⟩ u) := by
    refine ⟨rfl, rfl, rfl, by simp, fun k hk hn => Below.heap_setCell _ _ _ _ (show k ≠ b by omega), fun k o' hk ho => ?_⟩
    by_cases hkb : k = b
    · subst hkb
      cases o' with
      | cells cs T f => cases ho
      | _ => simp [World.setCell, Array.getElem?_modify, hk]
    · exact (Below.heap_setCell _ _ _ _ hkb).trans hk
  exact h.same hz1 (fun k cs T hk h2 => (Below.heap_setCell W ⟨b, o, sp⟩ u k (show k ≠ b by omega)).trans h2) hs hq hr hc
theorem bkI_bx {W5 : World} {qb rb cb sb : Nat} {u0 u1 : Value} {bar : Int} {X : List TmP} (hs : W5.heap.size ≤ sb) (hq : qb < W5.heap.size) (hr : rb < W5.heap.size) (hc : cb < W5.heap.size) : Bx sb (BkI W5 qb rb cb sb u0 u1 bar X) := by
  constructor
  · rintro s W W' ⟨v, bv, a, ha, h⟩ hW
    exact ⟨v, bv, a, ha, h.below hW hs hq hr hc⟩
  · rintro s W ad u ⟨v, bv, a, ha, h⟩ hb
    exact ⟨v, bv, a, ha, jnO_put hs hq hr hc h ad u hb⟩
theorem bkI_put {W5 : World} {qb rb cb sb : Nat} {u0 u1 : Value} {bar : Int} {X : List TmP} (s : List Tm) (W : World) (l : Nat) (o o' : Obj) (h : BkI W5 qb rb cb sb u0 u1 bar X s W) (hl : W.heap[l]? = some o) (ho : o.isCells = false) (hll : W5.heap.size ≤ l) : BkI W5 qb rb cb sb u0 u1 bar X s (W.putObj l o') := by
  have hne : ∀ (k : Nat) (c : Array Value) (T : TypeId) (f : Nat × Nat), W.heap[k]? = some (.cells c T f) → k ≠ l := fun k c T f hk e => by
    rw [e, hl] at hk
    injection hk with hk
    rw [hk] at ho
    cases ho
  obtain ⟨v, bv, a, ha, h⟩ := h
  have hb : Below W5.heap.size W (W.putObj l o') := (Below.refl _ _).grown (grownBy_putObj' W l o') h.kx.size (fun k e => by cases e; exact hll)
  have hB : ∀ (k : Nat) (T : TypeId) (cs : Array Value), Blk W k T cs → Blk (W.putObj l o') k T cs := fun k T cs hk => (World.putObj_heap_other (hne _ _ _ _ hk)).trans hk
  refine ⟨v, bv, a, ha, hB _ _ _ h.q, ownsRow_putObj h.row _ hl ho, hB _ _ _ h.r, ownsRow_putObj h.brow _ hl ho, hB _ _ _ h.c, h.ns, h.nb, ?_⟩
  refine ⟨hb.os.trans h.kx.os, hb.tape.trans h.kx.tape, hb.output.trans h.kx.output, Nat.le_trans h.kx.size hb.size, fun k hk hn => (hb.block k hk).trans (h.kx.block k hk hn), fun k o2 hk ho2 => ?_⟩
  exact (hb.block k (Array.getElem?_eq_some_iff.1 hk).1).trans (h.kx.oth k o2 hk ho2)
/-- Where the loop has been left. -/
structure BkX (w : World) (b : Int) (X : List TmP) (pre : List Tm) (W : World) : Prop where
  no : brGo b (X.take pre.length) ⟨[], []⟩ = none
  r0 : Blk W (w.heap.size + 2) 28 #[.slice none 0 0, .slice none 0 0, .slice none 0 0]
  r1 : Blk W (w.heap.size + 3) 32 #[.int .i64 25]
  lo : Below w.heap.size w W
theorem bkX_low {w : World} {b : Int} {X : List TmP} (s : List Tm) (W W' : World) (h : BkX w b X s W) (hb : Below W.heap.size W W') : BkX w b X s W' := ⟨h.no, h.r0.below hb, h.r1.below hb, bt h.lo hb⟩
theorem bkX_put {w : World} {b : Int} {X : List TmP} (s : List Tm) (W : World) (l : Nat) (o o' : Obj) (h : BkX w b X s W) (hl : W.heap[l]? = some o) (ho : o.isCells = false) (hll : w.heap.size ≤ l) : BkX w b X s (W.putObj l o') :=
  ⟨h.no, blk_put h.r0 hl ho, blk_put h.r1 hl ho, h.lo.grown (grownBy_putObj' W l o') h.lo.size (fun k e => by cases e; exact hll)⟩
/-- What Break hands back. -/
def brAll (bar : Int) (P : List EvP) : Option BrS := brGo bar (tpL P) ⟨[], []⟩
def brRes (bar : Int) (P : List EvP) : List EvP := match brAll bar P with
  | none => []
  | some a => mvL a.bc P P.length a.ev
def brErr (X bar : Int) (P : List EvP) : Int := if X ≠ 0 then X else if bar < 1 ∨ 4608 < bar then 1 else match brAll bar P with
  | none => 25
  | some a => if 400 < a.ev.length then 2 else if (mvL a.bc P P.length a.ev).any htE then 24 else 0

end Go.Proofs.YtdhjigaocamglaaDoor
