/- Pieces: Onsets, for any piece. -/
import Derived.Test.YtdhjigaocamglaaDoorQaPcMeas2
import Derived.StillTail
import Derived.StillTailTactics
import Derived.OrdersHeld
import Derived.OrdersIn
import Derived.ControlIn
import Derived.RangeFuncBox
import Derived.Maps.AppendAt
import Derived.Laws.OwnMore
namespace Go.Proofs.YtdhjigaocamglaaDoor
open Go Go.RowKit
attribute [local go_sem] Oper.semAt_some

theorem cell_one_pq (w1 : World) (u u2 : Value) (A : Option Addr) (n c : Nat) (A' : Option Addr) (m c' : Nat) (A2 : Option Addr) (nE cE : Nat) : (((w1.alloc (.cells #[u] 3)).alloc (.cells #[u2] 23)).alloc (.cells #[.slice A n c, .slice A' m c', .slice A2 nE cE] 28)).cell? ⟨w1.heap.size + 1 + 1, 2, none⟩ = some (.slice A2 nE cE) := by
  have := (keepb (Below.refl (((w1.alloc (.cells #[u] 3)).alloc (.cells #[u2] 23)).alloc (.cells #[.slice A n c, .slice A' m c', .slice A2 nE cE] 28)).heap.size _) 2).1
  simpa using this

set_option maxRecDepth 100000 in
set_option maxHeartbeats 1000000 in
theorem onsets_fine (A : Option Addr) (n c : Nat) (A' : Option Addr) (m c' : Nat) (A2 : Option Addr) (nE cE : Nat) (E : List EvT) (hE : nE = E.length) (hlim : nE ≤ 1000000) (w : World) (hev : 0 < nE → ∃ eb off, A2 = some ⟨eb, off, none⟩ ∧ eb < w.heap.size ∧ ∀ (k : Nat) (x : EvT), E[k]? = some x → EvAt w eb off k x)
    (HCK : Hid (∀ o, Calls Tryd.prog 35 #[.agg #[.slice A n c, .slice A' m c', .slice A2 nE cE]] (w.alloc o) fun e w' => e = .returned (.int .i64 0) ∧ Below (w.alloc o).heap.size (w.alloc o) w')) :
    Calls Tryd.prog 25 #[.agg #[.slice A n c, .slice A' m c', .slice A2 nE cE]] w fun e w' => ∃ v, e = .returned (.tuple #[v, .int .i64 0]) ∧ w'.ownsRow w.heap.size 3 1 v (nE + 1) (.int .i64 0 :: (tmL E 0 0 false false 0).map fun x => .int .i64 x.to) ∧ Below w.heap.size w w' := by
  have HE := Lib.hid hE
  clear hE
  refine (callsIn_wide (n := 3)).1 ?_
  refine callsIn_of_wp_marks Tryd.func25 rfl trivial ?_ rfl
  simp only [Tryd.ntmps25, List.size_toArray, List.length_cons, List.length_nil, Nat.reduceAdd, Nat.reduceSub, Array.replicate_succ, Array.replicate_zero, List.push_toArray, List.append_toArray, List.nil_append, List.cons_append]
  gi_wp2_with (first | (refine ⟨trivial, ?_⟩; gi_at_call 35; refine (callsIn_wide.2 (HCK.out _)).mono ?_; rintro e w1 ⟨rfl, hb1⟩; have hb2 := bt hb1 (bt (ba w1 (.cells #[.int .i64 0] 3)) (ba _ (.cells #[.slice (some ⟨w1.heap.size, 0, none⟩) 1 1] 23))); have k0 := (keepb hb2 0).1; have k1 := (keepb hb2 1).1; have k2 := (keepb hb2 2).1; simp at k0 k1 k2) | (refine ⟨trivial, ?_⟩; gi_at_call 45; refine (callsIn_wide.2 (withTimes_any _ _ _ _ _ _ _ _ _ _)).mono ?_; rintro e w2 ⟨rfl, rfl⟩))
  have hc := cell_one_pq w1 (.int .i64 0) (.slice (some ⟨w1.heap.size, 0, none⟩) 1 1) A n c A' m c' A2 nE cE
  have bB : (((w1.alloc (.cells #[.int .i64 0] 3)).alloc (.cells #[.slice (some ⟨w1.heap.size, 0, none⟩) 1 1] 23)).alloc (.cells #[.slice A n c, .slice A' m c', .slice A2 nE cE] 28)).heap[w1.heap.size + 1 + 1]? = some (.cells #[.slice A n c, .slice A' m c', .slice A2 nE cE] 28 (0, 0)) := by
    have := World.alloc_heap_new ((w1.alloc (.cells #[.int .i64 0] 3)).alloc (.cells #[.slice (some ⟨w1.heap.size, 0, none⟩) 1 1] 23)) (.cells #[.slice A n c, .slice A' m c', .slice A2 nE cE] 28)
    rwa [World.size_alloc, World.size_alloc] at this
  have bO := (Boxed.new (w1.alloc (.cells #[.int .i64 0] 3)) 23 (.slice (some ⟨w1.heap.size, 0, none⟩) 1 1)).alloc (.cells #[.slice A n c, .slice A' m c', .slice A2 nE cE] 28)
  rw [World.size_alloc] at bO
  have own0 := own_below (World.ownsRow_lit (base := w1.heap.size) (e := 3) (size := 1) w1 #[.int .i64 0] 1 (Nat.le_refl _) (by decide) rfl) (bt (ba _ (.cells #[.slice (some ⟨w1.heap.size, 0, none⟩) 1 1] 23)) (ba _ (.cells #[.slice A n c, .slice A' m c', .slice A2 nE cE] 28)))
  have low5 := bx (bt hb2 (ba _ (.cells #[.slice A n c, .slice A' m c', .slice A2 nE cE] 28)))
  have hz1 : w.heap.size < w1.heap.size := by
    have := hb1.size
    simp at this
    omega
  have hz5 : (((w1.alloc (.cells #[.int .i64 0] 3)).alloc (.cells #[.slice (some ⟨w1.heap.size, 0, none⟩) 1 1] 23)).alloc (.cells #[.slice A n c, .slice A' m c', .slice A2 nE cE] 28)).heap.size = w1.heap.size + 3 := by simp
  obtain ⟨W5, hW5⟩ : ∃ W5, ((w1.alloc (.cells #[.int .i64 0] 3)).alloc (.cells #[.slice (some ⟨w1.heap.size, 0, none⟩) 1 1] 23)).alloc (.cells #[.slice A n c, .slice A' m c', .slice A2 nE cE] 28) = W5 := ⟨_, rfl⟩
  rw [hW5] at hc bB bO own0 low5 hz5 ⊢
  clear hW5 k0 k1 k2
  obtain ⟨i0, hi, hi0, hi1, hi2⟩ := info_parts (show (Tryd.prog.info? 3).map (fun i => (i.zero, i.size, i.bytes)) = some (some (.int .i64 0), 1, 8) by kernel_rfl)
  have hlenE : (tmL E 0 0 false false 0).length = nE := (tmL_len _ _ _ _ _ _).trans HE.out.symm
  refine rfBox (F := Fence.wide) (n := 3) rfl (by omega) (gf := 68) (lb := #[.pointer (some ⟨w1.heap.size + 1 + 1, 0, none⟩)]) rfl trivial (enters_of Tryd.func68 (by kernel_rfl) rfl)
    (encs := fun x : Tm => #[tmV x]) (keep := fun k => k < w1.heap.size ∨ k = w1.heap.size + 1 + 1 ∨ k = W5.heap.size + 2) (T := 48) (tmL E 0 0 false false 0)
    (times_any _ (by omega) (w1.heap.size + 1 + 1) A2 nE cE E HE.out hlim _ W5 (by omega) (.inr (.inl rfl)) (W5.heap.size + 2) (by omega) (.inr (.inr rfl)) hc (fun h0 => by obtain ⟨eb, off, e1, e2, e3⟩ := hev h0; exact ⟨eb, off, e1, Nat.lt_of_lt_of_le e2 low5.size, .inl (by omega), fun k x hk => EvAt.same (low5.block eb e2) (e3 k x hk)⟩))
    (by omega) (fun _ => rfl) (OnI w w1.heap.size (w1.heap.size + 1) (w1.heap.size + 1 + 1) (W5.heap.size + 2)) (onI_bx (by omega) (by omega) (by omega)) (fun s W l o o' h hl ho hw => onI_put s W l o o' h hl ho (by omega))
    ⟨⟨_, bO, own0, by simp [Value.ownBlock]; omega⟩, ⟨_, _, bB⟩, low5⟩
    (fun x a' W => ∃ bq, a' = { tmps := #[.agg #[.slice A n c, .slice A' m c', .slice A2 nE cE], .pointer (some ⟨w.heap.size, 0, none⟩), .slice none 0 0, .int .i64 0, .int .i64 0, .pointer (some ⟨w1.heap.size + 1, 0, none⟩), .pointer (some ⟨bq, 0, none⟩), .agg #[.slice A n c, .slice A' m c', .slice A2 nE cE], .int .i64 0, .int .i64 0, .bool false, undef, .slice (some ⟨w1.heap.size, 0, none⟩) 1 1, .agg #[.slice A n c, .slice A' m c', .slice A2 nE cE], .func (.func 68) #[] #[.pointer (some ⟨w1.heap.size + 1 + 1, 0, none⟩)], tmV x, undef, undef, undef, undef, undef, undef], defers := [] } ∧ W.cell? ⟨bq, 11, none⟩ = some (.int .i64 x.to))
    (fun x a' W l o o' ⟨bq, h, hq⟩ hl ho => ⟨bq, h, cell_kept hq (grownBy_putObj' W l o') (fun r e => by cases e; exact ⟨o, hl, ho⟩)⟩) ?assign ?body ?done
  case assign =>
    intro l x W K hK
    gi_wp2
    exact hK _ _ (ba W _) ⟨W.heap.size, rfl, by simp⟩
  case body =>
    rintro l pre x a' W ⟨⟨v, hv, hrow, hns⟩, ⟨cs, f, hB⟩, hlow⟩ ⟨bq, rfl, hq⟩ ⟨post, hpost⟩ ⟨cs2, f2, hsb⟩
    have hlen : pre.length < (tmL E 0 0 false false 0).length := by rw [hpost]; simp
    have hcv := hv.cell
    have hlt := hv.lt
    have hpl : pre.length < 1000000 := by omega
    have hml : pre.length + 1 + 1 ≤ maxLen := Nat.le_trans (show pre.length + 1 + 1 ≤ 1000002 by omega) (by decide)
    gi_wp2_with (gi_at_builtin; go_loud (refine wpListIn_append_own _ rfl _ _ 23 rfl w1.heap.size 3 i0 (.int .i64 0) 1 8 Tryd.underlying23 hi hi0 hi1 hi2 rfl (by decide) _ _ _ rfl (hrow.alloc _) ⟨W.heap.size, 0, none⟩ 1 1 [.int .i64 x.to] rfl rfl (cell_one_new _ _ _) (by simp [Value.oneCell']) (by first | exact hml | omega) (by omega) (by simp; omega) ?_; intro v' w2 hown' hgrow _; obtain ⟨g', cap', rfl⟩ := ownsRow_succ hown'; obtain ⟨hv1, hv2, hr2, hk2, hb2⟩ := hv.appended (by decide) hrow (by omega) (by omega) hown' hgrow; have hc1 := hv1.cell; have hf1 := hv1.frozen))
    have eB := kept_other (ob := w1.heap.size + 1) (v' := .slice (some ⟨g', 0, none⟩) (pre.length + 1 + 1) cap') hrow hgrow (by omega) hB (by decide)
    have eS := kept_other (ob := w1.heap.size + 1) (v' := .slice (some ⟨g', 0, none⟩) (pre.length + 1 + 1) cap') hrow hgrow (by omega) hsb (by decide)
    have eS2 := eS.trans hsb
    rw [hz5] at eS2
    refine ⟨hk2, ?_, ⟨_, hv2, by simpa using hr2, own_ne hr2 eS2 (by decide)⟩, ⟨_, _, eB.trans hB⟩, hlow.trans (hb2.mono (by omega))⟩
    rintro k (h | rfl | rfl) hlt
    · exact hb2.block k h
    · exact eB
    · rw [hz5] at eS
      exact eS
  case done =>
    rintro D W hD ⟨⟨v, hv, hrow, hns⟩, _, hlow⟩ hK
    have hcv := hv.cell
    gi_wp2
    refine ⟨by simp, .inl ⟨_, _, rfl, run_takeDeferred hK, ?_⟩⟩
    rw [hlenE] at hrow
    refine ⟨_, results_tmp2 rfl _ _ _, v, rfl, ?_, ?_⟩
    · exact ownsRow_base (ownsRow_putObj hrow _ hK rfl) (by omega)
    · exact hlow.grown (grownBy_putObj' W D _) hlow.size (fun k e => by cases e; omega)

end Go.Proofs.YtdhjigaocamglaaDoor

/- Pieces: Onsets of both sides, for any piece. -/
namespace Go.Proofs.YtdhjigaocamglaaDoor
open Go Go.RowKit

theorem tmL_sum : ∀ (E : List EvT) (P : List EvP) (n : Nat) (v : Int) (d t : Bool) (fm : Int), E.length = P.length → (∀ (k : Nat) (x : EvT) (y : EvP), E[k]? = some x → P[k]? = some y → x.v = y.v ∧ x.d = y.d ∧ x.t = y.t ∧ wrB y.v y.d y.t = !decide (y.v = 0)) →
    (tmL E n v d t fm).map (fun x => x.to) = sumL fm (frcL ⟨v, d, t⟩ P)
  | [], [], _, _, _, _, _, _, _ => rfl
  | x :: E, y :: P, n, v, d, t, fm, hl, h => by
    obtain ⟨e1, e2, e3, e4⟩ := h 0 x y rfl rfl
    have hr : ∀ (k : Nat) (x : EvT) (y : EvP), E[k]? = some x → P[k]? = some y → x.v = y.v ∧ x.d = y.d ∧ x.t = y.t ∧ wrB y.v y.d y.t = !decide (y.v = 0) := fun k x y hx hy => h (k + 1) x y (by simpa using hx) (by simpa using hy)
    have hl' : E.length = P.length := by simpa using hl
    by_cases hv : y.v = 0
    · have hw : wrB x.v x.d x.t = false := by rw [e1, e2, e3, e4]; simp [hv]
      rw [tmL_n _ _ _ _ _ _ hw, List.map_cons, tmL_sum E P _ v d t _ hl' hr, frcL, show sgF y ⟨v, d, t⟩ = ⟨v, d, t⟩ by simp [sgF, hv], sumL]
      rfl
    · have hw : wrB x.v x.d x.t = true := by rw [e1, e2, e3, e4]; simp [hv]
      rw [tmL_w _ _ _ _ _ _ hw, List.map_cons, tmL_sum E P _ x.v x.d x.t _ hl' hr, frcL, show sgF y ⟨v, d, t⟩ = ⟨x.v, x.d, x.t⟩ by simp [sgF, hv, e1, e2, e3], sumL]
      rfl
  | [], _ :: _, _, _, _, _, _, hl, _ => by simp at hl
  | _ :: _, [], _, _, _, _, _, hl, _ => by simp at hl
/-- The onsets of a piece, with its end; none if it is not valid. -/
def onsL (C : List Cr) (S : List Int) (P : List EvP) : List Int := if pcErr C S P = 0 then 0 :: sumL 0 (frcL s0g P) else []
def OnPost (C : List Cr) (S : List Int) (P : List EvP) (w : World) (e : Ending) (w' : World) : Prop :=
  ∃ B nn d, e = .returned (.tuple #[.slice B nn d, .int .i64 (pcErr C S P)]) ∧ nn = (onsL C S P).length ∧ Sl w' w'.heap.size 1 B nn d (intC (onsL C S P)) ∧ Below w.heap.size w w'

set_option maxRecDepth 100000 in
set_option maxHeartbeats 1600000 in
theorem onsets_any (A : Option Addr) (n c : Nat) (A' : Option Addr) (m c' : Nat) (A2 : Option Addr) (q cq : Nat) (C : List Cr) (S : List Int) (P : List EvP) (w : World) (hP : PcIn w A n c A' m c' A2 q cq C S P) (hnb : n ≤ 1000000) (hmb : m ≤ 1000000) (hq : q ≤ 65536) (hst : ∀ y ∈ P, y.L.length ≤ 1000000) :
    Calls Tryd.prog 25 #[pcV A n c A' m c' A2 q cq] w (OnPost C S P w) := by
  have hq2 : q ≤ 1000000 := by omega
  obtain ⟨X, hX⟩ : ∃ X, pcErr C S P = X := ⟨_, rfl⟩
  by_cases hX0 : X = 0
  · subst hX0
    have HO : onsL C S P = 0 :: sumL 0 (frcL s0g P) := by unfold onsL; rw [if_pos hX]
    obtain ⟨E, ⟨hE1, hE2⟩, hE3⟩ := hP.es.evs
    have hsum : (tmL E 0 0 false false 0).map (fun x => x.to) = sumL 0 (frcL s0g P) := tmL_sum E P 0 0 false false 0 hE1 (fun k x y hx hy => by
      obtain ⟨⟨_, e1, e2, e3, _⟩, _⟩ := hE2 k x y hx hy
      exact ⟨e1, e2, e3, sgn_wr ((pcErr_ok hX).2.2 k y hy).1⟩)
    refine (onsets_fine A n c A' m c' A2 q cq E (by rw [hP.es.hq, hE1]) hq2 w (fun h0 => ?_) (fun o => ?_)).mono ?_
    · obtain ⟨b, off, e1, e2, e3⟩ := hE3.2.2 h0
      refine ⟨b, off, e1, e2, fun k x hx => ?_⟩
      obtain ⟨i0, i1, i2, i3, i4, i5⟩ := evC_at E k x hx
      exact ⟨e3 _ _ i0, by have := e3 _ _ i1; rwa [← Nat.add_assoc] at this, by have := e3 _ _ i2; rwa [← Nat.add_assoc] at this, by have := e3 _ _ i3; rwa [← Nat.add_assoc] at this, by have := e3 _ _ i4; rwa [← Nat.add_assoc] at this, by have := e3 _ _ i5; rwa [← Nat.add_assoc] at this⟩
    · refine (pcheck_any A n c A' m c' A2 q cq C S P _ (hP.below (ba w o)) hnb hmb hq2 hst).mono ?_
      rintro e w1 ⟨rfl, hb1⟩
      rw [hX]
      exact ⟨rfl, hb1⟩
    · rintro e w1 ⟨v, rfl, hrow, hb1⟩
      obtain ⟨B, d, rfl⟩ := own_slice hrow
      have hrow2 : w1.ownsRow w.heap.size 3 1 (.slice B (q + 1) d) (q + 1) (intC (onsL C S P)) := by
        rw [HO, ← hsum]
        simpa [intC, Function.comp_def] using hrow
      exact ⟨B, q + 1, d, by rw [hX], by rw [HO]; simp [sumL_len, frcL_len, hP.es.hq], Sl_own hrow2, hb1⟩
  · have HP : Hid (∀ w', Below w.heap.size w w' → PcIn w' A n c A' m c' A2 q cq C S P) := fun w' hb => hP.below hb
    have HST := Lib.hid hst
    have HO : Hid (onsL C S P = []) := by unfold Hid onsL; rw [if_neg (by rw [hX]; exact hX0)]
    have HX := Lib.hid hX
    have hXb : (X != 0) = true := by simpa using hX0
    clear hX hX0 hP hst
    go_enter Tryd.func25, Tryd.ntmps25
    go_wp2_with (go_at_call 35; refine (pcheck_any A n c A' m c' A2 q cq C S P _ (HP.out _ (by first | exact ba w _ | exact bt (ba w _) (ba _ _))) hnb hmb hq2 HST.out).mono ?_; rintro e w1 ⟨rfl, hb1⟩; rw [HX.out])
    go_ret2
    exact ⟨none, 0, 0, by rw [HX.out]; rfl, by rw [HO.out]; rfl, by rw [HO.out]; exact Sl.none_ _ _ _, by first | exact bx hb1 | exact bx (bx hb1)⟩

end Go.Proofs.YtdhjigaocamglaaDoor

/- Measures as plain lists. -/
namespace Go.Proofs.YtdhjigaocamglaaDoor
open Go Go.RowKit

structure Ms where
  n : Int
  e : Int
  t : Int
def zM : Ms := ⟨0, 0, 0⟩
/-- The measures, one event more. -/
def msStep (M : List Ms) (x : Tm) : List Ms :=
  if x.n = 0 ∨ x.ev.bar = true then M ++ [⟨x.n, 1, x.to - x.fm⟩] else M.dropLast ++ [⟨(M.getLastD zM).n, (M.getLastD zM).e + 1, (M.getLastD zM).t + (x.to - x.fm)⟩]
def msAll (X : List Tm) : List Ms := X.foldl msStep []
theorem msAll_snoc (X : List Tm) (x : Tm) : msAll (X ++ [x]) = msStep (msAll X) x := by simp [msAll]
theorem msStep_ne (M : List Ms) (x : Tm) : msStep M x ≠ [] := by unfold msStep; split <;> simp
theorem msAll_ne {X : List Tm} (h : X ≠ []) : msAll X ≠ [] := by
  obtain ⟨l, y, rfl⟩ : ∃ l y, X = l ++ [y] := ⟨X.dropLast, X.getLast h, (List.dropLast_concat_getLast h).symm⟩
  rw [msAll_snoc]
  exact msStep_ne _ _
def msOk (k : Nat) (M : List Ms) : Prop := M.length ≤ k ∧ ∀ s ∈ M, 0 ≤ s.e ∧ s.e ≤ k ∧ 0 ≤ s.t ∧ s.t ≤ 576 * k
theorem msStep_ok {k : Nat} {M : List Ms} {x : Tm} (h : msOk k M) (h0 : 0 ≤ x.to - x.fm) (h1 : x.to - x.fm ≤ 576) (hne : ¬ (x.n = 0 ∨ x.ev.bar = true) → M ≠ []) : msOk (k + 1) (msStep M x) := by
  unfold msStep
  by_cases hc : x.n = 0 ∨ x.ev.bar = true
  · rw [if_pos hc]
    refine ⟨by have := h.1; simp; omega, fun s hs => ?_⟩
    rcases List.mem_append.1 hs with hs | hs
    · have := h.2 s hs
      push_cast
      omega
    · simp at hs
      rw [hs]
      show (0 : Int) ≤ 1 ∧ (1 : Int) ≤ ((k + 1 : Nat) : Int) ∧ 0 ≤ x.to - x.fm ∧ x.to - x.fm ≤ 576 * ((k + 1 : Nat) : Int)
      exact ⟨by omega, by omega, h0, by omega⟩
  · rw [if_neg hc]
    have hM := hne hc
    obtain ⟨L, l, rfl⟩ : ∃ L l, M = L ++ [l] := ⟨M.dropLast, M.getLast hM, (List.dropLast_concat_getLast hM).symm⟩
    have hl := h.2 l (by simp)
    refine ⟨by have := h.1; simp at this ⊢; omega, fun s hs => ?_⟩
    rcases List.mem_append.1 hs with hs | hs
    · have := h.2 s (by simp at hs; simp [hs])
      push_cast
      omega
    · have e : (L ++ [l]).getLastD zM = l := by simp
      rw [e] at hs
      simp at hs
      rw [hs]
      show 0 ≤ l.e + 1 ∧ l.e + 1 ≤ ((k + 1 : Nat) : Int) ∧ 0 ≤ l.t + (x.to - x.fm) ∧ l.t + (x.to - x.fm) ≤ 576 * ((k + 1 : Nat) : Int)
      push_cast
      omega
/-- What an event with its times says. -/
def tmOk (k : Nat) (x : Tm) : Prop := x.n = k ∧ 0 ≤ x.fm ∧ x.fm ≤ 576 * k ∧ 0 ≤ x.to - x.fm ∧ x.to - x.fm ≤ 576
theorem tmL_ok : ∀ (E : List EvT) (n : Nat) (v : Int) (d t : Bool) (fm : Int), 0 ≤ fm → fm ≤ 576 * n → ∀ (j : Nat) (x : Tm), (tmL E n v d t fm)[j]? = some x → tmOk (n + j) x
  | [], _, _, _, _, _, _, _, j, x, h => by simp [tmL] at h
  | e :: r, n, v, d, t, fm, h0, h1, j, x, h => by
    cases hw : wrB e.v e.d e.t with
    | true =>
      rw [tmL_w _ _ _ _ _ _ hw] at h
      have hb := tkV_bd e.v e.d e.t
      cases j with
      | zero =>
        simp at h
        subst h
        exact ⟨rfl, h0, h1, by dsimp only; omega, by dsimp only; omega⟩
      | succ j =>
        have := tmL_ok r (n + 1) e.v e.d e.t (fm + tkV e.v e.d e.t) (by omega) (by push_cast; omega) j x (by simpa using h)
        rwa [show n + (j + 1) = n + 1 + j by omega]
    | false =>
      rw [tmL_n _ _ _ _ _ _ hw] at h
      have hb := tkV_bd v d t
      cases j with
      | zero =>
        simp at h
        subst h
        exact ⟨rfl, h0, h1, by dsimp only; omega, by dsimp only; omega⟩
      | succ j =>
        have := tmL_ok r (n + 1) v d t (fm + tkV v d t) (by omega) (by push_cast; omega) j x (by simpa using h)
        rwa [show n + (j + 1) = n + 1 + j by omega]
theorem msAll_ok : ∀ (k : Nat) (X : List Tm), X.length = k → (∀ (j : Nat) (x : Tm), X[j]? = some x → tmOk j x) → msOk k (msAll X)
  | 0, X, hk, _ => by
    obtain rfl : X = [] := List.length_eq_zero_iff.1 hk
    exact ⟨Nat.le_refl _, fun s hs => by simp [msAll] at hs⟩
  | k + 1, X, hk, h => by
    obtain ⟨l, y, rfl⟩ : ∃ l y, X = l ++ [y] := ⟨X.dropLast, X.getLast (by intro e; simp [e] at hk), (List.dropLast_concat_getLast _).symm⟩
    have hl : l.length = k := by simpa using hk
    rw [msAll_snoc]
    have hy := h k y (by rw [List.getElem?_append_right (by omega)]; simp [hl])
    refine msStep_ok (msAll_ok k l hl (fun j x hx => h j x (by rw [List.getElem?_append_left (List.getElem?_eq_some_iff.1 hx).1]; exact hx))) hy.2.2.2.1 hy.2.2.2.2 (fun hc => msAll_ne ?_)
    rintro rfl
    exact hc (.inl (by rw [hy.1, ← hl]; rfl))
def meC (L : List Ms) : List Value := L.flatMap fun s => [.int .i64 s.n, .int .i64 s.e, .int .i64 s.t]
theorem meC_len (L : List Ms) : (meC L).length = L.length * 3 := by
  induction L with
  | nil => rfl
  | cons c r ih => simp [meC] at ih ⊢; omega
theorem meC_snoc (L : List Ms) (s : Ms) : meC (L ++ [s]) = meC L ++ [.int .i64 s.n, .int .i64 s.e, .int .i64 s.t] := by simp [meC]

end Go.Proofs.YtdhjigaocamglaaDoor

/- A region that draws its order, in the body of a range over a function: what is shown of it outside of a round holds in a round. No program is looked into here. -/
namespace Go.Proofs.YtdhjigaocamglaaDoor
open Go Go.RowKit

/-- In a round: all but the last operations only read; those behind them come in their own order. -/
theorem wpIn_round_tail {P : Program} {Q : Exit → Act → World → Prop} {id l n : Nat} {a : Act} {w : World} {ol : List Oper} (k : Nat) (hm : P.follows .mixedOrders = true) (hB : Region.lexTailB .any ol.toArray k = true) (hnd : noDefer ol = true) (hno : ¬ LetsOut Q)
    (h : wpStill P ol.toArray w.drew (fun a' => wpList P ol.toArray Q (ol.drop k) a' w.drew) (ol.take k) a) : (Code.region id ol.toArray true).wpIn (Fence.wide.inRound l) n P Q a w := by
  refine wpIn_round_any hm hnd hno ?_
  simp only [Region.lexTailB, Bool.and_eq_true, decide_eq_true_eq] at hB
  obtain ⟨⟨⟨⟨b1, b2⟩, b3⟩, b4⟩, b5⟩ := hB
  have z1 : (ol.take k).length = k := by simp at b2; simp; omega
  have z2 : (ol.drop k).length = ol.toArray.size - k := by simp
  have I0 : HeadInv .any ol.toArray k (Array.replicate ol.toArray.size false) := ⟨by simp, fun j oj _ e => absurd e (by rw [getD_replicate_false]; simp), fun t _ e => getD_in (by simpa using e) (getD_replicate_false _ _)⟩
  have H := wpAnyL_lex (md := .any) (g := ol.toArray.size - k) b1 b3 b4 b2 (ol.take k) 0 _ a (fun j hj => by rw [z1] at hj; simp [hj]) (by simpa using z1) I0 (by rw [z1]; exact b5) h
  have G := wpAny_of_head (Q' := Q) (g := ol.toArray.size - k) (fun ls a' e => by
    have := wpAny_of_seq (md := .any) (Q' := Q) (ol.drop k) k ls a' w.drew (fun j => by simp [List.getElem?_drop]) (by rw [z2]; exact e.1) e.2
    rwa [z2] at this) _ _ _ H
  rw [z1, show k + (ol.toArray.size - k) = ol.toArray.size by omega] at G
  exact G

end Go.Proofs.YtdhjigaocamglaaDoor

/- Pieces: Measures, for any valid piece. -/
namespace Go.Proofs.YtdhjigaocamglaaDoor
open Go Go.RowKit
attribute [local go_sem] Oper.semAt_some

/-- What the rounds keep: the measures so far, in memory of the call's own. -/
def MsI (w : World) (n₀ ob Bp sb : Nat) (pre : List Tm) (W : World) : Prop :=
  (∃ v, Boxed W ob 39 v ∧ W.ownsRow n₀ 43 3 v (msAll pre).length (meC (msAll pre)) ∧ v.ownBlock ≠ some sb) ∧ (∃ cs f, W.heap[Bp]? = some (.cells cs 28 f)) ∧ Below w.heap.size w W
theorem msI_bx {w : World} {n₀ ob Bp sb : Nat} (h1 : ob ≠ sb) (h2 : Bp ≠ sb) (h3 : w.heap.size ≤ sb) : Bx sb (MsI w n₀ ob Bp sb) := by
  constructor
  · rintro s W W' ⟨⟨v, hv, hr, hn⟩, ⟨cs, f, hT⟩, hb⟩ hW
    refine ⟨⟨v, (hW.block ob hv.lt).trans hv, own_below hr hW, hn⟩, ⟨cs, f, (hW.block Bp (Array.getElem?_eq_some_iff.1 hT).1).trans hT⟩, hb.trans (hW.mono hb.size)⟩
  · rintro s W ⟨b, o, sp⟩ u ⟨⟨v, hv, hr, hn⟩, ⟨cs, f, hT⟩, hb⟩ rfl
    have hs : ∀ k, k ≠ b → (W.setCell ⟨b, o, sp⟩ u).heap[k]? = W.heap[k]? := fun k hk => by
      simp only [World.setCell, Array.getElem?_modify]
      rw [if_neg (fun e => hk e.symm)]
    refine ⟨⟨v, (hs ob h1).trans hv, ownsRow_heap hr (fun g hg => hs g (fun e => hn (e ▸ hg))), hn⟩, ⟨cs, f, (hs Bp h2).trans hT⟩, hb.setCell (p := ⟨b, o, sp⟩) h3 _⟩
theorem msI_put {w : World} {n₀ ob Bp sb : Nat} (s : List Tm) (W : World) (l : Nat) (o o' : Obj) (h : MsI w n₀ ob Bp sb s W) (hl : W.heap[l]? = some o) (ho : o.isCells = false) (hw : w.heap.size ≤ l) : MsI w n₀ ob Bp sb s (W.putObj l o') := by
  obtain ⟨⟨v, hv, hr, hn⟩, ⟨cs, f, hT⟩, hb⟩ := h
  have hne : ∀ (k : Nat) (c : Array Value) (T : TypeId) (f : Nat × Nat), W.heap[k]? = some (.cells c T f) → k ≠ l := fun k c T f hk e => by
    rw [e, hl] at hk
    injection hk with hk
    rw [hk] at ho
    cases ho
  refine ⟨⟨v, (World.putObj_heap_other (hne _ _ _ _ hv)).trans hv, ownsRow_putObj hr _ hl ho, hn⟩, ⟨cs, f, (World.putObj_heap_other (hne _ _ _ _ hT)).trans hT⟩, ?_⟩
  exact hb.grown (grownBy_putObj' W l o') hb.size (fun k e => by cases e; exact hw)
theorem set_snoc1 {α : Type} (L : List α) (a b c v : α) (k : Nat) (hk : k = L.length) : (L ++ [a, b, c]).set (k + 1) v = L ++ [a, v, c] := by
  subst hk
  simp
theorem set_snoc2 {α : Type} (L : List α) (a b c v : α) (k : Nat) (hk : k = L.length) : (L ++ [a, b, c]).set (k + 2) v = L ++ [a, b, v] := by
  subst hk
  simp
/-- The end of a round: the last measure's two numbers are stored anew. -/
theorem ms_close {w W w3 : World} {n₀ ob Bp sb g' M cap : Nat} {xs : List Value} {pre : List Tm} {cs cs2 : Array Value} {f f2 : Nat × Nat} {keep : Nat → Prop} (hwn : w.heap.size ≤ n₀) (hlow : Below w.heap.size w W) (hk : KeepsOthers W w3) (hb : Below n₀ W w3)
    (hr : w3.ownsRow n₀ 43 3 (.slice (some ⟨g', 0, none⟩) M cap) M xs) (hbx : Boxed w3 ob 39 (.slice (some ⟨g', 0, none⟩) M cap)) (hB : W.heap[Bp]? = some (.cells cs 28 f)) (hS : W.heap[sb]? = some (.cells cs2 48 f2))
    (eB : w3.heap[Bp]? = W.heap[Bp]?) (eS : w3.heap[sb]? = W.heap[sb]?) (hkeep : ∀ k, keep k → k < n₀ ∨ k = Bp ∨ k = sb) (j1 j2 : Nat) (v1 v2 : Value) (hxs : (xs.set j1 v1).set j2 v2 = meC (msAll pre)) (hM : M = (msAll pre).length) :
    KeepsOthers W ((w3.setCell ⟨g', j1, none⟩ v1).setCell ⟨g', j2, none⟩ v2).drew ∧ Kb keep W ((w3.setCell ⟨g', j1, none⟩ v1).setCell ⟨g', j2, none⟩ v2).drew ∧ MsI w n₀ ob Bp sb pre ((w3.setCell ⟨g', j1, none⟩ v1).setCell ⟨g', j2, none⟩ v2).drew := by
  have hg : n₀ ≤ g' := (hr.lt g' rfl).1
  have hne : ∀ (k : Nat) (c : Array Value) (T : TypeId) (f : Nat × Nat), w3.heap[k]? = some (.cells c T f) → T ≠ 43 → k ≠ g' := fun k c T f h hT e => own_ne hr (by rw [← e] at *; exact h) hT (by rw [e]; rfl)
  have hgo : ob ≠ g' := hne _ _ _ _ hbx (by decide)
  have hgB : Bp ≠ g' := hne _ _ _ _ (eB.trans hB) (by decide)
  have hgS : sb ≠ g' := hne _ _ _ _ (eS.trans hS) (by decide)
  have hoth : ∀ k, k ≠ g' → ((w3.setCell ⟨g', j1, none⟩ v1).setCell ⟨g', j2, none⟩ v2).drew.heap[k]? = w3.heap[k]? := fun k h => by
    show ((w3.setCell ⟨g', j1, none⟩ v1).setCell ⟨g', j2, none⟩ v2).heap[k]? = w3.heap[k]?
    rw [set_other _ _ _ _ _ h, set_other _ _ _ _ _ h]
  refine ⟨((hk.trans (KeepsOthers.setCell _ _ _)).trans (KeepsOthers.setCell _ _ _)).trans (KeepsOthers.drew _), fun k hkk hkl => ?_, ⟨_, (hoth ob hgo).trans hbx, ?_, ?_⟩, ⟨cs, f, (hoth Bp hgB).trans (eB.trans hB)⟩, ?_⟩
  · rcases hkeep k hkk with h | rfl | rfl
    · exact (hoth k (by omega)).trans (hb.block k h)
    · exact (hoth _ hgB).trans eB
    · exact (hoth _ hgS).trans eS
  · have h2 := ((hr.stored j1 v1).1.stored j2 v2).1
    rw [hxs] at h2
    rw [← hM]
    exact h2
  · intro e
    exact hgS (by simpa [Value.ownBlock] using e.symm)
  · exact ((hlow.trans ((hb.mono hwn))).setCell (p := ⟨g', j1, none⟩) (by show w.heap.size ≤ g'; omega) v1 |>.setCell (p := ⟨g', j2, none⟩) (by show w.heap.size ≤ g'; omega) v2).drew

set_option maxRecDepth 100000 in
set_option maxHeartbeats 1000000 in
theorem measures_fine (A : Option Addr) (n c : Nat) (A' : Option Addr) (m c' : Nat) (A2 : Option Addr) (nE cE : Nat) (E : List EvT) (hE : nE = E.length) (hlim : nE ≤ 1000000) (w : World) (hev : 0 < nE → ∃ eb off, A2 = some ⟨eb, off, none⟩ ∧ eb < w.heap.size ∧ ∀ (k : Nat) (x : EvT), E[k]? = some x → EvAt w eb off k x)
    (HCK : Hid (∀ o, Calls Tryd.prog 35 #[.agg #[.slice A n c, .slice A' m c', .slice A2 nE cE]] (w.alloc o) fun e w' => e = .returned (.int .i64 0) ∧ Below (w.alloc o).heap.size (w.alloc o) w')) :
    Calls Tryd.prog 24 #[.agg #[.slice A n c, .slice A' m c', .slice A2 nE cE]] w fun e w' => ∃ v, e = .returned (.tuple #[v, .int .i64 0]) ∧ w'.ownsRow w.heap.size 43 3 v (msAll (tmL E 0 0 false false 0)).length (meC (msAll (tmL E 0 0 false false 0))) ∧ Below w.heap.size w w' := by
  have HE := Lib.hid hE
  clear hE
  refine (callsIn_wide (n := 3)).1 ?_
  refine callsIn_of_wp_marks Tryd.func24 rfl trivial ?_ rfl
  simp only [Tryd.ntmps24, List.size_toArray, List.length_cons, List.length_nil, Nat.reduceAdd, Nat.reduceSub, Array.replicate_succ, Array.replicate_zero, List.push_toArray, List.append_toArray, List.nil_append, List.cons_append]
  gi_wp2_with (first | (refine ⟨trivial, ?_⟩; gi_at_call 35; refine (callsIn_wide.2 (HCK.out _)).mono ?_; rintro e w1 ⟨rfl, hb1⟩; have hb2 := bt hb1 (ba w1 (.cells #[.slice none 0 0] 39)); have k0 := (keepb hb2 0).1; have k1 := (keepb hb2 1).1; have k2 := (keepb hb2 2).1; simp at k0 k1 k2) | (refine ⟨trivial, ?_⟩; gi_at_call 45; refine (callsIn_wide.2 (withTimes_any _ _ _ _ _ _ _ _ _ _)).mono ?_; rintro e w2 ⟨rfl, rfl⟩))
  have hc : ((w1.alloc (.cells #[.slice none 0 0] 39)).alloc (pcO A n c A' m c' A2 nE cE)).cell? ⟨w1.heap.size + 1, 2, none⟩ = some (.slice A2 nE cE) := by
    simp
  have bB : ((w1.alloc (.cells #[.slice none 0 0] 39)).alloc (pcO A n c A' m c' A2 nE cE)).heap[w1.heap.size + 1]? = some (.cells #[.slice A n c, .slice A' m c', .slice A2 nE cE] 28 (0, 0)) := by
    have := World.alloc_heap_new (w1.alloc (.cells #[.slice none 0 0] 39)) (pcO A n c A' m c' A2 nE cE)
    rwa [World.size_alloc] at this
  have bO := (Boxed.new w1 39 (.slice none 0 0)).alloc (pcO A n c A' m c' A2 nE cE)
  have low5 := bx (bt hb2 (ba _ (pcO A n c A' m c' A2 nE cE)))
  have hz1 : w.heap.size < w1.heap.size := by
    have := hb1.size
    simp at this
    omega
  have hz5 : ((w1.alloc (.cells #[.slice none 0 0] 39)).alloc (pcO A n c A' m c' A2 nE cE)).heap.size = w1.heap.size + 2 := by simp
  obtain ⟨W5, hW5⟩ : ∃ W5, (w1.alloc (.cells #[.slice none 0 0] 39)).alloc (pcO A n c A' m c' A2 nE cE) = W5 := ⟨_, rfl⟩
  rw [hW5] at hc bB bO low5 hz5 ⊢
  clear hW5 k0 k1 k2
  obtain ⟨i0, hi, hi0, hi1, hi2⟩ := info_parts (show (Tryd.prog.info? 43).map (fun i => (i.zero, i.size, i.bytes)) = some (some (.agg #[.int .i64 0, .int .i64 0, .int .i64 0]), 3, 24) by kernel_rfl)
  have hlenE : (tmL E 0 0 false false 0).length = nE := (tmL_len _ _ _ _ _ _).trans HE.out.symm
  refine rfBox (F := Fence.wide) (n := 3) rfl (by omega) (gf := 68) (lb := #[.pointer (some ⟨w1.heap.size + 1, 0, none⟩)]) rfl trivial (enters_of Tryd.func68 (by kernel_rfl) rfl)
    (encs := fun x : Tm => #[tmV x]) (keep := fun k => k < w1.heap.size ∨ k = w1.heap.size + 1 ∨ k = W5.heap.size + 2) (T := 48) (tmL E 0 0 false false 0)
    (times_any _ (by omega) (w1.heap.size + 1) A2 nE cE E HE.out hlim _ W5 (by omega) (.inr (.inl rfl)) (W5.heap.size + 2) (by omega) (.inr (.inr rfl)) hc (fun h0 => by obtain ⟨eb, off, e1, e2, e3⟩ := hev h0; exact ⟨eb, off, e1, Nat.lt_of_lt_of_le e2 low5.size, .inl (by omega), fun k x hk => EvAt.same (low5.block eb e2) (e3 k x hk)⟩))
    (by omega) (fun _ => rfl) (MsI w w1.heap.size w1.heap.size (w1.heap.size + 1) (W5.heap.size + 2)) (msI_bx (by omega) (by omega) (by omega)) (fun s W l o o' h hl ho hw => msI_put s W l o o' h hl ho (by omega))
    ⟨⟨_, bO, World.ownsRow_nil _ _ _ _, by simp [Value.ownBlock]⟩, ⟨_, _, bB⟩, low5⟩
    (fun x a' W => ∃ bq, a' = { tmps := #[pcV A n c A' m c' A2 nE cE, .pointer (some ⟨w.heap.size, 0, none⟩), .slice none 0 0, .int .i64 0, .int .i64 0, .pointer (some ⟨w1.heap.size, 0, none⟩), .pointer (some ⟨bq, 0, none⟩), undef, pcV A n c A' m c' A2 nE cE, .int .i64 0, .int .i64 0, .bool false, undef, pcV A n c A' m c' A2 nE cE, .func (.func 68) #[] #[.pointer (some ⟨w1.heap.size + 1, 0, none⟩)], tmV x, undef, undef, undef, undef, undef, undef, undef, undef, undef, undef, undef, undef, undef, undef, undef, undef, undef, undef, undef, undef, undef, undef, undef, undef, undef, undef, undef, undef, undef, undef, undef, undef, undef, undef, undef, undef, undef, undef, undef], defers := [] } ∧ Blk W bq 75 (tmA x))
    (fun x a' W l o o' ⟨bq, h, hq⟩ hl ho => ⟨bq, h, blk_put hq hl ho⟩) ?assign ?body ?done
  case assign =>
    intro l x W K hK
    gi_wp2
    exact hK _ _ (ba W _) ⟨W.heap.size, rfl, heap_alloc_new W _⟩
  case body =>
    rintro l pre x a' W ⟨⟨v, hv, hrow, hns⟩, ⟨cs, f, hB⟩, hlow⟩ ⟨bq, rfl, hq⟩ ⟨post, hpost⟩ ⟨cs2, f2, hsb⟩
    have hcv := hv.cell
    have hfv := hv.frozen
    have hlt := hv.lt
    have y0 := hq.cell 0
    have y1 := hq.cell 1
    have y10 := hq.cell 10
    have y11 := hq.cell 11
    simp at y0 y1 y10 y11
    have hX : tmOk pre.length x := by
      have := tmL_ok E 0 0 false false 0 (by omega) (by omega) pre.length x (by rw [hpost]; simp)
      rwa [Nat.zero_add] at this
    obtain ⟨xe, xf0, xf1, xt0, xt1⟩ := hX
    have hpl : pre.length < 1000000 := by
      have := congrArg List.length hpost
      simp [hlenE] at this
      omega
    have hok := msAll_ok pre.length pre rfl (fun j y hy => by
      have := tmL_ok E 0 0 false false 0 (by omega) (by omega) j y (by rw [hpost, List.getElem?_append_left (List.getElem?_eq_some_iff.1 hy).1]; exact hy)
      rwa [Nat.zero_add] at this)
    have HOK := Lib.hid hok
    have hNl := hok.1
    have HST := Lib.hid (msAll_snoc pre x)
    have HRW := Lib.hid (And.intro hv hrow)
    have HXE := Lib.hid xe
    obtain ⟨N, hN⟩ : ∃ N, (msAll pre).length = N := ⟨_, rfl⟩
    rw [hN] at hrow HRW hNl
    have HN := Lib.hid hN
    clear hok hN
    have w64 : IntKind.i64.wrap (x.to - x.fm) = x.to - x.fm := IntWalk.i64_in _ ⟨by omega, by omega⟩
    have hml : N + 1 ≤ maxLen := Nat.le_trans (show N + 1 ≤ 1000002 by omega) (by decide)
    clear xe
    by_cases hn0 : x.n = 0
    · rw [hn0] at y0
      have D1 := World.news_of_block (heap_alloc_new W (.cells #[.int .i64 0, .int .i64 0, .int .i64 0] 43))
      have D2 : ∀ u ∈ [Value.int .i64 0, .int .i64 0, .int .i64 0], u.oneCell' = true := by simp [Value.oneCell']
      have D := Lib.hid (And.intro D1 D2)
      clear D1 D2
      gi_wp2_with (gi_at_builtin; go_loud (refine wpListIn_append_own _ rfl _ _ 39 rfl w1.heap.size 43 i0 (.agg #[.int .i64 0, .int .i64 0, .int .i64 0]) 3 24 Tryd.underlying39 hi hi0 hi1 hi2 rfl (by decide) _ _ _ rfl (hrow.alloc _) ⟨W.heap.size, 0, none⟩ 1 1 [.int .i64 0, .int .i64 0, .int .i64 0] rfl rfl D.out.1 D.out.2 hml (by omega) (by simp; omega) ?_))
      intro v' w2 hown' hgrow _
      obtain ⟨g', cap', rfl⟩ := ownsRow_succ hown'
      obtain ⟨hv1, hv2, hr2, hk2, hb2'⟩ := hv.appended (by decide) hrow (by omega) (by omega) hown' hgrow
      have hc1 := hv1.cell
      have hf1 := hv1.frozen
      have hq2 : Blk w2 bq 75 (tmA x) := (hq.below (ba _ _)).grown hgrow (blk_apart hq hrow (by decide))
      have hnb : bq ≠ w1.heap.size := hq.ne (show Blk W w1.heap.size 39 _ from hv) (by decide)
      have hq3 := hq2.setOther hnb 0 (.slice (some ⟨g', 0, none⟩) (N + 1) cap')
      have hng : bq ≠ g' := fun e => blk_apart hq2 hown' (by decide) (by rw [e]; rfl)
      have hML := meC_len (msAll pre)
      rw [HN.out] at hML
      have u1 : (w2.setCell ⟨w1.heap.size, 0, none⟩ (.slice (some ⟨g', 0, none⟩) (N + 1) cap')).cell? ⟨g', N * 3 + 1, none⟩ = some (.int .i64 0) := by
        rw [hr2.cellAt _ (by omega), List.getElem?_append_right (by omega), show N * 3 + 1 - (meC (msAll pre)).length = 1 by omega]
        rfl
      have u2 : (w2.setCell ⟨w1.heap.size, 0, none⟩ (.slice (some ⟨g', 0, none⟩) (N + 1) cap')).cell? ⟨g', N * 3 + 2, none⟩ = some (.int .i64 0) := by
        rw [hr2.cellAt _ (by omega), List.getElem?_append_right (by omega), show N * 3 + 2 - (meC (msAll pre)).length = 2 by omega]
        rfl
      have v1 := hr2.frozenAt (N * 3 + 1)
      have v2 := hr2.frozenAt (N * 3 + 2)
      have z10 := hq3.cell 10
      have z11 := hq3.cell 11
      have hcv3 := hv2.cell
      simp at z10 z11
      have hng2 : g' ≠ bq := fun e => hng e.symm
      have hgo : g' ≠ w1.heap.size := fun e => blk_apart (show Blk w2 w1.heap.size 39 _ from hv1) hown' (by decide) (by rw [← e]; rfl)
      have hgo2 : w1.heap.size ≠ g' := fun e => hgo e.symm
      have eB := kept_other (ob := w1.heap.size) (v' := .slice (some ⟨g', 0, none⟩) (N + 1) cap') hrow hgrow (by omega) hB (by decide)
      have eS := kept_other (ob := w1.heap.size) (v' := .slice (some ⟨g', 0, none⟩) (N + 1) cap') hrow hgrow (by omega) hsb (by decide)
      have hMS : msAll (pre ++ [x]) = msAll pre ++ [⟨x.n, 1, x.to - x.fm⟩] := by rw [HST.out, msStep, if_pos (.inl hn0)]
      have HC := Lib.hid (ms_close (keep := fun k => k < w1.heap.size ∨ k = w1.heap.size + 1 ∨ k = W5.heap.size + 2) (pre := pre ++ [x]) (by omega) hlow hk2 hb2' hr2 hv2 hB hsb eB eS (fun k h => h) (N * 3 + 1) (N * 3 + 2) (.int .i64 1) (.int .i64 (x.to - x.fm))
        (by rw [set_snoc1 _ _ _ _ _ _ hML.symm, set_snoc2 _ _ _ _ _ _ hML.symm, hMS, meC_snoc]; rw [hn0]; rfl) (by rw [hMS]; simp [HN.out]))
      clear hr2 hk2 hb2' hown' hgrow hv2 hML eB eS hMS hq3 hq2
      obtain ⟨w3, hw3⟩ : ∃ w3, w2.setCell ⟨w1.heap.size, 0, none⟩ (.slice (some ⟨g', 0, none⟩) (N + 1) cap') = w3 := ⟨_, rfl⟩
      rw [hw3] at u1 u2 v1 v2 z10 z11 hcv3 HC
      gi_wp2
      have a2 : (w3.setCell ⟨g', N * 3 + 1, none⟩ (.int .i64 1)).drew.cell? ⟨g', N * 3 + 2, none⟩ = some (.int .i64 0) := by
        show (w3.setCell ⟨g', N * 3 + 1, none⟩ (.int .i64 1)).cell? ⟨g', N * 3 + 2, none⟩ = some (.int .i64 0)
        rw [World.cell?_setCell_other _ _ _ _ (by simp)]
        exact u2
      have c2 : (w3.setCell ⟨g', N * 3 + 1, none⟩ (.int .i64 1)).drew.frozen? ⟨g', N * 3 + 2, none⟩ = false := by
        show (w3.setCell ⟨g', N * 3 + 1, none⟩ (.int .i64 1)).frozen? ⟨g', N * 3 + 2, none⟩ = false
        rw [World.frozen?_setCell]
        exact v2
      have a10 : (w3.setCell ⟨g', N * 3 + 1, none⟩ (.int .i64 1)).drew.cell? ⟨bq, 10, none⟩ = some (.int .i64 x.fm) := by
        show (w3.setCell ⟨g', N * 3 + 1, none⟩ (.int .i64 1)).cell? ⟨bq, 10, none⟩ = some (.int .i64 x.fm)
        rw [World.cell?_setCell_other _ _ _ _ (by simp)]
        exact z10
      have a11 : (w3.setCell ⟨g', N * 3 + 1, none⟩ (.int .i64 1)).drew.cell? ⟨bq, 11, none⟩ = some (.int .i64 x.to) := by
        show (w3.setCell ⟨g', N * 3 + 1, none⟩ (.int .i64 1)).cell? ⟨bq, 11, none⟩ = some (.int .i64 x.to)
        rw [World.cell?_setCell_other _ _ _ _ (by simp)]
        exact z11
      clear u1 u2 v1 v2 z10 z11 hcv3 y0 y1 y10 y11 hcv hfv hc1 hf1
      obtain ⟨w4, hw4⟩ : ∃ w4, w3.setCell ⟨g', N * 3 + 1, none⟩ (.int .i64 1) = w4 := ⟨_, rfl⟩
      rw [hw4] at a2 c2 a10 a11 HC ⊢
      clear hw4
      have hmix : Tryd.prog.follows .mixedOrders = true := by kernel_rfl
      refine wpIn_round_tail 12 hmix (by kernel_rfl) (by rfl) ?hno ?_
      case hno => exact fun ⟨_, _, h⟩ => (show False from h)
      simp only [List.take_succ_cons, List.take_zero, List.drop_succ_cons, List.drop_zero]
      repeat still_step
      try refine wpStill_nil ?_
      go_wp2_with (fail)
      exact HC.out
    · have hn1 : ((x.n : Int) == 0) = false := by simpa using hn0
      cases hbar : x.ev.bar with
      | true =>
        rw [hbar] at y1
        have D1 := World.news_of_block (heap_alloc_new W (.cells #[.int .i64 x.n, .int .i64 0, .int .i64 0] 43))
        have D2 : ∀ u ∈ [Value.int .i64 x.n, .int .i64 0, .int .i64 0], u.oneCell' = true := by simp [Value.oneCell']
        have D := Lib.hid (And.intro D1 D2)
        clear D1 D2
        gi_wp2_with (gi_at_builtin; go_loud (refine wpListIn_append_own _ rfl _ _ 39 rfl w1.heap.size 43 i0 (.agg #[.int .i64 0, .int .i64 0, .int .i64 0]) 3 24 Tryd.underlying39 hi hi0 hi1 hi2 rfl (by decide) _ _ _ rfl (hrow.alloc _) ⟨W.heap.size, 0, none⟩ 1 1 [.int .i64 x.n, .int .i64 0, .int .i64 0] rfl rfl D.out.1 D.out.2 hml (by omega) (by simp; omega) ?_))
        intro v' w2 hown' hgrow _
        obtain ⟨g', cap', rfl⟩ := ownsRow_succ hown'
        obtain ⟨hv1, hv2, hr2, hk2, hb2'⟩ := hv.appended (by decide) hrow (by omega) (by omega) hown' hgrow
        have hc1 := hv1.cell
        have hf1 := hv1.frozen
        have hq2 : Blk w2 bq 75 (tmA x) := (hq.below (ba _ _)).grown hgrow (blk_apart hq hrow (by decide))
        have hnb : bq ≠ w1.heap.size := hq.ne (show Blk W w1.heap.size 39 _ from hv) (by decide)
        have hq3 := hq2.setOther hnb 0 (.slice (some ⟨g', 0, none⟩) (N + 1) cap')
        have hng : bq ≠ g' := fun e => blk_apart hq2 hown' (by decide) (by rw [e]; rfl)
        have hML := meC_len (msAll pre)
        rw [HN.out] at hML
        have u1 : (w2.setCell ⟨w1.heap.size, 0, none⟩ (.slice (some ⟨g', 0, none⟩) (N + 1) cap')).cell? ⟨g', N * 3 + 1, none⟩ = some (.int .i64 0) := by
          rw [hr2.cellAt _ (by omega), List.getElem?_append_right (by omega), show N * 3 + 1 - (meC (msAll pre)).length = 1 by omega]
          rfl
        have u2 : (w2.setCell ⟨w1.heap.size, 0, none⟩ (.slice (some ⟨g', 0, none⟩) (N + 1) cap')).cell? ⟨g', N * 3 + 2, none⟩ = some (.int .i64 0) := by
          rw [hr2.cellAt _ (by omega), List.getElem?_append_right (by omega), show N * 3 + 2 - (meC (msAll pre)).length = 2 by omega]
          rfl
        have v1 := hr2.frozenAt (N * 3 + 1)
        have v2 := hr2.frozenAt (N * 3 + 2)
        have z10 := hq3.cell 10
        have z11 := hq3.cell 11
        have hcv3 := hv2.cell
        simp at z10 z11
        have hng2 : g' ≠ bq := fun e => hng e.symm
        have hgo : g' ≠ w1.heap.size := fun e => blk_apart (show Blk w2 w1.heap.size 39 _ from hv1) hown' (by decide) (by rw [← e]; rfl)
        have hgo2 : w1.heap.size ≠ g' := fun e => hgo e.symm
        have eB := kept_other (ob := w1.heap.size) (v' := .slice (some ⟨g', 0, none⟩) (N + 1) cap') hrow hgrow (by omega) hB (by decide)
        have eS := kept_other (ob := w1.heap.size) (v' := .slice (some ⟨g', 0, none⟩) (N + 1) cap') hrow hgrow (by omega) hsb (by decide)
        have hMS : msAll (pre ++ [x]) = msAll pre ++ [⟨x.n, 1, x.to - x.fm⟩] := by rw [HST.out, msStep, if_pos (.inr hbar)]
        have HC := Lib.hid (ms_close (keep := fun k => k < w1.heap.size ∨ k = w1.heap.size + 1 ∨ k = W5.heap.size + 2) (pre := pre ++ [x]) (by omega) hlow hk2 hb2' hr2 hv2 hB hsb eB eS (fun k h => h) (N * 3 + 1) (N * 3 + 2) (.int .i64 1) (.int .i64 (x.to - x.fm))
          (by rw [set_snoc1 _ _ _ _ _ _ hML.symm, set_snoc2 _ _ _ _ _ _ hML.symm, hMS, meC_snoc]) (by rw [hMS]; simp [HN.out]))
        clear hr2 hk2 hb2' hown' hgrow hv2 hML eB eS hMS hq3 hq2
        obtain ⟨w3, hw3⟩ : ∃ w3, w2.setCell ⟨w1.heap.size, 0, none⟩ (.slice (some ⟨g', 0, none⟩) (N + 1) cap') = w3 := ⟨_, rfl⟩
        rw [hw3] at u1 u2 v1 v2 z10 z11 hcv3 HC
        gi_wp2
        have a2 : (w3.setCell ⟨g', N * 3 + 1, none⟩ (.int .i64 1)).drew.cell? ⟨g', N * 3 + 2, none⟩ = some (.int .i64 0) := by
          show (w3.setCell ⟨g', N * 3 + 1, none⟩ (.int .i64 1)).cell? ⟨g', N * 3 + 2, none⟩ = some (.int .i64 0)
          rw [World.cell?_setCell_other _ _ _ _ (by simp)]
          exact u2
        have c2 : (w3.setCell ⟨g', N * 3 + 1, none⟩ (.int .i64 1)).drew.frozen? ⟨g', N * 3 + 2, none⟩ = false := by
          show (w3.setCell ⟨g', N * 3 + 1, none⟩ (.int .i64 1)).frozen? ⟨g', N * 3 + 2, none⟩ = false
          rw [World.frozen?_setCell]
          exact v2
        have a10 : (w3.setCell ⟨g', N * 3 + 1, none⟩ (.int .i64 1)).drew.cell? ⟨bq, 10, none⟩ = some (.int .i64 x.fm) := by
          show (w3.setCell ⟨g', N * 3 + 1, none⟩ (.int .i64 1)).cell? ⟨bq, 10, none⟩ = some (.int .i64 x.fm)
          rw [World.cell?_setCell_other _ _ _ _ (by simp)]
          exact z10
        have a11 : (w3.setCell ⟨g', N * 3 + 1, none⟩ (.int .i64 1)).drew.cell? ⟨bq, 11, none⟩ = some (.int .i64 x.to) := by
          show (w3.setCell ⟨g', N * 3 + 1, none⟩ (.int .i64 1)).cell? ⟨bq, 11, none⟩ = some (.int .i64 x.to)
          rw [World.cell?_setCell_other _ _ _ _ (by simp)]
          exact z11
        clear u1 u2 v1 v2 z10 z11 hcv3 y0 y1 y10 y11 hcv hfv hc1 hf1
        obtain ⟨w4, hw4⟩ : ∃ w4, w3.setCell ⟨g', N * 3 + 1, none⟩ (.int .i64 1) = w4 := ⟨_, rfl⟩
        rw [hw4] at a2 c2 a10 a11 HC ⊢
        clear hw4
        have hmix : Tryd.prog.follows .mixedOrders = true := by kernel_rfl
        refine wpIn_round_tail 12 hmix (by kernel_rfl) (by rfl) ?hno ?_
        case hno => exact fun ⟨_, _, h⟩ => (show False from h)
        simp only [List.take_succ_cons, List.take_zero, List.drop_succ_cons, List.drop_zero]
        repeat still_step
        try refine wpStill_nil ?_
        go_wp2_with (fail)
        exact HC.out
      | false =>
        rw [hbar] at y1
        obtain ⟨L, ll, hLl⟩ : ∃ L ll, msAll pre = L ++ [ll] := by
          have hp : pre ≠ [] := by
            rintro rfl
            exact hn0 HXE.out
          exact ⟨(msAll pre).dropLast, (msAll pre).getLast (msAll_ne hp), (List.dropLast_concat_getLast (msAll_ne hp)).symm⟩
        obtain ⟨M, rfl⟩ : ∃ M, N = M + 1 := ⟨L.length, by rw [← HN.out, hLl]; simp⟩
        have hLM : L.length = M := by have := HN.out; rw [hLl] at this; simpa using this
        obtain ⟨g', cap', rfl⟩ := ownsRow_succ hrow
        have hll := HOK.out.2 ll (by rw [hLl]; simp)
        obtain ⟨l1, l2, l3, l4⟩ := hll
        have hML := meC_len L
        rw [hLM] at hML
        rw [hLl, meC_snoc] at hrow
        have hng : bq ≠ g' := fun e => blk_apart hq hrow (by decide) (by rw [e]; rfl)
        have hng2 : g' ≠ bq := fun e => hng e.symm
        have hgo : g' ≠ w1.heap.size := fun e => blk_apart (show Blk W w1.heap.size 39 _ from hv) hrow (by decide) (by rw [← e]; rfl)
        have hgo2 : w1.heap.size ≠ g' := fun e => hgo e.symm
        have u1 : W.cell? ⟨g', M * 3 + 1, none⟩ = some (.int .i64 ll.e) := by
          rw [hrow.cellAt _ (by omega), List.getElem?_append_right (by omega), show M * 3 + 1 - (meC L).length = 1 by omega]
          rfl
        have u2 : W.cell? ⟨g', M * 3 + 2, none⟩ = some (.int .i64 ll.t) := by
          rw [hrow.cellAt _ (by omega), List.getElem?_append_right (by omega), show M * 3 + 2 - (meC L).length = 2 by omega]
          rfl
        have v1 := hrow.frozenAt (M * 3 + 1)
        have v2 := hrow.frozenAt (M * 3 + 2)
        have w65 : IntKind.i64.wrap (ll.e + 1) = ll.e + 1 := IntWalk.i64_in _ ⟨by omega, by omega⟩
        have w66 : IntKind.i64.wrap (ll.t + (x.to - x.fm)) = ll.t + (x.to - x.fm) := IntWalk.i64_in _ ⟨by omega, by omega⟩
        have hMS : msAll (pre ++ [x]) = L ++ [⟨ll.n, ll.e + 1, ll.t + (x.to - x.fm)⟩] := by
          rw [HST.out, msStep, if_neg (by rw [hbar]; simp [hn0]), hLl]
          simp
        have HC := Lib.hid (ms_close (keep := fun k => k < w1.heap.size ∨ k = w1.heap.size + 1 ∨ k = W5.heap.size + 2) (pre := pre ++ [x]) (by omega) hlow (KeepsOthers.refl W) (Below.refl _ W) hrow hv hB hsb rfl rfl (fun k h => h) (M * 3 + 1) (M * 3 + 2) (.int .i64 (ll.e + 1)) (.int .i64 (ll.t + (x.to - x.fm)))
          (by rw [set_snoc1 _ _ _ _ _ _ hML.symm, set_snoc2 _ _ _ _ _ _ hML.symm, hMS, meC_snoc]) (by rw [hMS]; simp [hLM]))
        have z10 := y10
        have z11 := y11
        have hcv3 := hcv
        clear hrow hML hMS hLl
        obtain ⟨w3, hw3⟩ : ∃ w3, W = w3 := ⟨_, rfl⟩
        subst hw3
        gi_wp2
        have a2 : (W.setCell ⟨g', M * 3 + 1, none⟩ (.int .i64 (ll.e + 1))).drew.cell? ⟨g', M * 3 + 2, none⟩ = some (.int .i64 ll.t) := by
          show (W.setCell ⟨g', M * 3 + 1, none⟩ (.int .i64 (ll.e + 1))).cell? ⟨g', M * 3 + 2, none⟩ = some (.int .i64 ll.t)
          rw [World.cell?_setCell_other _ _ _ _ (by simp)]
          exact u2
        have c2 : (W.setCell ⟨g', M * 3 + 1, none⟩ (.int .i64 (ll.e + 1))).drew.frozen? ⟨g', M * 3 + 2, none⟩ = false := by
          show (W.setCell ⟨g', M * 3 + 1, none⟩ (.int .i64 (ll.e + 1))).frozen? ⟨g', M * 3 + 2, none⟩ = false
          rw [World.frozen?_setCell]
          exact v2
        have a10 : (W.setCell ⟨g', M * 3 + 1, none⟩ (.int .i64 (ll.e + 1))).drew.cell? ⟨bq, 10, none⟩ = some (.int .i64 x.fm) := by
          show (W.setCell ⟨g', M * 3 + 1, none⟩ (.int .i64 (ll.e + 1))).cell? ⟨bq, 10, none⟩ = some (.int .i64 x.fm)
          rw [World.cell?_setCell_other _ _ _ _ (by simp)]
          exact z10
        have a11 : (W.setCell ⟨g', M * 3 + 1, none⟩ (.int .i64 (ll.e + 1))).drew.cell? ⟨bq, 11, none⟩ = some (.int .i64 x.to) := by
          show (W.setCell ⟨g', M * 3 + 1, none⟩ (.int .i64 (ll.e + 1))).cell? ⟨bq, 11, none⟩ = some (.int .i64 x.to)
          rw [World.cell?_setCell_other _ _ _ _ (by simp)]
          exact z11
        clear u1 u2 v1 v2 z10 z11 hcv3 y0 y1 y10 y11 hcv hfv
        obtain ⟨w4, hw4⟩ : ∃ w4, W.setCell ⟨g', M * 3 + 1, none⟩ (.int .i64 (ll.e + 1)) = w4 := ⟨_, rfl⟩
        rw [hw4] at a2 c2 a10 a11 HC ⊢
        clear hw4
        have hmix : Tryd.prog.follows .mixedOrders = true := by kernel_rfl
        refine wpIn_round_tail 12 hmix (by kernel_rfl) (by rfl) ?hno ?_
        case hno => exact fun ⟨_, _, h⟩ => (show False from h)
        simp only [List.take_succ_cons, List.take_zero, List.drop_succ_cons, List.drop_zero]
        repeat still_step
        try refine wpStill_nil ?_
        go_wp2_with (fail)
        exact HC.out
  case done =>
    rintro D W hD ⟨⟨v, hv, hrow, hns⟩, _, hlow⟩ hK
    have hcv := hv.cell
    gi_wp2
    refine ⟨by simp, .inl ⟨_, _, rfl, run_takeDeferred hK, ?_⟩⟩
    refine ⟨_, results_tmp2 rfl _ _ _, v, rfl, ?_, ?_⟩
    · exact ownsRow_base (ownsRow_putObj hrow _ hK rfl) (by omega)
    · exact hlow.grown (grownBy_putObj' W D _) hlow.size (fun k e => by cases e; omega)

end Go.Proofs.YtdhjigaocamglaaDoor

/- Pieces: the reference's Measures, for any piece. -/
namespace Go.Proofs.YtdhjigaocamglaaDoor
open Go Go.RowKit

def msS (M : List Ms) (n : Nat) (bar : Bool) (dt : Int) : List Ms :=
  if n = 0 ∨ bar = true then M ++ [⟨n, 1, dt⟩] else M.dropLast ++ [⟨(M.getLastD zM).n, (M.getLastD zM).e + 1, (M.getLastD zM).t + dt⟩]
theorem msS_ne (M : List Ms) (n : Nat) (bar : Bool) (dt : Int) : msS M n bar dt ≠ [] := by unfold msS; split <;> simp
def rmsGo : Nat → List EvP → List Sg → List Ms → List Ms
  | n, y :: P, s :: F, M => rmsGo (n + 1) P F (msS M n y.bar (tkS s))
  | _, _, _, M => M
theorem tmL_ms : ∀ (E : List EvT) (P : List EvP) (n : Nat) (v : Int) (d t : Bool) (fm : Int) (M : List Ms), E.length = P.length → (∀ (k : Nat) (x : EvT) (y : EvP), E[k]? = some x → P[k]? = some y → x.bar = y.bar ∧ x.v = y.v ∧ x.d = y.d ∧ x.t = y.t ∧ wrB y.v y.d y.t = !decide (y.v = 0)) →
    (tmL E n v d t fm).foldl msStep M = rmsGo n P (frcL ⟨v, d, t⟩ P) M
  | [], [], _, _, _, _, _, _, _, _ => rfl
  | x :: E, y :: P, n, v, d, t, fm, M, hl, h => by
    obtain ⟨e0, e1, e2, e3, e4⟩ := h 0 x y rfl rfl
    have hr : ∀ (k : Nat) (x : EvT) (y : EvP), E[k]? = some x → P[k]? = some y → x.bar = y.bar ∧ x.v = y.v ∧ x.d = y.d ∧ x.t = y.t ∧ wrB y.v y.d y.t = !decide (y.v = 0) := fun k x y hx hy => h (k + 1) x y (by simpa using hx) (by simpa using hy)
    have hl' : E.length = P.length := by simpa using hl
    by_cases hv : y.v = 0
    · have hw : wrB x.v x.d x.t = false := by rw [e1, e2, e3, e4]; simp [hv]
      rw [tmL_n _ _ _ _ _ _ hw, List.foldl_cons, tmL_ms E P _ v d t _ _ hl' hr, frcL, show sgF y ⟨v, d, t⟩ = ⟨v, d, t⟩ by simp [sgF, hv], rmsGo]
      have : msStep M ⟨n, x, v, d, t, fm, fm + tkV v d t⟩ = msS M n y.bar (tkS ⟨v, d, t⟩) := by
        have hs : fm + tkV v d t - fm = tkS ⟨v, d, t⟩ := by show _ = tkV v d t; omega
        simp only [msStep, msS, hs, e0]
      rw [this]
    · have hw : wrB x.v x.d x.t = true := by rw [e1, e2, e3, e4]; simp [hv]
      rw [tmL_w _ _ _ _ _ _ hw, List.foldl_cons, tmL_ms E P _ x.v x.d x.t _ _ hl' hr, frcL, show sgF y ⟨v, d, t⟩ = ⟨x.v, x.d, x.t⟩ by simp [sgF, hv, e1, e2, e3], rmsGo]
      have : msStep M ⟨n, x, x.v, x.d, x.t, fm, fm + tkV x.v x.d x.t⟩ = msS M n y.bar (tkS ⟨x.v, x.d, x.t⟩) := by
        have hs : fm + tkV x.v x.d x.t - fm = tkS ⟨x.v, x.d, x.t⟩ := by show _ = tkV x.v x.d x.t; omega
        simp only [msStep, msS, hs, e0]
      rw [this]
  | [], _ :: _, _, _, _, _, _, _, hl, _ => by simp at hl
  | _ :: _, [], _, _, _, _, _, _, hl, _ => by simp at hl
theorem sumL_bd : ∀ (F : List Sg) (a : Int) (k : Nat), 0 ≤ a → k < F.length + 1 → 0 ≤ (a :: sumL a F).getD k 0 ∧ (a :: sumL a F).getD k 0 ≤ a + 576 * k
  | _, a, 0, h0, _ => by simp; omega
  | [], a, k + 1, h0, h => by simp at h
  | s :: r, a, k + 1, h0, h => by
    have hb := tkS_bd s
    have := sumL_bd r (a + tkS s) k (by omega) (by simpa using h)
    simp only [sumL, List.getD_cons_succ]
    push_cast
    omega
/-- The measures of a piece; none if it is not valid. -/
def mesL (C : List Cr) (S : List Int) (P : List EvP) : List Ms := if pcErr C S P = 0 then rmsGo 0 P (frcL s0g P) [] else []
def MePost (C : List Cr) (S : List Int) (P : List EvP) (w : World) (e : Ending) (w' : World) : Prop :=
  ∃ B nn d, e = .returned (.tuple #[.slice B nn d, .int .i64 (pcErr C S P)]) ∧ nn = (mesL C S P).length ∧ Sl w' w'.heap.size 3 B nn d (meC (mesL C S P)) ∧ Below w.heap.size w w'
end Go.Proofs.YtdhjigaocamglaaDoor

/- Pieces: Measures of the program, for any piece. -/
namespace Go.Proofs.YtdhjigaocamglaaDoor
open Go Go.RowKit

set_option maxRecDepth 100000 in
set_option maxHeartbeats 1600000 in
theorem measures_any (A : Option Addr) (n c : Nat) (A' : Option Addr) (m c' : Nat) (A2 : Option Addr) (q cq : Nat) (C : List Cr) (S : List Int) (P : List EvP) (w : World) (hP : PcIn w A n c A' m c' A2 q cq C S P) (hnb : n ≤ 1000000) (hmb : m ≤ 1000000) (hq : q ≤ 65536) (hst : ∀ y ∈ P, y.L.length ≤ 1000000) :
    Calls Tryd.prog 24 #[pcV A n c A' m c' A2 q cq] w (MePost C S P w) := by
  have hq2 : q ≤ 1000000 := by omega
  obtain ⟨X, hX⟩ : ∃ X, pcErr C S P = X := ⟨_, rfl⟩
  by_cases hX0 : X = 0
  · subst hX0
    have HO : mesL C S P = rmsGo 0 P (frcL s0g P) [] := by unfold mesL; rw [if_pos hX]
    obtain ⟨E, ⟨hE1, hE2⟩, hE3⟩ := hP.es.evs
    have hsum : msAll (tmL E 0 0 false false 0) = rmsGo 0 P (frcL s0g P) [] := tmL_ms E P 0 0 false false 0 [] hE1 (fun k x y hx hy => by
      obtain ⟨⟨e0, e1, e2, e3, _⟩, _⟩ := hE2 k x y hx hy
      exact ⟨e0, e1, e2, e3, sgn_wr ((pcErr_ok hX).2.2 k y hy).1⟩)
    refine (measures_fine A n c A' m c' A2 q cq E (by rw [hP.es.hq, hE1]) hq2 w (fun h0 => ?_) (fun o => ?_)).mono ?_
    · obtain ⟨b, off, e1, e2, e3⟩ := hE3.2.2 h0
      refine ⟨b, off, e1, e2, fun k x hx => ?_⟩
      obtain ⟨i0, i1, i2, i3, i4, i5⟩ := evC_at E k x hx
      exact ⟨e3 _ _ i0, by have := e3 _ _ i1; rwa [← Nat.add_assoc] at this, by have := e3 _ _ i2; rwa [← Nat.add_assoc] at this, by have := e3 _ _ i3; rwa [← Nat.add_assoc] at this, by have := e3 _ _ i4; rwa [← Nat.add_assoc] at this, by have := e3 _ _ i5; rwa [← Nat.add_assoc] at this⟩
    · refine (pcheck_any A n c A' m c' A2 q cq C S P _ (hP.below (ba w o)) hnb hmb hq2 hst).mono ?_
      rintro e w1 ⟨rfl, hb1⟩
      rw [hX]
      exact ⟨rfl, hb1⟩
    · rintro e w1 ⟨v, rfl, hrow, hb1⟩
      obtain ⟨B, d, rfl⟩ := own_slice hrow
      rw [hsum, ← HO] at hrow
      exact ⟨B, _, d, by rw [hX, hsum, ← HO], rfl, Sl_own hrow, hb1⟩
  · have HP : Hid (∀ w', Below w.heap.size w w' → PcIn w' A n c A' m c' A2 q cq C S P) := fun w' hb => hP.below hb
    have HST := Lib.hid hst
    have HO : Hid (mesL C S P = []) := by unfold Hid mesL; rw [if_neg (by rw [hX]; exact hX0)]
    have HX := Lib.hid hX
    have hXb : (X != 0) = true := by simpa using hX0
    clear hX hX0 hP hst
    go_enter Tryd.func24, Tryd.ntmps24
    go_wp2_with (go_at_call 35; refine (pcheck_any A n c A' m c' A2 q cq C S P _ (HP.out _ (by first | exact ba w _ | exact bt (ba w _) (ba _ _))) hnb hmb hq2 HST.out).mono ?_; rintro e w1 ⟨rfl, hb1⟩; rw [HX.out])
    go_ret2
    exact ⟨none, 0, 0, by rw [HX.out]; rfl, by rw [HO.out]; rfl, by rw [HO.out]; exact Sl.none_ _ _ _, by first | exact bx hb1 | exact bx (bx hb1)⟩

end Go.Proofs.YtdhjigaocamglaaDoor
