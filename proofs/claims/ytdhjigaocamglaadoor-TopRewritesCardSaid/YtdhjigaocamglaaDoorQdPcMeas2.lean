/- Pieces: is an event a rest, has it a stop on a course, in the reference. -/
import Derived.Test.YtdhjigaocamglaaDoorQdPcLeaf
import Derived.Test.YtdhjigaocamglaaDoorQdPcLong
import Derived.Test.YtdhjigaocamglaaDoorQdPcCk
import Derived.Test.YtdhjigaocamglaaDoorQdTkR
import Derived.Deep.RegionHeld3
import Derived.Test.YtdhjigaocamglaaDoorQdInst
import Derived.Test.YtdhjigaocamglaaDoorQdWorks2
import Derived.Test.YtdhjigaocamglaaDoorQdPcTime
import Derived.Test.YtdhjigaocamglaaDoorQdIterT
import Derived.StillTail
import Derived.StillTailTactics
import Derived.OrdersHeld
import Derived.OrdersIn
import Derived.ControlIn
import Derived.RangeFuncBox
import Derived.Maps.AppendAt
import Derived.Laws.OwnMore
namespace Go.Proofs.YtdhjigaocamglaaDoor
open Go Go.RowKit

set_option maxHeartbeats 1600000 in
theorem rRest_any (y : EvP) (sa : Option Addr) (sc : Nat) (w : World) : Calls Tryd.prog 79 #[evV y.bar y.v y.d y.t y.tie sa y.L.length sc] w fun e w' => e = .returned (.bool (restB y)) ∧ Below w.heap.size w w' := by
  have H : Hid (restB y = (decide (y.L.length = 0) && !y.tie)) := rfl
  generalize y.L.length = n at *
  cases ht : y.tie <;> rw [ht] at H
  · by_cases h : n = 0
    · subst h
      go_enter Tryd.func79, Tryd.ntmps79
      go_wp2_with (fail)
      go_ret
      exact ⟨ret_b (by rw [H.out]; rfl), ba _ _⟩
    · have h2 : ((n : Int) == 0) = false := by simpa using h
      go_enter Tryd.func79, Tryd.ntmps79
      go_wp2_with (fail)
      go_ret
      exact ⟨ret_b (by rw [H.out]; simp [h]), ba _ _⟩
  · by_cases h : n = 0
    · subst h
      go_enter Tryd.func79, Tryd.ntmps79
      go_wp2_with (fail)
      go_ret
      exact ⟨ret_b (by rw [H.out]; rfl), ba _ _⟩
    · have h2 : ((n : Int) == 0) = false := by simpa using h
      go_enter Tryd.func79, Tryd.ntmps79
      go_wp2_with (fail)
      go_ret
      exact ⟨ret_b (by rw [H.out]; simp), ba _ _⟩

theorem hsB_goR {L : List St} {c : Int} {k : Nat} (h : L.drop k = L.getD k z5 :: L.drop (k + 1)) : hsB (L.drop k) c = (decide ((L.getD k z5).c = c) || hsB (L.drop (k + 1)) c) := by
  rw [h]
  rfl
end Go.Proofs.YtdhjigaocamglaaDoor

/- Pieces: the reference's Longest, for any piece, event and course. -/
namespace Go.Proofs.YtdhjigaocamglaaDoor
open Go Go.RowKit

theorem rlgst_out {P : List EvP} {k c : Int} (h : k < 0 ∨ (P.length : Int) ≤ k) : lgst P k c = 0 := by rw [lgst, if_pos h]
theorem rlgst_in {P : List EvP} {k : Nat} {c : Int} (h : k < P.length) : lgst P k c = lgGo c (P.drop (k + 1)) 0 := by rw [lgst, if_neg (by omega)]; rfl

end Go.Proofs.YtdhjigaocamglaaDoor

/- Pieces: the reference's first error of an event. -/
namespace Go.Proofs.YtdhjigaocamglaaDoor
open Go Go.RowKit

def ErrIf (x bf : Int) (i : Nat) (sf sr sgr sh : Int) (lg : Nat) : Prop := x = if (i : Int) + 1 ≤ bf then 22 else if sr < 0 ∨ 3 < sr ∨ sgr < 0 ∨ 4 < sgr then 23 else if sh < 0 ∨ (lg : Int) < sh ∨ (0 < sh ∧ sf = 0) then 24 else 0
theorem ErrIf.eq {x bf : Int} {i : Nat} {sf sr sgr sh : Int} {lg : Nat} (h : ErrIf x bf i sf sr sgr sh lg) : x = if (i : Int) + 1 ≤ bf then 22 else if sr < 0 ∨ 3 < sr ∨ sgr < 0 ∨ 4 < sgr then 23 else if sh < 0 ∨ (lg : Int) < sh ∨ (0 < sh ∧ sf = 0) then 24 else 0 := h
def bfJ (L : List St) (j : Nat) : Int := if j = 0 then 0 else (L.getD (j - 1) z5).c
theorem argsR {w wr w1 : World} {o1 : Obj} {A : Option Addr} {n c : Nat} {A' : Option Addr} {m c' : Nat} {A2 : Option Addr} {q cq : Nat} {v0 v1 v2 v3 v4 : Int} (hB : Below ((w.alloc (pcO A n c A' m c' A2 q cq)).alloc o1).heap.size ((w.alloc (pcO A n c A' m c' A2 q cq)).alloc o1) wr)
    (h : Below (wr.alloc (.cells #[.int .i64 v0, .int .i64 v1, .int .i64 v2, .int .i64 v3, .int .i64 v4] 62)).heap.size (wr.alloc (.cells #[.int .i64 v0, .int .i64 v1, .int .i64 v2, .int .i64 v3, .int .i64 v4] 62)) w1) :
    (w1.cell? ⟨w.heap.size, 0, none⟩ = some (.slice A n c) ∧ w1.cell? ⟨w.heap.size, 1, none⟩ = some (.slice A' m c') ∧ w1.cell? ⟨w.heap.size, 2, none⟩ = some (.slice A2 q cq)) ∧
    (w1.cell? ⟨wr.heap.size, 0, none⟩ = some (.int .i64 v0) ∧ w1.cell? ⟨wr.heap.size, 1, none⟩ = some (.int .i64 v1) ∧ w1.cell? ⟨wr.heap.size, 2, none⟩ = some (.int .i64 v2) ∧ w1.cell? ⟨wr.heap.size, 3, none⟩ = some (.int .i64 v3) ∧ w1.cell? ⟨wr.heap.size, 4, none⟩ = some (.int .i64 v4)) :=
  ⟨cell3 (bt (ba _ _) (bt hB (bx h))), cell5 h⟩

end Go.Proofs.YtdhjigaocamglaaDoor

/- Pieces: the reference's first error of an event. -/
namespace Go.Proofs.YtdhjigaocamglaaDoor
open Go Go.RowKit

end Go.Proofs.YtdhjigaocamglaaDoor

/- Pieces: the reference's first error of a later event. -/
namespace Go.Proofs.YtdhjigaocamglaaDoor
open Go Go.RowKit

end Go.Proofs.YtdhjigaocamglaaDoor

/- Pieces: the reference's first error of an event whose sign or tie is wrong; of any event; of a piece. -/
namespace Go.Proofs.YtdhjigaocamglaaDoor
open Go Go.RowKit

end Go.Proofs.YtdhjigaocamglaaDoor

/- Pieces: the reference's Check, for any piece. -/
namespace Go.Proofs.YtdhjigaocamglaaDoor
open Go Go.RowKit

end Go.Proofs.YtdhjigaocamglaaDoor

/- Pieces: Onsets, for any piece. -/
namespace Go.Proofs.YtdhjigaocamglaaDoor
open Go Go.RowKit

attribute [local go_sem] Oper.semAt_some

set_option maxRecDepth 100000 in
set_option maxHeartbeats 4000000 in
theorem times_nil (n : Nat) (Bp : Nat) (A2 : Option Addr) (cE : Nat) (keep : Nat → Prop) (w : World) (hBp : Bp < w.heap.size) (sb : Nat) (hc : w.cell? ⟨Bp, 2, none⟩ = some (.slice A2 0 cE)) :
    IterB Fence.wide n Tryd.prog 68 #[.pointer (some ⟨Bp, 0, none⟩)] (fun x : Tm => #[tmV x]) keep sb 48 [] w := fun l J W hW hlow hJ hY h0 => by
  have hc' : W.cell? ⟨Bp, 2, none⟩ = some (.slice A2 0 cE) := cell_same (hlow.block Bp hBp) hc
  have hc2 : ∀ o, (W.alloc o).cell? ⟨Bp, 2, none⟩ = some (.slice A2 0 cE) := fun o => cell_same ((ba W o).block Bp (by have := hlow.size; omega)) hc'
  refine callsIn_of_wp Tryd.func68 rfl trivial ?_ rfl
  simp only [Tryd.ntmps68, List.size_toArray, List.length_cons, List.length_nil, Nat.reduceAdd, Nat.reduceSub, Array.replicate_succ, Array.replicate_zero, List.push_toArray, List.append_toArray, List.nil_append, List.cons_append]
  gi_wp2
  gi_loopw [4, 11] (fun f i wr => i = .int .i64 0 ∧ f = .int .i64 0 ∧ J [] wr) (fun _ _ _ => 0)
  case atStart => exact ⟨rfl, rfl, hJ.low _ _ _ h0 (ba W _)⟩
  case round =>
    obtain ⟨rfl, rfl, hJp⟩ := hrel
    gi_wp2
    go_end0
    exact ⟨⟨_, rfl⟩, hJp⟩

theorem times_any (n : Nat) (hn : 1 ≤ n) (Bp : Nat) (A2 : Option Addr) (q cE : Nat) (E : List EvT) (hE : q = E.length) (hlim : q ≤ 1000000) (keep : Nat → Prop) (w : World) (hBp : Bp < w.heap.size) (kBp : keep Bp)
    (sb : Nat) (hsb : w.heap.size ≤ sb) (ksb : keep sb) (hc : w.cell? ⟨Bp, 2, none⟩ = some (.slice A2 q cE))
    (hA : 0 < q → ∃ eb off, A2 = some ⟨eb, off, none⟩ ∧ eb < w.heap.size ∧ keep eb ∧ ∀ (k : Nat) (x : EvT), E[k]? = some x → EvAt w eb off k x) :
    IterB Fence.wide n Tryd.prog 68 #[.pointer (some ⟨Bp, 0, none⟩)] (fun x : Tm => #[tmV x]) keep sb 48 (tmL E 0 0 false false 0) w := by
  by_cases h0 : q = 0
  · subst h0
    obtain rfl : E = [] := List.length_eq_zero_iff.1 hE.symm
    exact times_nil n Bp A2 cE keep w hBp sb hc
  · obtain ⟨eb, off, rfl, e1, e2, e3⟩ := hA (by omega)
    exact times_iter n hn Bp eb off q cE E hE hlim keep w hBp e1 kBp e2 sb hsb ksb hc e3

end Go.Proofs.YtdhjigaocamglaaDoor

/- Pieces: Onsets of both sides, for any piece. -/
namespace Go.Proofs.YtdhjigaocamglaaDoor
open Go Go.RowKit

theorem evsErr_sgn {C : List Cr} {P Q : List EvP} : ∀ (R : List EvP) (k : Nat), evsErr C P k R = 0 → ∀ (j : Nat) (y : EvP), R[j]? = some y → sgnB (k + j) y = false ∧ tieB (k + j) y = false ∧ stsErr C P (k + j) 0 y.L = 0
  | [], _, _, j, y, h => by simp at h
  | x :: r, k, h0, j, y, h => by
    unfold evsErr at h0
    by_cases hx : evErr C P k x = 0
    · rw [if_pos hx] at h0
      cases j with
      | zero =>
        obtain rfl : x = y := by simpa using h
        unfold evErr at hx
        cases h1 : sgnB k x with
        | true => rw [if_pos h1] at hx; cases hx
        | false =>
          rw [if_neg (by simp [h1])] at hx
          cases h2 : tieB k x with
          | true => rw [if_pos h2] at hx; cases hx
          | false =>
            rw [if_neg (by simp [h2])] at hx
            exact ⟨rfl, rfl, hx⟩
      | succ j =>
        have := evsErr_sgn (Q := Q) r (k + 1) h0 j y (by simpa using h)
        rwa [show k + (j + 1) = k + 1 + j by omega]
    · rw [if_neg hx] at h0
      exact absurd h0 hx
/-- What a piece that is valid is. -/
theorem pcErr_ok {C : List Cr} {S : List Int} {P : List EvP} (h : pcErr C S P = 0) : chk C S = 0 ∧ P.length ≤ 400 ∧ ∀ (j : Nat) (y : EvP), P[j]? = some y → sgnB j y = false ∧ tieB j y = false ∧ stsErr C P j 0 y.L = 0 := by
  unfold pcErr at h
  by_cases h1 : chk C S = 0
  · rw [if_neg (by simp [h1])] at h
    by_cases h2 : 400 < P.length
    · rw [if_pos h2] at h; cases h
    · rw [if_neg h2] at h
      refine ⟨h1, by omega, fun j y hy => ?_⟩
      have := evsErr_sgn (Q := P) P 0 h j y hy
      rwa [Nat.zero_add] at this
  · rw [if_pos h1] at h; exact absurd h h1
theorem sgn_wr {k : Nat} {y : EvP} (h : sgnB k y = false) : wrB y.v y.d y.t = !decide (y.v = 0) := by
  unfold sgnB at h
  cases hw : wrB y.v y.d y.t with
  | true =>
    rw [hw] at h
    by_cases hv : y.v = 0
    · simp [okB, hv] at h
    · simp [hv]
  | false =>
    have : y.v = 0 := by simp [wrB] at hw; exact hw.1.1
    simp [this]
end Go.Proofs.YtdhjigaocamglaaDoor

/- Measures as plain lists. -/
namespace Go.Proofs.YtdhjigaocamglaaDoor
open Go Go.RowKit

end Go.Proofs.YtdhjigaocamglaaDoor

/- A region that draws its order, in the body of a range over a function: what is shown of it outside of a round holds in a round. No program is looked into here. -/
namespace Go.Proofs.YtdhjigaocamglaaDoor
open Go Go.RowKit

/-- An operation that is no defer statement goes in a round as anywhere. -/
theorem wpOpIn_round {P : Program} {ops : Array Oper} {Q : Exit → Act → World → Prop} {i l n : Nat} {K : Act → World → Prop} {a : Act} {w : World} (hnd : ∀ o, ops[i]? = some o → ∀ c, o.op ≠ .defer c) (hno : ¬ LetsOut Q)
    (h : wpOp P ops Q i K a w) : wpOpIn (Fence.wide.inRound l) n P ops Q i K a w := by
  unfold wpOpIn
  unfold wpOp at h
  cases ho : ops[i]? with
  | none => simpa [ho] using h
  | some o =>
    simp only [ho] at h ⊢
    by_cases hw : Region.wanted o (yielded ops a.tmps) = true
    · simp only [hw, if_true] at h ⊢
      rcases h with h | h
      · refine ⟨fun _ _ => trivial, ?_⟩
        rw [Oper.semAt_eq _ _ _ (hnd o ho)]
        unfold Oper.wp at h
        generalize (execOp a.eval o).run P w = r at *
        cases r with
        | ok x w' =>
          cases x
          case enter f args =>
            refine ⟨(fun hd => by cases hd), (callsIn_wide.2 h).mono (fun e w'' he => ?_)⟩
            cases e <;> exact he
          case row row args =>
            refine ⟨(fun hd => by cases hd), fun c cs _ => ?_⟩
            obtain ⟨v, w'', q, s⟩ := h c cs
            exact ⟨v, w'', q, stepsIn_wide.2 s⟩
          all_goals first | exact h | exact h.elim
        | halt x w' =>
          cases x <;> first | exact h | exact h.elim
      · exact absurd h.2 hno
    · simp only [hw] at h ⊢
      exact ⟨fun _ _ => trivial, h⟩

theorem wpAnyIn_round {P : Program} {md : Region.Mode} {ops : Array Oper} {Q : Exit → Act → World → Prop} {l n : Nat} (hnd : ∀ (i : Nat) (o : Oper), ops[i]? = some o → ∀ c, o.op ≠ .defer c) (hno : ¬ LetsOut Q) :
    ∀ (fuel : Nat) (listed : Array Bool) (a : Act) (w : World), wpAny P md ops Q fuel listed a w → wpAnyIn (Fence.wide.inRound l) n P md ops Q fuel listed a w
  | 0, _, _, _, h => h
  | fuel + 1, _, _, _, h => ⟨h.1, fun i hi => wpOpIn_mono (fun a' w' h' => wpAnyIn_round hnd hno fuel _ a' w' h') (wpOpIn_round (hnd i) hno (h.2 i hi))⟩

/-- No operation is a defer statement. -/
def noDefer (l : List Oper) : Bool := l.all fun o => match o.op with | .defer _ => false | _ => true
theorem noDefer_spec {l : List Oper} (h : noDefer l = true) : ∀ (i : Nat) (o : Oper), l.toArray[i]? = some o → ∀ c, o.op ≠ .defer c := fun i o ho c e => by
  have hm : o ∈ l := by
    rw [List.getElem?_toArray] at ho
    exact List.mem_of_getElem? ho
  have := List.all_eq_true.1 h o hm
  rw [e] at this
  cases this

theorem wpIn_round_any {P : Program} {Q : Exit → Act → World → Prop} {id l n : Nat} {a : Act} {w : World} {ol : List Oper} (hm : P.follows .mixedOrders = true) (hnd : noDefer ol = true) (hno : ¬ LetsOut Q)
    (h : wpAny P .any ol.toArray Q ol.toArray.size (Array.replicate ol.toArray.size false) a { w with drawn := w.drawn + 1 }) : (Code.region id ol.toArray true).wpIn (Fence.wide.inRound l) n P Q a w :=
  wpIn_region_any hm (wpAnyIn_round (noDefer_spec hnd) hno _ _ _ _ h)

/-- In a round, with a condition S that every world of the region meets. -/
theorem wpIn_round_held {P : Program} {Q : Exit → Act → World → Prop} {S : World → Prop} {id l n : Nat} {a : Act} {w : World} {ol : List Oper} (hm : P.follows .mixedOrders = true) (hnd : noDefer ol = true) (hno : ¬ LetsOut Q) (hS : S w.drew)
    (h : S w.drew → wpAnyH P .any ol.toArray Q S ol.toArray.size (Array.replicate ol.toArray.size false) a w.drew) : (Code.region id ol.toArray true).wpIn (Fence.wide.inRound l) n P Q a w :=
  wpIn_round_any hm hnd hno (wpAny_of_held _ _ _ _ (h hS))

end Go.Proofs.YtdhjigaocamglaaDoor

/- Pieces: Measures, for any valid piece. -/
namespace Go.Proofs.YtdhjigaocamglaaDoor
open Go Go.RowKit

attribute [local go_sem] Oper.semAt_some

abbrev tmA (x : Tm) : Array Value := #[.int .i64 x.n, .bool x.ev.bar, .int .i64 x.ev.v, .bool x.ev.d, .bool x.ev.t, .bool x.ev.tie, .slice x.ev.sa x.ev.sn x.ev.sc, .int .i64 x.v, .bool x.d, .bool x.t, .int .i64 x.fm, .int .i64 x.to]
theorem blk_put {W : World} {g l : Nat} {t : TypeId} {cs : Array Value} {o o' : Obj} (h : Blk W g t cs) (hl : W.heap[l]? = some o) (ho : o.isCells = false) : Blk (W.putObj l o') g t cs := by
  unfold Blk at h ⊢
  refine (World.putObj_heap_other (fun e => ?_)).trans h
  rw [e, hl] at h
  injection h with h
  rw [h] at ho
  cases ho

end Go.Proofs.YtdhjigaocamglaaDoor

/- Pieces: the reference's Measures, for any piece. -/
namespace Go.Proofs.YtdhjigaocamglaaDoor
open Go Go.RowKit

end Go.Proofs.YtdhjigaocamglaaDoor

/- Pieces: Measures of the program, for any piece. -/
namespace Go.Proofs.YtdhjigaocamglaaDoor
open Go Go.RowKit

end Go.Proofs.YtdhjigaocamglaaDoor
