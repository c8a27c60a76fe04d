/- Pieces: the times of what is regrouped; bar lines. -/
import Derived.Test.YtdhjigaocamglaaDoorQdVl
import Derived.Test.YtdhjigaocamglaaDoorQdTrnC
namespace Go.Proofs.YtdhjigaocamglaaDoor
open Go Go.RowKit

def sg6 (y : EvP) : Sg := ⟨y.v, y.d, y.t⟩
/-- The ticks of written events. -/
def evT (l : List EvP) : Int := tkSum (l.map sg6)
theorem evT_nil : evT [] = 0 := rfl
theorem evT_app (a b : List EvP) : evT (a ++ b) = evT a + evT b := by unfold evT; rw [List.map_append, tkSum_app]
theorem evT_cons (y : EvP) (l : List EvP) : evT (y :: l) = tkE y + evT l := rfl
theorem frc_all : ∀ (Q : List EvP) (s : Sg), (∀ y ∈ Q, okB y.v y.d y.t = true) → frcL s Q = Q.map sg6
  | [], _, _ => rfl
  | y :: Q, s, h => by
    have h1 := h y (List.mem_cons_self ..)
    have hv : y.v ≠ 0 := fun e => by rw [e] at h1; simp [okB] at h1
    have e : sgF y s = sg6 y := if_neg hv
    rw [frcL, e, frc_all Q _ (fun z hz => h z (List.mem_cons_of_mem _ hz))]
    rfl
theorem sumL_take : ∀ (F : List Sg) (a : Int) (k : Nat), k ≤ F.length → (a :: sumL a F).getD k 0 = a + tkSum (F.take k)
  | _, a, 0, _ => by simp [tkSum]
  | [], _, k + 1, h => by simp at h
  | s :: F, a, k + 1, h => by
    have := sumL_take F (a + tkS s) k (by simpa using h)
    simp only [sumL, List.getD_cons_succ, List.take_succ_cons, tkSum]
    rw [this]
    omega
/-- The times at which the events of a valid piece begin. -/
def onT (P : List EvP) (k : Nat) : Int := (0 :: sumL 0 (frcL s0g P)).getD k 0
theorem tm_time : ∀ (P : List EvP) (n : Nat) (v : Int) (d t : Bool) (fm : Int) (i : Nat) (p : TmP), SgR P → (tmPL P n v d t fm)[i]? = some p →
    p.fm = fm + tkSum ((frcL ⟨v, d, t⟩ P).take i) ∧ p.to = fm + tkSum ((frcL ⟨v, d, t⟩ P).take (i + 1))
  | [], n, v, d, t, fm, i, p, _, h => by simp [tmPL] at h
  | y :: r, n, v, d, t, fm, i, p, hS, h => by
    obtain ⟨s1, s2⟩ := hS y (List.mem_cons_self ..)
    have hr : SgR r := fun z hz => hS z (List.mem_cons_of_mem _ hz)
    unfold tmPL at h
    by_cases hv : y.v = 0
    · have hw : wrB y.v y.d y.t = false := by rw [s1]; simp [hv]
      have e : sgF y ⟨v, d, t⟩ = ⟨v, d, t⟩ := if_pos hv
      rw [if_neg (by rw [hw]; simp)] at h
      rw [frcL, e]
      cases i with
      | zero =>
        obtain rfl : _ = p := by simpa using h
        simp [tkSum, tkS]
      | succ i =>
        have := tm_time r (n + 1) v d t _ i p hr (by simpa using h)
        simp only [List.take_succ_cons, tkSum]
        rw [this.1, this.2]
        simp only [tkS]
        omega
    · have hw : wrB y.v y.d y.t = true := by rw [s1]; simp [hv]
      have e : sgF y ⟨v, d, t⟩ = ⟨y.v, y.d, y.t⟩ := if_neg hv
      rw [if_pos hw] at h
      rw [frcL, e]
      cases i with
      | zero =>
        obtain rfl : _ = p := by simpa using h
        simp [tkSum, tkS]
      | succ i =>
        have := tm_time r (n + 1) y.v y.d y.t _ i p hr (by simpa using h)
        simp only [List.take_succ_cons, tkSum]
        rw [this.1, this.2]
        simp only [tkS]
        omega
theorem tp_time {P : List EvP} (hS : SgR P) {i : Nat} {p : TmP} (h : (tpL P)[i]? = some p) : p.fm = onT P i ∧ p.to = onT P (i + 1) := by
  have hi : i < P.length := by have := (List.getElem?_eq_some_iff.1 h).1; rwa [tmPL_len] at this
  obtain ⟨h1, h2⟩ := tm_time P 0 0 false false 0 i p hS h
  unfold onT
  rw [sumL_take _ _ _ (by rw [frcL_len]; omega), sumL_take _ _ _ (by rw [frcL_len]; omega)]
  exact ⟨h1, h2⟩
theorem onT_ev {Q : List EvP} (h : ∀ y ∈ Q, okB y.v y.d y.t = true) {k : Nat} (hk : k ≤ Q.length) : onT Q k = evT (Q.take k) := by
  unfold onT evT
  rw [frc_all Q s0g h, sumL_take _ _ _ (by simpa using hk), List.map_take]
  omega
theorem mvL_stE (B : List Int) (P : List EvP) (Q : List EvP) : ∀ k, (mvL B P k Q).map stE = Q.map stE
  | 0 => rfl
  | k + 1 => by
    unfold mvL
    split
    · exact mvL_stE B P Q k
    · rw [List.map_set, ← mvL_stE B P Q k]
      refine List.ext_getElem? (fun j => ?_)
      by_cases hj : (B.getD k 0).toNat = j
      · by_cases hl : j < (mvL B P k Q).length
        · rw [hj, List.getElem?_set_self (by simpa using hl), List.getElem?_map, List.getElem?_eq_getElem hl, getD_get (List.getElem?_eq_getElem hl)]
          rfl
        · rw [List.getElem?_eq_none (by simpa using hl), List.getElem?_eq_none (by simpa using hl)]
      · rw [List.getElem?_set_ne hj]
theorem evT_stE {l m : List EvP} (h : l.map stE = m.map stE) : evT l = evT m := by
  have e : ∀ l : List EvP, l.map sg6 = (l.map stE).map sg6 := fun l => by rw [List.map_map]; rfl
  unfold evT
  rw [e l, e m, h]
theorem evT_mv (B : List Int) (P Q : List EvP) (k j : Nat) : evT ((mvL B P k Q).take j) = evT (Q.take j) := evT_stE (by rw [List.map_take, List.map_take, mvL_stE])

/-! ### Break: bar lines at the right times, nothing crosses one -/
def barOk (bar : Int) : Int → List EvP → Prop
  | _, [] => True
  | fm, y :: r => (y.bar = (decide (0 < fm) && decide (fm % bar = 0)) ∧ 0 < tkE y ∧ fm + tkE y ≤ (fm / bar + 1) * bar) ∧ barOk bar (fm + tkE y) r
theorem barOk_app {bar : Int} : ∀ (a b : List EvP) (fm : Int), barOk bar fm a → barOk bar (fm + evT a) b → barOk bar fm (a ++ b)
  | [], b, fm, _, h => by simpa [evT_nil] using h
  | y :: a, b, fm, h, h2 => by
    refine ⟨h.1, barOk_app a b _ h.2 ?_⟩
    rw [evT_cons, ← Int.add_assoc] at h2
    exact h2
/-- Signs that cross no bar line. -/
def sgFit (bar : Int) : Int → List Sg → Prop
  | _, [] => True
  | fm, s :: r => (0 < tkS s ∧ fm + tkS s ≤ (fm / bar + 1) * bar) ∧ sgFit bar (fm + tkS s) r
theorem sgFit_app {bar : Int} : ∀ (a b : List Sg) (fm : Int), sgFit bar fm a → sgFit bar (fm + tkSum a) b → sgFit bar fm (a ++ b)
  | [], b, fm, _, h => by simpa [tkSum] using h
  | s :: a, b, fm, h, h2 => by
    refine ⟨h.1, sgFit_app a b _ h.2 ?_⟩
    simp only [tkSum] at h2
    rwa [← Int.add_assoc] at h2
theorem sgFit_in {bar f0 lim : Int} (hb : 1 ≤ bar) (hl : lim ≤ (f0 / bar + 1) * bar) : ∀ (S : List Sg) (fm : Int), (∀ s ∈ S, 0 < tkS s) → f0 ≤ fm → fm + tkSum S ≤ lim → sgFit bar fm S
  | [], _, _, _, _ => trivial
  | s :: S, fm, h, h0, h1 => by
    have hs := h s (List.mem_cons_self ..)
    have hS : 0 ≤ tkSum S := by
      have : ∀ (S : List Sg), (∀ s ∈ S, 0 < tkS s) → 0 ≤ tkSum S := fun S => by
        induction S with
        | nil => intro _; simp [tkSum]
        | cons s S ih =>
          intro h
          have h1 := ih (fun x hx => h x (List.mem_cons_of_mem _ hx))
          have h2 := h s (List.mem_cons_self ..)
          simp only [tkSum]; omega
      exact this S (fun x hx => h x (List.mem_cons_of_mem _ hx))
    simp only [tkSum] at h1
    have hd : f0 / bar ≤ fm / bar := Int.ediv_le_ediv (by omega) h0
    have hm : (f0 / bar + 1) * bar ≤ (fm / bar + 1) * bar := Int.mul_le_mul_of_nonneg_right (by omega) (by omega)
    exact ⟨⟨hs, by omega⟩, sgFit_in hb hl S _ (fun x hx => h x (List.mem_cons_of_mem _ hx)) (by omega) (by omega)⟩
theorem ptM_in {bar fm to : Int} (_hb : 1 ≤ bar) : fm + ptM bar fm to ≤ (fm / bar + 1) * bar := by
  have h1 := Int.emod_add_mul_ediv fm bar
  have h2 : (fm / bar + 1) * bar = bar * (fm / bar) + bar := by rw [Int.add_mul, Int.mul_comm]; omega
  unfold ptM
  omega
theorem sgAll_fit : ∀ (n : Nat) (bar fm to : Int) (S : List Sg), 1 ≤ bar → (to - fm).toNat = n → fm ≤ to → sgAll (ptA bar fm to) = some S → sgFit bar fm S := by
  intro n
  induction n using Nat.strongRecOn with
  | ind n ih =>
    intro bar fm to S hb hn hle hS
    by_cases h : fm < to
    · obtain ⟨p1, p2⟩ := ptM_pos hb h
      rw [ptA_step hb h] at hS
      by_cases he : sgE (ptM bar fm to) = 0
      · rw [sgAll_good he] at hS
        obtain ⟨R, hR, rfl⟩ := Option.map_eq_some_iff.1 hS
        have h2 := ih (to - (fm + ptM bar fm to)).toNat (by omega) bar _ to R hb rfl (by omega) hR
        refine sgFit_app _ _ _ (sgFit_in hb (ptM_in (to := to) hb) _ _ (fun s hs => ?_) (Int.le_refl _) (by rw [sgS_sum he]; omega)) (by rw [sgS_sum he]; exact h2)
        have := (sgS_ok he s hs).2.1
        omega
      · rw [sgAll_bad he] at hS
        cases hS
    · rw [ptA_end (by omega)] at hS
      injection hS with hS
      subst hS
      trivial
theorem brS_bar (tie : Bool) {bar : Int} : ∀ (S : List Sg) (fm : Int), sgFit bar fm S → barOk bar fm (brS tie bar fm S) ∧ evT (brS tie bar fm S) = tkSum S
  | [], _, _ => ⟨trivial, rfl⟩
  | s :: S, fm, h => by
    obtain ⟨h1, h2⟩ := brS_bar tie S _ h.2
    refine ⟨⟨⟨rfl, h.1.1, h.1.2⟩, h1⟩, ?_⟩
    rw [brS, evT_cons, h2]
    rfl
theorem tie1_bar {bar : Int} {b : Bool} {l : List EvP} {fm : Int} (h : barOk bar fm l) : barOk bar fm (tie1 b l) ∧ evT (tie1 b l) = evT l := by
  cases l with
  | nil => exact ⟨h, rfl⟩
  | cons x r => exact ⟨h, rfl⟩
theorem brF_bar {bar : Int} {p : TmP} {l : List EvP} (hb : 1 ≤ bar) (hf : p.fm < p.to) (h : brF bar p = some l) : barOk bar p.fm l ∧ evT l = p.to - p.fm := by
  unfold brF at h
  obtain ⟨S, hS, rfl⟩ := Option.map_eq_some_iff.1 h
  obtain ⟨h1, h2⟩ := sgAll_sum _ bar p.fm p.to S hb rfl (by omega) hS
  have h3 := sgAll_fit _ bar p.fm p.to S hb rfl (by omega) hS
  obtain ⟨h4, h5⟩ := brS_bar (!restB p.y) S p.fm h3
  obtain ⟨h6, h7⟩ := tie1_bar (b := p.y.tie) h4
  exact ⟨h6, by rw [h7, h5, h1]⟩
/-- The times of Break's lists, so far. -/
structure BrT (bar : Int) (Y : List TmP) (a : BrS) (T : Int) : Prop where
  at_ : ∀ i p, Y[i]? = some p → evT (a.ev.take (a.bc.getD i 0).toNat) = p.fm
  tot : evT a.ev = T
  ok : barOk bar 0 a.ev
theorem brT_go {bar : Int} (hb : 1 ≤ bar) : ∀ (X Y : List TmP) (a a' : BrS) (T : Int), (∀ p ∈ X, p.fm < p.to) → (∀ i p, X[i]? = some p → p.fm = if i = 0 then T else (X.getD (i - 1) p).to) → BrI Y a → BrT bar Y a T → brGo bar X a = some a' → BrT bar (Y ++ X) a' (if X.length = 0 then T else (X.getD (X.length - 1) ⟨0, z6, 0, false, false, 0, 0⟩).to)
  | [], Y, a, a', T, _, _, _, h, hg => by
    injection hg with hg
    subst hg
    rw [List.append_nil]
    exact h
  | p :: X, Y, a, a', T, hX, hc, hI, h, hg => by
    simp only [brGo] at hg
    cases hl : brF bar p with
    | none => rw [hl] at hg; cases hg
    | some l =>
      rw [hl] at hg
      have hf := hX p (List.mem_cons_self ..)
      obtain ⟨g1, g2⟩ := brF_bar hb hf hl
      have hpT : p.fm = T := by have := hc 0 p rfl; simpa using this
      have hI' := brI_step hb hf hI hl
      have h' : BrT bar (Y ++ [p]) ⟨a.ev ++ l, a.bc ++ [(a.ev.length : Int)]⟩ p.to := by
        refine ⟨fun i q hq => ?_, ?_, ?_⟩
        · show evT ((a.ev ++ l).take ((a.bc ++ [(a.ev.length : Int)]).getD i 0).toNat) = q.fm
          rcases get_app _ _ _ _ hq with ⟨hi, hq1⟩ | ⟨hi, rfl⟩
          · rw [getD_app, if_pos (by rw [hI.bl]; exact hi)]
            have := hI.bd i hi
            rw [List.take_append_of_le_length (by omega)]
            exact h.at_ i q hq1
          · rw [getD_app, hI.bl, if_neg (by omega), if_pos hi, Int.toNat_natCast, List.take_append_of_le_length (by omega), List.take_length, h.tot, hpT]
        · show evT (a.ev ++ l) = p.to
          rw [evT_app, h.tot, g2]; omega
        · show barOk bar 0 (a.ev ++ l)
          refine barOk_app _ _ _ h.ok ?_
          rw [h.tot, Int.zero_add, ← hpT]
          exact g1
      have := brT_go hb X (Y ++ [p]) _ a' p.to (fun q hq => hX q (List.mem_cons_of_mem _ hq)) (fun i q hq => ?_) hI' h' hg
      · rw [List.append_assoc] at this
        have e : (if X.length = 0 then p.to else (X.getD (X.length - 1) ⟨0, z6, 0, false, false, 0, 0⟩).to) = (if (p :: X).length = 0 then T else ((p :: X).getD ((p :: X).length - 1) ⟨0, z6, 0, false, false, 0, 0⟩).to) := by
          rw [if_neg (show ¬ (p :: X).length = 0 by simp)]
          cases X with
          | nil => rfl
          | cons q X => simp
        rw [← e]
        exact this
      · have h1 := hc (i + 1) q (by simpa using hq)
        rw [if_neg (by omega)] at h1
        cases i with
        | zero => simpa using h1
        | succ i => simpa using h1
theorem tp_chain {P : List EvP} (hS : SgR P) : ∀ i p, (tpL P)[i]? = some p → p.fm = if i = 0 then 0 else ((tpL P).getD (i - 1) p).to := fun i p h => by
  have hi : i < (tpL P).length := (List.getElem?_eq_some_iff.1 h).1
  have h1 := (tp_time hS h).1
  cases i with
  | zero => rw [if_pos rfl, h1]; rfl
  | succ i =>
    rw [if_neg (by omega)]
    have hq : (tpL P)[i]? = some ((tpL P).getD i p) := by simp [List.getD_eq_getElem?_getD, List.getElem?_eq_getElem (show i < (tpL P).length by omega)]
    rw [show i + 1 - 1 = i by omega, (tp_time hS hq).2, h1]
theorem break_time {C : List Cr} {S : List Int} {P : List EvP} {bar : Int} {a : BrS} (h0 : pcErr C S P = 0) (hb : 1 ≤ bar) (ha : brAll bar P = some a) :
    (∀ i, i < P.length → evT (a.ev.take (a.bc.getD i 0).toNat) = onT P i) ∧ evT a.ev = onT P P.length ∧ barOk bar 0 a.ev := by
  have hS := sgr_of h0
  have h := brT_go hb (tpL P) [] ⟨[], []⟩ a 0 (fun p hp => (tm_pos h0 p hp).1) (tp_chain hS) brI_nil ⟨fun i p hp => by simp at hp, rfl, trivial⟩ ha
  rw [List.nil_append] at h
  refine ⟨fun i hi => ?_, ?_, h.ok⟩
  · have hl : i < (tpL P).length := by rw [tmPL_len]; exact hi
    rw [h.at_ i _ (List.getElem?_eq_getElem hl)]
    exact (tp_time hS (List.getElem?_eq_getElem hl)).1
  · rw [h.tot]
    by_cases e : (tpL P).length = 0
    · rw [if_pos e]
      rw [tmPL_len] at e
      rw [e]; rfl
    · rw [if_neg e]
      have hl : (tpL P).length - 1 < (tpL P).length := by omega
      have hq := List.getElem?_eq_getElem hl
      rw [getD_get hq, (tp_time hS hq).2]
      rw [tmPL_len] at e ⊢
      rw [show P.length - 1 + 1 = P.length by omega]

/-! ### Measures between bar lines -/
end Go.Proofs.YtdhjigaocamglaaDoor
