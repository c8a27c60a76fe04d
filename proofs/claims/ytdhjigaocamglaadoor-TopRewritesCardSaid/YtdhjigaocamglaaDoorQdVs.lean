/- Pieces: the strokes of a piece, and that rewriting keeps them. -/
import Derived.Test.YtdhjigaocamglaaDoorQdVb
namespace Go.Proofs.YtdhjigaocamglaaDoor
open Go Go.RowKit

def pre {α : Type} (E : Nat → List α) : Nat → List α
  | 0 => []
  | k + 1 => pre E k ++ E k
theorem pre_skip {α : Type} {E : Nat → List α} {a : Nat} : ∀ n, (∀ j, a ≤ j → j < a + n → E j = []) → pre E (a + n) = pre E a
  | 0, _ => rfl
  | n + 1, h => by
    show pre E (a + n) ++ E (a + n) = _
    rw [h (a + n) (by omega) (by omega), List.append_nil]
    exact pre_skip n (fun j h1 h2 => h j h1 (by omega))
theorem pre_congr {α : Type} {E F : Nat → List α} : ∀ n, (∀ j, j < n → E j = F j) → pre E n = pre F n
  | 0, _ => rfl
  | n + 1, h => by
    show pre E n ++ E n = pre F n ++ F n
    rw [h n (by omega), pre_congr n (fun j hj => h j (by omega))]
theorem pre_map {α β : Type} {E : Nat → List α} (f : α → β) : ∀ n, (pre E n).map f = pre (fun k => (E k).map f) n
  | 0 => rfl
  | n + 1 => by
    show (pre E n ++ E n).map f = _
    rw [List.map_append, pre_map f n]
    rfl
/-- The same strokes, one list's places given by a rising map. -/
theorem pre_move {α : Type} {E F : Nat → List α} {b : Nat → Nat} : ∀ n, b 0 = 0 → (∀ i, i < n → (b (i + 1) = b i ∧ E i = []) ∨ (b i < b (i + 1) ∧ E i = F (b i) ∧ ∀ j, b i < j → j < b (i + 1) → F j = [])) → pre E n = pre F (b n)
  | 0, h0, _ => by rw [h0]; rfl
  | n + 1, h0, h => by
    have ih := pre_move n h0 (fun i hi => h i (by omega))
    show pre E n ++ E n = _
    rw [ih]
    rcases h n (by omega) with ⟨h1, h2⟩ | ⟨h1, h2, h3⟩
    · rw [h1, h2, List.append_nil]
    · obtain ⟨k, hk⟩ : ∃ k, b (n + 1) = (b n + 1) + k := ⟨b (n + 1) - (b n + 1), by omega⟩
      rw [hk, pre_skip k (fun j h4 h5 => h3 j (by omega) (by omega)), h2]
      rfl
abbrev Stk := Int × List (Int × Int)
def plL5 (L : List St) : List (Int × Int) := L.map fun s => (s.c, s.f)
def skE (t : Int) (L : List St) : List Stk := if L = [] then [] else [(t, plL5 L)]
def skD (P : List EvP) : List Stk := pre (fun k => skE (onT P k) (P.getD k z6).L) P.length
def scl (f : Int) (x : Stk) : Stk := (x.1 * f, x.2)
theorem skE_map (t f : Int) (L : List St) : (skE t L).map (scl f) = skE (t * f) L := by
  unfold skE
  split
  · rfl
  · rfl
theorem skE_pl {t : Int} {L M : List St} (h : plL5 L = plL5 M) : skE t L = skE t M := by
  unfold skE
  have hl : L.length = M.length := by
    have := congrArg List.length h
    simpa [plL5] using this
  by_cases e : L = []
  · have e2 : M = [] := by rw [e] at hl; exact List.length_eq_zero_iff.1 hl.symm
    rw [if_pos e, if_pos e2]
  · have e2 : M ≠ [] := fun e2 => e (by rw [e2] at hl; exact List.length_eq_zero_iff.1 hl)
    rw [if_neg e, if_neg e2, h]
theorem plL5_mv (B : List Int) (i : Nat) (L : List St) : plL5 (L.map (mvS B i)) = plL5 L := by
  unfold plL5
  rw [List.map_map]
  rfl
/-- Same times, same places: same strokes. -/
theorem sk_same {P Q : List EvP} (hl : Q.length = P.length) (hf : frcL s0g Q = frcL s0g P) (hL : ∀ k, k < P.length → plL5 (Q.getD k z6).L = plL5 (P.getD k z6).L) : skD Q = skD P ∧ onT Q Q.length = onT P P.length := by
  have ht : ∀ k, onT Q k = onT P k := fun k => by unfold onT; rw [hf]
  refine ⟨?_, by rw [ht, hl]⟩
  unfold skD
  rw [hl]
  refine pre_congr _ (fun k hk => ?_)
  rw [ht]
  exact skE_pl (hL k hk)
theorem sk_setG {P : List EvP} {G : List Sg} (hf : frcL s0g (setG P G) = frcL s0g P) : skD (setG P G) = skD P ∧ onT (setG P G) (setG P G).length = onT P P.length :=
  sk_same (setG_len P G) hf (fun k _ => by rw [setG_L])
theorem frc_bare : ∀ (P : List EvP) (s : Sg), frcL s (P.map bareE) = frcL s P
  | [], _ => rfl
  | y :: P, s => by
    rw [List.map_cons, frcL, frcL]
    have e : sgF (bareE y) s = sgF y s := rfl
    rw [e, frc_bare P]
theorem sk_bare (P : List EvP) : skD (P.map bareE) = skD P ∧ onT (P.map bareE) (P.map bareE).length = onT P P.length := by
  refine sk_same (by simp) (frc_bare P s0g) (fun k hk => ?_)
  rw [getD_get (show (P.map bareE)[k]? = some (bareE P[k]) by rw [List.getElem?_map, List.getElem?_eq_getElem hk]; rfl), getD_get (List.getElem?_eq_getElem hk)]
  show plL5 (P[k].L.map bareS) = _
  unfold plL5
  rw [List.map_map]
  rfl
theorem onT_ons {C : List Cr} {S : List Int} {P : List EvP} (h0 : pcErr C S P = 0) (k : Nat) : onT P k = (onsL C S P).getD k 0 := by
  unfold onT onsL
  rw [if_pos h0]
theorem getD_dbl (L : List Int) (k : Nat) : (L.map (fun i => 2 * i)).getD k 0 = 2 * L.getD k 0 := by
  rw [List.getD_eq_getElem?_getD, List.getD_eq_getElem?_getD, List.getElem?_map]
  cases L[k]? <;> rfl
theorem sk_aug {C : List Cr} {S : List Int} {P : List EvP} (h0 : pcErr C S P = 0) (hall : P.all (augOk 1) = true) : skD (P.map (augE 1)) = (skD P).map (scl 2) ∧ onT (P.map (augE 1)) (P.map (augE 1)).length = onT P P.length * 2 := by
  have hv := aug_valid h0 hall
  have ht : ∀ k, onT (P.map (augE 1)) k = onT P k * 2 := fun k => by
    rw [onT_ons hv, onT_ons h0, ons_db h0 hall, getD_dbl]; omega
  refine ⟨?_, by rw [ht, List.length_map]⟩
  unfold skD
  rw [pre_map, List.length_map]
  refine pre_congr _ (fun k hk => ?_)
  rw [skE_map, ht, getD_get (show (P.map (augE 1))[k]? = some (augE 1 P[k]) by rw [List.getElem?_map, List.getElem?_eq_getElem hk]; rfl), getD_get (List.getElem?_eq_getElem hk)]
  have : (augE 1 P[k]).L = P[k].L := by unfold augE; split <;> rfl
  rw [this]
theorem aug_back {P : List EvP} (hall : P.all (augOk (-1)) = true) : (P.map (augE (-1))).map (augE 1) = P ∧ (P.map (augE (-1))).all (augOk 1) = true := by
  have key : ∀ y ∈ P, augE 1 (augE (-1) y) = y ∧ augOk 1 (augE (-1) y) = true := fun y hy => by
    have hok := List.all_eq_true.1 hall y hy
    by_cases h0 : y.v = 0
    · have e : augE (-1) y = y := if_pos h0
      rw [e]
      exact ⟨if_pos h0, by simp [augOk, h0]⟩
    · have h1 : 1 ≤ y.v - -1 ∧ y.v - -1 ≤ 7 := by simpa [augOk, h0] using hok
      have e : augE (-1) y = { y with v := y.v - -1 } := if_neg h0
      rw [e]
      have hok2 : ¬ (y.v - -1 = 0) := by omega
      have hv0 := hok
      refine ⟨?_, ?_⟩
      · unfold augE
        dsimp only
        rw [if_neg hok2]
        have : y.v - -1 - 1 = y.v := by omega
        rw [this]
      · unfold augOk
        dsimp only
        have : y.v - -1 - 1 = y.v := by omega
        rw [this]
        by_cases hp : 1 ≤ y.v
        · simp; right; omega
        · exfalso; omega
  refine ⟨?_, List.all_eq_true.2 (fun y hy => ?_)⟩
  · rw [List.map_map]
    conv => rhs; rw [← List.map_id P]
    exact List.map_congr_left (fun y hy => (key y hy).1)
  · obtain ⟨x, hx, rfl⟩ := List.mem_map.1 hy
    exact (key x hx).2
theorem sk_halve {C : List Cr} {S : List Int} {P : List EvP} (h0 : pcErr C S P = 0) (hall : P.all (augOk (-1)) = true) : skD P = (skD (P.map (augE (-1)))).map (scl 2) ∧ onT P P.length = onT (P.map (augE (-1))) (P.map (augE (-1))).length * 2 := by
  obtain ⟨e1, e2⟩ := aug_back hall
  have h := sk_aug (augB_valid h0 hall) e2
  rw [e1] at h
  exact h

/-! ### Break -/
theorem sk_break {C : List Cr} {S : List Int} {P : List EvP} {bar : Int} (h0 : pcErr C S P = 0) (he : brErr 0 bar P = 0) : skD (brRes bar P) = skD P ∧ onT (brRes bar P) (brRes bar P).length = onT P P.length := by
  have hv := break_valid h0 he
  unfold brErr at he
  rw [if_neg (by simp)] at he
  by_cases hb : bar < 1 ∨ 4608 < bar
  · rw [if_pos hb] at he; cases he
  rw [if_neg hb] at he
  unfold brRes at hv ⊢
  cases ha : brAll bar P with
  | none => rw [ha] at he; cases he
  | some a =>
    rw [ha] at hv
    dsimp only at hv ⊢
    have hI := break_own h0 (by omega) ha
    obtain ⟨t1, t2, _⟩ := break_time h0 (by omega) ha
    have hlen : (tpL P).length = P.length := tmPL_len P 0 0 false false 0
    have hbd : ∀ i, i < P.length → 0 ≤ a.bc.getD i 0 ∧ a.bc.getD i 0 < a.ev.length := fun i h => hI.bd i (by rw [hlen]; exact h)
    have hinc : ∀ i k, i < k → k < P.length → a.bc.getD i 0 < a.bc.getD k 0 := fun i k h1 h2 => hI.inc i k h1 (by rw [hlen]; exact h2)
    have hok : ∀ y ∈ mvL a.bc P P.length a.ev, okB y.v y.d y.t = true := fun y' hy' => by
      obtain ⟨j, hj, rfl⟩ := List.getElem_of_mem hy'
      have hj' := List.getElem?_eq_getElem hj
      have hje : j < a.ev.length := by rwa [mvL_len] at hj
      have hy := List.getElem?_eq_getElem hje
      have hok := (hI.ev j _ hy).2.1
      rcases mvL_at a.bc P a.ev j _ hy P.length with ⟨_, _, _, _, e⟩ | ⟨_, e⟩
      · rw [hj'] at e
        injection e with e
        rw [e]; exact hok
      · rw [hj'] at e
        injection e with e
        rw [e]; exact hok
    have htime : ∀ j, j ≤ a.ev.length → onT (mvL a.bc P P.length a.ev) j = evT (a.ev.take j) := fun j hj => by
      rw [onT_ev hok (by rw [mvL_len]; exact hj), evT_mv]
    refine ⟨?_, ?_⟩
    · unfold skD
      rw [mvL_len]
      have hb0 : 0 < P.length → a.bc.getD 0 0 = 0 := fun h => by
        have hb := hbd 0 h
        obtain ⟨_, _, i, p, e3, e4, e5, _⟩ := hI.ev 0 _ (List.getElem?_eq_getElem (show 0 < a.ev.length by omega))
        rcases Nat.eq_zero_or_pos i with e | e
        · rw [e] at e4; omega
        · have h1 := hinc 0 i e (by have := (List.getElem?_eq_some_iff.1 e3).1; rwa [hlen] at this)
          omega
      have hmv := pre_move (E := fun k => skE (onT P k) (P.getD k z6).L) (F := fun k => skE (onT (mvL a.bc P P.length a.ev) k) ((mvL a.bc P P.length a.ev).getD k z6).L) (b := fun i => if i < P.length then (a.bc.getD i 0).toNat else a.ev.length) P.length ?_ ?_
      · rw [hmv]
        rw [if_neg (by omega)]
      · split
        · rename_i h
          rw [hb0 h]; rfl
        · rename_i h
          have : a.ev = [] := by
            rcases List.eq_nil_or_concat a.ev with e | ⟨l, y, e⟩
            · exact e
            · obtain ⟨_, _, i, p, e3, _⟩ := hI.ev 0 _ (List.getElem?_eq_getElem (show 0 < a.ev.length by rw [e]; simp))
              have := (List.getElem?_eq_some_iff.1 e3).1
              rw [hlen] at this
              omega
          rw [this]; rfl
      · intro i hi
        have hbi := hbd i hi
        right
        rw [if_pos hi]
        have hnx : (a.bc.getD i 0).toNat < (if i + 1 < P.length then (a.bc.getD (i + 1) 0).toNat else a.ev.length) ∧ (if i + 1 < P.length then (a.bc.getD (i + 1) 0).toNat else a.ev.length) ≤ a.ev.length := by
          split
          · rename_i h
            have h1 := hinc i (i + 1) (by omega) h
            have h2 := hbd (i + 1) h
            omega
          · omega
        have hno : ∀ j, (a.bc.getD i 0).toNat < j → j < (if i + 1 < P.length then (a.bc.getD (i + 1) 0).toNat else a.ev.length) → ∀ i2, i2 < P.length → (a.bc.getD i2 0).toNat = j → False := fun j h1 h2 i2 h3 h4 => by
          have hb2 := hbd i2 h3
          rcases Nat.lt_trichotomy i2 i with h | h | h
          · have := hinc i2 i h hi; omega
          · rw [h] at h4; omega
          · by_cases e : i2 = i + 1
            · rw [if_pos (by omega)] at h2
              rw [e] at h4; omega
            · have := hinc (i + 1) i2 (by omega) h3
              rw [if_pos (by omega)] at h2
              have := hbd (i + 1) (by omega)
              omega
        refine ⟨hnx.1, ?_, fun j h1 h2 => ?_⟩
        · have hy := List.getElem?_eq_getElem (show (a.bc.getD i 0).toNat < a.ev.length by omega)
          have hL := (hI.ev _ _ hy).1
          rw [htime _ (by omega), t1 i hi]
          rcases mvL_at a.bc P a.ev _ _ hy P.length with ⟨i2, g1, g2, g3, e⟩ | ⟨g1, e⟩
          · have e2 : i2 = i := by
              have hb2 := hbd i2 g1
              rcases Nat.lt_trichotomy i2 i with h | h | h
              · have := hinc i2 i h hi; omega
              · exact h
              · have := hinc i i2 h g1; omega
            rw [getD_get e, e2]
            exact skE_pl (plL5_mv _ _ _).symm
          · rw [getD_get e, hL, g1 i hi rfl]
        · have hje : j < a.ev.length := by omega
          have hy := List.getElem?_eq_getElem hje
          have hL := (hI.ev _ _ hy).1
          rcases mvL_at a.bc P a.ev _ _ hy P.length with ⟨i2, g1, g2, g3, e⟩ | ⟨g1, e⟩
          · exact absurd g2 (fun h => hno j h1 h2 i2 g1 h)
          · rw [getD_get e, hL]
            rfl
    · rw [mvL_len, htime _ (Nat.le_refl _), List.take_length, t2]

/-! ### Join -/
theorem set_last {ev : List EvP} {s : Sg} (h : 0 < ev.length) : setLast ev s = ev.take (ev.length - 1) ++ [upS (ev.getD (ev.length - 1) z6) s] := by
  unfold setLast
  refine List.ext_getElem? (fun j => ?_)
  by_cases hj : ev.length - 1 = j
  · rw [hj, List.getElem?_set_self (by omega), List.getElem?_append_right (by simp; omega)]
    simp [List.length_take]
    rw [show j - min j ev.length = 0 by omega]
    rfl
  · rw [List.getElem?_set_ne hj]
    by_cases hl : j < ev.length - 1
    · rw [List.getElem?_append_left (by simp; omega), List.getElem?_take, if_pos hl]
    · rw [List.getElem?_eq_none (by omega), List.getElem?_eq_none (by simp; omega)]
theorem ev_last {ev : List EvP} (h : 0 < ev.length) : ev = ev.take (ev.length - 1) ++ [ev.getD (ev.length - 1) z6] := by
  have e : ev.getD (ev.length - 1) z6 = ev[ev.length - 1] := getD_get (List.getElem?_eq_getElem (by omega))
  rw [e]
  conv => lhs; rw [← List.take_length (l := ev), show ev.length = (ev.length - 1) + 1 by omega, List.take_succ_eq_append_getElem (by omega)]
structure JnT (Y : List TmP) (a : JnS) (T : Int) : Prop where
  at_ : ∀ i p, Y[i]? = some p → (∀ i', i' < i → a.bc.getD i' 0 < a.bc.getD i 0) → evT (a.ev.take (a.bc.getD i 0).toNat) = p.fm
  tot : evT a.ev = T
  cur : 0 < a.ev.length → tkE (a.ev.getD (a.ev.length - 1) z6) = a.cur
theorem jnT_new {Y : List TmP} {a : JnS} {p : TmP} (hI : JnI2 Y a) (h : JnT Y a p.fm) (hp : p.to - p.fm = tkV p.v p.d p.t) : JnT (Y ++ [p]) (jnNew a p) p.to := by
  have hold : ∀ i, i < Y.length → (a.bc ++ [(a.ev.length : Int)]).getD i 0 = a.bc.getD i 0 := fun i hi => by rw [getD_app, if_pos (by rw [hI.bl]; exact hi)]
  have hnew : (a.bc ++ [(a.ev.length : Int)]).getD Y.length 0 = a.ev.length := by rw [getD_app, hI.bl, if_neg (by omega), if_pos rfl]
  refine ⟨fun i q hq ho => ?_, ?_, fun _ => ?_⟩
  · show evT ((a.ev ++ [(⟨p.y.bar, p.v, p.d, p.t, p.y.tie, []⟩ : EvP)]).take ((a.bc ++ [(a.ev.length : Int)]).getD i 0).toNat) = q.fm
    have ho' : ∀ i', i' < i → (a.bc ++ [(a.ev.length : Int)]).getD i' 0 < (a.bc ++ [(a.ev.length : Int)]).getD i 0 := ho
    rcases get_app _ _ _ _ hq with ⟨hi, hq1⟩ | ⟨hi, rfl⟩
    · rw [hold i hi]
      have := hI.bd i hi
      rw [List.take_append_of_le_length (by omega)]
      refine h.at_ i q hq1 (fun i' hi' => ?_)
      have := ho' i' hi'
      rwa [hold i hi, hold i' (by omega)] at this
    · rw [hi, hnew, Int.toNat_natCast, List.take_append_of_le_length (by omega), List.take_length, h.tot]
  · show evT (a.ev ++ [(⟨p.y.bar, p.v, p.d, p.t, p.y.tie, []⟩ : EvP)]) = p.to
    rw [evT_app, h.tot, evT_cons, evT_nil]
    show p.fm + (tkV p.v p.d p.t + 0) = p.to
    omega
  · show tkE ((a.ev ++ [(⟨p.y.bar, p.v, p.d, p.t, p.y.tie, []⟩ : EvP)]).getD ((a.ev ++ [(⟨p.y.bar, p.v, p.d, p.t, p.y.tie, []⟩ : EvP)]).length - 1) z6) = p.to - p.fm
    rw [List.length_append, List.length_singleton, show a.ev.length + 1 - 1 = a.ev.length by omega, getD_app, if_neg (by omega), if_pos rfl, hp]
    rfl
theorem jnT_mrg {Y : List TmP} {a : JnS} {p : TmP} {s : Sg} (hI : JnI2 Y a) (h : JnT Y a p.fm) (hY : 0 < Y.length) (hs : tkV s.v s.d s.t = a.cur + (p.to - p.fm)) : JnT (Y ++ [p]) ⟨setLast a.ev s, a.bc ++ [(a.ev.length : Int) - 1], a.cur + (p.to - p.fm)⟩ p.to := by
  have hold : ∀ i, i < Y.length → (a.bc ++ [(a.ev.length : Int) - 1]).getD i 0 = a.bc.getD i 0 := fun i hi => by rw [getD_app, if_pos (by rw [hI.bl]; exact hi)]
  have hnew : (a.bc ++ [(a.ev.length : Int) - 1]).getD Y.length 0 = (a.ev.length : Int) - 1 := by rw [getD_app, hI.bl, if_neg (by omega), if_pos rfl]
  have hb0 := hI.bd 0 hY
  have hne : 0 < a.ev.length := by omega
  have hel : (setLast a.ev s).length = a.ev.length := by simp [setLast]
  have hla := hI.last hY
  refine ⟨fun i q hq ho => ?_, ?_, fun _ => ?_⟩
  · have ho' : ∀ i', i' < i → (a.bc ++ [(a.ev.length : Int) - 1]).getD i' 0 < (a.bc ++ [(a.ev.length : Int) - 1]).getD i 0 := ho
    show evT ((setLast a.ev s).take ((a.bc ++ [(a.ev.length : Int) - 1]).getD i 0).toNat) = q.fm
    rcases get_app _ _ _ _ hq with ⟨hi, hq1⟩ | ⟨hi, _⟩
    · rw [hold i hi]
      have := hI.bd i hi
      rw [set_last hne, List.take_append_of_le_length (by rw [List.length_take]; omega), List.take_take, Nat.min_eq_left (by omega)]
      refine h.at_ i q hq1 (fun i' hi' => ?_)
      have := ho' i' hi'
      rwa [hold i hi, hold i' (by omega)] at this
    · have := ho' (Y.length - 1) (by omega)
      rw [hi, hnew, hold _ (by omega), hla] at this
      omega
  · show evT (setLast a.ev s) = p.to
    have h1 := h.tot
    have h2 := h.cur hne
    rw [ev_last hne, evT_app, evT_cons, evT_nil] at h1
    rw [set_last hne, evT_app, evT_cons, evT_nil]
    have e : tkE (upS (a.ev.getD (a.ev.length - 1) z6) s) = tkV s.v s.d s.t := rfl
    rw [e, hs]
    omega
  · show tkE ((setLast a.ev s).getD ((setLast a.ev s).length - 1) z6) = a.cur + (p.to - p.fm)
    rw [hel]
    unfold setLast
    rw [getD_get (List.getElem?_set_self (by omega))]
    exact hs
theorem jnT_fold : ∀ (X Y : List TmP) (a : JnS) (T : Int), JnI2 Y a → JnT Y a T → (∀ p ∈ X, okB p.v p.d p.t = true ∧ p.to - p.fm = tkV p.v p.d p.t) → (Y = [] → ∀ p, X.head? = some p → p.y.tie = false) → (∀ i p, X[i]? = some p → p.fm = if i = 0 then T else (X.getD (i - 1) p).to) →
    JnT (Y ++ X) (X.foldl jnStep a) (if X.length = 0 then T else (X.getD (X.length - 1) ⟨0, z6, 0, false, false, 0, 0⟩).to)
  | [], Y, a, T, _, h, _, _, _ => by rw [List.append_nil]; exact h
  | p :: X, Y, a, T, hI, h, hX, h0, hc => by
    have hp := hX p (List.mem_cons_self ..)
    have hY : p.y.tie = true → 0 < Y.length := fun ht => by
      rcases Nat.eq_zero_or_pos Y.length with e | e
      · have := h0 (List.length_eq_zero_iff.1 e) p rfl
        rw [ht] at this; cases this
      · exact e
    have hpT : p.fm = T := by have := hc 0 p rfl; simpa using this
    rw [← hpT] at h
    have hI' := jnI2_step hI hp.1 hY
    have h' : JnT (Y ++ [p]) (jnStep a p) p.to := by
      unfold jnStep
      split
      · rename_i s hs
        split
        · rename_i ht
          have ht' : p.y.tie = true := by
            cases e : p.y.tie with
            | true => rfl
            | false => rw [e] at ht; cases ht
          exact jnT_mrg hI h (hY ht') (soOf_tk hs)
        · exact jnT_new hI h hp.2
      · exact jnT_new hI h hp.2
    have := jnT_fold X (Y ++ [p]) _ p.to hI' h' (fun q hq => hX q (List.mem_cons_of_mem _ hq)) (fun e => by simp at e) (fun i q hq => ?_)
    · rw [List.append_assoc] at this
      have e : (if X.length = 0 then p.to else (X.getD (X.length - 1) ⟨0, z6, 0, false, false, 0, 0⟩).to) = (if (p :: X).length = 0 then T else ((p :: X).getD ((p :: X).length - 1) ⟨0, z6, 0, false, false, 0, 0⟩).to) := by
        rw [if_neg (show ¬ (p :: X).length = 0 by simp)]
        cases X with
        | nil => rfl
        | cons q X => simp
      rw [← e]
      exact this
    · have h1 := hc (i + 1) q (by simpa using hq)
      rw [if_neg (by omega)] at h1
      cases i with
      | zero => simpa using h1
      | succ i => simpa using h1
theorem join_time {C : List Cr} {S : List Int} {P : List EvP} (h0 : pcErr C S P = 0) :
    (∀ i, i < P.length → (∀ i', i' < i → (jnAll (tpL P)).bc.getD i' 0 < (jnAll (tpL P)).bc.getD i 0) → evT ((jnAll (tpL P)).ev.take ((jnAll (tpL P)).bc.getD i 0).toNat) = onT P i) ∧ evT (jnAll (tpL P)).ev = onT P P.length := by
  have hS := sgr_of h0
  have h := jnT_fold (tpL P) [] ⟨[], [], 0⟩ 0 jnI2_nil ⟨fun i p hp => by simp at hp, rfl, fun h => by simp at h⟩ (fun p hp => ⟨(tm_pos h0 p hp).2, tmPL_tk P 0 0 false false 0 p hp⟩) (fun _ p hp => by
    have hp0 : (tpL P)[0]? = some p := by rw [List.head?_eq_getElem?] at hp; exact hp
    have hx := tmPL_yv P 0 0 false false 0 0 p hp0
    have := ((pcErr_ok h0).2.2 0 _ hx).2.1
    unfold tieB at this
    simpa using this) (tp_chain hS)
  rw [List.nil_append] at h
  refine ⟨fun i hi ho => ?_, ?_⟩
  · have hl : i < (tpL P).length := by rw [tmPL_len]; exact hi
    have := h.at_ i _ (List.getElem?_eq_getElem hl) ho
    rw [show (jnAll (tpL P)) = (tpL P).foldl jnStep ⟨[], [], 0⟩ from rfl, this]
    exact (tp_time hS (List.getElem?_eq_getElem hl)).1
  · have := h.tot
    rw [show (jnAll (tpL P)) = (tpL P).foldl jnStep ⟨[], [], 0⟩ from rfl, this]
    by_cases e : (tpL P).length = 0
    · rw [if_pos e]
      rw [tmPL_len] at e
      rw [e]; rfl
    · rw [if_neg e]
      have hl : (tpL P).length - 1 < (tpL P).length := by omega
      have hq := List.getElem?_eq_getElem hl
      rw [getD_get hq, (tp_time hS hq).2]
      rw [tmPL_len] at e ⊢
      rw [show P.length - 1 + 1 = P.length by omega]
theorem sk_join {C : List Cr} {S : List Int} {P : List EvP} (h0 : pcErr C S P = 0) : skD (jnRes P) = skD P ∧ onT (jnRes P) (jnRes P).length = onT P P.length := by
  unfold jnRes
  have hI := join_own h0
  obtain ⟨t1, t2⟩ := join_time h0
  generalize jnAll (tpL P) = a at hI t1 t2
  have hlen : (tpL P).length = P.length := tmPL_len P 0 0 false false 0
  have hbd : ∀ i, i < P.length → 0 ≤ a.bc.getD i 0 ∧ a.bc.getD i 0 < a.ev.length := fun i h => hI.bd i (by rw [hlen]; exact h)
  have hmono : ∀ i k, i ≤ k → k < P.length → a.bc.getD i 0 ≤ a.bc.getD k 0 := fun i k h1 h2 => hI.mono i k h1 (by rw [hlen]; exact h2)
  have hok : ∀ y ∈ mvL a.bc P P.length a.ev, okB y.v y.d y.t = true := fun y' hy' => by
    obtain ⟨j, hj, rfl⟩ := List.getElem_of_mem hy'
    have hj' := List.getElem?_eq_getElem hj
    have hje : j < a.ev.length := by rwa [mvL_len] at hj
    have hy := List.getElem?_eq_getElem hje
    have hok := (hI.ev j _ hy).2.1
    rcases mvL_at a.bc P a.ev j _ hy P.length with ⟨_, _, _, _, e⟩ | ⟨_, e⟩
    · rw [hj'] at e
      injection e with e
      rw [e]; exact hok
    · rw [hj'] at e
      injection e with e
      rw [e]; exact hok
  have htime : ∀ j, j ≤ a.ev.length → onT (mvL a.bc P P.length a.ev) j = evT (a.ev.take j) := fun j hj => by
    rw [onT_ev hok (by rw [mvL_len]; exact hj), evT_mv]
  have hb0 : 0 < P.length → a.bc.getD 0 0 = 0 := fun h => by
    have hb := hbd 0 h
    obtain ⟨_, _, i, p, e3, e4, _⟩ := hI.ev 0 _ (List.getElem?_eq_getElem (show 0 < a.ev.length by omega))
    have hi : i < P.length := by have := (List.getElem?_eq_some_iff.1 e3).1; rwa [hlen] at this
    have := hmono 0 i (by omega) hi
    omega
  -- the owner of a merged event is an earlier one, and the event has no stops
  have hmg : ∀ i, i < P.length → ∀ i2, i2 < i → a.bc.getD i2 0 = a.bc.getD i 0 → (P.getD i z6).L = [] := fun i hi i2 h2 he => by
    have hb := hbd i hi
    obtain ⟨_, _, i3, p3, e3, e4, e5, e6, _⟩ := hI.ev (a.bc.getD i 0).toNat _ (List.getElem?_eq_getElem (show (a.bc.getD i 0).toNat < a.ev.length by omega))
    have hl3 : i3 < P.length := by have := (List.getElem?_eq_some_iff.1 e3).1; rwa [hlen] at this
    have hne : i3 < i := by
      rcases Nat.lt_or_ge i3 i with h | h
      · exact h
      · have := e5 i2 (by omega); omega
    have hpi := List.getElem?_eq_getElem (show i < (tpL P).length by rw [hlen]; exact hi)
    have ht := e6 i _ hne hpi (by omega)
    have hx := tmPL_yv P 0 0 false false 0 i _ hpi
    have htb := ((pcErr_ok h0).2.2 i _ hx).2.1
    rw [getD_get hx]
    unfold tieB at htb
    rw [ht] at htb
    simp at htb
    exact htb.1
  refine ⟨?_, ?_⟩
  · unfold skD
    rw [mvL_len]
    have hmv := pre_move (E := fun k => skE (onT P k) (P.getD k z6).L) (F := fun k => skE (onT (mvL a.bc P P.length a.ev) k) ((mvL a.bc P P.length a.ev).getD k z6).L) (b := fun i => if i = 0 then 0 else (a.bc.getD (i - 1) 0).toNat + 1) P.length rfl ?_
    · rw [hmv]
      by_cases e : P.length = 0
      · rw [if_pos e]
        have : a.ev.length = 0 := by have := hI.el; rw [hlen] at this; omega
        rw [this]
      · rw [if_neg e]
        have h1 := hI.last (by rw [hlen]; omega)
        rw [hlen] at h1
        have h2 := hbd (P.length - 1) (by omega)
        rw [show (a.bc.getD (P.length - 1) 0).toNat + 1 = a.ev.length by omega]
    · intro i hi
      rw [if_neg (by omega), show i + 1 - 1 = i by omega]
      have hbi := hbd i hi
      have hnx : (if i = 0 then 0 else (a.bc.getD (i - 1) 0).toNat + 1) = (a.bc.getD i 0).toNat ∨ (i ≠ 0 ∧ a.bc.getD (i - 1) 0 = a.bc.getD i 0) := by
        by_cases e : i = 0
        · rw [if_pos e, e, hb0 (by omega)]; exact .inl rfl
        · rw [if_neg e]
          have h1 := hI.lip (i - 1) 1 (by rw [hlen]; omega)
          rw [show i - 1 + 1 = i by omega] at h1
          have h2 := hmono (i - 1) i (by omega) hi
          have h3 := hbd (i - 1) (by omega)
          omega
      rcases hnx with h | ⟨h1, h2⟩
      · right
        have hown : ∀ i', i' < i → a.bc.getD i' 0 < a.bc.getD i 0 := fun i' hi' => by
          have h1 := hmono i' (i - 1) (by omega) (by omega)
          rw [if_neg (by omega)] at h
          have h3 := hbd (i - 1) (by omega)
          omega
        rw [h]
        refine ⟨by omega, ?_, fun j h1 h2 => by omega⟩
        have hy := List.getElem?_eq_getElem (show (a.bc.getD i 0).toNat < a.ev.length by omega)
        have hL := (hI.ev _ _ hy).1
        rw [htime _ (by omega), t1 i hi hown]
        rcases mvL_at a.bc P a.ev _ _ hy P.length with ⟨i2, g1, g2, g3, e⟩ | ⟨g1, e⟩
        · have hb2 := hbd i2 g1
          have e2 : i2 = i := by
            rcases Nat.lt_trichotomy i2 i with h | h | h
            · have := hown i2 h; omega
            · exact h
            · exact absurd (hmg i2 g1 i h (by omega)) g3
          rw [getD_get e, e2]
          exact skE_pl (plL5_mv _ _ _).symm
        · rw [getD_get e, hL, g1 i hi rfl]
      · left
        rw [if_neg h1, h2]
        refine ⟨rfl, ?_⟩
        rw [hmg i hi (i - 1) (by omega) h2]
        rfl
  · rw [mvL_len, htime _ (Nat.le_refl _), List.take_length, t2]

end Go.Proofs.YtdhjigaocamglaaDoor
