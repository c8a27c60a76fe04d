/- Piece: Signs, for every number. -/
import Derived.Test.YtdhjigaocamglaaDoorQdFillA
import Derived.Test.YtdhjigaocamglaaDoorQdWorks2
import Derived.Test.YtdhjigaocamglaaDoorQdRefFew
namespace Go.Proofs.YtdhjigaocamglaaDoor
open Go Go.RowKit

/-- What Signs answers: the list and the error. -/
def sgQ (x : Int) : Option (List Nat) := if x < 0 ∨ 4608 < x then none else sgP x
def sgE (x : Int) : Int := if x < 0 ∨ 4608 < x then 1 else match sgP x with
  | some _ => 0
  | none => 25
def sgN (x : Int) : Nat := ((sgQ x).getD []).length
def sgX (x : Int) : List Value := ((sgQ x).getD []).flatMap sgL
/-- Where the loop over the counts stands. -/
def CtOk (x : Int) (c : Nat) : Prop := ∃ m : Nat, (c : Int) + (m : Int) = x / 4 + 1 ∧ sgQc x c m = sgP x
theorem ct_start {x : Int} (h : 0 ≤ x) : CtOk x 0 := ⟨(x / 4 + 1).toNat, by omega, rfl⟩
theorem ct_end {x : Int} {c : Nat} (h : CtOk x c) (h1 : x < c * 4) : sgP x = none := by
  obtain ⟨m, h2, h3⟩ := h
  obtain rfl : m = 0 := by omega
  exact h3.symm
theorem ct_next {x : Int} {c : Nat} (h : CtOk x c) (h1 : (c : Int) * 4 ≤ x) (h2 : fl c x 0 = none) : CtOk x (c + 1) := by
  obtain ⟨m, h3, h4⟩ := h
  match m, h3, h4 with
  | 0, h3, _ => omega
  | m + 1, h3, h4 =>
    refine ⟨m, by omega, ?_⟩
    rw [sgQc, h2] at h4
    exact h4
theorem ct_hit {x : Int} {c : Nat} {l : List Nat} (h : CtOk x c) (h1 : (c : Int) * 4 ≤ x) (h2 : fl c x 0 = some l) : sgP x = some l := by
  obtain ⟨m, h3, h4⟩ := h
  match m, h3, h4 with
  | 0, h3, _ => omega
  | m + 1, h3, h4 =>
    rw [sgQc, h2] at h4
    exact h4.symm

set_option maxRecDepth 100000 in
set_option maxHeartbeats 1600000 in
theorem signs_bad (x : Int) (w : World) (h : x < 0 ∨ 4608 < x) : Calls Tryd.prog 33 #[.int .i64 x] w fun e w' => e = .returned (.tuple #[.slice none 0 0, .int .i64 1]) ∧ Below w.heap.size w w' := by
  rcases h with h | h
  · go_enter Tryd.func33, Tryd.ntmps33
    go_wp2_with (fail)
    go_ret2
    exact ⟨rfl, Below.refl _ _⟩
  · have h0 : ¬x < 0 := by omega
    go_enter Tryd.func33, Tryd.ntmps33
    go_wp2_with (fail)
    go_ret2
    exact ⟨rfl, Below.refl _ _⟩

set_option maxRecDepth 100000 in
set_option maxHeartbeats 1600000 in
theorem signs_ok (x : Int) (w : World) (hT : SgT w) (h0 : 0 ≤ x) (h1 : x ≤ 4608) : Calls Tryd.prog 33 #[.int .i64 x] w fun e w' => ∃ v, e = .returned (.tuple #[v, .int .i64 (sgE x)]) ∧ w'.ownsRow w.heap.size 48 3 v (sgN x) (sgX x) ∧ Below w.heap.size w w' := by
  have hmf : ∀ (fn : Fn) (first cap : Array Value) (w : World), (Instr.makeFunc fn first cap).run Tryd.prog w = .ok (.func fn first cap) w := fun _ _ _ _ => rfl
  have bF := Boxed.new (w.alloc (.cells #[.slice none 0 0] 69)) 98 (fillV w.heap.size (w.heap.size + 1))
  rw [World.size_alloc] at bF
  have bC := (Boxed.new w 69 (.slice none 0 0)).alloc (.cells #[fillV w.heap.size (w.heap.size + 1)] 98)
  have lo : Below w.heap.size w ((w.alloc (.cells #[.slice none 0 0] 69)).alloc (.cells #[fillV w.heap.size (w.heap.size + 1)] 98)) := (ba w _).alloc (by simp) _
  have hFS : FS w w.heap.size (w.heap.size + 1) 0 [] ((w.alloc (.cells #[.slice none 0 0] 69)).alloc (.cells #[fillV w.heap.size (w.heap.size + 1)] 98)) := ⟨⟨_, bC, World.ownsRow_nil _ _ _ _⟩, bF, lo, hT.below lo⟩
  have hg : 0 < w.heap.size := hT.1
  have HFS := Lib.hid hFS
  have hE : Hid (∀ l, sgP x = some l → sgE x = 0 ∧ sgN x = finN 0 (some l) ∧ sgX x = finL [] (some l)) := fun l hl => by
    have hn : ¬(x < 0 ∨ 4608 < x) := by omega
    simp [sgE, sgN, sgX, sgQ, hn, hl, finN, finL]
  have hN : Hid (sgP x = none → sgE x = 25 ∧ sgN x = 0 ∧ sgX x = []) := fun hl => by
    have hn : ¬(x < 0 ∨ 4608 < x) := by omega
    simp [sgE, sgN, sgX, sgQ, hn, hl]
  clear hT bF bC lo hFS
  go_enter Tryd.func33, Tryd.ntmps33
  go_wp2_with (fail)
  obtain ⟨W3, hW3⟩ : ∃ W3, (w.alloc (.cells #[.slice none 0 0] 69)).alloc (.cells #[fillV w.heap.size (w.heap.size + 1)] 98) = W3 := ⟨_, rfl⟩
  rw [hW3] at HFS ⊢
  clear hW3
  go_loopw [6] (fun v wr => ∃ c : Nat, v = .int .i64 c ∧ (c : Int) ≤ 1200 ∧ Hid (CtOk x c) ∧ FS w w.heap.size (w.heap.size + 1) 0 [] wr) (fun v _ => 1300 - (intOf v).toNat)
  case atStart => exact ⟨0, rfl, by omega, ct_start h0, HFS.out⟩
  case round =>
    obtain ⟨c, rfl, hc12, HC, hF⟩ := hrel
    have HF := Lib.hid hF
    have hcf := hF.fn.cell
    clear hF
    by_cases hle : (c : Int) * 4 ≤ x
    · have HI := fill_all w w.heap.size (w.heap.size + 1) hg (Nat.le_refl _) c (by omega) 0 [] x 0 _ (by omega) HF.out (by omega) h0 (by omega)
      cases hq : fl c x 0 with
      | some l =>
        rw [hq] at HI
        have HI2 := Lib.hid HI
        obtain ⟨e1, e2, e3⟩ := hE.out l (ct_hit HC.out hle hq)
        have HE := Lib.hid (And.intro e1 (And.intro e2 e3))
        clear e1 e2 e3 hq HI
        go_wp2_with (go_at_call 61; refine HI2.out.mono ?_; rintro e w3 ⟨rfl, hF3⟩; obtain ⟨v, hv, hr⟩ := hF3.row; have hcv := hv.cell)
        go_ret2
        rw [HE.out.1, HE.out.2.1, HE.out.2.2]
        exact ⟨v, rfl, hr, hF3.low⟩
      | none =>
        rw [hq] at HI
        have HI2 := Lib.hid HI
        have HN := Lib.hid (ct_next HC.out hle hq)
        clear hq HI
        go_wp2_with (go_at_call 61; refine HI2.out.mono ?_; rintro e w3 ⟨rfl, hF3⟩)
        go_roundw
        case rel => exact ⟨c + 1, by simp, by omega, HN, by simpa [finN, finL] using hF3⟩
        case measure => simp [intOf]; omega
    · have HE := Lib.hid (hN.out (ct_end HC.out (by omega)))
      go_wp2_with (fail)
      go_ret2
      rw [HE.out.1, HE.out.2.1, HE.out.2.2]
      exact ⟨_, rfl, World.ownsRow_nil _ _ _ _, HF.out.low⟩

theorem signs_any (x : Int) (w : World) (hT : SgT w) : Calls Tryd.prog 33 #[.int .i64 x] w fun e w' => ∃ v, e = .returned (.tuple #[v, .int .i64 (sgE x)]) ∧ w'.ownsRow w.heap.size 48 3 v (sgN x) (sgX x) ∧ Below w.heap.size w w' := by
  by_cases h : x < 0 ∨ 4608 < x
  · refine (signs_bad x w h).mono fun e w' ⟨he, hb⟩ => ⟨.slice none 0 0, by rw [he]; simp [sgE, h], ?_, hb⟩
    simp only [sgN, sgX, sgQ, if_pos h]
    exact World.ownsRow_nil _ _ _ _
  · exact signs_ok x w hT (by omega) (by omega)

end Go.Proofs.YtdhjigaocamglaaDoor

/- The reference's Signs, for every number. -/
namespace Go.Proofs.YtdhjigaocamglaaDoor
open Go Go.RowKit

end Go.Proofs.YtdhjigaocamglaaDoor

/- Pieces: Break, as plain lists: the signs of the parts. -/
namespace Go.Proofs.YtdhjigaocamglaaDoor
open Go Go.RowKit

/-- The signs of a number of ticks. -/
def sgS (x : Int) : List Sg := ((sgQ x).getD []).map soQ
theorem sgS_len (x : Int) : (sgS x).length = sgN x := by simp [sgS, sgN]
theorem sgS_cells (x : Int) : sfC (sgS x) = sgX x := by
  unfold sfC sgS sgX
  rw [List.flatMap_map]
  rfl
def tkSum : List Sg → Int
  | [] => 0
  | s :: r => tkS s + tkSum r
theorem tkSum_app (a b : List Sg) : tkSum (a ++ b) = tkSum a + tkSum b := by
  induction a with
  | nil => simp [tkSum]
  | cons s r ih => simp only [List.cons_append, tkSum, ih]; omega
theorem tkSum_soQ (l : List Nat) : tkSum (l.map soQ) = sumT l := by
  induction l with
  | nil => rfl
  | cons k r ih =>
    simp only [List.map_cons, tkSum, sumT, ih]
    rfl
theorem soQ_ok {k : Nat} (h : k < 21) : okB (soQ k).v (soQ k).d (soQ k).t = true := by
  rcases tks_range h with rfl | rfl | rfl | rfl | rfl | rfl | rfl | rfl | rfl | rfl | rfl | rfl | rfl | rfl | rfl | rfl | rfl | rfl | rfl | rfl | rfl <;> decide
theorem sgE_zero {x : Int} (h : sgE x = 0) : 0 ≤ x ∧ x ≤ 4608 ∧ ∃ l, sgP x = some l ∧ sgQ x = some l := by
  unfold sgE at h
  split at h
  · simp at h
  · rename_i hx
    cases hp : sgP x with
    | none => rw [hp] at h; simp at h
    | some l => exact ⟨by omega, by omega, l, rfl, by unfold sgQ; rw [if_neg hx]; exact hp⟩
theorem sgS_sum {x : Int} (h : sgE x = 0) : tkSum (sgS x) = x := by
  obtain ⟨_, _, l, h1, h2⟩ := sgE_zero h
  unfold sgS
  rw [h2]
  show tkSum (l.map soQ) = x
  rw [tkSum_soQ]
  exact (sgP_some h1).2.1.2.2
theorem sgS_ok {x : Int} (h : sgE x = 0) : ∀ s ∈ sgS x, okB s.v s.d s.t = true ∧ 4 ≤ tkS s ∧ tkS s ≤ 576 := fun s hs => by
  obtain ⟨_, _, l, h1, h2⟩ := sgE_zero h
  unfold sgS at hs
  rw [h2] at hs
  obtain ⟨k, hk, rfl⟩ := List.mem_map.1 hs
  have hk2 := ((sgP_some h1).2.1.2.1 k hk).2
  exact ⟨soQ_ok hk2, tks_four hk2⟩
theorem sgn_idx {v : Int} {d t : Bool} (h : okB v d t = true) : ∃ k, k < 21 ∧ soQ k = ⟨v, d, t⟩ := by
  have h1 : 1 ≤ v ∧ v ≤ 7 := by
    unfold okB at h
    simp at h
    exact ⟨h.1.1, h.1.2⟩
  have h2 : v = 1 ∨ v = 2 ∨ v = 3 ∨ v = 4 ∨ v = 5 ∨ v = 6 ∨ v = 7 := by omega
  have key : ∀ i : Fin 7, ∀ d t : Bool, (!(d && t)) = true → ∃ k : Fin 21, soQ k = ⟨(i : Nat) + 1, d, t⟩ := by
    have : ∀ i : Fin 7, ∀ d t : Bool, (!(d && t)) = true → ∃ k : Fin 21, (sgv k).1 = ((i : Nat) : Int) + 1 ∧ (sgv k).2.1 = d ∧ (sgv k).2.2 = t := by decide
    intro i d t hdt
    obtain ⟨k, k1, k2, k3⟩ := this i d t hdt
    exact ⟨k, by unfold soQ; rw [k1, k2, k3]⟩
  have h3 : (!(d && t)) = true := by
    unfold okB at h
    rw [Bool.and_eq_true] at h
    exact h.2
  obtain ⟨i, hi, rfl⟩ : ∃ i : Nat, i < 7 ∧ v = (i : Int) + 1 := ⟨(v - 1).toNat, by omega, by omega⟩
  obtain ⟨k, hk⟩ := key ⟨i, hi⟩ d t h3
  exact ⟨k, k.2, hk⟩
/-- The events of some signs, without stops. -/
def brS (tie : Bool) (bar : Int) : Int → List Sg → List EvP
  | _, [] => []
  | fm, s :: r => ⟨decide (0 < fm) && decide (fm % bar = 0), s.v, s.d, s.t, tie, []⟩ :: brS tie bar (fm + tkS s) r
theorem brS_len (tie : Bool) (bar : Int) : ∀ (l : List Sg) (fm : Int), (brS tie bar fm l).length = l.length
  | [], _ => rfl
  | _ :: r, _ => by simp [brS, brS_len tie bar r]
theorem brS_app (tie : Bool) (bar : Int) : ∀ (a b : List Sg) (fm : Int), brS tie bar fm (a ++ b) = brS tie bar fm a ++ brS tie bar (fm + tkSum a) b
  | [], b, fm => by simp [brS, tkSum]
  | s :: r, b, fm => by
    simp only [List.cons_append, brS, tkSum, brS_app tie bar r]
    rw [Int.add_assoc]
/-- The lengths of the parts. -/
def ptM (bar fm to : Int) : Int := min (to - fm) (bar - fm % bar)
def ptL (bar to : Int) : Nat → Int → List Int
  | 0, _ => []
  | n + 1, fm => if fm < to then ptM bar fm to :: ptL bar to n (fm + ptM bar fm to) else []
theorem ptM_pos {bar fm to : Int} (hb : 1 ≤ bar) (h : fm < to) : 1 ≤ ptM bar fm to ∧ ptM bar fm to ≤ to - fm := by
  have := Int.emod_lt_of_pos fm (show 0 < bar by omega)
  unfold ptM
  omega
theorem ptL_fuel {bar to : Int} (hb : 1 ≤ bar) : ∀ (n m : Nat) (fm : Int), (to - fm).toNat ≤ n → (to - fm).toNat ≤ m → ptL bar to n fm = ptL bar to m fm
  | 0, 0, _, _, _ => rfl
  | 0, m + 1, fm, h, _ => by
    unfold ptL
    rw [if_neg (by omega)]
  | n + 1, 0, fm, _, h => by
    unfold ptL
    rw [if_neg (by omega)]
  | n + 1, m + 1, fm, h1, h2 => by
    unfold ptL
    by_cases h : fm < to
    · obtain ⟨p1, p2⟩ := ptM_pos hb h
      rw [if_pos h, if_pos h, ptL_fuel hb n m _ (by omega) (by omega)]
    · rw [if_neg h, if_neg h]
def ptA (bar fm to : Int) : List Int := ptL bar to (to - fm).toNat fm
theorem ptA_end {bar fm to : Int} (h : to ≤ fm) : ptA bar fm to = [] := by
  unfold ptA
  rw [show (to - fm).toNat = 0 by omega]
  rfl
theorem ptA_step {bar fm to : Int} (hb : 1 ≤ bar) (h : fm < to) : ptA bar fm to = ptM bar fm to :: ptA bar (fm + ptM bar fm to) to := by
  obtain ⟨p1, p2⟩ := ptM_pos hb h
  obtain ⟨n, hn⟩ : ∃ n, (to - fm).toNat = n + 1 := ⟨(to - fm).toNat - 1, by omega⟩
  unfold ptA
  rw [hn, ptL, if_pos h, ptL_fuel hb n (to - (fm + ptM bar fm to)).toNat _ (by omega) (by omega)]
/-- The signs of all parts, if there are signs for each. -/
def sgAll : List Int → Option (List Sg)
  | [] => some []
  | x :: r => if sgE x = 0 then (sgAll r).map (sgS x ++ ·) else none
theorem sgAll_bad {x : Int} {r : List Int} (h : sgE x ≠ 0) : sgAll (x :: r) = none := by rw [sgAll, if_neg h]
theorem sgAll_good {x : Int} {r : List Int} (h : sgE x = 0) : sgAll (x :: r) = (sgAll r).map (sgS x ++ ·) := by rw [sgAll, if_pos h]
def tie1 (b : Bool) : List EvP → List EvP
  | [] => []
  | y :: r => { y with tie := b } :: r
theorem tie1_len (b : Bool) (l : List EvP) : (tie1 b l).length = l.length := by cases l <;> rfl
def brF (bar : Int) (p : TmP) : Option (List EvP) := (sgAll (ptA bar p.fm p.to)).map fun S => tie1 p.y.tie (brS (!restB p.y) bar p.fm S)
structure BrS where
  ev : List EvP
  bc : List Int
def brGo (bar : Int) : List TmP → BrS → Option BrS
  | [], a => some a
  | p :: X, a => match brF bar p with
    | none => none
    | some l => brGo bar X ⟨a.ev ++ l, a.bc ++ [(a.ev.length : Int)]⟩
theorem sgAll_sum : ∀ (n : Nat) (bar fm to : Int) (S : List Sg), 1 ≤ bar → (to - fm).toNat = n → fm ≤ to → sgAll (ptA bar fm to) = some S → tkSum S = to - fm ∧ (∀ s ∈ S, okB s.v s.d s.t = true ∧ 4 ≤ tkS s ∧ tkS s ≤ 576) := by
  intro n
  induction n using Nat.strongRecOn with
  | ind n ih =>
    intro bar fm to S hb hn hle hS
    by_cases h : fm < to
    · obtain ⟨p1, p2⟩ := ptM_pos hb h
      rw [ptA_step hb h] at hS
      by_cases he : sgE (ptM bar fm to) = 0
      · rw [sgAll_good he] at hS
        obtain ⟨R, hR, rfl⟩ := Option.map_eq_some_iff.1 hS
        obtain ⟨h1, h2⟩ := ih (to - (fm + ptM bar fm to)).toNat (by omega) bar _ to R hb rfl (by omega) hR
        refine ⟨by rw [tkSum_app, sgS_sum he, h1]; omega, fun s hs => ?_⟩
        rcases List.mem_append.1 hs with hs | hs
        · exact sgS_ok he s hs
        · exact h2 s hs
      · rw [sgAll_bad he] at hS
        cases hS
    · rw [ptA_end (by omega)] at hS
      injection hS with hS
      subst hS
      exact ⟨by simp [tkSum]; omega, fun s hs => by simp at hs⟩
theorem tkSum_len {S : List Sg} (h : ∀ s ∈ S, 4 ≤ tkS s) : 4 * (S.length : Int) ≤ tkSum S := by
  induction S with
  | nil => simp [tkSum]
  | cons s r ih =>
    have h1 := ih fun x hx => h x (List.mem_cons_of_mem _ hx)
    have h2 := h s (List.mem_cons_self ..)
    simp only [tkSum, List.length_cons]
    omega

end Go.Proofs.YtdhjigaocamglaaDoor
