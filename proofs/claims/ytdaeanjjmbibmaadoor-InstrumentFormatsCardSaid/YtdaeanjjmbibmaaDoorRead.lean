/- What the functions that read names return: one contract for each function. -/
import Derived.Test.YtdaeanjjmbibmaaDoorNames0
import Derived.Test.YtdaeanjjmbibmaaDoorShelf
import Derived.Test.YtdaeanjjmbibmaaDoorPure2
namespace Go.Proofs.YtdaeanjjmbibmaaDoor
open Go.RowKit

def octV (t : List UInt8) : Int := (pOct t).getD 0
def octB (t : List UInt8) : Bool := (pOct t).isSome

theorem ret_ib {k : IntKind} {a b : Int} {c d : Bool} (h : a = b) (he : c = d) : Ending.returned (.tuple #[.int k a, .bool c]) = .returned (.tuple #[.int k b, .bool d]) := by rw [h, he]
theorem oct_yes (c : UInt8) (h : 48 ≤ (c.toNat : Int) ∧ (c.toNat : Int) ≤ 57) : octV [c] = (c.toNat : Int) - 48 ∧ octB [c] = true := by
  have : isDig c = true := by simp [isDig]; omega
  simp [octV, octB, pOct, this]
theorem oct_no (c : UInt8) (h : (c.toNat : Int) < 48 ∨ 57 < (c.toNat : Int)) : octV [c] = 0 ∧ octB [c] = false := by
  have : isDig c = false := by simp [isDig]; omega
  simp [octV, octB, pOct, this]
theorem oct_m1 : octV [45, 49] = -1 ∧ octB [45, 49] = true := by decide
theorem oct_many (l : List UInt8) (h : l.length ≠ 1) (h2 : (l == [45, 49]) = false) : octV l = 0 ∧ octB l = false := by
  have h3 : l ≠ [45, 49] := by simpa using h2
  unfold octV octB pOct
  rw [if_neg h3]
  match l, h with
  | [], _ => exact ⟨rfl, rfl⟩
  | [_], h => exact absurd rfl h
  | _ :: _ :: _, _ => exact ⟨rfl, rfl⟩

set_option maxHeartbeats 400000 in
theorem readOctave_one (c : UInt8) (w : World) :
    Calls Tryd.prog 135 #[.string ⟨#[c]⟩] w fun e w' => e = .returned (.tuple #[.int .i64 (octV [c]), .bool (octB [c])]) ∧ w = w' := by
  go_enter Tryd.func135, Tryd.ntmps135
  go_wp2_with (fail)
  · rename_i h
    go_ret2
    exact ⟨ret_ib (oct_no c h).1.symm (oct_no c h).2.symm, rfl⟩
  · rename_i h
    go_ret2
    exact ⟨ret_ib (oct_yes c h).1.symm (oct_yes c h).2.symm, rfl⟩
  · rename_i h
    go_ret2
    exact ⟨ret_ib (oct_no c (.inl h)).1.symm (oct_no c (.inl h)).2.symm, rfl⟩

set_option maxHeartbeats 400000 in
theorem readOctave_many (l : List UInt8) (w : World) (h : l.length ≠ 1) :
    Calls Tryd.prog 135 #[.string ⟨l.toArray⟩] w fun e w' => e = .returned (.tuple #[.int .i64 (octV l), .bool (octB l)]) ∧ w = w' := by
  by_cases h2 : l = [45, 49]
  · subst h2
    clear h
    go_enter Tryd.func135, Tryd.ntmps135
    go_wp2_with (fail)
    go_ret2
    exact ⟨ret_ib oct_m1.1.symm oct_m1.2.symm, rfl⟩
  · have h3 : (l == [45, 49]) = false := by simpa using h2
    have hl : ¬ (l.length : Int) = 1 := by omega
    have H := Lib.hid (oct_many l h h3)
    clear h h2
    go_enter Tryd.func135, Tryd.ntmps135
    go_wp2_with (fail)
    go_ret2
    exact ⟨ret_ib H.out.1.symm H.out.2.symm, rfl⟩

theorem readOctave_any (l : List UInt8) (w : World) :
    Calls Tryd.prog 135 #[.string ⟨l.toArray⟩] w fun e w' => e = .returned (.tuple #[.int .i64 (octV l), .bool (octB l)]) ∧ w = w' := by
  by_cases h : l.length = 1
  · match l, h with
    | [c], _ => exact readOctave_one c w
  · exact readOctave_many l w h

def altV (t : List UInt8) : Int := (pAlt t).1
def altR (t : List UInt8) : List UInt8 := (pAlt t).2

theorem ret_is {k : IntKind} {a b : Int} {c d : ByteArray} (h : a = b) (he : c = d) : Ending.returned (.tuple #[.int k a, .string c]) = .returned (.tuple #[.int k b, .string d]) := by rw [h, he]
theorem alt_flat (l : List UInt8) (h : Lib.hasPrefix l (altB (-1)) = true) : altV l = -1 ∧ altR l = Lib.trimPrefix l (altB (-1)) := by
  match l, h with
  | [], h => simp [altB, Lib.hasPrefix] at h
  | c :: r, h =>
    have : c = 98 := by simp [altB, Lib.hasPrefix] at h; exact h.symm
    subst this
    simp [altV, altR, pAlt, altB, Lib.trimPrefix, Lib.hasPrefix]
theorem alt_sharp (l : List UInt8) (h : Lib.hasPrefix l (altB 1) = true) : altV l = 1 ∧ altR l = Lib.trimPrefix l (altB 1) := by
  match l, h with
  | [], h => simp [altB, Lib.hasPrefix] at h
  | c :: r, h =>
    have : c = 35 := by simp [altB, Lib.hasPrefix] at h; exact h.symm
    subst this
    simp [altV, altR, pAlt, altB, Lib.trimPrefix, Lib.hasPrefix]
theorem alt_none (l : List UInt8) (h : Lib.hasPrefix l (altB (-1)) = false) (h2 : Lib.hasPrefix l (altB 1) = false) : altV l = 0 ∧ altR l = l := by
  match l, h, h2 with
  | [], _, _ => exact ⟨rfl, rfl⟩
  | c :: r, h, h2 =>
    have h3 : c ≠ 98 := by rintro rfl; simp [altB, Lib.hasPrefix] at h
    have h4 : c ≠ 35 := by rintro rfl; simp [altB, Lib.hasPrefix] at h2
    unfold altV altR pAlt
    split <;> simp_all

set_option maxHeartbeats 800000 in
theorem readAlter_any (l : List UInt8) (w : World) :
    Calls Tryd.prog 134 #[.string ⟨l.toArray⟩] w fun e w' => e = .returned (.tuple #[.int .i64 (altV l), .string ⟨(altR l).toArray⟩]) ∧ Below w.heap.size w w' := by
  cases hA : Lib.hasPrefix l (altB (-1)) with
  | true =>
    have H := Lib.hid (alt_flat l hA)
    go_enter Tryd.func134, Tryd.ntmps134
    go_wp2_with (fail)
    refine wp_loop_rounds 3 ?_
    rw [rounds_succ]
    go_wp2_with (first | (go_at_call 108; refine (alterName_any _ _).mono ?_; rintro e w1 ⟨rfl, rfl⟩) | (go_at_call 133; refine (Tryd.strings_CutPrefix _ _ _).mono ?_; rintro e w1 ⟨rfl, rfl⟩))
    go_ret2
    exact ⟨ret_is H.out.1.symm (by rw [H.out.2]), ba _ _⟩
  | false =>
    cases hB : Lib.hasPrefix l (altB 1) with
    | true =>
      have H := Lib.hid (alt_sharp l hB)
      go_enter Tryd.func134, Tryd.ntmps134
      go_wp2_with (fail)
      refine wp_loop_rounds 3 ?_
      rw [rounds_succ]
      go_wp2_with (first | (go_at_call 108; refine (alterName_any _ _).mono ?_; rintro e w1 ⟨rfl, rfl⟩) | (go_at_call 133; refine (Tryd.strings_CutPrefix _ _ _).mono ?_; rintro e w1 ⟨rfl, rfl⟩))
      rw [rounds_succ]
      go_wp2_with (first | (go_at_call 108; refine (alterName_any _ _).mono ?_; rintro e w1 ⟨rfl, rfl⟩) | (go_at_call 133; refine (Tryd.strings_CutPrefix _ _ _).mono ?_; rintro e w1 ⟨rfl, rfl⟩))
      go_ret2
      exact ⟨ret_is H.out.1.symm (by rw [H.out.2]), ba _ _⟩
    | false =>
      have H := Lib.hid (alt_none l hA hB)
      go_enter Tryd.func134, Tryd.ntmps134
      go_wp2_with (fail)
      refine wp_loop_rounds 3 ?_
      rw [rounds_succ]
      go_wp2_with (first | (go_at_call 108; refine (alterName_any _ _).mono ?_; rintro e w1 ⟨rfl, rfl⟩) | (go_at_call 133; refine (Tryd.strings_CutPrefix _ _ _).mono ?_; rintro e w1 ⟨rfl, rfl⟩))
      rw [rounds_succ]
      go_wp2_with (first | (go_at_call 108; refine (alterName_any _ _).mono ?_; rintro e w1 ⟨rfl, rfl⟩) | (go_at_call 133; refine (Tryd.strings_CutPrefix _ _ _).mono ?_; rintro e w1 ⟨rfl, rfl⟩))
      rw [rounds_succ]
      go_wp2_with (fail)
      go_ret2
      exact ⟨ret_is H.out.1.symm (by rw [H.out.2]), ba _ _⟩

theorem letC_ix0 (w : World) : (Instr.index 120 (.agg letC) (.int .i64 ((0 : Nat) : Int))).run Tryd.prog w = .ok (.agg #[.string (lnm 0), .int .i64 (bas ((0 : Nat) : Int)), .int .i64 (fif ((0 : Nat) : Int))]) w := by kernel_rfl
theorem letC_ix1 (w : World) : (Instr.index 120 (.agg letC) (.int .i64 ((1 : Nat) : Int))).run Tryd.prog w = .ok (.agg #[.string (lnm 1), .int .i64 (bas ((1 : Nat) : Int)), .int .i64 (fif ((1 : Nat) : Int))]) w := by kernel_rfl
theorem letC_ix2 (w : World) : (Instr.index 120 (.agg letC) (.int .i64 ((2 : Nat) : Int))).run Tryd.prog w = .ok (.agg #[.string (lnm 2), .int .i64 (bas ((2 : Nat) : Int)), .int .i64 (fif ((2 : Nat) : Int))]) w := by kernel_rfl
theorem letC_ix3 (w : World) : (Instr.index 120 (.agg letC) (.int .i64 ((3 : Nat) : Int))).run Tryd.prog w = .ok (.agg #[.string (lnm 3), .int .i64 (bas ((3 : Nat) : Int)), .int .i64 (fif ((3 : Nat) : Int))]) w := by kernel_rfl
theorem letC_ix4 (w : World) : (Instr.index 120 (.agg letC) (.int .i64 ((4 : Nat) : Int))).run Tryd.prog w = .ok (.agg #[.string (lnm 4), .int .i64 (bas ((4 : Nat) : Int)), .int .i64 (fif ((4 : Nat) : Int))]) w := by kernel_rfl
theorem letC_ix5 (w : World) : (Instr.index 120 (.agg letC) (.int .i64 ((5 : Nat) : Int))).run Tryd.prog w = .ok (.agg #[.string (lnm 5), .int .i64 (bas ((5 : Nat) : Int)), .int .i64 (fif ((5 : Nat) : Int))]) w := by kernel_rfl
theorem letC_ix6 (w : World) : (Instr.index 120 (.agg letC) (.int .i64 ((6 : Nat) : Int))).run Tryd.prog w = .ok (.agg #[.string (lnm 6), .int .i64 (bas ((6 : Nat) : Int)), .int .i64 (fif ((6 : Nat) : Int))]) w := by kernel_rfl
theorem letC_ix (k : Nat) (h : k < 7) (w : World) : (Instr.index 120 (.agg letC) (.int .i64 k)).run Tryd.prog w = .ok (.agg #[.string (lnm k), .int .i64 (bas k), .int .i64 (fif k)]) w :=
  match k, h with
  | 0, _ => letC_ix0 w
  | 1, _ => letC_ix1 w
  | 2, _ => letC_ix2 w
  | 3, _ => letC_ix3 w
  | 4, _ => letC_ix4 w
  | 5, _ => letC_ix5 w
  | 6, _ => letC_ix6 w
theorem letC_load : (Tryd.prog.info? 120).map (·.size) = some letC.size := by kernel_rfl

/-- Is the byte at the head of the text the letter number n? -/
def hasL (l : List UInt8) (n : Nat) : Bool := Lib.hasPrefix l (lnm n).data.toList
theorem form_at (l : List UInt8) (k : Nat) (hk : k < 7) (h : hasL l k = true) :
    pForm l = (pOct (altR (Lib.trimPrefix l (lnm k).data.toList))).map fun o => (k, altV (Lib.trimPrefix l (lnm k).data.toList), o) := by
  match l, h with
  | [], h =>
    have : k = 0 ∨ k = 1 ∨ k = 2 ∨ k = 3 ∨ k = 4 ∨ k = 5 ∨ k = 6 := by omega
    rcases this with rfl | rfl | rfl | rfl | rfl | rfl | rfl <;> cases h
  | c :: r, h =>
    have e : lnm k = ⟨#[(lnB k).getD 0 0]⟩ := by
      have : k = 0 ∨ k = 1 ∨ k = 2 ∨ k = 3 ∨ k = 4 ∨ k = 5 ∨ k = 6 := by omega
      rcases this with rfl | rfl | rfl | rfl | rfl | rfl | rfl <;> rfl
    have hc : c = (lnB k).getD 0 0 := by
      rw [hasL, e] at h
      simp [Lib.hasPrefix] at h
      simpa using h.symm
    have hl : ltrOf c = some k := by
      rw [hc]
      have : k = 0 ∨ k = 1 ∨ k = 2 ∨ k = 3 ∨ k = 4 ∨ k = 5 ∨ k = 6 := by omega
      rcases this with rfl | rfl | rfl | rfl | rfl | rfl | rfl <;> decide
    have ht : Lib.trimPrefix (c :: r) (lnm k).data.toList = r := by
      unfold Lib.trimPrefix
      rw [if_pos (show Lib.hasPrefix (c :: r) (lnm k).data.toList = true from h), e]
      simp
    rw [ht, pForm, hl]
    rfl
theorem form_none (l : List UInt8) (h : ∀ n, n < 7 → hasL l n = false) : pForm l = none := by
  match l, h with
  | [], _ => rfl
  | c :: r, h =>
    have h0 := h 0 (by omega)
    have h1 := h 1 (by omega)
    have h2 := h 2 (by omega)
    have h3 := h 3 (by omega)
    have h4 := h 4 (by omega)
    have h5 := h 5 (by omega)
    have h6 := h 6 (by omega)
    have g : ∀ x : UInt8, [x].isPrefixOf (c :: r) = false → c ≠ x := by rintro x hx rfl; simp [List.isPrefixOf] at hx
    have : ltrOf c = none := by
      unfold ltrOf
      rw [if_neg (g 67 h0), if_neg (g 68 h1), if_neg (g 69 h2), if_neg (g 70 h3), if_neg (g 71 h4), if_neg (g 65 h5), if_neg (g 66 h6)]
    rw [pForm, this]
    rfl
theorem keepc {w W : World} {cs : Array Value} {t : TypeId} (hb : Below (w.alloc (.cells cs t)).heap.size (w.alloc (.cells cs t)) W) (j : Nat) :
    W.cell? ⟨w.heap.size, j, none⟩ = cs[j]? ∧ W.frozen? ⟨w.heap.size, j, none⟩ = false := by
  obtain ⟨hc, hf⟩ := bcell hb
  constructor
  · rw [hc _ _ (by simp)]; simp
  · rw [hf _ _ (by simp)]; simp
def NamePost (l : List UInt8) (w : World) (e : Ending) (w' : World) : Prop :=
  ∃ n a o : Int, e = .returned (.tuple #[.agg #[.int .i64 n, .int .i64 a, .int .i64 o], .bool (pForm l).isSome]) ∧ (∀ n' a' o', pForm l = some (n', a', o') → n = (n' : Int) ∧ a = a' ∧ o = o') ∧ Below w.heap.size w w'

/-- The cell in which the note is laid. -/
abbrev zSp : Obj := .cells #[.int .i64 0, .int .i64 0, .int .i64 0] 70

set_option maxHeartbeats 800000 in
theorem readName_any (l : List UInt8) (w : World) (E : Env w) :
    Calls Tryd.prog 118 #[.string ⟨l.toArray⟩] w (NamePost l w) := by
  obtain ⟨t, fr, hr⟩ := E.lrow
  have hg := E.big
  have hr2 : ∀ o, (w.alloc o).heap[1]? = some (.cells letC t fr) := fun o => ((ba w o).block _ (by omega)).trans hr
  go_enter Tryd.func118, Tryd.ntmps118
  go_wp2_with (refine wpList_load_row rfl 120 _ rfl 1 rfl t letC fr _ (hr2 _) Tryd.underlying120 rfl letC_load ?_)
  go_loopw [13, 5, 4, 6, 7] (fun i _ _ _ _ wr => ∃ k : Nat, k ≤ 7 ∧ i = .int .i64 k ∧ (∀ n, n < k → hasL l n = false) ∧ Below (w.alloc zSp).heap.size (w.alloc zSp) wr) (fun i _ _ _ _ _ => 7 - (intOf i).toNat)
  case atStart => exact ⟨0, by omega, rfl, fun n hn => by omega, Below.refl _ _⟩
  case round =>
    obtain ⟨k, hk, rfl, hno, hb⟩ := hrel
    have HN := Lib.hid hno
    clear hno
    obtain ⟨hc, hf⟩ := bcell hb
    have hz := hb.size
    simp at hz
    by_cases hlt : k < 7
    · have hix := letC_ix k hlt
      cases hh : hasL l k with
      | true =>
        have HF := Lib.hid (form_at l k hlt hh)
        unfold hasL at hh
        go_wp2_with (first | (go_at_call 133; refine (Tryd.strings_CutPrefix _ _ _).mono ?_; rintro e w1 ⟨rfl, rfl⟩) | (go_at_call 134; refine (readAlter_any _ _).mono ?_; rintro e w2 ⟨rfl, hb2⟩; have hbT := bt hb (bx hb2); obtain ⟨q0, q1⟩ := keepc hbT 0; obtain ⟨q2, q3⟩ := keepc hbT 1; obtain ⟨q4, q5⟩ := keepc hbT 2; simp at q0 q2 q4) | (go_at_call 135; refine (readOctave_any _ _).mono ?_; rintro e w3 ⟨rfl, rfl⟩))
        refine bodyPost_ret (v := .tuple #[.agg #[.int .i64 k, .int .i64 (altV (Lib.trimPrefix l (lnm k).data.toList)), .int .i64 (octV (altR (Lib.trimPrefix l (lnm k).data.toList)))], .bool (octB (altR (Lib.trimPrefix l (lnm k).data.toList)))]) ?_ rfl ?_
        · simp [results, Tryd.results118, go_sem, q0, q2, q4]
          done
        · refine ⟨k, altV (Lib.trimPrefix l (lnm k).data.toList), octV (altR (Lib.trimPrefix l (lnm k).data.toList)), by rw [HF.out]; unfold octB; simp, fun n' a' o' he => ?_, (((bt (bx hb) (bx hb2)).setCell (Nat.le_refl _) _).setCell (Nat.le_refl _) _).setCell (Nat.le_refl _) _⟩
          rw [HF.out] at he
          obtain ⟨x, hx, hy⟩ := Option.map_eq_some_iff.1 he
          simp only [Prod.mk.injEq] at hy
          refine ⟨by rw [hy.1], hy.2.1, ?_⟩
          rw [octV, hx, ← hy.2.2]
          rfl
      | false =>
        unfold hasL at hh
        go_wp2_with (first | (go_at_call 133; refine (Tryd.strings_CutPrefix _ _ _).mono ?_; rintro e w1 ⟨rfl, rfl⟩))
        go_roundw
        case rel =>
          refine ⟨k + 1, by omega, by go_num, fun n hn => ?_, hb.alloc (by simp; omega) _⟩
          by_cases e : n = k
          · subst e; exact hh
          · exact HN.out n (by omega)
        case measure => simp [intOf]; omega
    · have hk7 : k = 7 := by omega
      subst hk7
      have HF := Lib.hid (form_none l HN.out)
      go_wp2_with (fail)
      refine bodyPost_ret (v := .tuple #[.agg #[.int .i64 0, .int .i64 0, .int .i64 0], .bool false]) ?_ rfl ?_
      · simp [results, Tryd.results118, go_sem, hc]
        done
      · refine ⟨0, 0, 0, by rw [HF.out]; rfl, (fun n' a' o' he => by rw [HF.out] at he; cases he), (((bx hb).setCell (Nat.le_refl _) _).setCell (Nat.le_refl _) _).setCell (Nat.le_refl _) _⟩

end Go.Proofs.YtdaeanjjmbibmaaDoor
