/- Piece: Signs, for every number. -/
import Derived.Test.YtdhjigaocamglaaDoorQaFillA
import Derived.Test.YtdhjigaocamglaaDoorQaWorks2
import Derived.Test.YtdhjigaocamglaaDoorQaRefFew
namespace Go.Proofs.YtdhjigaocamglaaDoor
open Go Go.RowKit

/-- What Signs answers: the list and the error. -/
def sgQ (x : Int) : Option (List Nat) := if x < 0 ∨ 4608 < x then none else sgP x
def sgE (x : Int) : Int := if x < 0 ∨ 4608 < x then 1 else match sgP x with
  | some _ => 0
  | none => 25
def sgN (x : Int) : Nat := ((sgQ x).getD []).length
def sgX (x : Int) : List Value := ((sgQ x).getD []).flatMap sgL
/-- Where the loop over the counts stands. -/
def CtOk (x : Int) (c : Nat) : Prop := ∃ m : Nat, (c : Int) + (m : Int) = x / 4 + 1 ∧ sgQc x c m = sgP x
theorem ct_start {x : Int} (h : 0 ≤ x) : CtOk x 0 := ⟨(x / 4 + 1).toNat, by omega, rfl⟩
theorem ct_end {x : Int} {c : Nat} (h : CtOk x c) (h1 : x < c * 4) : sgP x = none := by
  obtain ⟨m, h2, h3⟩ := h
  obtain rfl : m = 0 := by omega
  exact h3.symm
theorem ct_next {x : Int} {c : Nat} (h : CtOk x c) (h1 : (c : Int) * 4 ≤ x) (h2 : fl c x 0 = none) : CtOk x (c + 1) := by
  obtain ⟨m, h3, h4⟩ := h
  match m, h3, h4 with
  | 0, h3, _ => omega
  | m + 1, h3, h4 =>
    refine ⟨m, by omega, ?_⟩
    rw [sgQc, h2] at h4
    exact h4
theorem ct_hit {x : Int} {c : Nat} {l : List Nat} (h : CtOk x c) (h1 : (c : Int) * 4 ≤ x) (h2 : fl c x 0 = some l) : sgP x = some l := by
  obtain ⟨m, h3, h4⟩ := h
  match m, h3, h4 with
  | 0, h3, _ => omega
  | m + 1, h3, h4 =>
    rw [sgQc, h2] at h4
    exact h4.symm

set_option maxRecDepth 100000 in
set_option maxHeartbeats 1600000 in
theorem signs_bad (x : Int) (w : World) (h : x < 0 ∨ 4608 < x) : Calls Tryd.prog 33 #[.int .i64 x] w fun e w' => e = .returned (.tuple #[.slice none 0 0, .int .i64 1]) ∧ Below w.heap.size w w' := by
  rcases h with h | h
  · go_enter Tryd.func33, Tryd.ntmps33
    go_wp2_with (fail)
    go_ret2
    exact ⟨rfl, Below.refl _ _⟩
  · have h0 : ¬x < 0 := by omega
    go_enter Tryd.func33, Tryd.ntmps33
    go_wp2_with (fail)
    go_ret2
    exact ⟨rfl, Below.refl _ _⟩

set_option maxRecDepth 100000 in
set_option maxHeartbeats 1600000 in
theorem signs_ok (x : Int) (w : World) (hT : SgT w) (h0 : 0 ≤ x) (h1 : x ≤ 4608) : Calls Tryd.prog 33 #[.int .i64 x] w fun e w' => ∃ v, e = .returned (.tuple #[v, .int .i64 (sgE x)]) ∧ w'.ownsRow w.heap.size 48 3 v (sgN x) (sgX x) ∧ Below w.heap.size w w' := by
  have hmf : ∀ (fn : Fn) (first cap : Array Value) (w : World), (Instr.makeFunc fn first cap).run Tryd.prog w = .ok (.func fn first cap) w := fun _ _ _ _ => rfl
  have bF := Boxed.new (w.alloc (.cells #[.slice none 0 0] 69)) 98 (fillV w.heap.size (w.heap.size + 1))
  rw [World.size_alloc] at bF
  have bC := (Boxed.new w 69 (.slice none 0 0)).alloc (.cells #[fillV w.heap.size (w.heap.size + 1)] 98)
  have lo : Below w.heap.size w ((w.alloc (.cells #[.slice none 0 0] 69)).alloc (.cells #[fillV w.heap.size (w.heap.size + 1)] 98)) := (ba w _).alloc (by simp) _
  have hFS : FS w w.heap.size (w.heap.size + 1) 0 [] ((w.alloc (.cells #[.slice none 0 0] 69)).alloc (.cells #[fillV w.heap.size (w.heap.size + 1)] 98)) := ⟨⟨_, bC, World.ownsRow_nil _ _ _ _⟩, bF, lo, hT.below lo⟩
  have hg : 0 < w.heap.size := hT.1
  have HFS := Lib.hid hFS
  have hE : Hid (∀ l, sgP x = some l → sgE x = 0 ∧ sgN x = finN 0 (some l) ∧ sgX x = finL [] (some l)) := fun l hl => by
    have hn : ¬(x < 0 ∨ 4608 < x) := by omega
    simp [sgE, sgN, sgX, sgQ, hn, hl, finN, finL]
  have hN : Hid (sgP x = none → sgE x = 25 ∧ sgN x = 0 ∧ sgX x = []) := fun hl => by
    have hn : ¬(x < 0 ∨ 4608 < x) := by omega
    simp [sgE, sgN, sgX, sgQ, hn, hl]
  clear hT bF bC lo hFS
  go_enter Tryd.func33, Tryd.ntmps33
  go_wp2_with (fail)
  obtain ⟨W3, hW3⟩ : ∃ W3, (w.alloc (.cells #[.slice none 0 0] 69)).alloc (.cells #[fillV w.heap.size (w.heap.size + 1)] 98) = W3 := ⟨_, rfl⟩
  rw [hW3] at HFS ⊢
  clear hW3
  go_loopw [6] (fun v wr => ∃ c : Nat, v = .int .i64 c ∧ (c : Int) ≤ 1200 ∧ Hid (CtOk x c) ∧ FS w w.heap.size (w.heap.size + 1) 0 [] wr) (fun v _ => 1300 - (intOf v).toNat)
  case atStart => exact ⟨0, rfl, by omega, ct_start h0, HFS.out⟩
  case round =>
    obtain ⟨c, rfl, hc12, HC, hF⟩ := hrel
    have HF := Lib.hid hF
    have hcf := hF.fn.cell
    clear hF
    by_cases hle : (c : Int) * 4 ≤ x
    · have HI := fill_all w w.heap.size (w.heap.size + 1) hg (Nat.le_refl _) c (by omega) 0 [] x 0 _ (by omega) HF.out (by omega) h0 (by omega)
      cases hq : fl c x 0 with
      | some l =>
        rw [hq] at HI
        have HI2 := Lib.hid HI
        obtain ⟨e1, e2, e3⟩ := hE.out l (ct_hit HC.out hle hq)
        have HE := Lib.hid (And.intro e1 (And.intro e2 e3))
        clear e1 e2 e3 hq HI
        go_wp2_with (go_at_call 61; refine HI2.out.mono ?_; rintro e w3 ⟨rfl, hF3⟩; obtain ⟨v, hv, hr⟩ := hF3.row; have hcv := hv.cell)
        go_ret2
        rw [HE.out.1, HE.out.2.1, HE.out.2.2]
        exact ⟨v, rfl, hr, hF3.low⟩
      | none =>
        rw [hq] at HI
        have HI2 := Lib.hid HI
        have HN := Lib.hid (ct_next HC.out hle hq)
        clear hq HI
        go_wp2_with (go_at_call 61; refine HI2.out.mono ?_; rintro e w3 ⟨rfl, hF3⟩)
        go_roundw
        case rel => exact ⟨c + 1, by simp, by omega, HN, by simpa [finN, finL] using hF3⟩
        case measure => simp [intOf]; omega
    · have HE := Lib.hid (hN.out (ct_end HC.out (by omega)))
      go_wp2_with (fail)
      go_ret2
      rw [HE.out.1, HE.out.2.1, HE.out.2.2]
      exact ⟨_, rfl, World.ownsRow_nil _ _ _ _, HF.out.low⟩

theorem signs_any (x : Int) (w : World) (hT : SgT w) : Calls Tryd.prog 33 #[.int .i64 x] w fun e w' => ∃ v, e = .returned (.tuple #[v, .int .i64 (sgE x)]) ∧ w'.ownsRow w.heap.size 48 3 v (sgN x) (sgX x) ∧ Below w.heap.size w w' := by
  by_cases h : x < 0 ∨ 4608 < x
  · refine (signs_bad x w h).mono fun e w' ⟨he, hb⟩ => ⟨.slice none 0 0, by rw [he]; simp [sgE, h], ?_, hb⟩
    simp only [sgN, sgX, sgQ, if_pos h]
    exact World.ownsRow_nil _ _ _ _
  · exact signs_ok x w hT (by omega) (by omega)

end Go.Proofs.YtdhjigaocamglaaDoor

/- The reference's Signs, for every number. -/
namespace Go.Proofs.YtdhjigaocamglaaDoor
open Go Go.RowKit

end Go.Proofs.YtdhjigaocamglaaDoor
