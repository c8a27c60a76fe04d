/- What the program's Check and At return for any instrument. -/
import Derived.Test.YtlmpoklakbjpnaaDoorCheck
namespace Go.Proofs.YtlmpoklakbjpnaaDoor
open Go.RowKit

def crC (C : List Cr) : List Value := C.flatMap fun c => [.int .i64 c.p, .int .i64 c.f, .bool c.o]
def z0 : Cr := ⟨0, 0, false⟩
theorem crC_len (C : List Cr) : (crC C).length = C.length * 3 := by
  induction C with
  | nil => rfl
  | cons c r ih => simp [crC] at ih ⊢; omega
theorem crC_at : ∀ (C : List Cr) (k : Nat), k < C.length → (crC C)[k * 3]? = some (.int .i64 (C.getD k z0).p) ∧ (crC C)[k * 3 + 1]? = some (.int .i64 (C.getD k z0).f) ∧ (crC C)[k * 3 + 2]? = some (.bool (C.getD k z0).o)
  | c :: r, 0, _ => ⟨rfl, rfl, rfl⟩
  | c :: r, k + 1, h => by
    have := crC_at r k (by simpa using h)
    have e : crC (c :: r) = .int .i64 c.p :: .int .i64 c.f :: .bool c.o :: crC r := rfl
    rw [e, show (k + 1) * 3 = k * 3 + 3 from by omega]
    exact this
theorem drop_consC (C : List Cr) (k : Nat) (h : k < C.length) : C.drop k = C.getD k z0 :: C.drop (k + 1) := by
  rw [List.drop_eq_getElem_cons h]; simp [List.getElem?_eq_getElem h]

theorem chk_many {C : List Cr} {S : List Int} (h : 14 < C.length ∨ 18 < S.length) : chk C S = 2 := by rw [chk, if_pos h]
theorem chk_none {C : List Cr} {S : List Int} (h : ¬ (14 < C.length ∨ 18 < S.length)) (h2 : C.length = 0 ∨ riseB 0 S = false) : chk C S = 11 := by rw [chk, if_neg h, if_pos h2]
theorem chk_rest {C : List Cr} {S : List Int} (h : ¬ (14 < C.length ∨ 18 < S.length)) (h2 : ¬ C.length = 0) (h3 : riseB 0 S = true) : chk C S = crsErr S C := by
  rw [chk, if_neg h, if_neg (by rw [h3]; simp; intro e; exact h2 (by rw [e]; rfl))]

theorem crErr_cases (S : List Int) (x : Cr) : crErr S x = 0 ∨ crErr S x = 13 ∨ crErr S x = 10 := by
  unfold crErr
  split
  · exact .inr (.inl rfl)
  · split
    · exact .inr (.inr rfl)
    · split
      · exact .inr (.inr rfl)
      · exact .inl rfl
theorem keepb {w W : World} {cs : Array Value} {t : TypeId} (hb : Below (w.alloc (.cells cs t)).heap.size (w.alloc (.cells cs t)) W) (j : Nat) :
    W.cell? ⟨w.heap.size, j, none⟩ = cs[j]? ∧ W.frozen? ⟨w.heap.size, j, none⟩ = false := by
  obtain ⟨hc, hf⟩ := bcell hb
  constructor
  · rw [hc _ _ (by simp)]; simp
  · rw [hf _ _ (by simp)]; simp

set_option maxHeartbeats 1600000 in
theorem check_any (A A' : Option Addr) (n c m c' : Nat) (C : List Cr) (S : List Int) (w : World) (hC : Sl w w.heap.size 3 A n c (crC C)) (hS : Sl w w.heap.size 1 A' m c' (intC S)) (hn : n = C.length) (hm : m = S.length)
    (hb : n ≤ 9223372036854775807) (hb2 : m ≤ 9223372036854775807) :
    Calls Tryd.prog 86 #[.agg #[.slice A n c, .slice A' m c']] w fun e w' => e = .returned (.int .i64 (chk C S)) ∧ Below w.heap.size w w' := by
  by_cases h1 : 14 < C.length ∨ 18 < S.length
  · have H := Lib.hid (chk_many h1)
    by_cases g1 : (14 : Int) < n
    · clear h1 hC hS hn hm
      go_enter Tryd.func86, Tryd.ntmps86
      go_wp2_with (fail)
      go_ret
      exact ⟨ret_int H.out.symm, ba _ _⟩
    · have g2 : (18 : Int) < m := by omega
      clear h1 hC hS hn hm
      go_enter Tryd.func86, Tryd.ntmps86
      go_wp2_with (fail)
      go_ret
      exact ⟨ret_int H.out.symm, ba _ _⟩
  · have g1 : (n : Int) ≤ 14 := by omega
    have g2 : (m : Int) ≤ 18 := by omega
    have HM := Lib.hid hm
    have HN := Lib.hid hn
    have HS : Hid (∀ o, Sl (w.alloc o) (w.alloc o).heap.size 1 A' m c' (intC S)) := fun o => hS.below (ba w o)
    have HC : Hid (∀ o, Sl (w.alloc o) (w.alloc o).heap.size 3 A n c (crC C)) := fun o => hC.below (ba w o)
    by_cases h2 : C.length = 0
    · have H := Lib.hid (chk_none h1 (.inl h2))
      have g3 : ((n : Int) == 0) = true := by simp; omega
      clear h1 h2 hC hS hn hm
      go_enter Tryd.func86, Tryd.ntmps86
      go_wp2_with (fail)
      go_ret
      exact ⟨ret_int H.out.symm, ba _ _⟩
    · have g3 : ((n : Int) == 0) = false := by simp; omega
      cases h3 : riseB 0 S with
      | false =>
        have H := Lib.hid (chk_none h1 (.inr h3))
        have HR := Lib.hid h3
        clear h1 h2 h3 hC hS hn hm
        go_enter Tryd.func86, Tryd.ntmps86
        go_wp2_with (go_at_call 111; refine (stepsRise_any A' m c' S _ (HS.out _) HM.out hb2).mono ?_; rintro e w2 ⟨rfl, rfl⟩; rw [HR.out])
        go_ret
        exact ⟨ret_int H.out.symm, ba _ _⟩
      | true =>
        have H := Lib.hid (chk_rest h1 h2 h3)
        have HR := Lib.hid h3
        clear h1 h2 h3 hC hS hn hm
        go_enter Tryd.func86, Tryd.ntmps86
        go_wp2_with (go_at_call 111; refine (stepsRise_any A' m c' S _ (HS.out _) HM.out hb2).mono ?_; rintro e w2 ⟨rfl, rfl⟩; rw [HR.out])
        go_loopw [29, 4, 5] (fun i _ _ wr => ∃ k : Nat, k ≤ n ∧ i = .int .i64 k ∧ crsErr S C = crsErr S (C.drop k) ∧ Below (w.alloc (.cells #[.slice A n c, .slice A' m c'] 25)).heap.size (w.alloc (.cells #[.slice A n c, .slice A' m c'] 25)) wr) (fun i _ _ _ => n - (intOf i).toNat)
        case atStart => exact ⟨0, by omega, rfl, rfl, Below.refl _ _⟩
        case round =>
          obtain ⟨k, hk, rfl, hr, hbw⟩ := hrel
          have HE := Lib.hid hr
          clear hr
          obtain ⟨q0, _⟩ := keepb hbw 0
          obtain ⟨q2, _⟩ := keepb hbw 1
          simp at q0 q2
          have hz : w.heap.size < wr.heap.size := by have := hbw.size; simp at this; omega
          by_cases hlt : k < n
          · have HSw : Hid (∀ o, Sl (wr.alloc o) (wr.alloc o).heap.size 1 A' m c' (intC S)) := fun o => ((HS.out _).below hbw).below (ba wr o)
            obtain ⟨b, off, rfl, hB, hc⟩ := ((HC.out _).below hbw).2.2 (by omega)
            obtain ⟨i0, i1, i2⟩ := crC_at C k (by have := HN.out; omega)
            have k0 := hc _ _ i0
            have k1 := hc _ _ i1
            have k2 := hc _ _ i2
            rw [← Nat.add_assoc] at k1 k2
            have HD := Lib.hid (drop_consC C k (by have := HN.out; omega))
            clear hc i0 i1 i2 HS HC
            generalize C.getD k z0 = x at *
            have HX := Lib.hid (crErr_cases S x)
            rcases HX.out with hx | hx | hx
            · have HV := Lib.hid hx
              clear hx
              go_wp2_with (go_at_call 112; refine (checkCourse_any A' m c' S x _ (HSw.out _) HM.out hb2 HR.out).mono ?_; rintro e w2 ⟨rfl, hbx⟩; rw [HV.out])
              go_roundw
              case rel => exact ⟨k + 1, by omega, by go_num, by rw [HE.out, HD.out, crsErr, if_pos HV.out], bt hbw (bx hbx)⟩
              case measure => simp [intOf]; omega
            · have HV := Lib.hid hx
              clear hx
              go_wp2_with (go_at_call 112; refine (checkCourse_any A' m c' S x _ (HSw.out _) HM.out hb2 HR.out).mono ?_; rintro e w2 ⟨rfl, hbx⟩; rw [HV.out])
              go_ret
              exact ⟨ret_int (by rw [H.out, HE.out, HD.out, crsErr, if_neg (by rw [HV.out]; decide), HV.out]), bx (bt hbw (bx hbx))⟩
            · have HV := Lib.hid hx
              clear hx
              go_wp2_with (go_at_call 112; refine (checkCourse_any A' m c' S x _ (HSw.out _) HM.out hb2 HR.out).mono ?_; rintro e w2 ⟨rfl, hbx⟩; rw [HV.out])
              go_ret
              exact ⟨ret_int (by rw [H.out, HE.out, HD.out, crsErr, if_neg (by rw [HV.out]; decide), HV.out]), bx (bt hbw (bx hbx))⟩
          · have hkn : k = n := by omega
            go_wp2_with (fail)
            go_ret
            exact ⟨ret_int (by rw [H.out, HE.out, List.drop_of_length_le (by have := HN.out; omega)]; rfl), bx hbw⟩

end Go.Proofs.YtlmpoklakbjpnaaDoor
