/- What the program's functions on the validity of an instrument return: one contract for each. -/
import Derived.Test.YtdhjigaocamglaaDoorQdLeaf
namespace Go.Proofs.YtdhjigaocamglaaDoor
open Go.RowKit

/-- A slice of n elements, each of so many cells, holds the cells xs; it lies below block B. -/
def Sl (w : World) (B size : Nat) (A : Option Addr) (n c : Nat) (xs : List Value) : Prop :=
  n ≤ c ∧ xs.length = n * size ∧ (0 < n → ∃ b off, A = some ⟨b, off, none⟩ ∧ b < B ∧ ∀ j u, xs[j]? = some u → w.cell? ⟨b, off + j, none⟩ = some u)

theorem Sl.keep {w w' : World} {B size n c : Nat} {A : Option Addr} {xs : List Value} (h : Sl w B size A n c xs) (hk : ∀ b o, b < B → w'.cell? ⟨b, o, none⟩ = w.cell? ⟨b, o, none⟩) : Sl w' B size A n c xs :=
  ⟨h.1, h.2.1, fun hn => by
    obtain ⟨b, off, e, hb, hc⟩ := h.2.2 hn
    exact ⟨b, off, e, hb, fun j u hu => (hk b _ hb).trans (hc j u hu)⟩⟩
theorem Sl.more {w : World} {B B' size n c : Nat} {A : Option Addr} {xs : List Value} (h : Sl w B size A n c xs) (hB : B ≤ B') : Sl w B' size A n c xs :=
  ⟨h.1, h.2.1, fun hn => by
    obtain ⟨b, off, e, hb, hc⟩ := h.2.2 hn
    exact ⟨b, off, e, by omega, hc⟩⟩
theorem Sl.below {w w' : World} {size n c : Nat} {A : Option Addr} {xs : List Value} (h : Sl w w.heap.size size A n c xs) (hb : Below w.heap.size w w') : Sl w' w'.heap.size size A n c xs :=
  (h.keep (bcell hb).1).more hb.size

def intC (S : List Int) : List Value := S.map (Value.int .i64)
theorem intC_at (S : List Int) (k : Nat) (h : k < S.length) : (intC S)[k]? = some (.int .i64 (S.getD k 0)) := by
  simp [intC, List.getElem?_eq_getElem h]
theorem drop_cons (S : List Int) (k : Nat) (h : k < S.length) : S.drop k = S.getD k 0 :: S.drop (k + 1) := by
  rw [List.drop_eq_getElem_cons h]; simp [List.getElem?_eq_getElem h]

set_option maxHeartbeats 800000 in
theorem stepsRise_any (A : Option Addr) (n c : Nat) (S : List Int) (w : World) (hS : Sl w w.heap.size 1 A n c (intC S)) (hn : n = S.length) (hb : n ≤ 9223372036854775807) :
    Calls Tryd.prog 83 #[.slice A n c] w fun e w' => e = .returned (.bool (riseB 0 S)) ∧ w = w' := by
  have HN := Lib.hid hn
  clear hn
  go_enter Tryd.func83, Tryd.ntmps83
  go_wp2_with (fail)
  go_loop [3, 8, 5] (fun b i _ => ∃ (k : Nat) (bv : Int), k ≤ n ∧ i = .int .i64 k ∧ b = .int .i64 bv ∧ riseB 0 S = riseB bv (S.drop k)) (fun _ i _ => n - (intOf i).toNat)
  case atStart => exact ⟨0, 0, by omega, rfl, rfl, rfl⟩
  case round =>
    obtain ⟨k, bv, hk, rfl, rfl, hr⟩ := hrel
    have HR := Lib.hid hr
    clear hr
    by_cases hlt : k < n
    · obtain ⟨b, off, rfl, hB, hc⟩ := hS.2.2 (by omega)
      have hcell := hc k _ (intC_at S k (by have := HN.out; omega))
      have HD := Lib.hid (drop_cons S k (by have := HN.out; omega))
      clear hc hS
      generalize S.getD k 0 = s at *
      by_cases h1 : s ≤ bv
      · go_wp2_with (fail)
        go_ret
        exact ⟨ret_bool (by rw [HR.out, HD.out]; simp [riseB, h1]), rfl⟩
      · by_cases h2 : 127 < s
        · go_wp2_with (fail)
          go_ret
          exact ⟨ret_bool (by rw [HR.out, HD.out]; simp [riseB, h2]), rfl⟩
        · go_wp2_with (fail)
          go_round
          case rel => exact ⟨k + 1, s, by omega, by go_num, rfl, by rw [HR.out, HD.out]; simp [riseB]; omega⟩
          case measure => simp [intOf]; omega
    · have hkn : k = n := by omega
      go_wp2_with (fail)
      go_ret
      exact ⟨ret_bool (by rw [HR.out, List.drop_of_length_le (by have := HN.out; omega)]; rfl), rfl⟩

set_option maxHeartbeats 800000 in
theorem rise_any (A : Option Addr) (n c : Nat) (S : List Int) (f : Int) (w : World) (B : Nat) (hS : Sl w B 1 A n c (intC S)) (hn : n = S.length) (hb : n ≤ 9223372036854775807) (h0 : 0 ≤ f) (h1 : f ≤ n) :
    Calls Tryd.prog 91 #[.slice A n c, .int .i64 f] w fun e w' => e = .returned (.int .i64 (riseV S f)) ∧ w = w' := by
  by_cases hf : f = 0
  · subst hf
    clear hS hn
    go_enter Tryd.func91, Tryd.ntmps91
    go_wp2_with (fail)
    go_ret
    exact ⟨rfl, rfl⟩
  · obtain ⟨b, off, rfl, hB, hc⟩ := hS.2.2 (by omega)
    have hcell := hc (f - 1).toNat _ (intC_at S (f - 1).toNat (by omega))
    have HV : Hid (S.getD (f - 1).toNat 0 = riseV S f) := by unfold Hid riseV; rw [if_neg hf]
    obtain ⟨g, rfl⟩ : ∃ g : Nat, f = (g : Int) + 1 := ⟨(f - 1).toNat, by omega⟩
    have e1 : ((g : Int) + 1 - 1).toNat = g := by omega
    rw [e1] at hcell HV
    clear hc hS hn hf e1
    go_enter Tryd.func91, Tryd.ntmps91
    go_wp2_with (fail)
    go_ret
    exact ⟨ret_int (by rw [← HV.out]; simp), rfl⟩

theorem crErr_fret {S : List Int} {c : Cr} (h : c.f < 0 ∨ (S.length : Int) < c.f) : crErr S c = 13 := by rw [crErr, if_pos h]
theorem crErr_pitch {S : List Int} {c : Cr} (h : 0 ≤ c.f ∧ c.f ≤ (S.length : Int)) (h2 : isP c.p = false) : crErr S c = 10 := by rw [crErr, if_neg (by omega), if_pos h2]
theorem crErr_top {S : List Int} {c : Cr} (h : 0 ≤ c.f ∧ c.f ≤ (S.length : Int)) (h2 : isP c.p = true) : crErr S c = if 127 < crTop S c then 10 else 0 := by rw [crErr, if_neg (by omega), if_neg (by rw [h2]; simp)]

set_option maxHeartbeats 800000 in
theorem checkCourse_any (A : Option Addr) (n c : Nat) (S : List Int) (x : Cr) (w : World) (hS : Sl w w.heap.size 1 A n c (intC S)) (hn : n = S.length) (hb : n ≤ 9223372036854775807) (hr : riseB 0 S = true) :
    Calls Tryd.prog 84 #[.agg #[.int .i64 x.p, .int .i64 x.f, .bool x.o], .slice A n c] w fun e w' => e = .returned (.int .i64 (crErr S x)) ∧ Below w.heap.size w w' := by
  obtain ⟨p, f, o⟩ := x
  dsimp only
  by_cases hf : f < 0 ∨ (S.length : Int) < f
  · have H := Lib.hid (crErr_fret (c := ⟨p, f, o⟩) hf)
    have hf2 : f < 0 ∨ (n : Int) < f := by omega
    clear hS hr hf hn
    rcases hf2 with h | h
    · go_enter Tryd.func84, Tryd.ntmps84
      go_wp2_with (fail)
      go_ret
      exact ⟨ret_int H.out.symm, ba _ _⟩
    · have h' : ¬ f < 0 := by omega
      go_enter Tryd.func84, Tryd.ntmps84
      go_wp2_with (fail)
      go_ret
      exact ⟨ret_int H.out.symm, ba _ _⟩
  · have hf' : 0 ≤ f ∧ f ≤ (S.length : Int) := by omega
    have h1 : 0 ≤ f := hf'.1
    have h2 : f ≤ (n : Int) := by omega
    cases hp : isP p with
    | false =>
      have H := Lib.hid (crErr_pitch (c := ⟨p, f, o⟩) hf' hp)
      have HP := Lib.hid hp
      clear hS hr hf hn hf' hp
      go_enter Tryd.func84, Tryd.ntmps84
      go_wp2_with (go_at_call 90; refine (isPitch_any _ _).mono ?_; rintro e w2 ⟨rfl, rfl⟩; rw [HP.out])
      go_ret
      exact ⟨ret_int H.out.symm, ba _ _⟩
    | true =>
      have H := Lib.hid (crErr_top (c := ⟨p, f, o⟩) hf' hp)
      obtain ⟨p1, p2⟩ := isP_iff.1 hp
      obtain ⟨r1, r2⟩ := riseV_bd hr h1 hf'.2
      have HP := Lib.hid hp
      have HN := Lib.hid hn
      have HS : Hid (∀ o q, Sl ((w.alloc o).drewN q) w.heap.size 1 A n c (intC S)) := fun o q => hS.keep (bcell (ba w o)).1
      clear hS hr hf hn hf' hp
      cases o with
      | false =>
        by_cases ht : 127 < p + riseV S f
        · have HT : Hid (crErr S ⟨p, f, false⟩ = 10) := by unfold Hid; rw [H.out, if_pos (by simpa [crTop] using ht)]
          go_enter Tryd.func84, Tryd.ntmps84
          go_wp2_with (go_at_call 90; refine (isPitch_any _ _).mono ?_; rintro e w2 ⟨rfl, rfl⟩; rw [HP.out])
          go_quiet ((go_at_call 91; exact Calls.quiet_of_same ((rise_any A n c S f _ _ (HS.out _ _) HN.out hb h1 h2).mono fun _ _ h => ⟨h.1, h.2.symm⟩)))
          go_wp2_with (fail)
          go_ret
          exact ⟨ret_int HT.out.symm, bd (ba _ _) _⟩
        · have HT : Hid (crErr S ⟨p, f, false⟩ = 0) := by unfold Hid; rw [H.out, if_neg (by simpa [crTop] using ht)]
          go_enter Tryd.func84, Tryd.ntmps84
          go_wp2_with (go_at_call 90; refine (isPitch_any _ _).mono ?_; rintro e w2 ⟨rfl, rfl⟩; rw [HP.out])
          go_quiet ((go_at_call 91; exact Calls.quiet_of_same ((rise_any A n c S f _ _ (HS.out _ _) HN.out hb h1 h2).mono fun _ _ h => ⟨h.1, h.2.symm⟩)))
          go_wp2_with (fail)
          go_ret
          exact ⟨ret_int HT.out.symm, bd (ba _ _) _⟩
      | true =>
        by_cases ht : 127 < p + riseV S f + 12
        · have HT : Hid (crErr S ⟨p, f, true⟩ = 10) := by unfold Hid; rw [H.out, if_pos (by simpa [crTop] using ht)]
          go_enter Tryd.func84, Tryd.ntmps84
          go_wp2_with (go_at_call 90; refine (isPitch_any _ _).mono ?_; rintro e w2 ⟨rfl, rfl⟩; rw [HP.out])
          go_quiet ((go_at_call 91; exact Calls.quiet_of_same ((rise_any A n c S f _ _ (HS.out _ _) HN.out hb h1 h2).mono fun _ _ h => ⟨h.1, h.2.symm⟩)))
          go_wp2_with (fail)
          go_ret
          exact ⟨ret_int HT.out.symm, bd (ba _ _) _⟩
        · have HT : Hid (crErr S ⟨p, f, true⟩ = 0) := by unfold Hid; rw [H.out, if_neg (by simpa [crTop] using ht)]
          go_enter Tryd.func84, Tryd.ntmps84
          go_wp2_with (go_at_call 90; refine (isPitch_any _ _).mono ?_; rintro e w2 ⟨rfl, rfl⟩; rw [HP.out])
          go_quiet ((go_at_call 91; exact Calls.quiet_of_same ((rise_any A n c S f _ _ (HS.out _ _) HN.out hb h1 h2).mono fun _ _ h => ⟨h.1, h.2.symm⟩)))
          go_wp2_with (fail)
          go_ret
          exact ⟨ret_int HT.out.symm, bd (ba _ _) _⟩

end Go.Proofs.YtdhjigaocamglaaDoor

/- What the program's Check and At return for any instrument. -/
namespace Go.Proofs.YtdhjigaocamglaaDoor
open Go.RowKit

def crC (C : List Cr) : List Value := C.flatMap fun c => [.int .i64 c.p, .int .i64 c.f, .bool c.o]
def z0 : Cr := ⟨0, 0, false⟩
theorem crC_len (C : List Cr) : (crC C).length = C.length * 3 := by
  induction C with
  | nil => rfl
  | cons c r ih => simp [crC] at ih ⊢; omega
theorem crC_at : ∀ (C : List Cr) (k : Nat), k < C.length → (crC C)[k * 3]? = some (.int .i64 (C.getD k z0).p) ∧ (crC C)[k * 3 + 1]? = some (.int .i64 (C.getD k z0).f) ∧ (crC C)[k * 3 + 2]? = some (.bool (C.getD k z0).o)
  | c :: r, 0, _ => ⟨rfl, rfl, rfl⟩
  | c :: r, k + 1, h => by
    have := crC_at r k (by simpa using h)
    have e : crC (c :: r) = .int .i64 c.p :: .int .i64 c.f :: .bool c.o :: crC r := rfl
    rw [e, show (k + 1) * 3 = k * 3 + 3 from by omega]
    exact this
theorem drop_consC (C : List Cr) (k : Nat) (h : k < C.length) : C.drop k = C.getD k z0 :: C.drop (k + 1) := by
  rw [List.drop_eq_getElem_cons h]; simp [List.getElem?_eq_getElem h]

theorem chk_many {C : List Cr} {S : List Int} (h : 14 < C.length ∨ 18 < S.length) : chk C S = 2 := by rw [chk, if_pos h]
theorem chk_none {C : List Cr} {S : List Int} (h : ¬ (14 < C.length ∨ 18 < S.length)) (h2 : C.length = 0 ∨ riseB 0 S = false) : chk C S = 11 := by rw [chk, if_neg h, if_pos h2]
theorem chk_rest {C : List Cr} {S : List Int} (h : ¬ (14 < C.length ∨ 18 < S.length)) (h2 : ¬ C.length = 0) (h3 : riseB 0 S = true) : chk C S = crsErr S C := by
  rw [chk, if_neg h, if_neg (by rw [h3]; simp; intro e; exact h2 (by rw [e]; rfl))]

theorem crErr_cases (S : List Int) (x : Cr) : crErr S x = 0 ∨ crErr S x = 13 ∨ crErr S x = 10 := by
  unfold crErr
  split
  · exact .inr (.inl rfl)
  · split
    · exact .inr (.inr rfl)
    · split
      · exact .inr (.inr rfl)
      · exact .inl rfl
theorem keepb {w W : World} {cs : Array Value} {t : TypeId} (hb : Below (w.alloc (.cells cs t)).heap.size (w.alloc (.cells cs t)) W) (j : Nat) :
    W.cell? ⟨w.heap.size, j, none⟩ = cs[j]? ∧ W.frozen? ⟨w.heap.size, j, none⟩ = false := by
  obtain ⟨hc, hf⟩ := bcell hb
  constructor
  · rw [hc _ _ (by simp)]; simp
  · rw [hf _ _ (by simp)]; simp

set_option maxHeartbeats 1600000 in
theorem check_any (A A' : Option Addr) (n c m c' : Nat) (C : List Cr) (S : List Int) (w : World) (hC : Sl w w.heap.size 3 A n c (crC C)) (hS : Sl w w.heap.size 1 A' m c' (intC S)) (hn : n = C.length) (hm : m = S.length)
    (hb : n ≤ 9223372036854775807) (hb2 : m ≤ 9223372036854775807) :
    Calls Tryd.prog 63 #[.agg #[.slice A n c, .slice A' m c']] w fun e w' => e = .returned (.int .i64 (chk C S)) ∧ Below w.heap.size w w' := by
  by_cases h1 : 14 < C.length ∨ 18 < S.length
  · have H := Lib.hid (chk_many h1)
    by_cases g1 : (14 : Int) < n
    · clear h1 hC hS hn hm
      go_enter Tryd.func63, Tryd.ntmps63
      go_wp2_with (fail)
      go_ret
      exact ⟨ret_int H.out.symm, ba _ _⟩
    · have g2 : (18 : Int) < m := by omega
      clear h1 hC hS hn hm
      go_enter Tryd.func63, Tryd.ntmps63
      go_wp2_with (fail)
      go_ret
      exact ⟨ret_int H.out.symm, ba _ _⟩
  · have g1 : (n : Int) ≤ 14 := by omega
    have g2 : (m : Int) ≤ 18 := by omega
    have HM := Lib.hid hm
    have HN := Lib.hid hn
    have HS : Hid (∀ o, Sl (w.alloc o) (w.alloc o).heap.size 1 A' m c' (intC S)) := fun o => hS.below (ba w o)
    have HC : Hid (∀ o, Sl (w.alloc o) (w.alloc o).heap.size 3 A n c (crC C)) := fun o => hC.below (ba w o)
    by_cases h2 : C.length = 0
    · have H := Lib.hid (chk_none h1 (.inl h2))
      have g3 : ((n : Int) == 0) = true := by simp; omega
      clear h1 h2 hC hS hn hm
      go_enter Tryd.func63, Tryd.ntmps63
      go_wp2_with (fail)
      go_ret
      exact ⟨ret_int H.out.symm, ba _ _⟩
    · have g3 : ((n : Int) == 0) = false := by simp; omega
      cases h3 : riseB 0 S with
      | false =>
        have H := Lib.hid (chk_none h1 (.inr h3))
        have HR := Lib.hid h3
        clear h1 h2 h3 hC hS hn hm
        go_enter Tryd.func63, Tryd.ntmps63
        go_wp2_with (go_at_call 83; refine (stepsRise_any A' m c' S _ (HS.out _) HM.out hb2).mono ?_; rintro e w2 ⟨rfl, rfl⟩; rw [HR.out])
        go_ret
        exact ⟨ret_int H.out.symm, ba _ _⟩
      | true =>
        have H := Lib.hid (chk_rest h1 h2 h3)
        have HR := Lib.hid h3
        clear h1 h2 h3 hC hS hn hm
        go_enter Tryd.func63, Tryd.ntmps63
        go_wp2_with (go_at_call 83; refine (stepsRise_any A' m c' S _ (HS.out _) HM.out hb2).mono ?_; rintro e w2 ⟨rfl, rfl⟩; rw [HR.out])
        go_loopw [29, 4, 5] (fun i _ _ wr => ∃ k : Nat, k ≤ n ∧ i = .int .i64 k ∧ crsErr S C = crsErr S (C.drop k) ∧ Below (w.alloc (.cells #[.slice A n c, .slice A' m c'] 25)).heap.size (w.alloc (.cells #[.slice A n c, .slice A' m c'] 25)) wr) (fun i _ _ _ => n - (intOf i).toNat)
        case atStart => exact ⟨0, by omega, rfl, rfl, Below.refl _ _⟩
        case round =>
          obtain ⟨k, hk, rfl, hr, hbw⟩ := hrel
          have HE := Lib.hid hr
          clear hr
          obtain ⟨q0, _⟩ := keepb hbw 0
          obtain ⟨q2, _⟩ := keepb hbw 1
          simp at q0 q2
          have hz : w.heap.size < wr.heap.size := by have := hbw.size; simp at this; omega
          by_cases hlt : k < n
          · have HSw : Hid (∀ o, Sl (wr.alloc o) (wr.alloc o).heap.size 1 A' m c' (intC S)) := fun o => ((HS.out _).below hbw).below (ba wr o)
            obtain ⟨b, off, rfl, hB, hc⟩ := ((HC.out _).below hbw).2.2 (by omega)
            obtain ⟨i0, i1, i2⟩ := crC_at C k (by have := HN.out; omega)
            have k0 := hc _ _ i0
            have k1 := hc _ _ i1
            have k2 := hc _ _ i2
            rw [← Nat.add_assoc] at k1 k2
            have HD := Lib.hid (drop_consC C k (by have := HN.out; omega))
            clear hc i0 i1 i2 HS HC
            generalize C.getD k z0 = x at *
            have HX := Lib.hid (crErr_cases S x)
            rcases HX.out with hx | hx | hx
            · have HV := Lib.hid hx
              clear hx
              go_wp2_with (go_at_call 84; refine (checkCourse_any A' m c' S x _ (HSw.out _) HM.out hb2 HR.out).mono ?_; rintro e w2 ⟨rfl, hbx⟩; rw [HV.out])
              go_roundw
              case rel => exact ⟨k + 1, by omega, by go_num, by rw [HE.out, HD.out, crsErr, if_pos HV.out], bt hbw (bx hbx)⟩
              case measure => simp [intOf]; omega
            · have HV := Lib.hid hx
              clear hx
              go_wp2_with (go_at_call 84; refine (checkCourse_any A' m c' S x _ (HSw.out _) HM.out hb2 HR.out).mono ?_; rintro e w2 ⟨rfl, hbx⟩; rw [HV.out])
              go_ret
              exact ⟨ret_int (by rw [H.out, HE.out, HD.out, crsErr, if_neg (by rw [HV.out]; decide), HV.out]), bx (bt hbw (bx hbx))⟩
            · have HV := Lib.hid hx
              clear hx
              go_wp2_with (go_at_call 84; refine (checkCourse_any A' m c' S x _ (HSw.out _) HM.out hb2 HR.out).mono ?_; rintro e w2 ⟨rfl, hbx⟩; rw [HV.out])
              go_ret
              exact ⟨ret_int (by rw [H.out, HE.out, HD.out, crsErr, if_neg (by rw [HV.out]; decide), HV.out]), bx (bt hbw (bx hbx))⟩
          · have hkn : k = n := by omega
            go_wp2_with (fail)
            go_ret
            exact ⟨ret_int (by rw [H.out, HE.out, List.drop_of_length_le (by have := HN.out; omega)]; rfl), bx hbw⟩

end Go.Proofs.YtdhjigaocamglaaDoor

/- Piece: the ticks of a sign. -/
namespace Go.Proofs.YtdhjigaocamglaaDoor
open Go.RowKit

/-- A sign with a value. -/
def wrB (v : Int) (d t : Bool) : Bool := !(decide (v = 0)) || d || t
def okB (v : Int) (d t : Bool) : Bool := decide (1 ≤ v) && decide (v ≤ 7) && !(d && t)
def tbase (v : Int) : Int := if v = 1 then 384 else if v = 2 then 192 else if v = 3 then 96 else if v = 4 then 48 else if v = 5 then 24 else if v = 6 then 12 else 6
def tkV (v : Int) (d t : Bool) : Int := if okB v d t = true then (if d then tbase v / 2 * 3 else if t then tbase v / 3 * 2 else tbase v) else 0
abbrev sg (v : Int) (d t : Bool) : Value := .agg #[.int .i64 v, .bool d, .bool t]
theorem ret_b {a b : Bool} (h : a = b) : Ending.returned (.bool a) = .returned (.bool b) := by rw [h]

theorem sgC {w w1 : World} {v : Int} {d t : Bool} {T : TypeId} (hb1 : Below (w.alloc (.cells #[.int .i64 v, .bool d, .bool t] T)).heap.size (w.alloc (.cells #[.int .i64 v, .bool d, .bool t] T)) w1) :
    w1.cell? ⟨w.heap.size, 0, none⟩ = some (.int .i64 v) ∧ w1.cell? ⟨w.heap.size, 1, none⟩ = some (.bool d) ∧ w1.cell? ⟨w.heap.size, 2, none⟩ = some (.bool t) :=
  ⟨by simpa using (keepb hb1 0).1, by simpa using (keepb hb1 1).1, by simpa using (keepb hb1 2).1⟩
set_option maxHeartbeats 1600000 in
theorem written_any (v : Int) (d t : Bool) (w : World) : Calls Tryd.prog 69 #[sg v d t] w fun e w' => e = .returned (.bool (wrB v d t)) ∧ Below w.heap.size w w' := by
  have H : Hid (∀ b, b = (decide (v = 0)) → wrB v d t = (!b || d || t)) := fun b h => by rw [h]; rfl
  by_cases h : v = 0
  · subst h
    cases d <;> cases t <;> (go_enter Tryd.func69, Tryd.ntmps69; go_wp2_with (fail); go_ret; exact ⟨ret_b rfl, ba _ _⟩)
  · have h2 : (v == 0) = false := by simpa using h
    have h3 : decide (v = 0) = false := by simpa using h
    cases d <;> cases t <;> (go_enter Tryd.func69, Tryd.ntmps69; go_wp2_with (fail); go_ret; exact ⟨ret_b (by rw [H.out _ rfl, h3]; first | rfl | simp [h]), ba _ _⟩)

set_option maxRecDepth 100000 in
set_option maxHeartbeats 1600000 in
theorem validSign_any (v : Int) (d t : Bool) (w : World) : Calls Tryd.prog 82 #[sg v d t] w fun e w' => e = .returned (.bool (!wrB v d t || okB v d t)) ∧ Below w.heap.size w w' := by
  cases hw : wrB v d t with
  | false =>
    have HW := Lib.hid hw
    clear hw
    go_enter Tryd.func82, Tryd.ntmps82
    go_wp2_with (go_at_call 69; refine (written_any v d t _).mono ?_; rintro e w1 ⟨rfl, hb1⟩; rw [HW.out])
    go_ret
    exact ⟨ret_b rfl, bx hb1⟩
  | true =>
    have HW := Lib.hid hw
    have HO : Hid (okB v d t = (decide (1 ≤ v) && decide (v ≤ 7) && !(d && t))) := rfl
    clear hw
    by_cases h1 : (1 : Int) ≤ v
    · by_cases h7 : v ≤ 7
      · cases d <;> cases t <;> (
          go_enter Tryd.func82, Tryd.ntmps82
          go_wp2_with (go_at_call 69; refine (written_any _ _ _ _).mono ?_; rintro e w1 ⟨rfl, hb1⟩; rw [HW.out]; obtain ⟨q0, q1, q2⟩ : w1.cell? ⟨w.heap.size, 0, none⟩ = some (.int .i64 v) ∧ w1.cell? ⟨w.heap.size, 1, none⟩ = some (.bool _) ∧ w1.cell? ⟨w.heap.size, 2, none⟩ = some (.bool _) := ⟨by simpa using (keepb hb1 0).1, by simpa using (keepb hb1 1).1, by simpa using (keepb hb1 2).1⟩)
          go_ret
          exact ⟨ret_b (by rw [HO.out]; simp [h1, h7]), bx hb1⟩)
      · cases d <;> cases t <;> (
          go_enter Tryd.func82, Tryd.ntmps82
          go_wp2_with (go_at_call 69; refine (written_any _ _ _ _).mono ?_; rintro e w1 ⟨rfl, hb1⟩; rw [HW.out]; obtain ⟨q0, q1, q2⟩ : w1.cell? ⟨w.heap.size, 0, none⟩ = some (.int .i64 v) ∧ w1.cell? ⟨w.heap.size, 1, none⟩ = some (.bool _) ∧ w1.cell? ⟨w.heap.size, 2, none⟩ = some (.bool _) := ⟨by simpa using (keepb hb1 0).1, by simpa using (keepb hb1 1).1, by simpa using (keepb hb1 2).1⟩)
          go_ret
          exact ⟨ret_b (by rw [HO.out]; simp [h1, h7]), bx hb1⟩)
    · cases d <;> cases t <;> (
        go_enter Tryd.func82, Tryd.ntmps82
        go_wp2_with (go_at_call 69; refine (written_any _ _ _ _).mono ?_; rintro e w1 ⟨rfl, hb1⟩; rw [HW.out]; obtain ⟨q0, q1, q2⟩ : w1.cell? ⟨w.heap.size, 0, none⟩ = some (.int .i64 v) ∧ w1.cell? ⟨w.heap.size, 1, none⟩ = some (.bool _) ∧ w1.cell? ⟨w.heap.size, 2, none⟩ = some (.bool _) := ⟨by simpa using (keepb hb1 0).1, by simpa using (keepb hb1 1).1, by simpa using (keepb hb1 2).1⟩)
        go_ret
        exact ⟨ret_b (by rw [HO.out, show decide ((1 : Int) ≤ v) = false by simpa using h1]; rfl), bx hb1⟩)

end Go.Proofs.YtdhjigaocamglaaDoor
