/- The law PieceSignsAdd returns true for every two numbers. -/
import Derived.Test.YtncgikfalimnjaaDoorLawSigns
namespace Go.Proofs.YtncgikfalimnjaaDoor
open Go Go.RowKit

def sgLs (x : Int) : List Nat := (sgQ x).getD []
theorem psigns_l (x : Int) (w : World) (hT : SgT w) : Calls Tryd.prog 17 #[.int .i64 x] w fun e w' => ∃ A c, e = .returned (.tuple #[.slice A (sgLs x).length c, .int .i64 (sgE x)]) ∧ Sl w' w'.heap.size 3 A (sgLs x).length c ((sgLs x).flatMap sgL) ∧ Below w.heap.size w w' := psigns_any x w hT
/-- What the list is, where the number is in the range. -/
structure SgF (x E : Int) (L : List Nat) : Prop where
  low : ∀ y ∈ L, y < 21
  asc_ : asc L
  le : L.length ≤ 4608
  alt : (E = 0 ∧ sgP x = some L ∧ sumT L = x) ∨ (E = 25 ∧ L = [] ∧ sgP x = none)
theorem sgF (x : Int) (h0 : 0 ≤ x) (h1 : x ≤ 4608) : SgF x (sgE x) (sgLs x) := by
  have hn : ¬(x < 0 ∨ 4608 < x) := by omega
  have hle := sgN_le x
  cases hq : sgP x with
  | none =>
    have e1 : sgLs x = [] := by simp [sgLs, sgQ, hn, hq]
    have e2 : sgE x = 25 := by simp [sgE, hn, hq]
    rw [e1, e2]
    exact ⟨by simp, trivial, by simp, .inr ⟨rfl, rfl, hq⟩⟩
  | some l =>
    have e1 : sgLs x = l := by simp [sgLs, sgQ, hn, hq]
    have e2 : sgE x = 0 := by simp [sgE, hn, hq]
    rw [e1, e2]
    obtain ⟨_, b, c, _⟩ := sgP_some hq
    exact ⟨fun y hy => (b.2.1 y hy).2, c, by rw [← e1]; exact hle, .inl ⟨rfl, hq, b.2.2⟩⟩
theorem sumT_take : ∀ (L : List Nat) (k : Nat), k < L.length → sumT (L.take (k + 1)) = sumT (L.take k) + tks (L.getD k 0)
  | a :: r, 0, _ => by simp [sumT]
  | a :: r, k + 1, h => by
    have := sumT_take r k (by simpa using h)
    simp only [List.take_succ_cons, sumT, List.getD_cons_succ] at this ⊢
    omega
theorem asc_at : ∀ (L : List Nat) (k : Nat), asc L → k + 1 < L.length → L.getD k 0 ≤ L.getD (k + 1) 0
  | a :: b :: r, 0, h, _ => h.1 b (by simp)
  | [a], 0, _, h => by simp at h
  | a :: r, k + 1, h, hl => by
    have := asc_at r k h.2 (by simpa using hl)
    simpa using this
  | [], _, _, h => by simp at h
theorem getD_low {L : List Nat} {k : Nat} (h : ∀ y ∈ L, y < 21) (hk : k < L.length) : L.getD k 0 < 21 := by
  have e : L.getD k 0 = L[k]'hk := by simp [List.getD, List.getElem?_eq_getElem hk]
  rw [e]
  exact h _ (List.getElem_mem hk)
theorem sumT_take_le {L : List Nat} (h : ∀ y ∈ L, y < 21) (k : Nat) : 0 ≤ sumT (L.take k) ∧ sumT (L.take k) ≤ 576 * (k : Int) := by
  have h1 := sumT_pos (l := L.take k) fun x hx => h x (List.mem_of_mem_take hx)
  have h2 := sumT_le (l := L.take k) (i := 0) fun x hx => ⟨Nat.zero_le _, h x (List.mem_of_mem_take hx)⟩
  have h3 : ((L.take k).length : Int) ≤ k := by simp; omega
  have h4 : tks 0 = 576 := by decide
  rw [h4] at h2
  omega
/-- What the whole says of the three lists. -/
theorem add_alt {a b Es Ea Eb : Int} {Ls La Lb : List Nat} (h0 : 0 ≤ a) (h1 : 0 ≤ b) (hs : SgF (a + b) Es Ls) (ha : SgF a Ea La) (hb : SgF b Eb Lb) :
    ((Es = 0 ∧ sumT Ls = a + b ∧ ((Ea = 0 ∧ Eb = 0 ∧ Ls.length ≤ La.length + Lb.length) ∨ (Ea = 0 ∧ Eb = 25) ∨ Ea = 25) ∧ a + b ≠ 1 ∧ a + b ≠ 2 ∧ a + b ≠ 3 ∧ a + b ≠ 5 ∧ a + b ≠ 7 ∧ a + b ≠ 11) ∨
      (Es = 25 ∧ ((Ea = 0 ∧ Eb = 25) ∨ Ea = 25) ∧ (a + b = 1 ∨ a + b = 2 ∨ a + b = 3 ∨ a + b = 5 ∨ a + b = 7 ∨ a + b = 11))) := by
  have hi := sgP_is (a + b) (by omega)
  rcases hs.alt with ⟨rfl, e1, e2⟩ | ⟨rfl, e1, e2⟩
  · rw [e1] at hi
    simp at hi
    refine .inl ⟨rfl, e2, ?_, by omega⟩
    rcases ha.alt with ⟨rfl, a1, _⟩ | ⟨rfl, _, _⟩
    · rcases hb.alt with ⟨rfl, b1, _⟩ | ⟨rfl, _, _⟩
      · obtain ⟨n, c1, c2⟩ := sgP_add a1 b1
        rw [e1] at c1
        obtain rfl := Option.some.inj c1
        exact .inl ⟨rfl, rfl, c2⟩
      · exact .inr (.inl ⟨rfl, rfl⟩)
    · exact .inr (.inr rfl)
  · rw [e2] at hi
    refine .inr ⟨rfl, ?_, ?_⟩
    · rcases ha.alt with ⟨rfl, a1, _⟩ | ⟨rfl, _, _⟩
      · rcases hb.alt with ⟨rfl, b1, _⟩ | ⟨rfl, _, _⟩
        · obtain ⟨n, c1, c2⟩ := sgP_add a1 b1
          rw [e2] at c1
          cases c1
        · exact .inl ⟨rfl, rfl⟩
      · exact .inr rfl
    · by_cases c1 : a + b = 1
      · simp [c1]
      by_cases c2 : a + b = 2
      · simp [c2]
      by_cases c3 : a + b = 3
      · simp [c3]
      by_cases c4 : a + b = 5
      · simp [c4]
      by_cases c5 : a + b = 7
      · simp [c5]
      by_cases c6 : a + b = 11
      · simp [c6]
      simp [c1, c2, c3, c4, c5, c6] at hi

set_option maxRecDepth 100000 in
set_option maxHeartbeats 4000000 in
theorem law_signsadd (a b : Int) (w : World) (hT : SgT w) : Calls Tryd.prog 3 #[.int .i64 a, .int .i64 b] w fun e w' => e = .returned (.bool true) ∧ Below w.heap.size w w' := by
  have HT := Lib.hid hT
  clear hT
  by_cases ha : a < 0
  · go_enter Tryd.func3, Tryd.ntmps3
    go_wp2_with (go_at_call 16; refine (works2 _ HT.out).mono ?_; rintro e w4 ⟨rfl, hb4⟩)
    go_ret
    exact ⟨rfl, hb4⟩
  by_cases hb : b < 0
  · go_enter Tryd.func3, Tryd.ntmps3
    go_wp2_with (go_at_call 16; refine (works2 _ HT.out).mono ?_; rintro e w4 ⟨rfl, hb4⟩)
    go_ret
    exact ⟨rfl, hb4⟩
  by_cases hc : 4608 < a
  · go_enter Tryd.func3, Tryd.ntmps3
    go_wp2_with (go_at_call 16; refine (works2 _ HT.out).mono ?_; rintro e w4 ⟨rfl, hb4⟩)
    go_ret
    exact ⟨rfl, hb4⟩
  by_cases hd : 4608 - a < b
  · go_enter Tryd.func3, Tryd.ntmps3
    go_wp2_with (go_at_call 16; refine (works2 _ HT.out).mono ?_; rintro e w4 ⟨rfl, hb4⟩)
    go_ret
    exact ⟨rfl, hb4⟩
  have h0 : 0 ≤ a := by omega
  have h1 : 0 ≤ b := by omega
  have HS := Lib.hid (sgF (a + b) (by omega) (by omega))
  have HA := Lib.hid (sgF a h0 (by omega))
  have HB := Lib.hid (sgF b h1 (by omega))
  have CS := Lib.hid (psigns_l (a + b))
  have CA := Lib.hid (psigns_l a)
  have CB := Lib.hid (psigns_l b)
  have HQ : Hid (a = b → sgE a = sgE b ∧ (sgLs a).length = (sgLs b).length) := fun e => by rw [e]; exact ⟨rfl, rfl⟩
  generalize sgE (a + b) = Es at *
  generalize sgLs (a + b) = Ls at *
  generalize sgE a = Ea at *
  generalize sgLs a = La at *
  generalize sgE b = Eb at *
  generalize sgLs b = Lb at *
  have CAB : Hid (∀ x w, SgT w → Calls Tryd.prog 17 #[.int .i64 x] w fun e w' => ∃ A c E n, e = .returned (.tuple #[.slice A n c, .int .i64 E]) ∧ (x = a → E = Ea ∧ n = La.length) ∧ (x = b → E = Eb ∧ n = Lb.length) ∧ Below w.heap.size w w') := fun x w h => by
    by_cases hxa : x = a
    · subst hxa
      by_cases hxb : x = b
      · subst hxb
        refine (CA.out w h).mono ?_
        rintro e w1 ⟨A1, c1, rfl, _, hb1⟩
        exact ⟨A1, c1, _, _, rfl, fun _ => ⟨rfl, rfl⟩, fun _ => HQ.out rfl, hb1⟩
      · refine (CA.out w h).mono ?_
        rintro e w1 ⟨A1, c1, rfl, _, hb1⟩
        exact ⟨A1, c1, _, _, rfl, fun _ => ⟨rfl, rfl⟩, fun e => absurd e hxb, hb1⟩
    · by_cases hxb : x = b
      · subst hxb
        refine (CB.out w h).mono ?_
        rintro e w1 ⟨A1, c1, rfl, _, hb1⟩
        exact ⟨A1, c1, _, _, rfl, fun e => absurd e hxa, fun _ => ⟨rfl, rfl⟩, hb1⟩
      · refine (psigns_l x w h).mono ?_
        rintro e w1 ⟨A1, c1, rfl, _, hb1⟩
        exact ⟨A1, c1, _, _, rfl, fun e => absurd e hxa, fun e => absurd e hxb, hb1⟩
  clear CA CB
  have HX := Lib.hid (add_alt h0 h1 HS.out HA.out HB.out)
  have hl1 := HS.out.le
  have hl2 := HA.out.le
  have hl3 := HB.out.le
  go_enter Tryd.func3, Tryd.ntmps3
  go_wp2_with (go_at_call 17; refine (CS.out w HT.out).mono ?_; rintro e w1 ⟨A1, c1, rfl, hs1, hb1⟩)
  have HL := Lib.hid hs1
  clear hs1
  obtain ⟨N, hN⟩ : ∃ N, Ls.length = N := ⟨_, rfl⟩
  have HN := Lib.hid hN
  rw [hN] at hl1 ⊢
  clear hN
  go_loopw [7, 8] (fun s v wr => ∃ k : Nat, k ≤ N ∧ s = .int .i64 (sumT (Ls.take k)) ∧ v = .int .i64 k ∧ Below w1.heap.size w1 wr) (fun _ v _ => N - (intOf v).toNat)
  case atStart => exact ⟨0, by omega, rfl, rfl, Below.refl _ _⟩
  case round =>
    obtain ⟨k, hk, rfl, rfl, hB⟩ := hrel
    have HBr := Lib.hid hB
    by_cases hlt : k < N
    · have hkn : (k : Int) < (N : Int) := by omega
      have hkL : k < Ls.length := by have := HN.out; omega
      obtain ⟨bk, off, rfl, hbk, hcs⟩ := (HL.out.below hB).2.2 (by have := HN.out; omega)
      obtain ⟨i0, i1, i2⟩ := sgLs_at Ls k hkL
      have d0 := hcs _ _ i0
      have d1 := hcs _ _ i1
      have d2 := hcs _ _ i2
      rw [← Nat.add_assoc] at d1 d2
      have HC := Lib.hid hcs
      have h21 := getD_low HS.out.low hkL
      have ht4 := tks_four h21
      have HTK : Hid (tkV (sgv (Ls.getD k 0)).1 (sgv (Ls.getD k 0)).2.1 (sgv (Ls.getD k 0)).2.2 = tks (Ls.getD k 0)) := rfl
      obtain ⟨s1, s2⟩ := sumT_take_le HS.out.low k
      have HNX : Hid (sumT (Ls.take (k + 1)) = sumT (Ls.take k) + tks (Ls.getD k 0)) := sumT_take Ls k hkL
      have HPR : Hid (0 < k → tks (Ls.getD k 0) ≤ tks (Ls.getD (k - 1) 0)) := fun hk0 => by
        have h := asc_at Ls (k - 1) HS.out.asc_ (by omega)
        rw [show k - 1 + 1 = k by omega] at h
        exact tks_anti h h21
      clear hcs i0 i1 i2 hB hbk
      generalize sumT (Ls.take k) = S at *
      obtain ⟨y, hy⟩ : ∃ y, Ls.getD k 0 = y := ⟨_, rfl⟩
      rw [hy] at d0 d1 d2 ht4 HTK HNX HPR h21
      clear hy
      obtain ⟨T, hT⟩ : ∃ T, tks y = T := ⟨_, rfl⟩
      rw [hT] at ht4 HTK HNX HPR
      clear hT
      obtain ⟨t1, t2⟩ := ht4
      have hT0 : ¬ T ≤ 0 := by omega
      by_cases hk0 : k = 0
      · subst hk0
        simp only [Nat.zero_mul, Nat.add_zero] at d0 d1 d2
        go_wp2_with (go_at_call 18; refine (ticks_any _ _ _ _).mono ?_; rintro e w3 ⟨rfl, hb3⟩; rw [HTK.out])
        go_roundw
        case rel => exact ⟨1, by omega, by rw [HNX.out], rfl, bt HBr.out hb3⟩
        case measure => simp [intOf]; omega
      · have hk0' : 0 < k := by omega
        have hk0i : (0 : Int) < (k : Int) := by omega
        obtain ⟨p, rfl⟩ : ∃ p, k = p + 1 := ⟨k - 1, by omega⟩
        have hsub : Hid ((((p + 1 : Nat) : Int) - 1) = (p : Int)) := by unfold Hid; omega
        have HPC : Hid (∀ w', Below wr.heap.size wr w' → w'.cell? ⟨bk, off + p * 3, none⟩ = some (.int .i64 (sgv (Ls.getD p 0)).1) ∧ w'.cell? ⟨bk, off + p * 3 + 1, none⟩ = some (.bool (sgv (Ls.getD p 0)).2.1) ∧ w'.cell? ⟨bk, off + p * 3 + 2, none⟩ = some (.bool (sgv (Ls.getD p 0)).2.2)) := fun w' hb => by
          obtain ⟨bk', off', e, _, hcs⟩ := ((HL.out.below HBr.out).below hb).2.2 (by have := HN.out; omega)
          injection e with e
          injection e with e1 e2
          subst e1 e2
          obtain ⟨i0, i1, i2⟩ := sgLs_at Ls p (by omega)
          exact ⟨hcs _ _ i0, by have := hcs _ _ i1; rwa [← Nat.add_assoc] at this, by have := hcs _ _ i2; rwa [← Nat.add_assoc] at this⟩
        have HTP : Hid (tkV (sgv (Ls.getD p 0)).1 (sgv (Ls.getD p 0)).2.1 (sgv (Ls.getD p 0)).2.2 = tks (Ls.getD p 0)) := rfl
        have hTP : T ≤ tks (Ls.getD p 0) := HPR.out (by omega)
        have hpN : p < N := by omega
        have hpi : (p : Int) < (N : Int) := by omega
        clear HPR
        generalize Ls.getD p 0 = z at *
        generalize tks z = U at *
        have hTU : ¬ U < T := by omega
        go_wp2_with (go_at_call 18; refine (ticks_any _ _ _ _).mono ?_; rintro e wx ⟨rfl, hbx⟩; first | (rw [HTK.out]; have hb3 := hbx; clear hbx; obtain ⟨x0, x1, x2⟩ := HPC.out _ hb3) | (rw [HTP.out]; have hb4 := hbx))
        go_roundw
        case rel => exact ⟨p + 1 + 1, by omega, by rw [HNX.out], by simp, bt HBr.out (bt hb3 hb4)⟩
        case measure => simp [intOf]; omega
    · obtain rfl : k = N := by omega
      have hkn : ¬ (k : Int) < (k : Int) := by omega
      have hsum : Hid (sumT (Ls.take k) = sumT Ls) := by unfold Hid; rw [← HN.out, List.take_length]
      rw [hsum.out]
      clear hB
      rcases HX.out with ⟨rfl, e1, h2, n1, n2, n3, n4, n5, n6⟩ | ⟨rfl, h2, n⟩
      · have g1 : (a + b == 1) = false := by simpa using n1
        rw [e1]
        rw [HN.out] at h2
        rcases h2 with ⟨rfl, rfl, h2⟩ | ⟨rfl, rfl⟩ | rfl
        · have h2i : ¬ ((La.length : Int) + (Lb.length : Int)) < (k : Int) := by omega
          go_wp2_with (first
            | (go_at_call 17; refine (CAB.out _ _ (by first | exact (HT.out.below hb1).below HBr.out | exact ((HT.out.below hb1).below HBr.out).below hb3)).mono ?_; rintro e wx ⟨A3, c3, E3, n3, rfl, qa, qb, hbx⟩; first | (obtain ⟨rfl, rfl⟩ := qa rfl; have hb3 := hbx; clear hbx qb) | (obtain ⟨rfl, rfl⟩ := qb rfl; have hb4 := hbx; clear qa))
            | (go_at_call 16; refine (works2 _ ((((HT.out.below hb1).below HBr.out).below hb3).below hb4)).mono ?_; rintro e w5 ⟨rfl, hb5⟩))
          go_ret
          exact ⟨ret_b (by simp [n1, n2, n3, n4, n5, n6]), bt (bt (bt (bt hb1 HBr.out) hb3) hb4) hb5⟩
        · go_wp2_with (first
            | (go_at_call 17; refine (CAB.out _ _ (by first | exact (HT.out.below hb1).below HBr.out | exact ((HT.out.below hb1).below HBr.out).below hb3)).mono ?_; rintro e wx ⟨A3, c3, E3, n3, rfl, qa, qb, hbx⟩; first | (obtain ⟨rfl, rfl⟩ := qa rfl; have hb3 := hbx; clear hbx qb) | (obtain ⟨rfl, rfl⟩ := qb rfl; have hb4 := hbx; clear qa))
            | (go_at_call 16; refine (works2 _ ((((HT.out.below hb1).below HBr.out).below hb3).below hb4)).mono ?_; rintro e w5 ⟨rfl, hb5⟩))
          go_ret
          exact ⟨ret_b (by simp [n1, n2, n3, n4, n5, n6]), bt (bt (bt (bt hb1 HBr.out) hb3) hb4) hb5⟩
        · go_wp2_with (first
            | (go_at_call 17; refine (CAB.out _ _ (by first | exact (HT.out.below hb1).below HBr.out | exact ((HT.out.below hb1).below HBr.out).below hb3)).mono ?_; rintro e wx ⟨A3, c3, E3, n3, rfl, qa, qb, hbx⟩; first | (obtain ⟨rfl, rfl⟩ := qa rfl; have hb3 := hbx; clear hbx qb) | (obtain ⟨rfl, rfl⟩ := qb rfl; have hb4 := hbx; clear qa))
            | (go_at_call 16; refine (works2 _ ((((HT.out.below hb1).below HBr.out).below hb3).below hb4)).mono ?_; rintro e w5 ⟨rfl, hb5⟩))
          go_ret
          exact ⟨ret_b (by simp [n1, n2, n3, n4, n5, n6]), bt (bt (bt (bt hb1 HBr.out) hb3) hb4) hb5⟩
      · rcases h2 with ⟨rfl, rfl⟩ | rfl
        all_goals
          rcases n with n | n | n | n | n | n
          all_goals
            rw [n]
            go_wp2_with (first
              | (go_at_call 17; refine (CAB.out _ _ (by first | exact (HT.out.below hb1).below HBr.out | exact ((HT.out.below hb1).below HBr.out).below hb3)).mono ?_; rintro e wx ⟨A3, c3, E3, n3, rfl, qa, qb, hbx⟩; first | (obtain ⟨rfl, rfl⟩ := qa rfl; have hb3 := hbx; clear hbx qb) | (obtain ⟨rfl, rfl⟩ := qb rfl; have hb4 := hbx; clear qa))
              | (go_at_call 16; refine (works2 _ ((((HT.out.below hb1).below HBr.out).below hb3).below hb4)).mono ?_; rintro e w5 ⟨rfl, hb5⟩))
            go_ret
            exact ⟨rfl, bt (bt (bt (bt hb1 HBr.out) hb3) hb4) hb5⟩

end Go.Proofs.YtncgikfalimnjaaDoor
