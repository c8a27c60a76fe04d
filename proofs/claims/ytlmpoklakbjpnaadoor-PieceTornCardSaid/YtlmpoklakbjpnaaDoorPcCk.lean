/- Pieces: Check, for any piece. -/
import Derived.Test.YtlmpoklakbjpnaaDoorPcEv2
namespace Go.Proofs.YtlmpoklakbjpnaaDoor
open Go Go.RowKit

theorem checkEvent_any (A : Option Addr) (n c : Nat) (A' : Option Addr) (m c' : Nat) (A2 : Option Addr) (q cq : Nat) (C : List Cr) (P : List EvP) (k : Nat) (hk : k < q) (w : World) (hC : Sl w w.heap.size 3 A n c (crC C)) (hn : n = C.length) (hnb : n ≤ 1000000)
    (hE : EsIn w A2 q cq P) (hq : q ≤ 1000000) (hst : ∀ y ∈ P, y.L.length ≤ 1000000) :
    Calls Tryd.prog 87 #[pcV A n c A' m c' A2 q cq, .int .i64 k] w fun e w' => e = .returned (.int .i64 (evErr C P k (P.getD k z6))) ∧ Below w.heap.size w w' := by
  cases h1 : sgnB k (P.getD k z6) with
  | true => exact checkEvent_bad A n c A' m c' A2 q cq C P k hk w hE (.inl h1)
  | false =>
    cases h2 : tieB k (P.getD k z6) with
    | true => exact checkEvent_bad A n c A' m c' A2 q cq C P k hk w hE (.inr ⟨h1, h2⟩)
    | false => exact checkEvent_ok A n c A' m c' A2 q cq C P k hk w hC hn hnb hE hq hst h1 h2
theorem evs_go {C : List Cr} {P : List EvP} {k : Nat} {y : EvP} (hd : P.drop k = y :: P.drop (k + 1)) (h : evErr C P k y = 0) : evsErr C P k (P.drop k) = evsErr C P (k + 1) (P.drop (k + 1)) := by rw [hd, evsErr, if_pos h]
theorem evs_stop {C : List Cr} {P : List EvP} {k : Nat} {y : EvP} {x : Int} (hd : P.drop k = y :: P.drop (k + 1)) (hx : evErr C P k y = x) (h : x ≠ 0) : evsErr C P k (P.drop k) = x := by rw [hd, evsErr, if_neg (by rw [hx]; exact h), hx]
theorem pcErr_in {C : List Cr} {S : List Int} {P : List EvP} {x : Int} (h : chk C S = x) (hx : x ≠ 0) : pcErr C S P = x := by rw [pcErr, if_pos (by rw [h]; exact hx), h]
theorem pcErr_many {C : List Cr} {S : List Int} {P : List EvP} (h : chk C S = 0) (hx : 400 < P.length) : pcErr C S P = 2 := by rw [pcErr, if_neg (by simp [h]), if_pos hx]
theorem pcErr_evs {C : List Cr} {S : List Int} {P : List EvP} (h : chk C S = 0) (hx : ¬ 400 < P.length) : pcErr C S P = evsErr C P 0 P := by rw [pcErr, if_neg (by simp [h]), if_neg hx]

set_option maxRecDepth 100000 in
set_option maxHeartbeats 3200000 in
theorem pcheck_any (A : Option Addr) (n c : Nat) (A' : Option Addr) (m c' : Nat) (A2 : Option Addr) (q cq : Nat) (C : List Cr) (S : List Int) (P : List EvP) (w : World) (hP : PcIn w A n c A' m c' A2 q cq C S P) (hnb : n ≤ 1000000) (hmb : m ≤ 1000000) (hq : q ≤ 1000000) (hst : ∀ y ∈ P, y.L.length ≤ 1000000) :
    Calls Tryd.prog 40 #[pcV A n c A' m c' A2 q cq] w fun e w' => e = .returned (.int .i64 (pcErr C S P)) ∧ Below w.heap.size w w' := by
  have HI := Lib.hid (hP.below (ba w (pcO A n c A' m c' A2 q cq)))
  have HP : Hid (∀ w', Below w.heap.size w w' → PcIn w' A n c A' m c' A2 q cq C S P) := fun w' hb => hP.below hb
  have HL := Lib.hid hP.es.hq
  have HST := Lib.hid hst
  clear hP hst
  obtain ⟨X, hX⟩ : ∃ X, chk C S = X := ⟨_, rfl⟩
  by_cases hX0 : X = 0
  · subst hX0
    have HX := Lib.hid hX
    clear hX
    by_cases h400 : (400 : Int) < (q : Int)
    · have HR := Lib.hid (pcErr_many (P := P) HX.out (by have := HL.out; omega))
      go_enter Tryd.func40, Tryd.ntmps40
      go_wp2_with (go_at_call 86; refine (check_any A A' n c m c' C S _ HI.out.crs HI.out.stp HI.out.hn HI.out.hm (by omega) (by omega)).mono ?_; rintro e w1 ⟨rfl, hb1⟩; rw [HX.out]; obtain ⟨p0, p1, p2⟩ := cell3 hb1)
      go_ret
      exact ⟨ret_int HR.out.symm, bx hb1⟩
    · have HR := Lib.hid (pcErr_evs (P := P) HX.out (by have := HL.out; omega))
      go_enter Tryd.func40, Tryd.ntmps40
      go_wp2_with (go_at_call 86; refine (check_any A A' n c m c' C S _ HI.out.crs HI.out.stp HI.out.hn HI.out.hm (by omega) (by omega)).mono ?_; rintro e w1 ⟨rfl, hb1⟩; rw [HX.out]; obtain ⟨p0, p1, p2⟩ := cell3 hb1)
      have HB1 := Lib.hid hb1
      clear hb1
      go_loopw [19] (fun i wr => ∃ j : Nat, j ≤ q ∧ i = .int .i64 j ∧ evsErr C P 0 P = evsErr C P j (P.drop j) ∧ Below (w.alloc (pcO A n c A' m c' A2 q cq)).heap.size (w.alloc (pcO A n c A' m c' A2 q cq)) wr) (fun i _ => q - (intOf i).toNat)
      case atStart => exact ⟨0, by omega, rfl, rfl, HB1.out⟩
      case round =>
        obtain ⟨j, hj, rfl, hr, hbw⟩ := hrel
        have HE := Lib.hid hr
        have HB := Lib.hid hbw
        obtain ⟨r0, r1, r2⟩ := cell3 hbw
        clear hr hbw
        by_cases hlt : j < q
        · have HD := Lib.hid (drop_consE P j (by have := HL.out; omega))
          have HQ := Lib.hid (HP.out _ (bx HB.out))
          obtain ⟨Y, hY⟩ : ∃ Y, evErr C P j (P.getD j z6) = Y := ⟨_, rfl⟩
          by_cases hY0 : Y = 0
          · subst hY0
            have HY := Lib.hid hY
            clear hY
            go_wp2_with (go_at_call 87; refine (checkEvent_any A n c A' m c' A2 q cq C P j hlt _ HQ.out.crs HQ.out.hn hnb HQ.out.es hq HST.out).mono ?_; rintro e w2 ⟨rfl, hb2⟩; rw [HY.out])
            go_roundw
            case rel => exact ⟨j + 1, by omega, by first | rfl | go_num, by rw [HE.out, evs_go HD.out HY.out], bt HB.out hb2⟩
            case measure => simp [intOf]; omega
          · have HY := Lib.hid hY
            have hYb : (Y != 0) = true := by simpa using hY0
            have HYn := Lib.hid hY0
            clear hY hY0
            go_wp2_with (go_at_call 87; refine (checkEvent_any A n c A' m c' A2 q cq C P j hlt _ HQ.out.crs HQ.out.hn hnb HQ.out.es hq HST.out).mono ?_; rintro e w2 ⟨rfl, hb2⟩; rw [HY.out])
            go_ret
            exact ⟨ret_int (by rw [HR.out, HE.out, evs_stop HD.out HY.out HYn.out]), bx (bt HB.out hb2)⟩
        · go_wp2_with (fail)
          go_ret
          exact ⟨ret_int (by rw [HR.out, HE.out, List.drop_of_length_le (by have := HL.out; omega)]; rfl), bx HB.out⟩
  · have HR := Lib.hid (pcErr_in (P := P) hX hX0)
    have HX := Lib.hid hX
    have hXb : (X != 0) = true := by simpa using hX0
    clear hX hX0
    go_enter Tryd.func40, Tryd.ntmps40
    go_wp2_with (go_at_call 86; refine (check_any A A' n c m c' C S _ HI.out.crs HI.out.stp HI.out.hn HI.out.hm (by omega) (by omega)).mono ?_; rintro e w1 ⟨rfl, hb1⟩; rw [HX.out])
    go_ret
    exact ⟨ret_int HR.out.symm, bx hb1⟩

end Go.Proofs.YtlmpoklakbjpnaaDoor
