/- Pieces: has an event a stop on a course, in the program and in the reference. -/
import Derived.Test.YtdhjigaocamglaaDoorQdPcLeaf
namespace Go.Proofs.YtdhjigaocamglaaDoor
open Go Go.RowKit

theorem hsB_go {L : List St} {c : Int} {k : Nat} (h : L.drop k = L.getD k z5 :: L.drop (k + 1)) : hsB (L.drop k) c = (decide ((L.getD k z5).c = c) || hsB (L.drop (k + 1)) c) := by
  rw [h]
  rfl
set_option maxHeartbeats 1600000 in
theorem hasStop1_any (cb : Nat) (c : Int) (s : St) (w : World) (h : w.cell? ⟨cb, 0, none⟩ = some (.int .i64 c)) (hb : cb < w.heap.size) :
    Calls Tryd.prog 94 #[stV s, .pointer (some ⟨cb, 0, none⟩)] w fun e w' => e = .returned (.bool (decide (s.c = c))) ∧ Below w.heap.size w w' := by
  have h1 := cell_same ((ba w (.cells #[.int .i64 s.c, .int .i64 s.f, .int .i64 s.r, .int .i64 s.g, .int .i64 s.h] 62)).block cb hb) h
  go_enter Tryd.func94, Tryd.ntmps94
  go_wp2_with (fail)
  go_ret
  exact ⟨by first | rfl | exact ret_b (by simp), ba _ _⟩

set_option maxRecDepth 100000 in
set_option maxHeartbeats 1600000 in
theorem indexFunc_any (cb : Nat) (c : Int) (sa : Option Addr) (sn sc : Nat) (L : List St) (w : World) (h : w.cell? ⟨cb, 0, none⟩ = some (.int .i64 c)) (hb : cb < w.heap.size) (hS : Sl w w.heap.size 5 sa sn sc (stC L)) (hn : sn = L.length) (hlim : sn ≤ 1000000) :
    Calls Tryd.prog 87 #[.slice sa sn sc, .func (.func 94) #[] #[.pointer (some ⟨cb, 0, none⟩)]] w fun e w' => ∃ r : Int, e = .returned (.int .i64 r) ∧ decide (0 ≤ r) = hsB L c ∧ Below w.heap.size w w' := by
  have HN := Lib.hid hn
  have HS : Hid (∀ w', Below w.heap.size w w' → Sl w' w'.heap.size 5 sa sn sc (stC L)) := fun w' hb' => hS.below hb'
  have HC : Hid (∀ w', Below w.heap.size w w' → w'.cell? ⟨cb, 0, none⟩ = some (.int .i64 c) ∧ cb < w'.heap.size) := fun w' hb' => ⟨cell_same (hb'.block cb hb) h, Nat.lt_of_lt_of_le hb hb'.size⟩
  clear hS hn h hb
  go_enter Tryd.func87, Tryd.ntmps87
  go_wp2_with (fail)
  go_loopw [8] (fun i wr => ∃ k : Nat, k ≤ sn ∧ i = .int .i64 k ∧ hsB L c = hsB (L.drop k) c ∧ Below w.heap.size w wr) (fun i _ => sn - (intOf i).toNat)
  case atStart => exact ⟨0, by omega, rfl, rfl, Below.refl _ _⟩
  case round =>
    obtain ⟨k, hk, rfl, hr, hbw⟩ := hrel
    have HR := Lib.hid hr
    have HB := Lib.hid hbw
    clear hr hbw
    by_cases hlt : k < sn
    · obtain ⟨b, off, rfl, hbl, hd, _, c0, c1, c2, c3, c4⟩ := st_at (HS.out _ HB.out) HN.out hlt
      have HD := Lib.hid (hsB_go (c := c) hd)
      clear hd
      generalize L.getD k z5 = s at *
      obtain ⟨hcb, hcl⟩ := HC.out _ HB.out
      have HQ := Lib.hid (And.intro hcb hcl)
      clear hcb hcl
      cases hx : decide (s.c = c) with
      | true =>
        have HX := Lib.hid hx
        clear hx
        go_wp2_with (go_at_call 94; refine (hasStop1_any cb c s _ HQ.out.1 HQ.out.2).mono ?_; rintro e w2 ⟨rfl, hb2⟩; rw [HX.out])
        go_ret
        exact ⟨k, rfl, by rw [HR.out, HD.out, HX.out]; simp, bt HB.out hb2⟩
      | false =>
        have HX := Lib.hid hx
        clear hx
        go_wp2_with (go_at_call 94; refine (hasStop1_any cb c s _ HQ.out.1 HQ.out.2).mono ?_; rintro e w2 ⟨rfl, hb2⟩; rw [HX.out])
        go_roundw
        case rel => exact ⟨k + 1, by omega, rfl, by rw [HR.out, HD.out, HX.out]; rfl, bt HB.out hb2⟩
        case measure => simp [intOf]; omega
    · go_wp2_with (fail)
      go_ret
      exact ⟨-1, rfl, by rw [HR.out, List.drop_of_length_le (by have := HN.out; omega)]; rfl, HB.out⟩

set_option maxHeartbeats 1600000 in
theorem containsFunc_any (cb : Nat) (c : Int) (sa : Option Addr) (sn sc : Nat) (L : List St) (w : World) (h : w.cell? ⟨cb, 0, none⟩ = some (.int .i64 c)) (hb : cb < w.heap.size) (hS : Sl w w.heap.size 5 sa sn sc (stC L)) (hn : sn = L.length) (hlim : sn ≤ 1000000) :
    Calls Tryd.prog 75 #[.slice sa sn sc, .func (.func 94) #[] #[.pointer (some ⟨cb, 0, none⟩)]] w fun e w' => e = .returned (.bool (hsB L c)) ∧ Below w.heap.size w w' := by
  have HI := Lib.hid (indexFunc_any cb c sa sn sc L w h hb hS hn hlim)
  clear h hb hS hn hlim
  generalize hsB L c = B at *
  go_enter Tryd.func75, Tryd.ntmps75
  go_wp2_with (go_at_call 87; refine HI.out.mono ?_; rintro e w1 ⟨r, rfl, hr, hb1⟩; have HR := Lib.hid hr; clear hr)
  go_ret
  exact ⟨ret_b (by rw [← HR.out]), hb1⟩

set_option maxHeartbeats 1600000 in
theorem hasStop_any (bar : Bool) (v : Int) (d t tie : Bool) (sa : Option Addr) (sn sc : Nat) (L : List St) (c : Int) (w : World) (hS : Sl w w.heap.size 5 sa sn sc (stC L)) (hn : sn = L.length) (hlim : sn ≤ 1000000) :
    Calls Tryd.prog 93 #[evV bar v d t tie sa sn sc, .int .i64 c] w fun e w' => e = .returned (.bool (hsB L c)) ∧ Below w.heap.size w w' := by
  have hmf : ∀ (fn : Fn) (first cap : Array Value) (w : World), (Instr.makeFunc fn first cap).run Tryd.prog w = .ok (.func fn first cap) w := fun _ _ _ _ => rfl
  have HS : Hid (∀ w', Below w.heap.size w w' → Sl w' w'.heap.size 5 sa sn sc (stC L)) := fun w' hb' => hS.below hb'
  have HN := Lib.hid (And.intro hn hlim)
  clear hS hn hlim
  go_enter Tryd.func93, Tryd.ntmps93
  go_wp2_with (go_at_call 75; refine (containsFunc_any (w.heap.size + 1) c sa sn sc L _ (by simp) (by simp) (HS.out _ (bt (ba w _) (ba _ _))) HN.out.1 HN.out.2).mono ?_; rintro e w1 ⟨rfl, hb1⟩)
  go_ret
  exact ⟨rfl, bx (bx hb1)⟩

end Go.Proofs.YtdhjigaocamglaaDoor

/- Pieces: Longest, for any piece, event and course. -/
namespace Go.Proofs.YtdhjigaocamglaaDoor
open Go Go.RowKit

theorem lgst_out {P : List EvP} {k c : Int} (h : k < 0 ∨ (P.length : Int) ≤ k) : lgst P k c = 0 := by rw [lgst, if_pos h]
theorem lgst_in {P : List EvP} {k : Nat} {c : Int} (h : k < P.length) : lgst P k c = lgGo c (P.drop (k + 1)) 0 := by rw [lgst, if_neg (by omega)]; rfl

set_option maxRecDepth 100000 in
set_option maxHeartbeats 3200000 in
theorem longest_any (A : Option Addr) (n c : Nat) (A' : Option Addr) (m c' : Nat) (A2 : Option Addr) (q cq : Nat) (P : List EvP) (ev co : Int) (w : World) (hE : EsIn w A2 q cq P) (hq : q ≤ 1000000) (hst : ∀ y ∈ P, y.L.length ≤ 1000000) :
    Calls Tryd.prog 92 #[pcV A n c A' m c' A2 q cq, .int .i64 ev, .int .i64 co] w fun e w' => e = .returned (.int .i64 (lgst P ev co : Nat)) ∧ Below w.heap.size w w' := by
  have hqP := hE.hq
  by_cases h1 : ev < 0
  · have HL := Lib.hid (lgst_out (P := P) (c := co) (.inl h1))
    clear hE hst
    go_enter Tryd.func92, Tryd.ntmps92
    go_wp2_with (fail)
    go_ret
    exact ⟨ret_int (by rw [HL.out]; rfl), ba _ _⟩
  by_cases h2 : (q : Int) ≤ ev
  · have HL := Lib.hid (lgst_out (P := P) (c := co) (.inr (by omega : (P.length : Int) ≤ ev)))
    clear hE hst
    go_enter Tryd.func92, Tryd.ntmps92
    go_wp2_with (fail)
    go_ret
    exact ⟨ret_int (by rw [HL.out]; rfl), ba _ _⟩
  obtain ⟨k, rfl⟩ := Int.eq_ofNat_of_zero_le (by omega : 0 ≤ ev)
  have hk : k < q := by omega
  have HL := Lib.hid (lgst_in (P := P) (c := co) (k := k) (by omega))
  obtain ⟨E, hEv, hs⟩ := hE.evs
  have hcq := hs.1
  obtain ⟨b, off, rfl, hbl, hcl⟩ := hs.2.2 (by omega)
  have HE : Hid (∀ w', Below w.heap.size w w' → EsIn w' (some ⟨b, off, none⟩) q cq P) := fun w' hb => hE.below hb
  have HST := Lib.hid hst
  have HP := Lib.hid hqP
  clear hE hst hEv hs hcl hqP h1
  by_cases hc1 : cq = k + 1
  · have h0 : q - (k + 1) = 0 := by omega
    have HR : Hid (lgGo co (P.drop (k + 1)) 0 = 0) := by unfold Hid; rw [List.drop_of_length_le (by have := HP.out; omega)]; rfl
    go_enter Tryd.func92, Tryd.ntmps92
    go_wp2_with (fail)
    refine wp_loop_rounds 1 ?_
    rw [rounds_succ]
    go_wp2_with (fail)
    go_ret
    exact ⟨ret_int (by rw [HL.out, HR.out]; rfl), ba _ _⟩
  · go_enter Tryd.func92, Tryd.ntmps92
    go_wp2_with (fail)
    have HB0 := Lib.hid (ba w (pcO A n c A' m c' (some ⟨b, off, none⟩) q cq))
    go_loopw [7, 25] (fun l i wr => ∃ j : Nat, j ≤ q - (k + 1) ∧ j ≤ 15 ∧ i = .int .i64 j ∧ l = .int .i64 j ∧ lgGo co (P.drop (k + 1)) 0 = lgGo co (P.drop (k + 1 + j)) j ∧ Below w.heap.size w wr) (fun _ i _ => q - (k + 1) - (intOf i).toNat)
    case atStart => exact ⟨0, by omega, by omega, rfl, rfl, rfl, HB0.out⟩
    case round =>
      obtain ⟨j, hj, hj15, rfl, rfl, hr, hbw⟩ := hrel
      have HR := Lib.hid hr
      have HB := Lib.hid hbw
      clear hr hbw
      have hji : (j : Int) ≤ 15 := by omega
      by_cases hlt : j < q - (k + 1)
      · obtain ⟨b', off', sa, sc, hA, hbl2, hPk, hd, ⟨c0, c1, c2, c3, c4, c5⟩, hS⟩ := (HE.out _ HB.out).at (k := k + 1 + j) (by omega)
        injection hA with hA
        injection hA with hA1 hA2
        subst hA1 hA2
        rw [show off + (k + 1 + j) * 6 = off + (k + 1) * 6 + j * 6 by omega] at c0 c1 c2 c3 c4 c5
        have HS := Lib.hid hS
        have HD := Lib.hid hd
        have hL : (P.getD (k + 1 + j) z6).L.length ≤ 1000000 := HST.out _ (List.mem_of_getElem? hPk)
        clear hS hd hPk
        generalize P.getD (k + 1 + j) z6 = y at *
        have HG : Hid (∀ B, (decide (j = 15) || restB y || hsB y.L co) = B → lgGo co (P.drop (k + 1)) 0 = if B then j else lgGo co (P.drop (k + 1 + j + 1)) (j + 1)) := fun B hB => by
          rw [HR.out, HD.out, lgGo]
          subst hB
          by_cases g : j = 15
          · simp [g]
          · cases restB y <;> cases hsB y.L co <;> simp [g]
        by_cases h15 : j = 15
        · subst h15
          go_wp2_with (fail)
          go_ret
          exact ⟨ret_int (by rw [HL.out, HG.out true (by simp)]; rfl), bt HB.out (ba _ _)⟩
        · have h15b : ((j : Int) == 15) = false := by simp; omega
          have H15 : Hid (decide (j = 15) = false) := by simpa [Hid] using h15
          cases hrest : restB y with
          | true =>
            have HT := Lib.hid hrest
            clear hrest
            go_wp2_with (go_at_call 73; refine (isRest_any y sa sc _).mono ?_; rintro e w2 ⟨rfl, hb2⟩; rw [HT.out])
            go_ret
            exact ⟨ret_int (by rw [HL.out, HG.out true (by rw [HT.out]; simp)]; rfl), bt HB.out (bx hb2)⟩
          | false =>
            have HT := Lib.hid hrest
            clear hrest
            cases hhas : hsB y.L co with
            | true =>
              have HU := Lib.hid hhas
              clear hhas
              go_wp2_with (first
                | (go_at_call 73; refine (isRest_any y sa sc _).mono ?_; rintro e w2 ⟨rfl, hb2⟩; rw [HT.out]; obtain ⟨x0, x1, x2, x3, x4, x5⟩ := cell6 hb2)
                | (go_at_call 93; refine (hasStop_any _ _ _ _ _ sa _ sc y.L co _ (HS.out.below (bx hb2)) rfl hL).mono ?_; rintro e w3 ⟨rfl, hb3⟩; rw [HU.out]))
              go_ret
              exact ⟨ret_int (by rw [HL.out, HG.out true (by rw [HU.out]; simp)]; rfl), bt HB.out (bt (bx hb2) hb3)⟩
            | false =>
              have HU := Lib.hid hhas
              clear hhas
              go_wp2_with (first
                | (go_at_call 73; refine (isRest_any y sa sc _).mono ?_; rintro e w2 ⟨rfl, hb2⟩; rw [HT.out]; obtain ⟨x0, x1, x2, x3, x4, x5⟩ := cell6 hb2)
                | (go_at_call 93; refine (hasStop_any _ _ _ _ _ sa _ sc y.L co _ (HS.out.below (bx hb2)) rfl hL).mono ?_; rintro e w3 ⟨rfl, hb3⟩; rw [HU.out]))
              go_roundw
              case rel => exact ⟨j + 1, by omega, by omega, by go_num, by go_num, by rw [HG.out false (by rw [H15.out, HT.out, HU.out]; rfl)]; rfl, bt HB.out (bt (bx hb2) hb3)⟩
              case measure => simp [intOf]; omega
      · have hj2 : j = q - (k + 1) := by omega
        have HZ : Hid (lgGo co (P.drop (k + 1)) 0 = j) := by
          unfold Hid
          rw [HR.out, List.drop_of_length_le (by have := HP.out; omega)]
          rfl
        subst hj2
        go_wp2_with (fail)
        go_ret
        exact ⟨ret_int (by rw [HL.out, HZ.out]), HB.out⟩

end Go.Proofs.YtdhjigaocamglaaDoor
