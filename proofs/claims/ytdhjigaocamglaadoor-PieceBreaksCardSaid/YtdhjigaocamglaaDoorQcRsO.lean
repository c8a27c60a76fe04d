/- Pieces: the reference's parts. -/
import Derived.Test.YtdhjigaocamglaaDoorQcBk2
import Derived.Deep.AppendLies
namespace Go.Proofs.YtdhjigaocamglaaDoor
open Go Go.RowKit

theorem ptM_quo (b f : Nat) (to : Int) (hb : 1 ≤ b) : min to (((f / b + 1) * b : Nat) : Int) - f = ptM b f to := by
  rw [ptM_nat]
  have h := Nat.div_add_mod f b
  have h2 : (f / b + 1) * b = b * (f / b) + b := by rw [Nat.add_mul, Nat.one_mul, Nat.mul_comm]
  rw [h2]
  have h3 := Nat.mod_lt f (show 0 < b by omega)
  push_cast
  have h4 : ((b * (f / b) : Nat) : Int) + ((f % b : Nat) : Int) = (f : Int) := by exact_mod_cast h
  push_cast at h4
  omega
set_option maxRecDepth 100000 in
set_option maxHeartbeats 3200000 in
theorem parts_any (fm to : Int) (b : Nat) (w : World) (hb1 : 1 ≤ b) (hb2 : b ≤ 4608) (hf0 : 0 ≤ fm) (hto : to ≤ 1000000) (hft : fm ≤ to) :
    Calls Tryd.prog 77 #[.int .i64 fm, .int .i64 to, .int .i64 b] w fun e w' => ∃ A c, e = .returned (.slice A (ptA b fm to).length c) ∧ Own1 w w' 3 1 A (ptA b fm to).length c (intC (ptA b fm to)) := by
  obtain ⟨i0, ii1, ii2, ii3, ii4⟩ := info_parts Tryd.info3'
  obtain ⟨R, hR⟩ : ∃ R, ptA b fm to = R := ⟨_, rfl⟩
  rw [hR]
  have HR := Lib.hid hR
  clear hR
  go_enter Tryd.func77, Tryd.ntmps77
  go_wp2_with (fail)
  go_loopw [0, 7] (fun fr lv wr => ∃ (f : Nat) (L : List Int) (A : Option Addr) (c : Nat), fr = .int .i64 (f : Int) ∧ lv = .slice A L.length c ∧ (f : Int) ≤ to ∧ Hid (R = L ++ ptA b f to) ∧ Hid (Own1 w wr 3 1 A L.length c (intC L)) ∧ (L.length : Int) ≤ f) (fun fr _ _ => (to - intOf fr).toNat)
  case atStart =>
    obtain ⟨f, rfl⟩ := Int.eq_ofNat_of_zero_le hf0
    exact ⟨f, [], none, 0, rfl, rfl, hft, by unfold Hid; rw [← HR.out]; rfl, Own1.start (Below.refl _ _) _ _, by simp⟩
  case round =>
    obtain ⟨f, L, A, c, rfl, rfl, hfl, HL, HO, hll⟩ := hrel
    by_cases hlt : (f : Int) < to
    · obtain ⟨m1, m2⟩ := ptM_pos (bar := b) (by omega) hlt
      have hst := ptA_step (bar := b) (by omega) hlt
      have hq := ptM_quo b f to hb1
      have hd : f / b ≤ f := Nat.div_le_self _ _
      obtain ⟨d, hd'⟩ : ∃ d, f / b = d := ⟨_, rfl⟩
      rw [hd'] at hq hd
      have hmul : (d + 1) * b ≤ f + b := by
        have h := Nat.div_add_mod f b
        rw [hd'] at h
        have : (d + 1) * b = b * d + b := by rw [Nat.add_mul, Nat.one_mul, Nat.mul_comm]
        omega
      obtain ⟨m, hm⟩ : ∃ m, (d + 1) * b = m := ⟨_, rfl⟩
      rw [hm] at hq hmul
      have hmi : ((d : Int) + 1) * (b : Int) = (m : Int) := by rw [← hm]; push_cast; rfl
      obtain ⟨x, hx⟩ : ∃ x, ptM b f to = x := ⟨_, rfl⟩
      rw [hx] at m1 m2 hst hq
      have HST := Lib.hid hst
      obtain ⟨x', rfl⟩ := Int.eq_ofNat_of_zero_le (show 0 ≤ x by omega)
      have hbz : ((b : Int) == 0) = false := beq_eq_false_iff_ne.2 (by omega)
      have hbn : ¬ b = 0 := by omega
      have hquo : Int.tdiv (f : Int) (b : Int) = (d : Int) := by rw [← hd']; rfl
      have hw0 : IntKind.i64.wrap (d : Int) = (d : Int) := IntWalk.i64_in _ ⟨by omega, by omega⟩
      have hw1 : IntKind.i64.wrap ((d : Int) + 1) = (d : Int) + 1 := IntWalk.i64_in _ ⟨by omega, by omega⟩
      have hw2 : IntKind.i64.wrap (((d : Int) + 1) * (b : Int)) = (m : Int) := by rw [hmi]; exact IntWalk.i64_in _ ⟨by omega, by omega⟩
      have hw3 : IntKind.i64.wrap (m : Int) = (m : Int) := IntWalk.i64_in _ ⟨by omega, by omega⟩
      have HMI := Lib.hid hmi
      have HQ := Lib.hid hq
      clear hst hq hx hd' hm hmi
      by_cases hmt : (m : Int) < to
      · go_wp2_with (at_builtin; go_loud (refine wpList_append_own _ rfl _ _ 23 rfl w.heap.size 3 i0 _ 1 8 Tryd.underlying23 ii1 ii2 ii3 ii4 rfl (by decide) (.slice A L.length c) L.length _ rfl (HO.out.own.alloc _) ⟨wr.heap.size, 0, none⟩ 1 1 [.int .i64 ((m : Int) - (f : Int))] rfl rfl (cell_one_new _ _ _) (by simp [Value.oneCell']) (by unfold maxLen; omega) (by omega) (by have := HO.out.low.size; simp; omega) ?_))
        intro v' w6 hown' hgrow _
        obtain ⟨A6, c6, rfl, hO6, _⟩ := Own1.step HO.out (Below.refl _ _) rfl hown' hgrow
        have hxe : (m : Int) - (f : Int) = (x' : Int) := by have := HQ.out; omega
        have HY : Hid ((m : Int) = ((f + x' : Nat) : Int)) := by unfold Hid; omega
        have HO6 : Hid (Own1 w w6 3 1 A6 (L ++ [(x' : Int)]).length c6 (intC (L ++ [(x' : Int)]))) := by
          unfold Hid
          rw [hxe] at hO6
          rw [List.length_append, intC, List.map_append]
          exact hO6
        clear hown' hgrow hO6 hxe
        go_wp2_with (fail)
        go_roundw
        case rel =>
          exact ⟨f + x', L ++ [(x' : Int)], A6, c6, by rw [HY.out], by simp, by omega, by unfold Hid; rw [HL.out, HST.out]; push_cast; simp, HO6, by simp; omega⟩
        case measure => have := HY.out; simp [intOf]; omega
      · go_wp2_with (at_builtin; go_loud (refine wpList_append_own _ rfl _ _ 23 rfl w.heap.size 3 i0 _ 1 8 Tryd.underlying23 ii1 ii2 ii3 ii4 rfl (by decide) (.slice A L.length c) L.length _ rfl (HO.out.own.alloc _) ⟨wr.heap.size, 0, none⟩ 1 1 [.int .i64 (to - (f : Int))] rfl rfl (cell_one_new _ _ _) (by simp [Value.oneCell']) (by unfold maxLen; omega) (by omega) (by have := HO.out.low.size; simp; omega) ?_))
        intro v' w6 hown' hgrow _
        obtain ⟨A6, c6, rfl, hO6, _⟩ := Own1.step HO.out (Below.refl _ _) rfl hown' hgrow
        have hxe : to - (f : Int) = (x' : Int) := by have := HQ.out; omega
        have HY : Hid (to = ((f + x' : Nat) : Int)) := by unfold Hid; omega
        have HO6 : Hid (Own1 w w6 3 1 A6 (L ++ [(x' : Int)]).length c6 (intC (L ++ [(x' : Int)]))) := by
          unfold Hid
          rw [hxe] at hO6
          rw [List.length_append, intC, List.map_append]
          exact hO6
        clear hown' hgrow hO6 hxe
        go_wp2_with (fail)
        go_roundw
        case rel =>
          exact ⟨f + x', L ++ [(x' : Int)], A6, c6, by rw [HY.out], by simp, by omega, by unfold Hid; rw [HL.out, HST.out]; push_cast; simp, HO6, by simp; omega⟩
        case measure => have := HY.out; simp [intOf]; omega
    · obtain hfe : (f : Int) = to := by omega
      have hRL : R = L := by
        rw [HL.out, ptA_end (by omega)]
        simp
      have HRL := Lib.hid hRL
      clear hRL hfe
      go_wp2_with (fail)
      go_ret
      exact ⟨A, c, by rw [HRL.out]; rfl, by rw [HRL.out]; exact HO.out⟩

end Go.Proofs.YtdhjigaocamglaaDoor

/- The reference's Signs: a row of its own. -/
namespace Go.Proofs.YtdhjigaocamglaaDoor
open Go Go.RowKit

def SgPostO (x : Int) (w : World) (e : Ending) (w' : World) : Prop := ∃ A c, e = .returned (.tuple #[.slice A (sgN x) c, .int .i64 (sgE x)]) ∧ w'.ownsRow w.heap.size 48 3 (.slice A (sgN x) c) (sgN x) (sgX x) ∧ Below w.heap.size w w'
theorem sgPostO_mk {x e : Int} {w w' : World} {A : Option Addr} {n c : Nat} {X : List Value} (hE : sgE x = e) (hN : sgN x = n) (hX : sgX x = X) (hs : w'.ownsRow w.heap.size 48 3 (.slice A n c) n X) (hb : Below w.heap.size w w') : SgPostO x w (.returned (.tuple #[.slice A n c, .int .i64 e])) w' := by
  subst hE hN hX
  exact ⟨A, c, rfl, hs, hb⟩
set_option maxRecDepth 100000 in
set_option maxHeartbeats 4000000 in
theorem rsignsO_ok (n : Nat) (hn : n ≤ 4608) (w : World) : Calls Tryd.prog 78 #[.int .i64 n] w (SgPostO n w) := by
  obtain ⟨i0, ii, hi0, hi1, hi2⟩ := info_parts (show (Tryd.prog.info? 48).map (fun i => (i.zero, i.size, i.bytes)) = some (some (.agg #[.int .i64 0, .bool false, .bool false]), 3, 16) by kernel_rfl)
  have h0 : ¬(n : Int) < 0 := by omega
  have h1 : ¬4608 < (n : Int) := by omega
  have hnb : ¬((n : Int) < 0 ∨ 4608 < (n : Int)) := by omega
  cases hq : sgP (n : Int) with
  | none =>
    have hE : Hid (sgE n = 25 ∧ sgN n = 0 ∧ sgX n = []) := by simp [Hid, sgE, sgN, sgX, sgQ, hnb, hq]
    have hL : lv (n : Int) < 0 := by simp [lv, hq]
    have HLn : Hid (lv (n : Int) = lv (n : Int)) := rfl
    clear hq hnb
    go_enter Tryd.func78, Tryd.ntmps78
    go_wp2_with (go_at_call 88; refine (rfewest n hn _).mono ?_; rintro e w1 ⟨g, cur, rfl, hbk, hsz, hcs, hge, hb1⟩; have hcn := (hbk.cell n).trans (hcs n (Nat.le_refl _)); have hnn : n < n + 1 := Nat.lt_succ_self _)
    go_ret2
    exact sgPostO_mk hE.out.1 hE.out.2.1 hE.out.2.2 ⟨by simp, .inl ⟨rfl, rfl⟩⟩ hb1
  | some l =>
    have hE : Hid (sgE n = 0 ∧ sgN n = l.length ∧ sgX n = l.flatMap sgL) := by simp [Hid, sgE, sgN, sgX, sgQ, hnb, hq]
    have hL : ¬lv (n : Int) < 0 := by simp only [lv, hq]; omega
    have HS := Lib.hid (left_start hq)
    clear hq hnb
    go_enter Tryd.func78, Tryd.ntmps78
    go_wp2_with (first | (go_at_call 88; refine (rfewest n hn _).mono ?_; rintro e w1 ⟨g, cur, rfl, hbk, hsz, hcs, hge, hb1⟩; have hcn := (hbk.cell n).trans (hcs n (Nat.le_refl _)); have hnn : n < n + 1 := Nat.lt_succ_self _) | (go_at_call 71; refine (rall _).mono ?_; rintro e w2 ⟨ga, ca, rfl, hall, hb2⟩))
    have HT : Hid (∀ w', Below w2.heap.size w2 w' → ∀ j, j ≤ n → w'.cell? ⟨g, j, none⟩ = some (.int .i64 (lv j))) := fun w' hb j hj => by rw [((hbk.below hb2).below hb).cell, hcs j hj]
    have HA : Hid (∀ w', Below w2.heap.size w2 w' → ∀ q, q < 21 → w'.cell? ⟨ga, q * 3, none⟩ = some (.int .i64 (sgv q).1) ∧ w'.cell? ⟨ga, q * 3 + 1, none⟩ = some (.bool (sgv q).2.1) ∧ w'.cell? ⟨ga, q * 3 + 2, none⟩ = some (.bool (sgv q).2.2)) := fun w' hb q hq => by
      have h := own_below hall hb
      obtain ⟨a0, a1, a2⟩ := alL_at hq
      exact ⟨(h.cellAt (q * 3) (by omega)).trans a0, (h.cellAt (q * 3 + 1) (by omega)).trans a1, (h.cellAt (q * 3 + 2) (by omega)).trans a2⟩
    have HB2 := Lib.hid (bt hb1 hb2)
    have hgw : g < w2.heap.size := (hbk.below hb2).lt
    clear hcn hbk hsz hcs hge hb1 hall hb2 hL
    go_loopw [0, 6] (fun t v wr => ∃ (r : Nat) (pre rest : List Nat) (A1 : Option Addr) (c1 : Nat), t = .int .i64 r ∧ v = .slice A1 pre.length c1 ∧ r ≤ n ∧ Own1 w2 wr 48 3 A1 pre.length c1 (pre.flatMap sgL) ∧ Hid (pre ++ rest = l) ∧ Hid (Left r rest)) (fun t _ _ => (intOf t).toNat)
    case atStart => exact ⟨n, [], l, none, 0, rfl, rfl, Nat.le_refl _, Own1.start (Below.refl _ _) _ _, rfl, HS⟩
    case round =>
      obtain ⟨r, pre, rest, A1, c1, rfl, rfl, hrn, hO, HP, HL⟩ := hrel
      have HO := Lib.hid hO
      clear hO
      match rest, HP, HL with
      | [], HP, HL =>
        obtain rfl : r = 0 := by have := left_nil HL.out; omega
        have HP2 : Hid (pre = l) := by have := HP.out; unfold Hid; simpa using this
        go_wp2_with (fail)
        go_ret2
        exact sgPostO_mk hE.out.1 (hE.out.2.1.trans (by rw [← HP2.out])) (hE.out.2.2.trans (by rw [← HP2.out])) (own_more HO.out.own (Nat.le_trans HB2.out.size (Nat.le_refl _))) (HB2.out.trans (HO.out.low.mono HB2.out.size))
      | k :: rest, HP, HL =>
        obtain ⟨k1, k2, k3, k4, k5⟩ := left_cons HL.out
        have k6 := tks_four k1
        have hr0 : decide (0 < (r : Int)) = true := by simp; omega
        have hr0n : decide (0 < r) = true := by simp; omega
        have HK := Lib.hid k4
        have HN := Lib.hid k5
        have HK2 := Lib.hid (And.intro k2 k3)
        have hplen : pre.length ≤ 4608 := by
          have hs := HS.out.1
          have h5 := lv_le (r := (n : Int)) (by omega)
          have hl := congrArg List.length HP.out
          simp at hl
          omega
        clear k2 k3 k4 k5 k6
        go_wp2_with (fail)
        obtain ⟨wo, rfl⟩ : ∃ wo : World, wo = wr := ⟨_, rfl⟩
        go_loopw [0, 6, 7] (fun ta oa v wr => ta = .int .i64 r ∧ oa = .slice A1 pre.length c1 ∧ ∃ q : Nat, q ≤ k ∧ v = .int .i64 q ∧ Below wo.heap.size wo wr) (fun _ _ v _ => k - (intOf v).toNat)
        case atStart => exact ⟨rfl, rfl, 0, by omega, rfl, Below.refl _ _⟩
        case round =>
          obtain ⟨rfl, rfl, q, hqk, rfl, hB⟩ := hrel
          have HBr := Lib.hid hB
          have hq21 : q < 21 := by omega
          have hqi : (q : Int) < 21 := by omega
          obtain ⟨c0, c1', c2⟩ := HA.out wr (bt HO.out.low hB) q hq21
          obtain ⟨T, hT⟩ := Int.eq_ofNat_of_zero_le (tkV_bd0 q).1
          have HTT : Hid (tkV (sgv q).1 (sgv q).2.1 (sgv q).2.2 = (T : Int)) := hT
          have HT2 : Hid (tks q = (T : Int)) := hT
          have HTB : Hid (4 ≤ T ∧ T ≤ 576) := by have := tks_four hq21; unfold Hid; omega
          clear hT hB
          by_cases hA : T ≤ r
          · have gA : (T : Int) ≤ (r : Int) := by omega
            have HX : Hid (∀ w', Below wr.heap.size wr w' → w'.cell? ⟨g, r - T, none⟩ = some (.int .i64 (lv ((r - T : Nat) : Int))) ∧ w'.cell? ⟨g, r, none⟩ = some (.int .i64 (lv r))) := fun w' hb =>
              ⟨HT.out w' (bt HO.out.low (bt HBr.out hb)) _ (by omega), HT.out w' (bt HO.out.low (bt HBr.out hb)) _ hrn⟩
            have hTn : r - T < n + 1 := by omega
            have hrn1 : r < n + 1 := by omega
            have HLE : Hid (lv ((r - T : Nat) : Int) = lv ((r : Int) - tks q)) := by unfold Hid; rw [HT2.out]; congr 1; omega
            have HL1 : Hid (lv ((r - T : Nat) : Int) ≤ 4608 ∧ -1 ≤ lv ((r - T : Nat) : Int)) := ⟨by have := lv_le (r := ((r - T : Nat) : Int)) (by omega); omega, lv_low _⟩
            have HL2 : Hid (lv (r : Int) ≤ 4608 ∧ -1 ≤ lv (r : Int)) := ⟨by have := lv_le (r := (r : Int)) (by omega); omega, lv_low _⟩
            have HM : Hid (lv (r : Int) = lv (r : Int)) := rfl
            obtain ⟨M, hM⟩ : ∃ M, lv (r : Int) = M := ⟨_, rfl⟩
            have HMM := Lib.hid hM
            rw [hM] at HX HL2
            clear hM HM
            obtain ⟨L, hL⟩ : ∃ L, lv ((r - T : Nat) : Int) = L := ⟨_, rfl⟩
            rw [hL] at HX HL1 HLE
            clear hL
            obtain ⟨l1, l2⟩ := HL1.out
            obtain ⟨m1, m2⟩ := HL2.out
            by_cases hqe : q = k
            · subst hqe
              have gB : (L == M - 1) = true := by
                have := HK2.out.2
                rw [← HLE.out, HMM.out] at this
                simpa using this
              have HSUB : Hid ((r : Int) - (T : Int) = ((r - T : Nat) : Int)) := by unfold Hid; omega
              have HN2 : Hid (Left ((r - T : Nat) : Int) rest) := by
                have := HN.out
                rw [HT2.out, HSUB.out] at this
                exact this
              go_wp2_with (go_at_call 49; refine (rticks_any _ _ _ _).mono ?_; rintro e w3 ⟨rfl, hb3⟩; rw [HTT.out]; obtain ⟨x0, x1⟩ := HX.out _ hb3)
              go_quiet (fail)
              have hb4 := bd hb3 nq
              clear x0 x1 c0 c1' c2
              generalize w3.drewN nq = w4 at *
              clear hb3
              obtain ⟨c0, c1', c2⟩ := HA.out w4 (bt HO.out.low (bt HBr.out hb4)) q hq21
              have HO4 := Lib.hid (HO.out.below (bt HBr.out hb4))
              go_wp2_with (at_builtin; refine wpList_append_own _ rfl _ _ 69 rfl w2.heap.size 48 i0 _ 3 16 Tryd.underlying69 ii hi0 hi1 hi2 rfl (by decide) (.slice A1 pre.length c1) pre.length _ rfl (HO4.out.own.alloc _) ⟨w4.heap.size, 0, none⟩ 1 1 (sgL q) rfl rfl ?d1 ?d2 ?d3 ?d4 ?d5 ?_)
              case d1 => exact World.news_of_block (cs := #[.int .i64 (sgv q).1, .bool (sgv q).2.1, .bool (sgv q).2.2]) (t := 48) (fr := (0, 0)) (heap_alloc_new w4 _)
              case d2 =>
                intro u hu
                simp [sgL] at hu
                rcases hu with rfl | rfl | rfl <;> rfl
              case d3 => unfold maxLen; omega
              case d4 => omega
              case d5 => have := HO4.out.low.size; simp; omega
              intro v' w5 hown' hgrow _
              obtain ⟨A3, c3, rfl, hO3⟩ := Own1.stepN HO4.out (Below.refl _ _) rfl hown' hgrow
              have hO4 : Own1 w2 w5 48 3 A3 (pre ++ [q]).length c3 ((pre ++ [q]).flatMap sgL) := by
                rw [sgL_snoc, List.length_append]; exact hO3
              have HO5 := Lib.hid hO4
              have HP3 : Hid ((pre ++ [q]) ++ rest = l) := by have := HP.out; unfold Hid; simpa using this
              clear hown' hgrow hO3 hO4
              go_wp2_with (fail)
              go_roundw
              case rel => exact ⟨r - T, pre ++ [q], rest, A3, c3, by rw [← HSUB.out], by simp, by omega, HO5.out, HP3, HN2⟩
              case measure => have := HTB.out; simp [intOf]; omega
            · have gB : (L == M - 1) = false := by
                have h := HK.out q (by omega) (by rw [HT2.out]; exact gA)
                rw [← HLE.out, HMM.out] at h
                simpa using h
              go_wp2_with (go_at_call 49; refine (rticks_any _ _ _ _).mono ?_; rintro e w3 ⟨rfl, hb3⟩; rw [HTT.out]; obtain ⟨x0, x1⟩ := HX.out _ hb3)
              go_quiet (fail)
              have hb4 := bd hb3 nq
              clear x0 x1 c0 c1' c2
              generalize w3.drewN nq = w4 at *
              clear hb3
              go_wp2_with (fail)
              go_roundw
              case rel => exact ⟨rfl, rfl, q + 1, by omega, by simp, bt HBr.out hb4⟩
              case measure => simp [intOf]; omega
          · have gA : decide ((T : Int) ≤ (r : Int)) = false := by simp; omega
            have hqe : q ≠ k := fun e => by subst e; have := HK2.out.1; rw [HT2.out] at this; omega
            go_wp2_with (go_at_call 49; refine (rticks_any _ _ _ _).mono ?_; rintro e w3 ⟨rfl, hb3⟩; rw [HTT.out])
            go_quiet (fail)
            have hb4 := bd hb3 nq
            clear c0 c1' c2
            generalize w3.drewN nq = w4 at *
            clear hb3
            go_wp2_with (fail)
            go_roundw
            case rel => exact ⟨rfl, rfl, q + 1, by omega, by simp, bt HBr.out hb4⟩
            case measure => simp [intOf]; omega

theorem rsignsO_any (x : Int) (w : World) : Calls Tryd.prog 78 #[.int .i64 x] w (SgPostO x w) := by
  by_cases h : x < 0 ∨ 4608 < x
  · refine (rsigns_bad x w h).mono fun e w' ⟨he, hb⟩ => ⟨none, 0, ?_, ?_, hb⟩
    · rw [he]; simp [sgE, sgN, sgQ, h]
    · simp only [sgN, sgX, sgQ, if_pos h]
      exact ⟨by simp, .inl ⟨rfl, rfl⟩⟩
  · obtain ⟨n, rfl⟩ := Int.eq_ofNat_of_zero_le (show 0 ≤ x by omega)
    exact rsignsO_ok n (by omega) w

end Go.Proofs.YtdhjigaocamglaaDoor
