/- Sound: why each note ends (cause, Causes), for any piece. -/
import Derived.Test.YtcebpgcmmdfccaaSndRG
import Derived.Test.YtcebpgcmmdfccaaSndAt2
namespace Go.Proofs.Ytcebpgcmmdfccaa
open Go Go.RowKit

/-- Why a note ends: at the end, at a stop on its course, at a rest, because the finger leaves. -/
def csOf (P : List EvP) (u : Nat) (c : Int) : Int := if u = P.length then 4 else if hsB (P.getD u z6).L c then 1 else if restB (P.getD u z6) then 2 else 3
def csL (C : List Cr) (S : List Int) (P : List EvP) : List Int := (pyL C S P).map fun x => csOf P x.u.toNat x.t.c

theorem cell7 {w w1 : World} {u0 u1 u2 u3 u4 u5 u6 : Value} {T : TypeId} (h : Below (w.alloc (.cells #[u0, u1, u2, u3, u4, u5, u6] T)).heap.size (w.alloc (.cells #[u0, u1, u2, u3, u4, u5, u6] T)) w1) :
    w1.cell? ⟨w.heap.size, 0, none⟩ = some u0 ∧ w1.cell? ⟨w.heap.size, 1, none⟩ = some u1 ∧ w1.cell? ⟨w.heap.size, 2, none⟩ = some u2 ∧ w1.cell? ⟨w.heap.size, 3, none⟩ = some u3 ∧ w1.cell? ⟨w.heap.size, 4, none⟩ = some u4 ∧ w1.cell? ⟨w.heap.size, 5, none⟩ = some u5 ∧ w1.cell? ⟨w.heap.size, 6, none⟩ = some u6 :=
  ⟨by simpa using (keepb h 0).1, by simpa using (keepb h 1).1, by simpa using (keepb h 2).1, by simpa using (keepb h 3).1, by simpa using (keepb h 4).1, by simpa using (keepb h 5).1, by simpa using (keepb h 6).1⟩
abbrev pyO (x0 x1 x2 x3 x4 x5 x6 : Int) : Obj := .cells #[.int .i64 x0, .int .i64 x1, .int .i64 x2, .int .i64 x3, .int .i64 x4, .int .i64 x5, .int .i64 x6] 84
abbrev pyV (x0 x1 x2 x3 x4 x5 x6 : Int) : Value := .agg #[.int .i64 x0, .int .i64 x1, .int .i64 x2, .int .i64 x3, .int .i64 x4, .int .i64 x5, .int .i64 x6]

set_option maxRecDepth 100000 in
set_option maxHeartbeats 4000000 in
theorem cause_any (A2 : Option Addr) (q cq : Nat) (P : List EvP) (u : Nat) (xf te tc tp tf tt : Int) (w : World) (hE : EsIn w A2 q cq P) (hu : u ≤ q) (hq : q ≤ 65536) (hst : ∀ y ∈ P, y.L.length ≤ 1000000) :
    Calls Try.prog 59 #[.slice A2 q cq, pyV xf u te tc tp tf tt] w fun e w' => e = .returned (.int .i64 (csOf P u tc)) ∧ Below w.heap.size w w' := by
  have HC : Hid (csOf P u tc = if u = P.length then 4 else if hsB (P.getD u z6).L tc then 1 else if restB (P.getD u z6) then 2 else 3) := rfl
  have hql := hE.hq
  by_cases huq : u = q
  · subst huq
    have HX : Hid (csOf P u tc = 4) := by unfold Hid; rw [HC.out, if_pos hql]
    clear HC hql hE hst
    go_enter Try.func59, Try.ntmps59
    go_wp2_with (fail)
    go_ret
    exact ⟨ret_int (by rw [HX.out]), ba _ _⟩
  · have hlt : u < q := by omega
    have hub : ((u : Int) == (q : Int)) = false := by simp; omega
    have hui : (u : Int) < (q : Int) := by omega
    rw [if_neg (by omega)] at HC
    obtain ⟨b, off, sa, sc', rfl, hbl, hPk, hd, ⟨c0, c1, c2, c3, c4, c5⟩, hS⟩ := (hE.below (ba w (pyO xf u te tc tp tf tt))).at hlt
    have HS := Lib.hid hS
    have hL : (P.getD u z6).L.length ≤ 1000000 := hst _ (List.mem_of_getElem? hPk)
    clear hE hst hS hPk hd hql
    generalize P.getD u z6 = y at *
    obtain ⟨bar, v, d, t, tie, L⟩ := y
    dsimp only at c0 c1 c2 c3 c4 c5 hL HS HC
    have CF : Hid (∀ w', Below (w.alloc (pyO xf u te tc tp tf tt)).heap.size (w.alloc (pyO xf u te tc tp tf tt)) w' → (w'.cell? ⟨w.heap.size, 0, none⟩ = some (.int .i64 xf) ∧ w'.cell? ⟨w.heap.size, 1, none⟩ = some (.int .i64 u) ∧ w'.cell? ⟨w.heap.size, 2, none⟩ = some (.int .i64 te) ∧ w'.cell? ⟨w.heap.size, 3, none⟩ = some (.int .i64 tc) ∧ w'.cell? ⟨w.heap.size, 4, none⟩ = some (.int .i64 tp) ∧ w'.cell? ⟨w.heap.size, 5, none⟩ = some (.int .i64 tf) ∧ w'.cell? ⟨w.heap.size, 6, none⟩ = some (.int .i64 tt)) ∧ (w'.cell? ⟨b, off + u * 6, none⟩ = some (.bool bar) ∧ w'.cell? ⟨b, off + u * 6 + 1, none⟩ = some (.int .i64 v) ∧ w'.cell? ⟨b, off + u * 6 + 2, none⟩ = some (.bool d) ∧ w'.cell? ⟨b, off + u * 6 + 3, none⟩ = some (.bool t) ∧ w'.cell? ⟨b, off + u * 6 + 4, none⟩ = some (.bool tie) ∧ w'.cell? ⟨b, off + u * 6 + 5, none⟩ = some (.slice sa L.length sc'))) :=
      fun w' h => ⟨cell7 h, cell_same (h.block b hbl) c0, cell_same (h.block b hbl) c1, cell_same (h.block b hbl) c2, cell_same (h.block b hbl) c3, cell_same (h.block b hbl) c4, cell_same (h.block b hbl) c5⟩
    clear c0 c1 c2 c3 c4 c5 hbl
    obtain ⟨H, hH⟩ : ∃ H, hsB L tc = H := ⟨_, rfl⟩
    have HH := Lib.hid hH
    rw [hH] at HC
    clear hH
    go_enter Try.func59, Try.ntmps59
    go_wp2_with (fail)
    have T : Below (w.alloc (pyO xf u te tc tp tf tt)).heap.size (w.alloc (pyO xf u te tc tp tf tt)) (w.alloc (pyO xf u te tc tp tf tt)).drew := (Below.refl _ _).drew
    go_region_held3 (fun w' => (w'.cell? ⟨w.heap.size, 0, none⟩ = some (.int .i64 xf) ∧ w'.cell? ⟨w.heap.size, 1, none⟩ = some (.int .i64 u) ∧ w'.cell? ⟨w.heap.size, 2, none⟩ = some (.int .i64 te) ∧ w'.cell? ⟨w.heap.size, 3, none⟩ = some (.int .i64 tc) ∧ w'.cell? ⟨w.heap.size, 4, none⟩ = some (.int .i64 tp) ∧ w'.cell? ⟨w.heap.size, 5, none⟩ = some (.int .i64 tf) ∧ w'.cell? ⟨w.heap.size, 6, none⟩ = some (.int .i64 tt)) ∧ (w'.cell? ⟨b, off + u * 6, none⟩ = some (.bool bar) ∧ w'.cell? ⟨b, off + u * 6 + 1, none⟩ = some (.int .i64 v) ∧ w'.cell? ⟨b, off + u * 6 + 2, none⟩ = some (.bool d) ∧ w'.cell? ⟨b, off + u * 6 + 3, none⟩ = some (.bool t) ∧ w'.cell? ⟨b, off + u * 6 + 4, none⟩ = some (.bool tie) ∧ w'.cell? ⟨b, off + u * 6 + 5, none⟩ = some (.slice sa L.length sc')))
      (exact CF.out _ T)
      ((go_at_call 85; refine (shasStop_any bar v d t tie sa L.length sc' L tc _ (HS.out.below T) rfl hL).mono ?_; rintro e w5 ⟨rfl, hb5⟩; rw [HH.out]; replace T := bt T hb5))
    all_goals (
      obtain ⟨⟨x0, x1, x2, x3, x4, x5, x6⟩, c0, c1, c2, c3, c4, c5⟩ := CF.out _ T
      have TT := Lib.hid T
      clear T
      cases H with
      | true =>
        have HX : Hid (csOf P u tc = 1) := by unfold Hid; rw [HC.out]; rfl
        go_wp2_with (fail)
        go_ret
        exact ⟨ret_int (by rw [HX.out]), bx TT.out⟩
      | false =>
        obtain ⟨R, hR⟩ : ∃ R, restB ⟨bar, v, d, t, tie, L⟩ = R := ⟨_, rfl⟩
        have HR := Lib.hid hR
        rw [hR] at HC
        clear hR
        cases R with
        | true =>
          have HX : Hid (csOf P u tc = 2) := by unfold Hid; rw [HC.out]; rfl
          go_wp2_with (go_at_call 86; refine (sisRest_any ⟨bar, v, d, t, tie, L⟩ sa sc' _).mono ?_; rintro e w6 ⟨rfl, hb6⟩; rw [HR.out])
          go_ret
          exact ⟨ret_int (by rw [HX.out]), bx (bt TT.out hb6)⟩
        | false =>
          have HX : Hid (csOf P u tc = 3) := by unfold Hid; rw [HC.out]; rfl
          go_wp2_with (go_at_call 86; refine (sisRest_any ⟨bar, v, d, t, tie, L⟩ sa sc' _).mono ?_; rintro e w6 ⟨rfl, hb6⟩; rw [HR.out])
          go_ret
          exact ⟨ret_int (by rw [HX.out]), bx (bt TT.out hb6)⟩)


/-- A list of numbers that is being filled. -/
def CfR (w wr : World) (g n : Nat) (T : List Int) (k : Nat) : Prop :=
  Below w.heap.size w wr ∧ w.heap.size ≤ g ∧ ∃ cur, Blk wr g 3 cur ∧ cur.size = n ∧ ∀ (j : Nat) (u : Value), j < k → (intC T)[j]? = some u → cur[j]? = some u
theorem CfR.below {w wr w' : World} {g n : Nat} {T : List Int} {k : Nat} (h : CfR w wr g n T k) (hb : Below wr.heap.size wr w') : CfR w w' g n T k := by
  obtain ⟨h1, h2, cur, h3, h4, h5⟩ := h
  exact ⟨bt h1 hb, h2, cur, h3.below hb, h4, h5⟩
theorem CfR.some_ {w wr : World} {g n : Nat} {T : List Int} {k : Nat} (h : CfR w wr g n T k) {j : Nat} (hj : j < n) : (∃ u, wr.cell? ⟨g, j, none⟩ = some u) ∧ wr.frozen? ⟨g, j, none⟩ = false ∧ g < wr.heap.size := by
  obtain ⟨h1, h2, cur, h3, h4, h5⟩ := h
  exact ⟨⟨cur[j]'(by omega), by rw [h3.cell j]; simp [show j < cur.size by omega]⟩, h3.frozen j, h3.lt⟩
theorem CfR.put {w wr : World} {g n : Nat} {T : List Int} {k : Nat} (h : CfR w wr g n T k) (hk : k < n) (x : Int) (hx : (intC T)[k]? = some (.int .i64 x)) :
    CfR w (wr.setCell ⟨g, k, none⟩ (.int .i64 x)) g n T (k + 1) := by
  obtain ⟨h1, h2, cur, h3, h4, h5⟩ := h
  refine ⟨h1.setCell h2 _, h2, _, h3.set_ _ _, by simp [h4], fun j u hj hu => ?_⟩
  simp only [Array.getElem?_setIfInBounds]
  by_cases hjk : j = k
  · subst hjk
    rw [if_pos rfl, if_pos (by omega), ← hx, hu]
  · rw [if_neg (by omega)]
    exact h5 j u (by omega) hu
theorem CfR.sl {w wr : World} {g n : Nat} {T : List Int} (h : CfR w wr g n T n) (hT : n = T.length) : Sl wr wr.heap.size 1 (some ⟨g, 0, none⟩) n n (intC T) := by
  obtain ⟨h1, h2, cur, h3, h4, h5⟩ := h
  refine ⟨Nat.le_refl _, by simp [intC, hT], fun _ => ⟨g, 0, rfl, h3.lt, fun j u hu => ?_⟩⟩
  rw [Nat.zero_add, h3.cell j]
  refine h5 j u ?_ hu
  have := (List.getElem?_eq_some_iff.1 hu).1
  simp [intC] at this
  omega
theorem csL_at {C : List Cr} {S : List Int} {P : List EvP} {k : Nat} (hk : k < (pyL C S P).length) : (intC (csL C S P))[k]? = some (.int .i64 (csOf P ((pyL C S P).getD k zPy).u.toNat ((pyL C S P).getD k zPy).t.c)) := by
  unfold intC csL
  simp [List.getElem?_map, List.getElem?_eq_getElem hk]
theorem pyL_u {C : List Cr} {S : List Int} {P : List EvP} {k : Nat} (hk : k < (pyL C S P).length) : ∃ u : Nat, ((pyL C S P).getD k zPy).u = u ∧ u ≤ P.length := by
  have hm : (pyL C S P).getD k zPy ∈ pyL C S P := by
    rw [show (pyL C S P).getD k zPy = (pyL C S P)[k] by simp [List.getElem?_eq_getElem hk]]
    exact List.getElem_mem hk
  obtain ⟨_, j, y, s, hj, hs, hok, e⟩ := pyL_mem hm
  rw [e]
  exact ⟨_, rfl, (endN_bd ((List.getElem?_eq_some_iff.1 hj).1) hok).2⟩

set_option maxRecDepth 100000 in
set_option maxHeartbeats 4000000 in
theorem causes_any (A : Option Addr) (n c : Nat) (A' : Option Addr) (m c' : Nat) (A2 : Option Addr) (q cq : Nat) (C : List Cr) (S : List Int) (P : List EvP) (w : World) (hP : PcIn w A n c A' m c' A2 q cq C S P) (hnb : n ≤ 1000000) (hmb : m ≤ 1000000) (hq : q ≤ 65536) (hst : ∀ y ∈ P, y.L.length ≤ 1000000) :
    Calls Try.prog 26 #[pcV A n c A' m c' A2 q cq] w (NmPost (csL C S P) (pcErr C S P) w) := by
  have HPY := Lib.hid (play_any A n c A' m c' A2 q cq C S P _ (hP.below (ba w (pcO A n c A' m c' A2 q cq))) hnb hmb hq hst)
  unfold PyPost at HPY
  unfold NmPost
  have HE : Hid (∀ w', Below w.heap.size w w' → EsIn w' A2 q cq P) := fun w' hb => hP.es.below hb
  have HQL := Lib.hid hP.es.hq
  have HLL := Lib.hid (pyL_len C S P)
  have HST := Lib.hid hst
  have HLC : Hid ((csL C S P).length = (pyL C S P).length) := by unfold Hid csL; simp
  have HZ : Hid (pcErr C S P ≠ 0 → csL C S P = []) := fun h => by unfold csL; rw [pyL_none h]; rfl
  have HAT : Hid (∀ {k : Nat} (_ : k < (pyL C S P).length), (intC (csL C S P))[k]? = some (.int .i64 (csOf P ((pyL C S P).getD k zPy).u.toNat ((pyL C S P).getD k zPy).t.c))) := fun h => csL_at h
  have HU : Hid (∀ {k : Nat} (_ : k < (pyL C S P).length), ∃ u : Nat, ((pyL C S P).getD k zPy).u = u ∧ u ≤ P.length) := fun h => pyL_u h
  obtain ⟨i0, ii1, ii2, ii3, ii4⟩ := info_parts Try.info3'
  clear hP hst
  generalize csL C S P = V at *
  generalize pyL C S P = T at *
  generalize pcErr C S P = X at *
  by_cases hX : X = 0
  · subst hX
    clear HZ
    go_enter Try.func26, Try.ntmps26
    go_wp2_with (first
      | (go_at_call 50; refine HPY.out.mono ?_; rintro e w1 ⟨A1, n1, c1, B1, m1, d1, rfl, hn1, hm1, hA1, hB1, hb1⟩; have HN := Lib.hid hn1; have HA := Lib.hid hA1; have HB1 := Lib.hid hb1; have hn1b : n1 ≤ 5600 := (by have := HLL.out; omega); clear hn1 hm1 hA1 hB1 hb1)
      | (at_make; refine wpList_make_full _ rfl _ _ 23 rfl w1.heap.size 3 i0 _ 1 Try.underlying23 ii1 ii2 ii3 .i64 .i64 _ _ n1 rfl rfl rfl rfl (by rw [ii4]; omega) (by unfold maxLen; omega) (Nat.le_refl _) ?_))
    intro w2 hown hgrow
    have hb2 : Below w1.heap.size w1 w2 := Below.grown (Below.refl _ _) hgrow (Nat.le_refl _) (fun g h => by cases h)
    have HVN : Hid (n1 = V.length) := HN.out.trans HLC.out.symm
    by_cases h0 : n1 = 0
    · subst h0
      have HZ : Hid (V = []) := List.length_eq_zero_iff.1 HVN.out.symm
      obtain ⟨p0, p1, p2⟩ := cell3 (bt HB1.out hb2)
      have HB2 := Lib.hid hb2
      clear hown hgrow hb2
      go_wp2_with (fail)
      refine wp_loop_rounds 1 ?_
      rw [rounds_succ]
      go_wp2_with (fail)
      go_ret2
      refine ⟨_, _, _, rfl, by rw [HZ.out]; rfl, ?_, bx (bt HB1.out HB2.out)⟩
      rw [HZ.out]
      exact ⟨Nat.le_refl _, rfl, fun h => by omega⟩
    · have hR0 : CfR w1 w2 w1.heap.size n1 V 0 := by
        obtain ⟨g, cur, e1, _, e3, e4, _⟩ := (Ow.of_own hown).2.2 (by omega)
        injection e1 with e1
        injection e1 with e1
        subst e1
        exact ⟨hb2, Nat.le_refl _, cur, e3, by omega, fun j u hj => by omega⟩
      have HR0 := Lib.hid hR0
      obtain ⟨p0, p1, p2⟩ := cell3 (bt HB1.out hb2)
      clear hown hgrow hR0 hb2
      go_wp2_with (fail)
      clear p0 p1 p2
      go_loopw [24, 8, 9] (fun i _ _ wr => ∃ k : Nat, k ≤ n1 ∧ i = .int .i64 k ∧ Hid (CfR w1 wr w1.heap.size n1 V k)) (fun i _ _ _ => n1 - (intOf i).toNat)
      case atStart => exact ⟨0, by omega, rfl, HR0⟩
      case round =>
        obtain ⟨k, hk, rfl, hR⟩ := hrel
        obtain ⟨p0, p1, p2⟩ := cell3 (bt HB1.out hR.out.1)
        have hz2 : w.heap.size < wr.heap.size := by have h1 := HB1.out.size; have h2 := hR.out.1.size; simp at h1; omega
        by_cases hlt : k < n1
        · have hkn : (k : Int) < (n1 : Int) := by omega
          have hkT : k < T.length := by have := HN.out; omega
          obtain ⟨b, off, rfl, hB, hc⟩ := (HA.out.below hR.out.1).2.2 (by omega)
          obtain ⟨j0, j1, j2, j3, j4, j5, j6⟩ := pyC_at T k hkT
          have a0 := hc _ _ j0
          have a1 := hc _ _ j1
          have a2 := hc _ _ j2
          have a3 := hc _ _ j3
          have a4 := hc _ _ j4
          have a5 := hc _ _ j5
          have a6 := hc _ _ j6
          rw [← Nat.add_assoc] at a1 a2 a3 a4 a5 a6
          have HIT := Lib.hid (HAT.out hkT)
          obtain ⟨u, hu1, hu2⟩ := HU.out hkT
          have huq : u ≤ q := by have := HQL.out; omega
          clear hc j0 j1 j2 j3 j4 j5 j6 hB hkT hu2
          generalize T.getD k zPy = x at *
          obtain ⟨xf, xu, ⟨t0, t1, t2, t3, t4⟩⟩ := x
          dsimp only at a0 a1 a2 a3 a4 a5 a6 HIT hu1
          subst hu1
          rw [Int.toNat_natCast] at HIT
          obtain ⟨vv, hvv⟩ : ∃ vv, csOf P u t1 = vv := ⟨_, rfl⟩
          have HVV := Lib.hid hvv
          rw [hvv] at HIT
          clear hvv
          go_wp2_with (go_at_call 59; refine (cause_any A2 q cq P u xf t0 t1 t2 t3 t4 _ (HE.out _ (bt (bx (bt HB1.out hR.out.1)) (ba wr (pyO xf u t0 t1 t2 t3 t4)))) huq hq HST.out).mono ?_; rintro e w5 ⟨rfl, hb5⟩; rw [HVV.out]; have HRN := hR.out.below (bt (ba wr (pyO xf u t0 t1 t2 t3 t4)) hb5); obtain ⟨⟨u0, k0⟩, f0, hgw⟩ := HRN.some_ (show k < n1 by omega); have HPUT := Lib.hid (HRN.put (show k < n1 by omega) vv HIT.out); clear HRN)
          go_roundw
          case rel => exact ⟨k + 1, by omega, by first | rfl | go_num, HPUT⟩
          case measure => simp [intOf]; omega
        · obtain rfl : k = n1 := by omega
          go_wp2_with (fail)
          go_ret2
          exact ⟨_, _, _, rfl, HVN.out, hR.out.sl HVN.out, bx (bt HB1.out hR.out.1)⟩
  · have hXb : (X != 0) = true := by simpa using hX
    have HV0 : Hid (V = []) := HZ.out hX
    clear hX HZ
    go_enter Try.func26, Try.ntmps26
    go_wp2_with (go_at_call 50; refine HPY.out.mono ?_; rintro e w1 ⟨A1, n1, c1, B1, m1, d1, rfl, hn1, hm1, hA1, hB1, hb1⟩; clear hn1 hm1 hA1 hB1)
    go_ret2
    exact ⟨none, 0, 0, rfl, by rw [HV0.out]; rfl, by rw [HV0.out]; exact Sl.none_ _ _ _, bx hb1⟩

end Go.Proofs.Ytcebpgcmmdfccaa
