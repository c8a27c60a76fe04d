/- Pieces: Join of the reference. -/
import Derived.Test.YtjobablfojnppaaDoorRjL
import Derived.Deep.CutRange
namespace Go.Proofs.YtjobablfojnppaaDoor
open Go Go.RowKit

theorem boxS {w w' : World} (hb : Below (w.alloc (.cells #[.int .i64 0, .bool false, .bool false] 38)).heap.size (w.alloc (.cells #[.int .i64 0, .bool false, .bool false] 38)) w') : Blk w' w.heap.size 38 #[.int .i64 0, .bool false, .bool false] := Blk.below (heap_alloc_new w _) hb
theorem boxSd {w w' : World} (hb : Below (w.alloc (.cells #[.int .i64 0, .bool false, .bool false] 38)).drew.heap.size (w.alloc (.cells #[.int .i64 0, .bool false, .bool false] 38)).drew w') : Blk w' w.heap.size 38 #[.int .i64 0, .bool false, .bool false] :=
  Blk.below (w := (w.alloc (.cells #[.int .i64 0, .bool false, .bool false] 38)).drew) (heap_alloc_new w _) hb
theorem btd {w w3 : World} {O : Obj} (hb : Below (w.alloc O).drew.heap.size (w.alloc O).drew w3) : Below w.heap.size w w3 := bt (ba w O).drew hb
theorem Tryd.infoBo : (Tryd.prog.info? 4).map (fun i => (i.zero, i.size, i.bytes)) = some (some (.bool false), 1, 1) := by kernel_rfl
set_option maxRecDepth 100000 in
set_option maxHeartbeats 6400000 in
theorem rjoin_any (A : Option Addr) (n c : Nat) (A' : Option Addr) (m c' : Nat) (A2 : Option Addr) (q cq : Nat) (C : List Cr) (S : List Int) (P : List EvP) (w : World) (hP : PcIn w A n c A' m c' A2 q cq C S P) (hnb : n ≤ 65536) (hmb : m ≤ 65536) (hqb : q ≤ 65536) (hst : ∀ y ∈ P, y.L.length ≤ 65536) :
    Calls Tryd.prog 25 #[pcV A n c A' m c' A2 q cq] w (PcRes (pcErr C S P) C S (jnRes P) w) := by
  have HP : Hid (∀ w', Below w.heap.size w w' → PcIn w' A n c A' m c' A2 q cq C S P) := fun w' hb => hP.below hb
  have HST := Lib.hid hst
  have HL := Lib.hid hP.es.hq
  have HLC := Lib.hid (And.intro hP.hn hP.hm)
  have HBX := Lib.hid (pbox w A n c A' m c' A2 q cq)
  obtain ⟨X, hX⟩ : ∃ X, pcErr C S P = X := ⟨_, rfl⟩
  have PL : Hid (∀ w', PcIn w' A n c A' m c' A2 q cq C S P → Calls Tryd.prog 18 #[pcV A n c A' m c' A2 q cq] w' (PcResO X C S (setG P (frcL s0g P)) w')) := fun w' h => by
    have := rplainO_any A n c A' m c' A2 q cq C S P w' h hnb hmb hqb hst
    rwa [hX] at this
  rw [hX]
  by_cases hX0 : X = 0
  rotate_left
  · have hXb : (X != 0) = true := by simpa using hX0
    have HX0 := Lib.hid hX0
    clear hX0 hX hP hst
    generalize setG P (frcL s0g P) = G at *
    generalize jnRes P = R at *
    go_enter Tryd.func25, Tryd.ntmps25
    go_wp2_with (go_at_call 18; (with_reducible refine (PL.out _ (HP.out _ HBX.out.2.2.1)).mono ?_); rintro e W1 ⟨B, n1, d, B', m1, d', B2, q1, d2, E, rfl, hO, hb1⟩; obtain ⟨r0, r1, r2⟩ := HP0.cells (HBX.out.2.1.below hb1); have f0 := (HBX.out.2.1.below hb1).frozen 0; have f1 := (HBX.out.2.1.below hb1).frozen 1; have f2 := (HBX.out.2.1.below hb1).frozen 2; have hlr := (HBX.out.2.1.below hb1).lt; have HRB := Lib.hid (HBX.out.2.1.below hb1); have HB1 := Lib.hid hb1; clear hb1 hO)
    obtain ⟨hW, hZ⟩ := zero_box (w := w) (O := pcO B n1 d B' m1 d' B2 q1 d2) HRB.out (bt HBX.out.2.2.1 HB1.out) (by omega)
    obtain ⟨z0, z1, z2⟩ := HP0.cells hZ
    refine err_retW w _ X hW HX0.out ?_
    simp [results, Tryd.results25, go_sem, z0, z1, z2]
  subst hX0
  obtain ⟨hRJ, hRE⟩ := join_eq hX
  have hql : (setG P (frcL s0g P)).length = q := by rw [setG_len, HL.out]
  rw [← hRE, ← HL.out]
  have HT0 : Hid (0 < q → ((setG P (frcL s0g P)).getD 0 z6).tie = false) := fun hq0 => by
    have hP0 : P[0]? = some (P.getD 0 z6) := by
      have : 0 < P.length := by have := HL.out; omega
      simp [List.getD_eq_getElem?_getD, List.getElem?_eq_getElem this]
    have h1 := ((pcErr_ok hX).2.2 0 _ hP0).2.1
    have h2 : ((setG P (frcL s0g P)).getD 0 z6).tie = (P.getD 0 z6).tie := by
      cases P with
      | nil => rfl
      | cons y P => rfl
    rw [h2]
    unfold tieB at h1
    simpa using h1
  have HRJ := Lib.hid hRJ
  have HLG : Hid (∀ (i : Nat) (z : EvP), (setG P (frcL s0g P))[i]? = some z → (∀ s ∈ z.L, 0 ≤ s.h ∧ (i : Int) + s.h < q) ∧ z.L.length ≤ 65536) := fun i z hz => by
    have hi : i < P.length := by rw [← setG_len P (frcL s0g P)]; exact (List.getElem?_eq_some_iff.1 hz).1
    have e : z.L = (P.getD i z6).L := by
      rw [← setG_L P (frcL s0g P) i, List.getD_eq_getElem?_getD, hz]
      rfl
    rw [e]
    refine ⟨fun s hs => ?_, hst _ (by rw [List.getD_eq_getElem?_getD, List.getElem?_eq_getElem hi]; exact List.getElem_mem hi)⟩
    have := hold_in hX hi s hs
    rw [HL.out]
    exact this
  clear hX hP hst hRJ hRE
  obtain ⟨G, hG⟩ : ∃ G, setG P (frcL s0g P) = G := ⟨_, rfl⟩
  rw [hG] at PL hql HT0 HRJ HLG ⊢
  obtain ⟨RR, hRR⟩ : ∃ R, lowK (rjAll G).mg q (rjAll G).out = R := ⟨_, rfl⟩
  rw [hRR]
  have HRR := Lib.hid hRR
  clear hRR
  have HG := Lib.hid hG
  have HQL := Lib.hid hql
  clear hG hql
  obtain ⟨i0, ii1, ii2, ii3, ii4⟩ := info_parts Tryd.infoEv
  obtain ⟨j0, jj1, jj2, jj3, jj4⟩ := info_parts Tryd.infoBo
  go_enter Tryd.func25, Tryd.ntmps25
  go_wp2_with (first
    | (go_at_call 18; (with_reducible refine (PL.out _ (HP.out _ HBX.out.2.2.1)).mono ?_); rintro e W1 ⟨B, n1, d, B', m1, d', B2, q1, d2, E, rfl, hO, hb1⟩; rw [oC_ok, oC_ok, oC_ok] at hO; obtain rfl : n1 = n := hO.o3.hn.trans HLC.out.1.symm; obtain rfl : m1 = m := hO.o3.hm.trans HLC.out.2.symm; obtain rfl : q1 = q := hO.o3.hq.trans HQL.out; have hlr := (HBX.out.2.1.below hb1).lt; have HB1 := Lib.hid (And.intro (HBX.out.1.below hb1) (And.intro (HBX.out.2.1.below hb1) (And.intro hO (bt HBX.out.2.2.1 hb1)))); clear hb1 hO)
    | (at_make; refine wpList_make_full _ rfl _ _ 88 rfl (W1.heap.size + 2) 4 j0 _ 1 Tryd.underlying88 jj1 jj2 jj3 .i64 .i64 _ _ q1 rfl rfl rfl rfl (by rw [jj4]; omega) (by unfold maxLen; omega) (by simp) ?_))
  intro W5 hown hgrow
  have hz5 : W1.heap.size + 3 ≤ W5.heap.size ∧ (Blk W5 (W1.heap.size + 2) 4 (mgL q1 []).toArray) := by
    rcases hown.2 with ⟨h1, _⟩ | ⟨g, cap, cur, h1, _, h3, _, _, h6, h7⟩
    · cases h1
    · injection h1 with e1 e2 e3
      injection e1 with e1
      injection e1 with e1
      subst e3
      have hg : g = W1.heap.size + 2 := by rw [← e1]
      rw [hg] at h3
      refine ⟨(Array.getElem?_eq_some_iff.1 h3).1, ?_⟩
      unfold Blk
      rw [h3]
      congr 2
      have h8 : cur.toList = List.replicate q1 (.bool false) := by
        rw [← List.take_of_length_le (l := cur.toList) (i := q1 * 1) (by simp [h6])]
        rw [h7]
        exact toList_madeCells_one _ _
      apply Array.toList_inj.1
      rw [h8]
      simp [mgL]
  have hb5 : Below ((W1.alloc (pcO B n1 d B' m1 d' B2 q1 d2)).alloc (pcO B n1 d B' m1 d' none 0 0)).heap.size ((W1.alloc (pcO B n1 d B' m1 d' B2 q1 d2)).alloc (pcO B n1 d B' m1 d' none 0 0)) W5 := RowKit.Below.grown (RowKit.Below.refl _ _) hgrow (Nat.le_refl _) (fun g h => by cases h)
  have hW15 : Below W1.heap.size W1 W5 := bt (ba _ _) (bt (ba _ _) hb5)
  have hQ5 : Blk W5 W1.heap.size 28 #[.slice B n1 d, .slice B' m1 d', .slice B2 q1 d2] := Blk.below (heap_alloc_new W1 (pcO B n1 d B' m1 d' B2 q1 d2)) (bt (ba _ _) hb5)
  have hU5 : Blk W5 (W1.heap.size + 1) 28 #[.slice B n1 d, .slice B' m1 d', .slice none 0 0] := by
    have := heap_alloc_new (W1.alloc (pcO B n1 d B' m1 d' B2 q1 d2)) (pcO B n1 d B' m1 d' none 0 0)
    rw [World.size_alloc] at this
    exact Blk.below this hb5
  have HO5 := Lib.hid (HB1.out.2.2.1.below hW15)
  have HR0 : Hid (RjO W5 ((w.alloc (pcO A n1 c A' m1 c' A2 q1 cq)).alloc zPcO).heap.size (W1.heap.size + 1) (W1.heap.size + 2) (.slice B n1 d) (.slice B' m1 d') (.slice none 0 0) E q1 [] [] [] W5) :=
    ⟨hU5, World.ownsRow_nil _ _ _ _, rfl, hz5.2, fun j x y hx _ => by simp at hx, fun k x hx => by simp at hx, fun i j x y _ hx => by simp at hx, Kx.refl _ _ _⟩
  have hS5 : W1.heap.size + 3 ≤ W5.heap.size := hz5.1
  have HLO := Lib.hid (bt HB1.out.2.2.2 hW15)
  have HRS := Lib.hid (HB1.out.2.1.below hW15)
  have HQ5 := Lib.hid hQ5
  obtain ⟨bb, hbb⟩ : ∃ bb, ((w.alloc (pcO A n1 c A' m1 c' A2 q1 cq)).alloc zPcO).heap.size = bb := ⟨_, rfl⟩
  have hbb2 : bb = w.heap.size + 2 := by rw [← hbb]; exact HBX.out.2.2.2
  rw [hbb] at HO5 HR0
  have HBB := Lib.hid hbb2
  have hbb3 : w.heap.size < bb := by omega
  clear hbb hbb2 hown hgrow hz5 hb5 hW15 hQ5 hU5
  go_wp2_with (fail)
  go_loopw [8] (fun iv wr => ∃ (i : Nat) (v : Value) (X : List EvT), i ≤ q1 ∧ iv = .int .i64 i ∧ Hid (RjO W5 bb (W1.heap.size + 1) (W1.heap.size + 2) (.slice B n1 d) (.slice B' m1 d') v E q1 (rjAll (G.take i)).out X (rjAll (G.take i)).mg wr)) (fun i _ => q1 - (intOf i).toNat)
  case atStart => exact ⟨0, .slice none 0 0, [], by omega, rfl, HR0.out⟩
  case round =>
    obtain ⟨i, v, X, hi, rfl, HR⟩ := hrel
    have hqx : Blk wr W1.heap.size 28 #[.slice B n1 d, .slice B' m1 d', .slice B2 q1 d2] := (HR.out.kx.block W1.heap.size (by omega) (fun h => by omega)).trans HQ5.out
    obtain ⟨q0, q1', q2⟩ := HP0.cells hqx
    obtain ⟨o0, o1, o2⟩ := HP0.cells HR.out.o
    by_cases hlt : i < q1
    · have hin : (i : Int) < (q1 : Int) := by omega
      have hGk : G[i]? = some (G.getD i z6) := by
        have : i < G.length := by have := HQL.out; omega
        simp [List.getD_eq_getElem?_getD, List.getElem?_eq_getElem this]
      obtain ⟨y, hy⟩ : ∃ y, G.getD i z6 = y := ⟨_, rfl⟩
      rw [hy] at hGk
      obtain ⟨ge, x, hB2, hge1, hge2, hx, ⟨c0, c1, c2, c3, c4, c5⟩, _, ⟨cse, hBe⟩, _, _⟩ := HO5.out.sign hGk
      subst hB2
      have hn1 : ge ≠ W1.heap.size + 1 := hBe.ne HR0.out.o (by decide)
      have hn2 : ge ≠ W1.heap.size + 2 := hBe.ne HR0.out.m (by decide)
      have hgw : wr.heap[ge]? = W5.heap[ge]? := HR.out.kx.block ge hge2 (fun h => by omega)
      replace c0 := cell_same hgw c0
      replace c1 := cell_same hgw c1
      replace c2 := cell_same hgw c2
      replace c3 := cell_same hgw c3
      replace c4 := cell_same hgw c4
      replace c5 := cell_same hgw c5
      have hlw : W5.heap.size ≤ wr.heap.size := HR.out.kx.size
      have hML : (rjAll (G.take i)).mg.length = i := by
        rw [(rjAll_len _).1, List.length_take]
        have := HQL.out
        omega
      have hQl : (rjAll (G.take i)).out.length ≤ i := by
        have := (rjAll_len (G.take i)).2
        rw [List.length_take] at this
        omega
      have hST1 : rjAll (G.take (i + 1)) = rjStep (rjAll (G.take i)) y := by rw [List.take_add_one, hGk]; exact rjAll_snoc _ _
      have hQne : 0 < i → 0 < (rjAll (G.take i)).out.length := fun h0 => rjAll_ne _ (by rw [List.length_take]; have := HQL.out; omega) (by
        have := HT0.out (by omega)
        rw [List.getD_eq_getElem?_getD] at this ⊢
        rw [List.getElem?_take_of_lt h0]
        exact this)
      have hT1 : i = 0 → y.tie = false := fun h0 => by
        subst h0
        rw [← hy]
        exact HT0.out (by omega)
      obtain ⟨r, hr⟩ : ∃ r, rjAll (G.take i) = r := ⟨_, rfl⟩
      rw [hr] at HR hML hQl hST1 hQne
      clear hr hy
      obtain ⟨Q, mg⟩ := r
      dsimp only at HR hML hQl hQne
      have HST1 := Lib.hid hST1
      have HML := Lib.hid hML
      have HGK := Lib.hid hGk
      have HEX := Lib.hid hx
      have lo := HR.out.o.lt
      have lq := hqx.lt
      have lm := HR.out.m.lt
      clear hML hST1 hGk hx hgw hBe
      obtain ⟨bar, v', dd, tt, tie, L⟩ := y
      dsimp only at c0 c1 c2 c3 c4 c5 hT1
      cases tie with
      | false =>
        by_cases hi0 : i = 0
        · have HI0 := Lib.hid hi0
          have hi0n : ¬ (0 : Int) < (i : Int) := by omega
          have hi0d : decide ((0 : Int) < (i : Int)) = false := decide_eq_false hi0n
          clear hi0
          have HSS : Hid (rjAll (G.take (i + 1)) = ⟨Q ++ [⟨bar, v', dd, tt, false, L⟩], mg ++ [false]⟩) := by
            unfold Hid
            rw [HST1.out]
            unfold rjStep rjNew
            cases soOf (tkLast Q + tkE ⟨bar, v', dd, tt, false, L⟩) <;> rfl
          have D1 := World.news_of_block (heap_alloc_new (wr.alloc (.cells #[.bool bar, .int .i64 v', .bool dd, .bool tt, .bool false, .slice x.sa L.length x.sc] 41)) (.cells #[.bool bar, .int .i64 v', .bool dd, .bool tt, .bool false, .slice x.sa L.length x.sc] 41))
          rw [World.size_alloc] at D1
          replace D1 := Lib.hid D1
          have BX : Hid (Blk (wr.alloc (.cells #[.bool bar, .int .i64 v', .bool dd, .bool tt, .bool false, .slice x.sa L.length x.sc] 41)) wr.heap.size 41 #[.bool bar, .int .i64 v', .bool dd, .bool tt, .bool false, .slice x.sa L.length x.sc]) := heap_alloc_new wr _
          go_wp2_with (at_builtin; (refine wpList_append_own _ rfl _ _ 26 rfl W5.heap.size 41 i0 _ 6 56 Tryd.underlying26 ii1 ii2 ii3 ii4 rfl (by decide) v Q.length (evC X) rfl ((HR.out.below (ba wr (.cells #[.bool bar, .int .i64 v', .bool dd, .bool tt, .bool false, .slice x.sa L.length x.sc] 41))).row.alloc _) ⟨wr.heap.size + 1, 0, none⟩ 1 1 [.bool bar, .int .i64 v', .bool dd, .bool tt, .bool false, .slice x.sa L.length x.sc] rfl rfl D1.out (by simp [Value.oneCell']) (by unfold maxLen; omega) (by omega) (by simp; omega) ?_))
          intro v2 w7 hown' hgrow _
          obtain ⟨A3, cp3, rfl⟩ := own_slice hown'
          obtain ⟨ho7, hR7⟩ := (HR.out.below (ba wr (.cells #[.bool bar, .int .i64 v', .bool dd, .bool tt, .bool false, .slice x.sa L.length x.sc] 41))).event HO5.out.e2 HO5.out.dst (by rw [HML.out]; exact HGK.out) (by rw [HML.out]; exact HEX.out) rfl (by rw [HML.out]; exact hlt) hown' hgrow (by omega) (by omega)
          obtain ⟨o0, o1, o2⟩ := HP0.cells ho7
          have f2 := ho7.frozen 2
          have lo7 := ho7.lt
          go_wp2
          refine ⟨⟨i + 1, .slice A3 (Q.length + 1) cp3, X ++ [x], by omega, rfl, ?_⟩, ?_⟩
          · rw [HSS.out]
            exact hR7
          · simp [intOf]
            omega
        · have hi0n : (0 : Int) < (i : Int) := by omega
          have hi0d : decide ((0 : Int) < (i : Int)) = true := decide_eq_true hi0n
          have HSS : Hid (rjAll (G.take (i + 1)) = ⟨Q ++ [⟨bar, v', dd, tt, false, L⟩], mg ++ [false]⟩) := by
            unfold Hid
            rw [HST1.out]
            unfold rjStep rjNew
            cases soOf (tkLast Q + tkE ⟨bar, v', dd, tt, false, L⟩) <;> rfl
          have D1 := World.news_of_block (heap_alloc_new (wr.alloc (.cells #[.bool bar, .int .i64 v', .bool dd, .bool tt, .bool false, .slice x.sa L.length x.sc] 41)) (.cells #[.bool bar, .int .i64 v', .bool dd, .bool tt, .bool false, .slice x.sa L.length x.sc] 41))
          rw [World.size_alloc] at D1
          replace D1 := Lib.hid D1
          have BX : Hid (Blk (wr.alloc (.cells #[.bool bar, .int .i64 v', .bool dd, .bool tt, .bool false, .slice x.sa L.length x.sc] 41)) wr.heap.size 41 #[.bool bar, .int .i64 v', .bool dd, .bool tt, .bool false, .slice x.sa L.length x.sc]) := heap_alloc_new wr _
          go_wp2_with (at_builtin; (refine wpList_append_own _ rfl _ _ 26 rfl W5.heap.size 41 i0 _ 6 56 Tryd.underlying26 ii1 ii2 ii3 ii4 rfl (by decide) v Q.length (evC X) rfl ((HR.out.below (ba wr (.cells #[.bool bar, .int .i64 v', .bool dd, .bool tt, .bool false, .slice x.sa L.length x.sc] 41))).row.alloc _) ⟨wr.heap.size + 1, 0, none⟩ 1 1 [.bool bar, .int .i64 v', .bool dd, .bool tt, .bool false, .slice x.sa L.length x.sc] rfl rfl D1.out (by simp [Value.oneCell']) (by unfold maxLen; omega) (by omega) (by simp; omega) ?_))
          intro v2 w7 hown' hgrow _
          obtain ⟨A3, cp3, rfl⟩ := own_slice hown'
          obtain ⟨ho7, hR7⟩ := (HR.out.below (ba wr (.cells #[.bool bar, .int .i64 v', .bool dd, .bool tt, .bool false, .slice x.sa L.length x.sc] 41))).event HO5.out.e2 HO5.out.dst (by rw [HML.out]; exact HGK.out) (by rw [HML.out]; exact HEX.out) rfl (by rw [HML.out]; exact hlt) hown' hgrow (by omega) (by omega)
          obtain ⟨o0, o1, o2⟩ := HP0.cells ho7
          have f2 := ho7.frozen 2
          have lo7 := ho7.lt
          go_wp2
          refine ⟨⟨i + 1, .slice A3 (Q.length + 1) cp3, X ++ [x], by omega, rfl, ?_⟩, ?_⟩
          · rw [HSS.out]
            exact hR7
          · simp [intOf]
            omega
      | true =>
        have hi0 : 0 < i := by
          rcases Nat.eq_zero_or_pos i with h | h
          · cases hT1 h
          · exact h
        have hi0n : (0 : Int) < (i : Int) := by omega
        have hi0d : decide ((0 : Int) < (i : Int)) = true := decide_eq_true hi0n
        cases bar with
        | true =>
          have HSS : Hid (rjAll (G.take (i + 1)) = ⟨Q ++ [⟨true, v', dd, tt, true, L⟩], mg ++ [false]⟩) := by
            unfold Hid
            rw [HST1.out]
            unfold rjStep rjNew
            cases soOf (tkLast Q + tkE ⟨true, v', dd, tt, true, L⟩) <;> rfl
          have D1 := World.news_of_block (heap_alloc_new (wr.alloc (.cells #[.bool true, .int .i64 v', .bool dd, .bool tt, .bool true, .slice x.sa L.length x.sc] 41)) (.cells #[.bool true, .int .i64 v', .bool dd, .bool tt, .bool true, .slice x.sa L.length x.sc] 41))
          rw [World.size_alloc] at D1
          replace D1 := Lib.hid D1
          have BX : Hid (Blk (wr.alloc (.cells #[.bool true, .int .i64 v', .bool dd, .bool tt, .bool true, .slice x.sa L.length x.sc] 41)) wr.heap.size 41 #[.bool true, .int .i64 v', .bool dd, .bool tt, .bool true, .slice x.sa L.length x.sc]) := heap_alloc_new wr _
          go_wp2_with (at_builtin; (refine wpList_append_own _ rfl _ _ 26 rfl W5.heap.size 41 i0 _ 6 56 Tryd.underlying26 ii1 ii2 ii3 ii4 rfl (by decide) v Q.length (evC X) rfl ((HR.out.below (ba wr (.cells #[.bool true, .int .i64 v', .bool dd, .bool tt, .bool true, .slice x.sa L.length x.sc] 41))).row.alloc _) ⟨wr.heap.size + 1, 0, none⟩ 1 1 [.bool true, .int .i64 v', .bool dd, .bool tt, .bool true, .slice x.sa L.length x.sc] rfl rfl D1.out (by simp [Value.oneCell']) (by unfold maxLen; omega) (by omega) (by simp; omega) ?_))
          intro v2 w7 hown' hgrow _
          obtain ⟨A3, cp3, rfl⟩ := own_slice hown'
          obtain ⟨ho7, hR7⟩ := (HR.out.below (ba wr (.cells #[.bool true, .int .i64 v', .bool dd, .bool tt, .bool true, .slice x.sa L.length x.sc] 41))).event HO5.out.e2 HO5.out.dst (by rw [HML.out]; exact HGK.out) (by rw [HML.out]; exact HEX.out) rfl (by rw [HML.out]; exact hlt) hown' hgrow (by omega) (by omega)
          obtain ⟨o0, o1, o2⟩ := HP0.cells ho7
          have f2 := ho7.frozen 2
          have lo7 := ho7.lt
          go_wp2
          refine ⟨⟨i + 1, .slice A3 (Q.length + 1) cp3, X ++ [x], by omega, rfl, ?_⟩, ?_⟩
          · rw [HSS.out]
            exact hR7
          · simp [intOf]
            omega
        | false =>
          have hQp := hQne hi0
          obtain ⟨k, hk⟩ : ∃ k, Q.length = k + 1 := ⟨Q.length - 1, by omega⟩
          obtain ⟨g, cap, yl, X', hvg, hg1, hg2, ⟨csg, hBg⟩, hyl, hTL, ⟨l1, l2, l3⟩, hfz, hnx⟩ := HR.out.last hQp (by omega) (by omega)
          subst hvg
          rw [hk, Nat.add_sub_cancel] at l1 l2 l3
          obtain ⟨yb, yv, yd, yt, yti, yL⟩ := yl
          dsimp only at l1 l2 l3
          have hLw : IntKind.i64.wrap ((k : Int) + 1 - 1) = (k : Int) := by rw [show (k : Int) + 1 - 1 = (k : Int) by omega]; exact IntWalk.i64_in _ ⟨by omega, by omega⟩
          have hLi : (k : Int) < (k : Int) + 1 := by omega
          have HNX := Lib.hid hnx
          have HTL := Lib.hid hTL
          have HFZ := Lib.hid hfz
          have HBG := Lib.hid hBg
          rw [hk] at o2
          have HKQ := Lib.hid hk
          have hki : k ≤ 65536 := by omega
          clear hnx hTL hfz hBg hyl hk hQp hQne hQl hT1
          have BX0 : Blk (wr.alloc (.cells #[.bool false, .int .i64 v', .bool dd, .bool tt, .bool true, .slice x.sa L.length x.sc] 41)) wr.heap.size 41 #[.bool false, .int .i64 v', .bool dd, .bool tt, .bool true, .slice x.sa L.length x.sc] := heap_alloc_new wr _
          have HRx := HR.out.below (ba wr (.cells #[.bool false, .int .i64 v', .bool dd, .bool tt, .bool true, .slice x.sa L.length x.sc] 41))
          have lwx := World.size_alloc wr (.cells #[.bool false, .int .i64 v', .bool dd, .bool tt, .bool true, .slice x.sa L.length x.sc] 41)
          have lgx := (ba wr (.cells #[.bool false, .int .i64 v', .bool dd, .bool tt, .bool true, .slice x.sa L.length x.sc] 41)).block g hg2
          go_wp2_with (fail)
          obtain ⟨wx, hwx⟩ : ∃ wx, wr.alloc (.cells #[.bool false, .int .i64 v', .bool dd, .bool tt, .bool true, .slice x.sa L.length x.sc] 41) = wx := ⟨_, rfl⟩
          rw [hwx] at BX0 HRx lwx lgx ⊢
          clear hwx
          have CC : Hid (∀ w', Below wx.heap.size wx w' → (w'.cell? ⟨W1.heap.size + 1, 2, none⟩ = some (.slice (some ⟨g, 0, none⟩) (k + 1) cap)) ∧ (w'.cell? ⟨g, k * 6 + 1, none⟩ = some (.int .i64 yv)) ∧ (w'.cell? ⟨g, k * 6 + 2, none⟩ = some (.bool yd)) ∧ (w'.cell? ⟨g, k * 6 + 3, none⟩ = some (.bool yt)) ∧ (w'.cell? ⟨wr.heap.size, 1, none⟩ = some (.int .i64 v')) ∧ (w'.cell? ⟨wr.heap.size, 2, none⟩ = some (.bool dd)) ∧ (w'.cell? ⟨wr.heap.size, 3, none⟩ = some (.bool tt)) ∧ wx.heap.size ≤ w'.heap.size) := fun w' hb => by
            have hg3 : w'.heap[g]? = wr.heap[g]? := (hb.block g (by omega)).trans lgx
            have b1 := BX0.below hb
            have b2 := HRx.o.below hb
            have x1 := b1.cell 1
            have x2 := b1.cell 2
            have x3 := b1.cell 3
            have y2 := b2.cell 2
            rw [HKQ.out] at y2
            simp at x1 x2 x3 y2
            exact ⟨y2, cell_same hg3 l1, cell_same hg3 l2, cell_same hg3 l3, x1, x2, x3, hb.size⟩
          obtain ⟨tk, htk⟩ : ∃ z, tkLast Q + tkE ⟨false, v', dd, tt, true, L⟩ = z := ⟨_, rfl⟩
          have HTW : Hid (IntKind.i64.wrap (tkV yv yd yt + tkV v' dd tt) = tk) := by
            have h1 := tkV_bd yv yd yt
            have h2 := tkV_bd v' dd tt
            unfold Hid
            rw [← htk, HTL.out]
            exact IntWalk.i64_in _ ⟨by unfold tkV at *; omega, by unfold tkV at *; omega⟩
          have HTK := Lib.hid htk
          have HRX := Lib.hid HRx
          have HBX0 := Lib.hid BX0
          have lxg : g < wx.heap.size := by omega
          have lxb : wr.heap.size < wx.heap.size := by omega
          have lxo : W1.heap.size + 1 < wx.heap.size := by omega
          have HLW := Lib.hid lwx
          have HSO : Hid (soRet (soOf tk) = .tuple #[.agg #[.int .i64 ((soOf tk).getD s0g).v, .bool ((soOf tk).getD s0g).d, .bool ((soOf tk).getD s0g).t], .bool (soOf tk).isSome]) := by
            unfold Hid
            cases soOf tk <;> rfl
          have HSB : Hid (∀ s, soOf tk = some s → (soOf tk).getD s0g = s) := fun s h => by rw [h]; rfl
          clear lwx htk HRx BX0 lgx o0 o1 o2 q0 q1' q2 c0 c1 c2 c3 c4 c5 l1 l2 l3 hqx
          obtain ⟨so, hso⟩ : ∃ s, soOf tk = s := ⟨_, rfl⟩
          rw [hso] at HSO HSB
          have HSQ := Lib.hid hso
          clear hso
          obtain ⟨⟨sv, sd, st⟩, hs0⟩ : ∃ s, so.getD s0g = s := ⟨_, rfl⟩
          rw [hs0] at HSO HSB
          clear hs0
          obtain ⟨sb, hsb⟩ : ∃ b, so.isSome = b := ⟨_, rfl⟩
          rw [hsb] at HSO
          have HISB := Lib.hid hsb
          clear hsb
          dsimp only at HSO
          obtain ⟨y2, l1, l2, l3, x1, x2, x3, hzw⟩ := CC.out wx (Below.refl _ _)
          go_cut [11, 12] from 61 to 75 (fun s11 s12 wy => ∃ g2 : Nat, s11 = .pointer (some ⟨g2, 0, none⟩) ∧ s12 = .bool sb ∧ Hid (wx.heap.size ≤ g2 ∧ Blk wy g2 38 #[.int .i64 sv, .bool sd, .bool st] ∧ Below wx.heap.size wx wy))
          case first =>
            have hs : Below wx.heap.size wx wx.drew := (Below.refl _ _).drew
            clear y2 l1 l2 l3 x1 x2 x3 hzw
            refine wp_region_held_drew (S := fun w' => Below wx.heap.size wx w') (by kernel_rfl) hs (fun hHeld => ?_)
            change wpAnyH _ _ _ _ _ 18 #[false, false, false, false, false, false, false, false, false, false, false, false, false, false, false, false, false, false] _ _
            refine wpAnyH_take (i := 0) (v := ?_) rfl (by kernel_rfl) (by kernel_rfl) (by kernel_rfl) (fun _ _ _ h => h) (Or.inl ⟨by rfl, ?_⟩) (by assumption) ?_
            rotate_left
            · intro w' hSw
              obtain ⟨y2, l1, l2, l3, x1, x2, x3, hzw⟩ := CC.out _ hSw
              go_simp
              try with_reducible rfl
            (try simp only [Act.put, List.getElem_toArray, List.getElem_cons_zero, List.setIfInBounds_toArray, List.set_cons_zero, List.set_cons_succ])
            refine wpAnyH_take (i := 1) (v := ?_) rfl (by kernel_rfl) (by kernel_rfl) (by kernel_rfl) (fun _ _ _ h => h) (Or.inl ⟨by rfl, ?_⟩) (by assumption) ?_
            rotate_left
            · intro w' hSw
              obtain ⟨y2, l1, l2, l3, x1, x2, x3, hzw⟩ := CC.out _ hSw
              go_simp
              try with_reducible rfl
            (try simp only [Act.put, List.getElem_toArray, List.getElem_cons_succ, List.getElem_cons_zero, List.setIfInBounds_toArray, List.set_cons_zero, List.set_cons_succ])
            refine wpAnyH_take (i := 2) (v := ?_) rfl (by kernel_rfl) (by kernel_rfl) (by kernel_rfl) (fun _ _ _ h => h) (Or.inl ⟨by rfl, ?_⟩) (by assumption) ?_
            rotate_left
            · intro w' hSw
              obtain ⟨y2, l1, l2, l3, x1, x2, x3, hzw⟩ := CC.out _ hSw
              go_simp
              try with_reducible rfl
            (try simp only [Act.put, List.getElem_toArray, List.getElem_cons_succ, List.getElem_cons_zero, List.setIfInBounds_toArray, List.set_cons_zero, List.set_cons_succ])
            refine wpAnyH_take (i := 3) (v := ?_) rfl (by kernel_rfl) (by kernel_rfl) (by kernel_rfl) (fun _ _ _ h => h) (Or.inl ⟨by rfl, ?_⟩) (by assumption) ?_
            rotate_left
            · intro w' hSw
              obtain ⟨y2, l1, l2, l3, x1, x2, x3, hzw⟩ := CC.out _ hSw
              go_simp
              try with_reducible rfl
            (try simp only [Act.put, List.getElem_toArray, List.getElem_cons_succ, List.getElem_cons_zero, List.setIfInBounds_toArray, List.set_cons_zero, List.set_cons_succ])
            refine wpAnyH_take (i := 4) (v := ?_) rfl (by kernel_rfl) (by kernel_rfl) (by kernel_rfl) (fun _ _ _ h => h) (Or.inl ⟨by rfl, ?_⟩) (by assumption) ?_
            rotate_left
            · intro w' hSw
              obtain ⟨y2, l1, l2, l3, x1, x2, x3, hzw⟩ := CC.out _ hSw
              go_simp
              try with_reducible rfl
            (try simp only [Act.put, List.getElem_toArray, List.getElem_cons_succ, List.getElem_cons_zero, List.setIfInBounds_toArray, List.set_cons_zero, List.set_cons_succ])
            refine wpAnyH_take (i := 5) (v := ?_) rfl (by kernel_rfl) (by kernel_rfl) (by kernel_rfl) (fun _ _ _ h => h) (Or.inl ⟨by rfl, ?_⟩) (by assumption) ?_
            rotate_left
            · intro w' hSw
              obtain ⟨y2, l1, l2, l3, x1, x2, x3, hzw⟩ := CC.out _ hSw
              go_simp
              try with_reducible rfl
            (try simp only [Act.put, List.getElem_toArray, List.getElem_cons_succ, List.getElem_cons_zero, List.setIfInBounds_toArray, List.set_cons_zero, List.set_cons_succ])
            refine wpAnyH_take (i := 7) (v := ?_) rfl (by kernel_rfl) (by kernel_rfl) (by kernel_rfl) (fun _ _ _ h => h) (Or.inl ⟨by rfl, ?_⟩) (by assumption) ?_
            rotate_left
            · intro w' hSw
              obtain ⟨y2, l1, l2, l3, x1, x2, x3, hzw⟩ := CC.out _ hSw
              go_simp
              try with_reducible rfl
            (try simp only [Act.put, List.getElem_toArray, List.getElem_cons_succ, List.getElem_cons_zero, List.setIfInBounds_toArray, List.set_cons_zero, List.set_cons_succ])
            refine wpAnyH_take (i := 8) (v := ?_) rfl (by kernel_rfl) (by kernel_rfl) (by kernel_rfl) (fun _ _ _ h => h) (Or.inl ⟨by rfl, ?_⟩) (by assumption) ?_
            rotate_left
            · intro w' hSw
              obtain ⟨y2, l1, l2, l3, x1, x2, x3, hzw⟩ := CC.out _ hSw
              go_simp
              try with_reducible rfl
            (try simp only [Act.put, List.getElem_toArray, List.getElem_cons_succ, List.getElem_cons_zero, List.setIfInBounds_toArray, List.set_cons_zero, List.set_cons_succ])
            clear hHeld
            obtain ⟨W_0, hW_0⟩ : ∃ W, wx.drew = W := ⟨_, rfl⟩
            rw [hW_0] at hs ⊢
            clear hW_0
            refine wpAnyH_ready (rs := [6, 15]) (by kernel_rfl) (by simp) ?_
            refine AllReadyH.cons rfl (fun K hK => ?_) ?_
            · go_simp
              go_wp2_with (go_at_call 65; (with_reducible refine (rticks_any _ _ _ _).mono ?_); rintro e W_1 ⟨rfl, hst⟩)
              refine hK.out _ _ (bt hs hst) (fun hHeld => ?_)
              clear hK K
              (try simp only [List.setIfInBounds_toArray, List.set_cons_zero, List.set_cons_succ])
              have hsn := bt hs hst
              clear hs hHeld
              have hs := hsn
              clear hsn hst
              refine wpAnyH_ready (rs := [9, 15]) (by kernel_rfl) (by simp) ?_
              refine AllReadyH.cons rfl (fun K hK => ?_) ?_
              · go_simp
                go_wp2_with (go_at_call 65; (with_reducible refine (rticks_any _ _ _ _).mono ?_); rintro e W_2 ⟨rfl, hst⟩)
                refine hK.out _ _ (bt hs hst) (fun hHeld => ?_)
                clear hK K
                (try simp only [List.setIfInBounds_toArray, List.set_cons_zero, List.set_cons_succ])
                have hsn := bt hs hst
                clear hs hHeld
                have hs := hsn
                clear hsn hst
                refine wpAnyH_take (i := 10) (v := ?_) rfl (by kernel_rfl) (by kernel_rfl) (by kernel_rfl) (fun _ _ _ h => h) (Or.inl ⟨by rfl, ?_⟩) (by assumption) ?_
                rotate_left
                · intro w' hSw
                  skip
                  go_simp
                  try with_reducible rfl
                (try simp only [Act.put, List.getElem_toArray, List.getElem_cons_succ, List.getElem_cons_zero, List.setIfInBounds_toArray, List.set_cons_zero, List.set_cons_succ])
                refine wpAnyH_ready (rs := [11, 15]) (by kernel_rfl) (by simp) ?_
                refine AllReadyH.cons rfl (fun K hK => ?_) ?_
                · go_simp
                  go_wp2_with (go_at_call 64; (with_reducible refine (rsign_any _ _).mono ?_); rintro e W_3 ⟨rfl, hst⟩; rw [HTW.out, HSQ.out, HSO.out])
                  refine hK.out _ _ (bt hs hst) (fun hHeld => ?_)
                  clear hK K
                  (try simp only [List.setIfInBounds_toArray, List.set_cons_zero, List.set_cons_succ])
                  have hsn := bt hs hst
                  clear hs hHeld
                  have hs := hsn
                  clear hsn hst
                  refine wpAnyH_take (i := 12) (v := ?_) rfl (by kernel_rfl) (by kernel_rfl) (by kernel_rfl) (fun _ _ _ h => h) (Or.inl ⟨by rfl, ?_⟩) (by assumption) ?_
                  rotate_left
                  · intro w' hSw
                    skip
                    go_simp
                    try with_reducible rfl
                  (try simp only [Act.put, List.getElem_toArray, List.getElem_cons_succ, List.getElem_cons_zero, List.setIfInBounds_toArray, List.set_cons_zero, List.set_cons_succ])
                  refine wpAnyH_take (i := 13) (v := ?_) rfl (by kernel_rfl) (by kernel_rfl) (by kernel_rfl) (fun _ _ _ h => h) (Or.inl ⟨by rfl, ?_⟩) (by assumption) ?_
                  rotate_left
                  · intro w' hSw
                    skip
                    go_simp
                    try with_reducible rfl
                  (try simp only [Act.put, List.getElem_toArray, List.getElem_cons_succ, List.getElem_cons_zero, List.setIfInBounds_toArray, List.set_cons_zero, List.set_cons_succ])
                  refine wpAnyH_take (i := 14) (v := ?_) rfl (by kernel_rfl) (by kernel_rfl) (by kernel_rfl) (fun _ _ _ h => h) (Or.inl ⟨by rfl, ?_⟩) (by assumption) ?_
                  rotate_left
                  · intro w' hSw
                    skip
                    go_simp
                    try with_reducible rfl
                  (try simp only [Act.put, List.getElem_toArray, List.getElem_cons_succ, List.getElem_cons_zero, List.setIfInBounds_toArray, List.set_cons_zero, List.set_cons_succ])
                  refine wpAnyH_ready (rs := [15]) (by kernel_rfl) (by simp) ?_
                  refine AllReadyH.cons rfl (fun K hK => ?_) ?_
                  · go_simp
                    refine hK.out _ _ (bt hs (ba _ _)) (fun hHeld => ?_)
                    clear hK K
                    (try simp only [List.setIfInBounds_toArray, List.set_cons_zero, List.set_cons_succ])
                    have nb := heap_alloc_new W_3 (.cells #[.int .i64 0, .bool false, .bool false] 38)
                    have hlo := hs.size
                    have hsn := bt hs (ba W_3 (.cells #[.int .i64 0, .bool false, .bool false] 38))
                    obtain ⟨g2, hg2'⟩ : ∃ g, W_3.heap.size = g := ⟨_, rfl⟩
                    obtain ⟨W_4, hW⟩ : ∃ W, W_3.alloc (.cells #[.int .i64 0, .bool false, .bool false] 38) = W := ⟨_, rfl⟩
                    rw [hW] at nb hsn ⊢
                    rw [hg2'] at nb hlo ⊢
                    have bk : Blk W_4 g2 38 #[.int .i64 0, .bool false, .bool false] := nb
                    clear nb hs hHeld
                    have hs := hsn
                    clear hsn hW hg2'
                    refine wpAnyH_ready (rs := [16]) (by kernel_rfl) (by simp) ?_
                    refine AllReadyH.cons rfl (fun K hK => ?_) ?_
                    · have b0 := bk.cell 0
                      have b1 := bk.cell 1
                      have b2 := bk.cell 2
                      have e0 := bk.frozen 0
                      have e1 := bk.frozen 1
                      have e2 := bk.frozen 2
                      have el := bk.lt
                      simp at b0 b1 b2
                      have bk1 := ((bk.set_ 0 (.int .i64 sv)).set_ 1 (.bool sd)).set_ 2 (.bool st)
                      have hsn := ((hs.setCell (p := ⟨g2, 0, none⟩) hlo (.int .i64 sv)).setCell (p := ⟨g2, 1, none⟩) hlo (.bool sd)).setCell (p := ⟨g2, 2, none⟩) hlo (.bool st)
                      go_simp
                      refine hK.out _ _ hsn (fun hHeld => ?_)
                      clear hK K
                      (try simp only [List.setIfInBounds_toArray, List.set_cons_zero, List.set_cons_succ])
                      obtain ⟨W_5, hW⟩ : ∃ W, ((W_4.setCell ⟨g2, 0, none⟩ (.int .i64 sv)).setCell ⟨g2, 1, none⟩ (.bool sd)).setCell ⟨g2, 2, none⟩ (.bool st) = W := ⟨_, rfl⟩
                      rw [hW] at hsn bk1 hHeld ⊢
                      clear hs bk b0 b1 b2 e0 e1 e2 el hW
                      have bk : Blk W_5 g2 38 #[.int .i64 sv, .bool sd, .bool st] := by simpa using bk1
                      have hs := hsn
                      clear hsn bk1
                      refine wpAnyH_take (i := 17) (v := ?_) rfl (by kernel_rfl) (by kernel_rfl) (by kernel_rfl) (fun _ _ _ h => h) (Or.inl ⟨by rfl, ?_⟩) (by assumption) ?_
                      rotate_left
                      · intro w' hSw
                        skip
                        go_simp
                        try with_reducible rfl
                      (try simp only [Act.put, List.getElem_toArray, List.getElem_cons_succ, List.getElem_cons_zero, List.setIfInBounds_toArray, List.set_cons_zero, List.set_cons_succ])
                      refine wpAnyH_done (by kernel_rfl) ?_ _
                      go_wp2_with (fail)
                      go_meet
                      exact ⟨g2, rfl, rfl, hlo, bk, hs⟩
                    exact AllReadyH.nil
                  exact AllReadyH.nil
                refine AllReadyH.cons rfl (fun K hK => ?_) ?_
                · go_simp
                  refine hK.out _ _ (bt hs (ba _ _)) (fun hHeld => ?_)
                  clear hK K
                  (try simp only [List.setIfInBounds_toArray, List.set_cons_zero, List.set_cons_succ])
                  have nb := heap_alloc_new W_2 (.cells #[.int .i64 0, .bool false, .bool false] 38)
                  have hlo := hs.size
                  have hsn := bt hs (ba W_2 (.cells #[.int .i64 0, .bool false, .bool false] 38))
                  obtain ⟨g2, hg2'⟩ : ∃ g, W_2.heap.size = g := ⟨_, rfl⟩
                  obtain ⟨W_3, hW⟩ : ∃ W, W_2.alloc (.cells #[.int .i64 0, .bool false, .bool false] 38) = W := ⟨_, rfl⟩
                  rw [hW] at nb hsn ⊢
                  rw [hg2'] at nb hlo ⊢
                  have bk : Blk W_3 g2 38 #[.int .i64 0, .bool false, .bool false] := nb
                  clear nb hs hHeld
                  have hs := hsn
                  clear hsn hW hg2'
                  refine wpAnyH_ready (rs := [11]) (by kernel_rfl) (by simp) ?_
                  refine AllReadyH.cons rfl (fun K hK => ?_) ?_
                  · go_simp
                    go_wp2_with (go_at_call 64; (with_reducible refine (rsign_any _ _).mono ?_); rintro e W_4 ⟨rfl, hst⟩; rw [HTW.out, HSQ.out, HSO.out])
                    refine hK.out _ _ (bt hs hst) (fun hHeld => ?_)
                    clear hK K
                    (try simp only [List.setIfInBounds_toArray, List.set_cons_zero, List.set_cons_succ])
                    replace bk := Blk.below bk hst
                    have hsn := bt hs hst
                    clear hs hHeld
                    have hs := hsn
                    clear hsn hst
                    refine wpAnyH_take (i := 12) (v := ?_) rfl (by kernel_rfl) (by kernel_rfl) (by kernel_rfl) (fun _ _ _ h => h) (Or.inl ⟨by rfl, ?_⟩) (by assumption) ?_
                    rotate_left
                    · intro w' hSw
                      skip
                      go_simp
                      try with_reducible rfl
                    (try simp only [Act.put, List.getElem_toArray, List.getElem_cons_succ, List.getElem_cons_zero, List.setIfInBounds_toArray, List.set_cons_zero, List.set_cons_succ])
                    refine wpAnyH_take (i := 13) (v := ?_) rfl (by kernel_rfl) (by kernel_rfl) (by kernel_rfl) (fun _ _ _ h => h) (Or.inl ⟨by rfl, ?_⟩) (by assumption) ?_
                    rotate_left
                    · intro w' hSw
                      skip
                      go_simp
                      try with_reducible rfl
                    (try simp only [Act.put, List.getElem_toArray, List.getElem_cons_succ, List.getElem_cons_zero, List.setIfInBounds_toArray, List.set_cons_zero, List.set_cons_succ])
                    refine wpAnyH_take (i := 14) (v := ?_) rfl (by kernel_rfl) (by kernel_rfl) (by kernel_rfl) (fun _ _ _ h => h) (Or.inl ⟨by rfl, ?_⟩) (by assumption) ?_
                    rotate_left
                    · intro w' hSw
                      skip
                      go_simp
                      try with_reducible rfl
                    (try simp only [Act.put, List.getElem_toArray, List.getElem_cons_succ, List.getElem_cons_zero, List.setIfInBounds_toArray, List.set_cons_zero, List.set_cons_succ])
                    refine wpAnyH_ready (rs := [16]) (by kernel_rfl) (by simp) ?_
                    refine AllReadyH.cons rfl (fun K hK => ?_) ?_
                    · have b0 := bk.cell 0
                      have b1 := bk.cell 1
                      have b2 := bk.cell 2
                      have e0 := bk.frozen 0
                      have e1 := bk.frozen 1
                      have e2 := bk.frozen 2
                      have el := bk.lt
                      simp at b0 b1 b2
                      have bk1 := ((bk.set_ 0 (.int .i64 sv)).set_ 1 (.bool sd)).set_ 2 (.bool st)
                      have hsn := ((hs.setCell (p := ⟨g2, 0, none⟩) hlo (.int .i64 sv)).setCell (p := ⟨g2, 1, none⟩) hlo (.bool sd)).setCell (p := ⟨g2, 2, none⟩) hlo (.bool st)
                      go_simp
                      refine hK.out _ _ hsn (fun hHeld => ?_)
                      clear hK K
                      (try simp only [List.setIfInBounds_toArray, List.set_cons_zero, List.set_cons_succ])
                      obtain ⟨W_5, hW⟩ : ∃ W, ((W_4.setCell ⟨g2, 0, none⟩ (.int .i64 sv)).setCell ⟨g2, 1, none⟩ (.bool sd)).setCell ⟨g2, 2, none⟩ (.bool st) = W := ⟨_, rfl⟩
                      rw [hW] at hsn bk1 hHeld ⊢
                      clear hs bk b0 b1 b2 e0 e1 e2 el hW
                      have bk : Blk W_5 g2 38 #[.int .i64 sv, .bool sd, .bool st] := by simpa using bk1
                      have hs := hsn
                      clear hsn bk1
                      refine wpAnyH_take (i := 17) (v := ?_) rfl (by kernel_rfl) (by kernel_rfl) (by kernel_rfl) (fun _ _ _ h => h) (Or.inl ⟨by rfl, ?_⟩) (by assumption) ?_
                      rotate_left
                      · intro w' hSw
                        skip
                        go_simp
                        try with_reducible rfl
                      (try simp only [Act.put, List.getElem_toArray, List.getElem_cons_succ, List.getElem_cons_zero, List.setIfInBounds_toArray, List.set_cons_zero, List.set_cons_succ])
                      refine wpAnyH_done (by kernel_rfl) ?_ _
                      go_wp2_with (fail)
                      go_meet
                      exact ⟨g2, rfl, rfl, hlo, bk, hs⟩
                    exact AllReadyH.nil
                  exact AllReadyH.nil
                exact AllReadyH.nil
              refine AllReadyH.cons rfl (fun K hK => ?_) ?_
              · go_simp
                refine hK.out _ _ (bt hs (ba _ _)) (fun hHeld => ?_)
                clear hK K
                (try simp only [List.setIfInBounds_toArray, List.set_cons_zero, List.set_cons_succ])
                have nb := heap_alloc_new W_1 (.cells #[.int .i64 0, .bool false, .bool false] 38)
                have hlo := hs.size
                have hsn := bt hs (ba W_1 (.cells #[.int .i64 0, .bool false, .bool false] 38))
                obtain ⟨g2, hg2'⟩ : ∃ g, W_1.heap.size = g := ⟨_, rfl⟩
                obtain ⟨W_2, hW⟩ : ∃ W, W_1.alloc (.cells #[.int .i64 0, .bool false, .bool false] 38) = W := ⟨_, rfl⟩
                rw [hW] at nb hsn ⊢
                rw [hg2'] at nb hlo ⊢
                have bk : Blk W_2 g2 38 #[.int .i64 0, .bool false, .bool false] := nb
                clear nb hs hHeld
                have hs := hsn
                clear hsn hW hg2'
                refine wpAnyH_ready (rs := [9]) (by kernel_rfl) (by simp) ?_
                refine AllReadyH.cons rfl (fun K hK => ?_) ?_
                · go_simp
                  go_wp2_with (go_at_call 65; (with_reducible refine (rticks_any _ _ _ _).mono ?_); rintro e W_3 ⟨rfl, hst⟩)
                  refine hK.out _ _ (bt hs hst) (fun hHeld => ?_)
                  clear hK K
                  (try simp only [List.setIfInBounds_toArray, List.set_cons_zero, List.set_cons_succ])
                  replace bk := Blk.below bk hst
                  have hsn := bt hs hst
                  clear hs hHeld
                  have hs := hsn
                  clear hsn hst
                  refine wpAnyH_take (i := 10) (v := ?_) rfl (by kernel_rfl) (by kernel_rfl) (by kernel_rfl) (fun _ _ _ h => h) (Or.inl ⟨by rfl, ?_⟩) (by assumption) ?_
                  rotate_left
                  · intro w' hSw
                    skip
                    go_simp
                    try with_reducible rfl
                  (try simp only [Act.put, List.getElem_toArray, List.getElem_cons_succ, List.getElem_cons_zero, List.setIfInBounds_toArray, List.set_cons_zero, List.set_cons_succ])
                  refine wpAnyH_ready (rs := [11]) (by kernel_rfl) (by simp) ?_
                  refine AllReadyH.cons rfl (fun K hK => ?_) ?_
                  · go_simp
                    go_wp2_with (go_at_call 64; (with_reducible refine (rsign_any _ _).mono ?_); rintro e W_4 ⟨rfl, hst⟩; rw [HTW.out, HSQ.out, HSO.out])
                    refine hK.out _ _ (bt hs hst) (fun hHeld => ?_)
                    clear hK K
                    (try simp only [List.setIfInBounds_toArray, List.set_cons_zero, List.set_cons_succ])
                    replace bk := Blk.below bk hst
                    have hsn := bt hs hst
                    clear hs hHeld
                    have hs := hsn
                    clear hsn hst
                    refine wpAnyH_take (i := 12) (v := ?_) rfl (by kernel_rfl) (by kernel_rfl) (by kernel_rfl) (fun _ _ _ h => h) (Or.inl ⟨by rfl, ?_⟩) (by assumption) ?_
                    rotate_left
                    · intro w' hSw
                      skip
                      go_simp
                      try with_reducible rfl
                    (try simp only [Act.put, List.getElem_toArray, List.getElem_cons_succ, List.getElem_cons_zero, List.setIfInBounds_toArray, List.set_cons_zero, List.set_cons_succ])
                    refine wpAnyH_take (i := 13) (v := ?_) rfl (by kernel_rfl) (by kernel_rfl) (by kernel_rfl) (fun _ _ _ h => h) (Or.inl ⟨by rfl, ?_⟩) (by assumption) ?_
                    rotate_left
                    · intro w' hSw
                      skip
                      go_simp
                      try with_reducible rfl
                    (try simp only [Act.put, List.getElem_toArray, List.getElem_cons_succ, List.getElem_cons_zero, List.setIfInBounds_toArray, List.set_cons_zero, List.set_cons_succ])
                    refine wpAnyH_take (i := 14) (v := ?_) rfl (by kernel_rfl) (by kernel_rfl) (by kernel_rfl) (fun _ _ _ h => h) (Or.inl ⟨by rfl, ?_⟩) (by assumption) ?_
                    rotate_left
                    · intro w' hSw
                      skip
                      go_simp
                      try with_reducible rfl
                    (try simp only [Act.put, List.getElem_toArray, List.getElem_cons_succ, List.getElem_cons_zero, List.setIfInBounds_toArray, List.set_cons_zero, List.set_cons_succ])
                    refine wpAnyH_ready (rs := [16]) (by kernel_rfl) (by simp) ?_
                    refine AllReadyH.cons rfl (fun K hK => ?_) ?_
                    · have b0 := bk.cell 0
                      have b1 := bk.cell 1
                      have b2 := bk.cell 2
                      have e0 := bk.frozen 0
                      have e1 := bk.frozen 1
                      have e2 := bk.frozen 2
                      have el := bk.lt
                      simp at b0 b1 b2
                      have bk1 := ((bk.set_ 0 (.int .i64 sv)).set_ 1 (.bool sd)).set_ 2 (.bool st)
                      have hsn := ((hs.setCell (p := ⟨g2, 0, none⟩) hlo (.int .i64 sv)).setCell (p := ⟨g2, 1, none⟩) hlo (.bool sd)).setCell (p := ⟨g2, 2, none⟩) hlo (.bool st)
                      go_simp
                      refine hK.out _ _ hsn (fun hHeld => ?_)
                      clear hK K
                      (try simp only [List.setIfInBounds_toArray, List.set_cons_zero, List.set_cons_succ])
                      obtain ⟨W_5, hW⟩ : ∃ W, ((W_4.setCell ⟨g2, 0, none⟩ (.int .i64 sv)).setCell ⟨g2, 1, none⟩ (.bool sd)).setCell ⟨g2, 2, none⟩ (.bool st) = W := ⟨_, rfl⟩
                      rw [hW] at hsn bk1 hHeld ⊢
                      clear hs bk b0 b1 b2 e0 e1 e2 el hW
                      have bk : Blk W_5 g2 38 #[.int .i64 sv, .bool sd, .bool st] := by simpa using bk1
                      have hs := hsn
                      clear hsn bk1
                      refine wpAnyH_take (i := 17) (v := ?_) rfl (by kernel_rfl) (by kernel_rfl) (by kernel_rfl) (fun _ _ _ h => h) (Or.inl ⟨by rfl, ?_⟩) (by assumption) ?_
                      rotate_left
                      · intro w' hSw
                        skip
                        go_simp
                        try with_reducible rfl
                      (try simp only [Act.put, List.getElem_toArray, List.getElem_cons_succ, List.getElem_cons_zero, List.setIfInBounds_toArray, List.set_cons_zero, List.set_cons_succ])
                      refine wpAnyH_done (by kernel_rfl) ?_ _
                      go_wp2_with (fail)
                      go_meet
                      exact ⟨g2, rfl, rfl, hlo, bk, hs⟩
                    exact AllReadyH.nil
                  exact AllReadyH.nil
                exact AllReadyH.nil
              exact AllReadyH.nil
            refine AllReadyH.cons rfl (fun K hK => ?_) ?_
            · go_simp
              refine hK.out _ _ (bt hs (ba _ _)) (fun hHeld => ?_)
              clear hK K
              (try simp only [List.setIfInBounds_toArray, List.set_cons_zero, List.set_cons_succ])
              have nb := heap_alloc_new W_0 (.cells #[.int .i64 0, .bool false, .bool false] 38)
              have hlo := hs.size
              have hsn := bt hs (ba W_0 (.cells #[.int .i64 0, .bool false, .bool false] 38))
              obtain ⟨g2, hg2'⟩ : ∃ g, W_0.heap.size = g := ⟨_, rfl⟩
              obtain ⟨W_1, hW⟩ : ∃ W, W_0.alloc (.cells #[.int .i64 0, .bool false, .bool false] 38) = W := ⟨_, rfl⟩
              rw [hW] at nb hsn ⊢
              rw [hg2'] at nb hlo ⊢
              have bk : Blk W_1 g2 38 #[.int .i64 0, .bool false, .bool false] := nb
              clear nb hs hHeld
              have hs := hsn
              clear hsn hW hg2'
              refine wpAnyH_ready (rs := [6]) (by kernel_rfl) (by simp) ?_
              refine AllReadyH.cons rfl (fun K hK => ?_) ?_
              · go_simp
                go_wp2_with (go_at_call 65; (with_reducible refine (rticks_any _ _ _ _).mono ?_); rintro e W_2 ⟨rfl, hst⟩)
                refine hK.out _ _ (bt hs hst) (fun hHeld => ?_)
                clear hK K
                (try simp only [List.setIfInBounds_toArray, List.set_cons_zero, List.set_cons_succ])
                replace bk := Blk.below bk hst
                have hsn := bt hs hst
                clear hs hHeld
                have hs := hsn
                clear hsn hst
                refine wpAnyH_ready (rs := [9]) (by kernel_rfl) (by simp) ?_
                refine AllReadyH.cons rfl (fun K hK => ?_) ?_
                · go_simp
                  go_wp2_with (go_at_call 65; (with_reducible refine (rticks_any _ _ _ _).mono ?_); rintro e W_3 ⟨rfl, hst⟩)
                  refine hK.out _ _ (bt hs hst) (fun hHeld => ?_)
                  clear hK K
                  (try simp only [List.setIfInBounds_toArray, List.set_cons_zero, List.set_cons_succ])
                  replace bk := Blk.below bk hst
                  have hsn := bt hs hst
                  clear hs hHeld
                  have hs := hsn
                  clear hsn hst
                  refine wpAnyH_take (i := 10) (v := ?_) rfl (by kernel_rfl) (by kernel_rfl) (by kernel_rfl) (fun _ _ _ h => h) (Or.inl ⟨by rfl, ?_⟩) (by assumption) ?_
                  rotate_left
                  · intro w' hSw
                    skip
                    go_simp
                    try with_reducible rfl
                  (try simp only [Act.put, List.getElem_toArray, List.getElem_cons_succ, List.getElem_cons_zero, List.setIfInBounds_toArray, List.set_cons_zero, List.set_cons_succ])
                  refine wpAnyH_ready (rs := [11]) (by kernel_rfl) (by simp) ?_
                  refine AllReadyH.cons rfl (fun K hK => ?_) ?_
                  · go_simp
                    go_wp2_with (go_at_call 64; (with_reducible refine (rsign_any _ _).mono ?_); rintro e W_4 ⟨rfl, hst⟩; rw [HTW.out, HSQ.out, HSO.out])
                    refine hK.out _ _ (bt hs hst) (fun hHeld => ?_)
                    clear hK K
                    (try simp only [List.setIfInBounds_toArray, List.set_cons_zero, List.set_cons_succ])
                    replace bk := Blk.below bk hst
                    have hsn := bt hs hst
                    clear hs hHeld
                    have hs := hsn
                    clear hsn hst
                    refine wpAnyH_take (i := 12) (v := ?_) rfl (by kernel_rfl) (by kernel_rfl) (by kernel_rfl) (fun _ _ _ h => h) (Or.inl ⟨by rfl, ?_⟩) (by assumption) ?_
                    rotate_left
                    · intro w' hSw
                      skip
                      go_simp
                      try with_reducible rfl
                    (try simp only [Act.put, List.getElem_toArray, List.getElem_cons_succ, List.getElem_cons_zero, List.setIfInBounds_toArray, List.set_cons_zero, List.set_cons_succ])
                    refine wpAnyH_take (i := 13) (v := ?_) rfl (by kernel_rfl) (by kernel_rfl) (by kernel_rfl) (fun _ _ _ h => h) (Or.inl ⟨by rfl, ?_⟩) (by assumption) ?_
                    rotate_left
                    · intro w' hSw
                      skip
                      go_simp
                      try with_reducible rfl
                    (try simp only [Act.put, List.getElem_toArray, List.getElem_cons_succ, List.getElem_cons_zero, List.setIfInBounds_toArray, List.set_cons_zero, List.set_cons_succ])
                    refine wpAnyH_take (i := 14) (v := ?_) rfl (by kernel_rfl) (by kernel_rfl) (by kernel_rfl) (fun _ _ _ h => h) (Or.inl ⟨by rfl, ?_⟩) (by assumption) ?_
                    rotate_left
                    · intro w' hSw
                      skip
                      go_simp
                      try with_reducible rfl
                    (try simp only [Act.put, List.getElem_toArray, List.getElem_cons_succ, List.getElem_cons_zero, List.setIfInBounds_toArray, List.set_cons_zero, List.set_cons_succ])
                    refine wpAnyH_ready (rs := [16]) (by kernel_rfl) (by simp) ?_
                    refine AllReadyH.cons rfl (fun K hK => ?_) ?_
                    · have b0 := bk.cell 0
                      have b1 := bk.cell 1
                      have b2 := bk.cell 2
                      have e0 := bk.frozen 0
                      have e1 := bk.frozen 1
                      have e2 := bk.frozen 2
                      have el := bk.lt
                      simp at b0 b1 b2
                      have bk1 := ((bk.set_ 0 (.int .i64 sv)).set_ 1 (.bool sd)).set_ 2 (.bool st)
                      have hsn := ((hs.setCell (p := ⟨g2, 0, none⟩) hlo (.int .i64 sv)).setCell (p := ⟨g2, 1, none⟩) hlo (.bool sd)).setCell (p := ⟨g2, 2, none⟩) hlo (.bool st)
                      go_simp
                      refine hK.out _ _ hsn (fun hHeld => ?_)
                      clear hK K
                      (try simp only [List.setIfInBounds_toArray, List.set_cons_zero, List.set_cons_succ])
                      obtain ⟨W_5, hW⟩ : ∃ W, ((W_4.setCell ⟨g2, 0, none⟩ (.int .i64 sv)).setCell ⟨g2, 1, none⟩ (.bool sd)).setCell ⟨g2, 2, none⟩ (.bool st) = W := ⟨_, rfl⟩
                      rw [hW] at hsn bk1 hHeld ⊢
                      clear hs bk b0 b1 b2 e0 e1 e2 el hW
                      have bk : Blk W_5 g2 38 #[.int .i64 sv, .bool sd, .bool st] := by simpa using bk1
                      have hs := hsn
                      clear hsn bk1
                      refine wpAnyH_take (i := 17) (v := ?_) rfl (by kernel_rfl) (by kernel_rfl) (by kernel_rfl) (fun _ _ _ h => h) (Or.inl ⟨by rfl, ?_⟩) (by assumption) ?_
                      rotate_left
                      · intro w' hSw
                        skip
                        go_simp
                        try with_reducible rfl
                      (try simp only [Act.put, List.getElem_toArray, List.getElem_cons_succ, List.getElem_cons_zero, List.setIfInBounds_toArray, List.set_cons_zero, List.set_cons_succ])
                      refine wpAnyH_done (by kernel_rfl) ?_ _
                      go_wp2_with (fail)
                      go_meet
                      exact ⟨g2, rfl, rfl, hlo, bk, hs⟩
                    exact AllReadyH.nil
                  exact AllReadyH.nil
                exact AllReadyH.nil
              exact AllReadyH.nil
            exact AllReadyH.nil
          case rest =>
            obtain ⟨g2, rfl, rfl, HG2⟩ := hcut
            have HRC := Lib.hid (HRX.out.below HG2.out.2.2)
            have hxc := HBX0.out.below HG2.out.2.2
            have hxl := hxc.lt
            have hcl := HG2.out.2.2.size
            cases hsb : sb with
            | false =>
              subst hsb
              obtain ⟨o0, o1, o2⟩ := HP0.cells HRC.out.o
              have x0 := hxc.cell 0
              have x1 := hxc.cell 1
              have x2 := hxc.cell 2
              have x3 := hxc.cell 3
              have x4 := hxc.cell 4
              have x5 := hxc.cell 5
              simp at x0 x1 x2 x3 x4 x5
              have loc := HRC.out.o.lt
              have hQb : Q.length ≤ 70000 := by have := HKQ.out; omega
              have HSN : Hid (so = none) := by
                unfold Hid
                have := HISB.out
                cases so with
                | none => rfl
                | some _ => simp at this
              clear hxc
              have HSS : Hid (rjAll (G.take (i + 1)) = ⟨Q ++ [⟨false, v', dd, tt, true, L⟩], mg ++ [false]⟩) := by
                unfold Hid
                rw [HST1.out]
                unfold rjStep rjNew
                rw [HTK.out, HSQ.out, HSN.out]
              have D1 := World.news_of_block (heap_alloc_new wc (.cells #[.bool false, .int .i64 v', .bool dd, .bool tt, .bool true, .slice x.sa L.length x.sc] 41))
              replace D1 := Lib.hid D1
              go_wp2_with (at_builtin; (refine wpList_append_own _ rfl _ _ 26 rfl W5.heap.size 41 i0 _ 6 56 Tryd.underlying26 ii1 ii2 ii3 ii4 rfl (by decide) _ Q.length (evC X) rfl (HRC.out.row.alloc _) ⟨wc.heap.size, 0, none⟩ 1 1 [.bool false, .int .i64 v', .bool dd, .bool tt, .bool true, .slice x.sa L.length x.sc] rfl rfl D1.out (by simp [Value.oneCell']) (by unfold maxLen; omega) (by omega) (by simp; omega) ?_))
              intro v2 w7 hown' hgrow _
              obtain ⟨A3, cp3, rfl⟩ := own_slice hown'
              obtain ⟨ho7, hR7⟩ := HRC.out.event HO5.out.e2 HO5.out.dst (by rw [HML.out]; exact HGK.out) (by rw [HML.out]; exact HEX.out) rfl (by rw [HML.out]; exact hlt) hown' hgrow (by omega) (by omega)
              obtain ⟨o0, o1, o2⟩ := HP0.cells ho7
              have f2 := ho7.frozen 2
              have lo7 := ho7.lt
              go_wp2
              refine ⟨⟨i + 1, .slice A3 (Q.length + 1) cp3, X ++ [x], by omega, rfl, ?_⟩, ?_⟩
              · rw [HSS.out]
                exact hR7
              · simp [intOf]
                omega
            | true =>
              subst hsb
              have HSN : Hid (so = some ⟨sv, sd, st⟩) := by
                unfold Hid
                have := HISB.out
                cases hs : so with
                | none => rw [hs] at this; simp at this
                | some s => rw [HSB.out s hs]
              have HSS : Hid (rjAll (G.take (i + 1)) = ⟨setLast Q ⟨sv, sd, st⟩, mg ++ [true]⟩) := by
                unfold Hid
                rw [HST1.out]
                unfold rjStep
                rw [HTK.out, HSQ.out, HSN.out]
                rfl
              obtain ⟨g', cap', yl', X2, hvg', _, hgl, _, _, _, ⟨l1', l2', l3'⟩, hfz, hnx⟩ := HRC.out.last (by have := HKQ.out; omega) (by omega) (by omega)
              injection hvg' with e1 e2 e3
              injection e1 with e1
              injection e1 with e1
              subst e1 e3
              have hnx1 := hnx ⟨sv, sd, st⟩
              have hd1 := hfz (k * 6 + 1)
              have hd2 := hfz (k * 6 + 2)
              have hd3 := hfz (k * 6 + 3)
              rw [HKQ.out, Nat.add_sub_cancel] at hnx1 l1' l2' l3'
              have HNX := Lib.hid hnx1
              have HF := hnx1.flag (by rw [HML.out]; exact hlt) (by omega) (by omega)
              rw [HML.out] at HF
              replace HF := Lib.hid HF
              obtain ⟨o0, o1, o2⟩ := HP0.cells HRC.out.o
              rw [HKQ.out] at o2
              have z0 := HG2.out.2.1.cell 0
              have z1 := HG2.out.2.1.cell 1
              have z2 := HG2.out.2.1.cell 2
              simp at z0 z1 z2
              have zl := HG2.out.2.1.lt
              have mf := HRC.out.m.frozen i
              have ml2 := HRC.out.m.lt
              obtain ⟨mu, m0⟩ : ∃ u, wc.cell? ⟨W1.heap.size + 2, i, none⟩ = some u := by
                rw [HRC.out.m.cell i]
                have : i < (mgL q1 mg).toArray.size := by rw [List.size_toArray, mgL_len (by rw [HML.out]; omega)]; exact hlt
                exact ⟨_, Array.getElem?_eq_getElem this⟩
              have loc := HRC.out.o.lt
              have gn2 : g ≠ W1.heap.size + 2 := by omega
              have gn3 : W1.heap.size + 2 ≠ g := by omega
              have gn4 : W1.heap.size + 1 ≠ g := by omega
              clear hnx hnx1 hfz hxc
              go_wp2_with (fail)
              refine ⟨⟨i + 1, .slice (some ⟨g, 0, none⟩) (k + 1) cap, X2 ⟨sv, sd, st⟩, by omega, rfl, ?_⟩, ?_⟩
              · rw [HSS.out]
                exact HF.out
              · simp [intOf]
                omega
    · obtain rfl : q1 = i := by omega
      have hGt : G.take q1 = G := List.take_of_length_le (by rw [HQL.out]; exact Nat.le_refl _)
      rw [hGt] at HR
      clear hGt
      have hml := (rjAll_len G).1
      have hQl := (rjAll_len G).2
      rw [HQL.out] at hml hQl
      obtain ⟨r, hr⟩ : ∃ r, rjAll G = r := ⟨_, rfl⟩
      rw [hr] at HR HRJ HRR hml hQl
      clear hr
      obtain ⟨Q, mg⟩ := r
      dsimp only at HR HRJ HRR hml hQl
      have HML2 := Lib.hid hml
      have HQQ := Lib.hid hQl
      have hwb : w.heap.size ≤ bb := by omega
      have hbbw : bb ≤ w.heap.size + 2 := by have := HBB.out; omega
      obtain ⟨A5, c5, rfl, hpp⟩ := HR.out.toP (w := w) HO5.out HR0.out.o HR0.out.m (by omega) HQ5.out (by omega) HRS.out (by omega) HLO.out (by omega) (by omega)
      have HPP := Lib.hid hpp
      clear hml hQl hpp
      go_wp2_with (fail)
      go_loopw [13, 14] (fun av iv wx => ∃ i : Nat, i ≤ q1 ∧ av = .int .i64 ((atK mg i : Nat) : Int) ∧ iv = .int .i64 i ∧ Hid (RjP w bb (W1.heap.size + 1) (W1.heap.size + 2) W1.heap.size B n1 d B' m1 d' A5 Q.length c5 C S (lowK mg i Q) q1 mg (.slice B2 q1 d2) wx)) (fun _ iv _ => q1 - (intOf iv).toNat)
      case atStart => exact ⟨0, by omega, by simp [atK], rfl, HPP.out⟩
      case round =>
        obtain ⟨i, hi, rfl, rfl, HS⟩ := hrel
        clear o0 o1 o2 q0 q1' q2
        obtain ⟨q0, q1', q2⟩ := HP0.cells HS.out.x
        obtain ⟨o0, o1, o2⟩ := HP0.cells HS.out.o
        have lox := HS.out.o.lt
        have lqx := HS.out.x.lt
        by_cases hlt : i < q1
        · have hin : (i : Int) < (q1 : Int) := by omega
          obtain ⟨hml2, hmc⟩ := HS.out.mark HML2.out hlt
          obtain ⟨a, ha⟩ : ∃ a, atK mg i = a := ⟨_, rfl⟩
          have HA := Lib.hid ha
          rw [ha]
          have hmk : mg[i]? = some (mg.getD i false) := by simp [List.getD_eq_getElem?_getD, List.getElem?_eq_getElem (show i < mg.length by have := HML2.out; omega)]
          cases hm : mg.getD i false with
          | true =>
            rw [hm] at hmc hmk
            have HE : Hid (RjP w bb (W1.heap.size + 1) (W1.heap.size + 2) W1.heap.size B n1 d B' m1 d' A5 Q.length c5 C S (lowK mg (i + 1) Q) q1 mg (.slice B2 q1 d2) wr) := by
              unfold Hid
              rw [lowK, if_pos hm]
              exact HS.out
            have HT := Lib.hid (atK_t hmk)
            clear hm hmk ha
            go_wp2_with (fail)
            go_roundw
            case rel => exact ⟨i + 1, by omega, by rw [HT.out, HA.out], by first | rfl | go_num, HE.out⟩
            case measure => simp [intOf]; omega
          | false =>
            rw [hm] at hmc hmk
            have HT := Lib.hid (atK_f hmk)
            obtain ⟨y, hy1, z, hz1, hyz⟩ := HRJ.out.src i hmk
            change Q[atK mg i]? = some y at hy1
            rw [ha] at hy1
            obtain ⟨hz2, hz3⟩ := HLG.out i z hz1
            rw [← hyz] at hz2 hz3
            have HY : Hid ((lowK mg i Q)[a]? = some y) := by
              unfold Hid
              rw [lowK_ge mg Q i a (by have := HML2.out; omega) (by rw [ha]; exact Nat.le_refl _)]
              exact hy1
            have HZ := Lib.hid hz2
            have HE : Hid (∀ W, RjP w bb (W1.heap.size + 1) (W1.heap.size + 2) W1.heap.size B n1 d B' m1 d' A5 Q.length c5 C S ((lowK mg i Q).set a { y with L := y.L.map (lowS mg i) }) q1 mg (.slice B2 q1 d2) W → RjP w bb (W1.heap.size + 1) (W1.heap.size + 2) W1.heap.size B n1 d B' m1 d' A5 Q.length c5 C S (lowK mg (i + 1) Q) q1 mg (.slice B2 q1 d2) W) := fun W h => by
              rw [lowK, if_neg (by rw [hm]; decide), ha, (show (lowK mg i Q).getD a z6 = y from by rw [List.getD_eq_getElem?_getD, HY.out]; rfl)]
              exact h
            have hal : a < (lowK mg i Q).length := (List.getElem?_eq_some_iff.1 HY.out).1
            have HAL := Lib.hid hal
            have hai : (a : Int) < ((Q.length : Nat) : Int) := by rw [lowK_len] at hal; omega
            have hab : a ≤ 65536 := by rw [lowK_len] at hal; have := HQQ.out; omega
            have HR1 : Hid (RjP w bb (W1.heap.size + 1) (W1.heap.size + 2) W1.heap.size B n1 d B' m1 d' A5 Q.length c5 C S ((lowK mg i Q).set a { y with L := mpK (lowS mg i) 0 y.L }) q1 mg (.slice B2 q1 d2) wr) := by
              unfold Hid
              rw [mpK_zero, show ({ y with L := y.L } : EvP) = y from rfl]
              have : (lowK mg i Q).set a y = lowK mg i Q := by
                refine List.ext_getElem? (fun j => ?_)
                by_cases hj : j = a
                · subst hj
                  rw [List.getElem?_set_self HAL.out, HY.out]
                · rw [List.getElem?_set_ne (fun e => hj e.symm)]
              rw [this]
              exact HS.out
            clear hm hmk hy1 hz1 hyz hz2 hal ha
            go_wp2_with (fail)
            go_loopw [15, 16, 17] (fun kv _ _ wx => ∃ k : Nat, k ≤ y.L.length ∧ kv = .int .i64 k ∧ Hid (RjP w bb (W1.heap.size + 1) (W1.heap.size + 2) W1.heap.size B n1 d B' m1 d' A5 Q.length c5 C S ((lowK mg i Q).set a { y with L := mpK (lowS mg i) k y.L }) q1 mg (.slice B2 q1 d2) wx)) (fun kv _ _ _ => y.L.length - (intOf kv).toNat)
            case atStart => exact ⟨0, by omega, rfl, HR1.out⟩
            case round =>
              obtain ⟨k, hk, rfl, HS2⟩ := hrel
              obtain ⟨q0, q1', q2⟩ := HP0.cells HS2.out.x
              obtain ⟨o0, o1, o2⟩ := HP0.cells HS2.out.o
              have lox := HS2.out.o.lt
              have lqx := HS2.out.x.lt
              have HYL : Hid (((lowK mg i Q).set a { y with L := mpK (lowS mg i) k y.L })[a]? = some { y with L := mpK (lowS mg i) k y.L }) := List.getElem?_set_self HAL.out
              by_cases hkl : k < y.L.length
              · have hki : (k : Int) < ((y.L.length : Nat) : Int) := by omega
                have hsk : y.L[k]? = some (y.L.getD k z5) := by simp [List.getD_eq_getElem?_getD, List.getElem?_eq_getElem hkl]
                have hmem : y.L.getD k z5 ∈ y.L := List.mem_of_getElem? hsk
                obtain ⟨ge, g, sc, rfl, hle, c5', hlg, ⟨n1', n2', n3', n4'⟩, s4, hfz, _⟩ := HS2.out.stop hwb HYL.out (show (mpK (lowS mg i) k y.L)[k]? = some (y.L.getD k z5) by rw [mpK_at _ k _ hkl]; exact hsk)
                dsimp only at c5'
                rw [mpK_len] at c5'
                obtain ⟨hh1, hh2⟩ := HZ.out _ hmem
                have HM := Lib.hid (mpK_set (lowS mg i) k y.L _ hsk)
                have HSK : Hid ((mpK (lowS mg i) k y.L)[k]? = some (y.L.getD k z5)) := by unfold Hid; rw [mpK_at _ k _ hkl]; exact hsk
                clear hmem hsk hfz
                generalize y.L.getD k z5 = s at *
                obtain ⟨sc0, sf, sr, sg, sh⟩ := s
                dsimp only at s4 hh1 hh2
                obtain ⟨h, rfl⟩ := Int.eq_ofNat_of_zero_le hh1
                have hwi : IntKind.i64.wrap ((i : Int) + (h : Int)) = (i : Int) + (h : Int) := IntWalk.i64_in _ ⟨by omega, by omega⟩
                have hwi1 : IntKind.i64.wrap ((i : Int) + 1) = (i : Int) + 1 := IntWalk.i64_in _ ⟨by omega, by omega⟩
                have HS4 : Hid (RjP w bb (W1.heap.size + 1) (W1.heap.size + 2) W1.heap.size B n1 d B' m1 d' (some ⟨ge, 0, none⟩) Q.length c5 C S ((lowK mg i Q).set a { y with L := (mpK (lowS mg i) k y.L).set k ⟨sc0, sf, sr, sg, (h : Int) - (cntM mg i 0 : Nat)⟩ }) q1 mg (.slice B2 q1 d2) wr) := by
                  unfold Hid
                  rw [cntM_zero, show ((h : Int) - ((0 : Nat) : Int)) = h by omega]
                  have : (mpK (lowS mg i) k y.L).set k ⟨sc0, sf, sr, sg, h⟩ = mpK (lowS mg i) k y.L := by
                    refine List.ext_getElem? (fun j => ?_)
                    by_cases hj : j = k
                    · subst hj
                      rw [List.getElem?_set_self (by rw [mpK_len]; exact hkl), HSK.out]
                    · rw [List.getElem?_set_ne (fun e => hj e.symm)]
                  rw [this]
                  exact HS2.out
                go_wp2_with (fail)
                go_loopw [17] (fun jv wx => ∃ c : Nat, c ≤ h ∧ jv = .int .i64 ((i + 1 + c : Nat) : Int) ∧ Hid (RjP w bb (W1.heap.size + 1) (W1.heap.size + 2) W1.heap.size B n1 d B' m1 d' (some ⟨ge, 0, none⟩) Q.length c5 C S ((lowK mg i Q).set a { y with L := (mpK (lowS mg i) k y.L).set k ⟨sc0, sf, sr, sg, (h : Int) - (cntM mg i c : Nat)⟩ }) q1 mg (.slice B2 q1 d2) wx)) (fun jv _ => i + 1 + h - (intOf jv).toNat)
                case atStart => exact ⟨0, by omega, by first | rfl | go_num, HS4.out⟩
                case round =>
                  obtain ⟨c, hc, rfl, HS3⟩ := hrel
                  obtain ⟨q0, q1', q2⟩ := HP0.cells HS3.out.x
                  obtain ⟨o0, o1, o2⟩ := HP0.cells HS3.out.o
                  have lox := HS3.out.o.lt
                  have lqx := HS3.out.x.lt
                  by_cases hcl : c < h
                  · have hcl2 : (cntM mg i c : Nat) ≤ c := cntM_le mg i c
                    obtain ⟨hml3, hmc2⟩ := HS3.out.mark HML2.out (show i + 1 + c < q1 by omega)
                    have htj : ((i + 1 + c : Nat) : Int) ≤ (i : Int) + (h : Int) := by omega
                    have hji : ((i + 1 + c : Nat) : Int) < (q1 : Int) := by omega
                    have hcs := cntM_succ (mg := mg) (i := i) (c := c) (by have := HML2.out; omega)
                    cases hm2 : mg.getD (i + 1 + c) false with
                    | true =>
                      rw [hm2] at hmc2 hcs
                      rw [if_pos rfl] at hcs
                      obtain ⟨ge2, g2, sc2, hge2, hle2, c52, hlg2, ⟨m1, m2, m3, m4⟩, t4, hfz2, hnx2⟩ := HS3.out.stop hwb (List.getElem?_set_self HAL.out) (List.getElem?_set_self (by rw [mpK_len]; exact hkl))
                      injection hge2 with hge2
                      injection hge2 with hge2
                      subst hge2
                      dsimp only at c52 t4
                      rw [List.length_set, mpK_len] at c52
                      have HNX := Lib.hid (hnx2 ((h : Int) - (cntM mg i (c + 1) : Nat)))
                      have f4 := hfz2 (k * 5 + 4)
                      obtain ⟨cc, hcc⟩ : ∃ x, cntM mg i c = x := ⟨_, rfl⟩
                      rw [hcc] at t4 hcl2 hcs
                      have HCC := Lib.hid hcc
                      have HCS := Lib.hid hcs
                      have hwr : IntKind.i64.wrap ((h : Int) - (cc : Int) - 1) = (h : Int) - (cc : Int) - 1 := IntWalk.i64_in _ ⟨by omega, by omega⟩
                      clear hcc hcs hm2 hnx2 hfz2
                      go_wp2_with (fail)
                      go_roundw
                      case rel =>
                        refine ⟨c + 1, by omega, by first | rfl | go_num, ?_⟩
                        have hN := HNX.out
                        rw [List.set_set] at hN
                        dsimp only at hN
                        rw [List.set_set, HCS.out] at hN
                        unfold Hid
                        rw [HCS.out]
                        rw [show ((h : Int) - ((cc + 1 : Nat) : Int)) = (h : Int) - (cc : Int) - 1 by omega] at hN ⊢
                        exact hN
                      case measure => simp [intOf]; omega
                    | false =>
                      rw [hm2] at hmc2 hcs
                      rw [if_neg (by decide), Nat.add_zero] at hcs
                      have HCS := Lib.hid hcs
                      clear hcs hm2
                      go_wp2_with (fail)
                      go_roundw
                      case rel =>
                        refine ⟨c + 1, by omega, by first | rfl | go_num, ?_⟩
                        unfold Hid
                        rw [HCS.out]
                        exact HS3.out
                      case measure => simp [intOf]; omega
                  · obtain rfl : h = c := by omega
                    have htj : ¬ ((i + 1 + h : Nat) : Int) ≤ (i : Int) + (h : Int) := by omega
                    have HEND : Hid (RjP w bb (W1.heap.size + 1) (W1.heap.size + 2) W1.heap.size B n1 d B' m1 d' (some ⟨ge, 0, none⟩) Q.length c5 C S ((lowK mg i Q).set a { y with L := mpK (lowS mg i) (k + 1) y.L }) q1 mg (.slice B2 q1 d2) wr) := by
                      have h1 := HS3.out
                      have e := HM.out
                      have el : lowS mg i ⟨sc0, sf, sr, sg, (h : Int)⟩ = ⟨sc0, sf, sr, sg, (h : Int) - (cntM mg i h : Nat)⟩ := rfl
                      rw [el] at e
                      unfold Hid
                      rw [← e]
                      exact h1
                    go_wp2_with (fail)
                    go_roundw
                    case rel => exact ⟨k + 1, by omega, by first | rfl | go_num, HEND.out⟩
                    case measure => simp [intOf]; omega
              · obtain rfl : k = y.L.length := by omega
                obtain ⟨ge, sa, sc, rfl, hle, c5'⟩ := HS2.out.slen HYL.out
                dsimp only at c5'
                rw [mpK_len] at c5'
                have HEND := HE.out wr (by
                  have h := HS2.out
                  rw [mpK_all (lowS mg i) _ y.L (Nat.le_refl _)] at h
                  exact h)
                have HENDH := Lib.hid HEND
                clear HEND
                go_wp2_with (fail)
                go_roundw
                case rel => exact ⟨i + 1, by omega, by rw [HT.out, HA.out]; first | rfl | go_num, by first | rfl | go_num, HENDH.out⟩
                case measure => simp [intOf]; omega
        · obtain rfl : q1 = i := by omega
          obtain ⟨E', hE'⟩ := HS.out.pc
          rw [HRR.out] at hE'
          have HE := Lib.hid hE'
          have r0 := HS.out.rs.cell 0
          have r1 := HS.out.rs.cell 1
          have r2 := HS.out.rs.cell 2
          have f0 := HS.out.rs.frozen 0
          have f1 := HS.out.rs.frozen 1
          have f2 := HS.out.rs.frozen 2
          have hlr2 := HS.out.rs.lt
          simp at r0 r1 r2
          clear hE'
          go_wp2_with (fail)
          have hR3 := ((HS.out.rs.set_ 0 (.slice B n1 d)).set_ 1 (.slice B' m1 d')).set_ 2 (.slice A5 Q.length c5)
          have z0 := hR3.cell 0
          have z1 := hR3.cell 1
          have z2 := hR3.cell 2
          refine bodyPost_ret (v := .tuple #[pcV B n1 d B' m1 d' A5 Q.length c5, .int .i64 0]) ?_ rfl ?_
          · simp at z0 z1 z2
            simp [results, Tryd.results25, go_sem, z0, z1, z2]
          · refine ⟨B, n1, d, B', m1, d', A5, Q.length, c5, rfl, ?_, ((HS.out.lo.setCell (p := ⟨w.heap.size + 1, 0, none⟩) (by simp) _).setCell (p := ⟨w.heap.size + 1, 1, none⟩) (by simp) _).setCell (p := ⟨w.heap.size + 1, 2, none⟩) (by simp) _⟩
            rw [oC_ok, oC_ok, oC_ok]
            have hlt2 : w.heap.size + 1 < bb := by have := HBB.out; omega
            exact (((HE.out.pcOw.other (by omega) _ _).other (by omega) _ _).other (by omega) _ _).more hwb

end Go.Proofs.YtjobablfojnppaaDoor
