/- Sound, the reference: the tones of a piece in order (before, Tones), for any piece. -/
import Derived.Test.YtpcehgifpajmbaaGreatTn2
import Derived.Test.YtpcehgifpajmbaaGreatSndRP
import Derived.BigQuiet
import Derived.BigRegion
namespace Go.Proofs.YtpcehgifpajmbaaGreat
open Go Go.RowKit Go.Sort Go.Shelf Go.Lib

theorem ltT_1 {a b : Int × Int × Int} (h : a.2.1 ≠ b.2.1) : ltT a b = decide (a.2.1 < b.2.1) := by
  unfold ltT; rw [decide_eq_decide]; omega
theorem ltT_2 {a b : Int × Int × Int} (h : a.2.1 = b.2.1) (h2 : a.1 ≠ b.1) : ltT a b = decide (a.1 < b.1) := by
  unfold ltT; rw [decide_eq_decide]; omega
theorem ltT_3 {a b : Int × Int × Int} (h : a.2.1 = b.2.1) (h2 : a.1 = b.1) : ltT a b = decide (a.2.2 < b.2.2) := by
  unfold ltT; rw [decide_eq_decide]; omega
abbrev tnO (p f t : Int) : Obj := .cells #[.int .i64 p, .int .i64 f, .int .i64 t] 56
theorem two_tn (w : World) (p f t p2 f2 t2 : Int) :
    (((w.alloc (tnO p f t)).alloc (tnO p2 f2 t2)).cell? ⟨w.heap.size, 0, none⟩ = some (.int .i64 p) ∧ ((w.alloc (tnO p f t)).alloc (tnO p2 f2 t2)).cell? ⟨w.heap.size, 1, none⟩ = some (.int .i64 f) ∧ ((w.alloc (tnO p f t)).alloc (tnO p2 f2 t2)).cell? ⟨w.heap.size, 2, none⟩ = some (.int .i64 t)) ∧
    ((w.alloc (tnO p f t)).alloc (tnO p2 f2 t2)).cell? ⟨w.heap.size + 1, 0, none⟩ = some (.int .i64 p2) ∧ ((w.alloc (tnO p f t)).alloc (tnO p2 f2 t2)).cell? ⟨w.heap.size + 1, 1, none⟩ = some (.int .i64 f2) ∧ ((w.alloc (tnO p f t)).alloc (tnO p2 f2 t2)).cell? ⟨w.heap.size + 1, 2, none⟩ = some (.int .i64 t2) := by
  have HX0 : Blk (w.alloc (tnO p f t)) w.heap.size 56 #[.int .i64 p, .int .i64 f, .int .i64 t] := heap_alloc_new w _
  have h1 := HX0.below (ba _ (tnO p2 f2 t2))
  have h2 : Blk ((w.alloc (tnO p f t)).alloc (tnO p2 f2 t2)) (w.heap.size + 1) 56 #[.int .i64 p2, .int .i64 f2, .int .i64 t2] := by
    have := heap_alloc_new (w.alloc (tnO p f t)) (tnO p2 f2 t2)
    rwa [World.size_alloc] at this
  exact ⟨⟨h1.cell 0, h1.cell 1, h1.cell 2⟩, h2.cell 0, h2.cell 1, h2.cell 2⟩
set_option maxRecDepth 100000 in
set_option maxHeartbeats 1600000 in
theorem before_any (p f t p2 f2 t2 : Int) (w : World) :
    Calls Tryz.prog 17 #[.agg #[.int .i64 p, .int .i64 f, .int .i64 t], .agg #[.int .i64 p2, .int .i64 f2, .int .i64 t2]] w fun e w' => e = .returned (.bool (ltT (p, f, t) (p2, f2, t2))) ∧ Below w.heap.size w w' := by
  obtain ⟨⟨x0, x1, x2⟩, y0, y1, y2⟩ := two_tn w p f t p2 f2 t2
  by_cases h1 : f = f2
  · have g1 : (f != f2) = false := by simpa using h1
    by_cases h2 : p = p2
    · have g2 : (p != p2) = false := by simpa using h2
      have HR := Lib.hid (ltT_3 (a := (p, f, t)) (b := (p2, f2, t2)) h1 h2)
      clear h1 h2
      generalize ltT (p, f, t) (p2, f2, t2) = r at *
      go_enter Tryz.func17, Tryz.ntmps17
      go_wp2_with (fail)
      go_ret
      exact ⟨by rw [HR.out]; rfl, bx (ba _ _)⟩
    · have g2 : (p != p2) = true := by simpa using h2
      have HR := Lib.hid (ltT_2 (a := (p, f, t)) (b := (p2, f2, t2)) h1 h2)
      clear h1 h2
      generalize ltT (p, f, t) (p2, f2, t2) = r at *
      go_enter Tryz.func17, Tryz.ntmps17
      go_wp2_with (fail)
      go_ret
      exact ⟨by rw [HR.out]; rfl, bx (ba _ _)⟩
  · have g1 : (f != f2) = true := by simpa using h1
    have HR := Lib.hid (ltT_1 (a := (p, f, t)) (b := (p2, f2, t2)) h1)
    clear h1
    generalize ltT (p, f, t) (p2, f2, t2) = r at *
    go_enter Tryz.func17, Tryz.ntmps17
    go_wp2_with (fail)
    go_ret
    exact ⟨by rw [HR.out]; rfl, bx (ba _ _)⟩

/-- t stands between X and Y, which it comes before; without it the list is M. -/
structure InsR (X : List (Int × Int × Int)) (t : Int × Int × Int) (Y M : List (Int × Int × Int)) : Prop where
  eq : X ++ Y = M
  lt : ∀ y ∈ Y, ltT t y = true
theorem InsR.start (M : List (Int × Int × Int)) (t : Int × Int × Int) : InsR M t [] M := ⟨by simp, fun _ h => by cases h⟩
theorem InsR.step {X : List (Int × Int × Int)} {u t : Int × Int × Int} {Y M : List (Int × Int × Int)} (h : InsR (X ++ [u]) t Y M) (hl : ltT t u = true) : InsR X t (u :: Y) M :=
  ⟨by rw [← h.eq]; simp, fun y hy => by rcases List.mem_cons.1 hy with rfl | hy; exact hl; exact h.lt y hy⟩
theorem ltT_asym {a b : Int × Int × Int} (h : ltT a b = true) : ltT b a = false := by
  unfold ltT at *
  rw [decide_eq_true_iff] at h
  rw [decide_eq_false_iff_not]
  omega
theorem ltT_trans {a b c : Int × Int × Int} (h1 : ltT b a = false) (h2 : ltT c b = false) : ltT c a = false := by
  unfold ltT at *
  rw [decide_eq_false_iff_not] at *
  omega
theorem InsR.srt {X : List (Int × Int × Int)} {t : Int × Int × Int} {Y M : List (Int × Int × Int)} (h : InsR X t Y M) (hM : SrtT M) (hX : ∀ x ∈ X, ltT t x = false) : SrtT (X ++ t :: Y) := by
  have h0 := h.eq
  unfold SrtT at *
  rw [← h0, List.pairwise_append] at hM
  rw [List.pairwise_append, List.pairwise_cons]
  refine ⟨hM.1, ⟨fun y hy => ltT_asym (h.lt y hy), hM.2.1⟩, fun x hx y hy => ?_⟩
  rcases List.mem_cons.1 hy with rfl | hy
  · exact hX x hx
  · exact hM.2.2 x hx y hy
theorem InsR.last {X : List (Int × Int × Int)} {u t : Int × Int × Int} {Y M : List (Int × Int × Int)} (h : InsR (X ++ [u]) t Y M) (hM : SrtT M) (hl : ltT t u = false) : ∀ x ∈ X ++ [u], ltT t x = false := by
  have h0 := h.eq
  unfold SrtT at hM
  rw [← h0, List.pairwise_append, List.pairwise_append] at hM
  intro x hx
  rcases List.mem_append.1 hx with hx | hx
  · exact ltT_trans (hM.1.2.2 x hx u (by simp)) hl
  · rw [List.mem_singleton.1 hx]; exact hl
theorem InsR.perm {X : List (Int × Int × Int)} {t : Int × Int × Int} {Y M : List (Int × Int × Int)} (h : InsR X t Y M) : (X ++ t :: Y).Perm (M ++ [t]) := by
  rw [← h.eq]
  exact List.perm_middle.trans (List.perm_append_singleton t (X ++ Y)).symm
theorem swap6 (pre post : List Value) (a b c d e f : Value) (l : Nat) (hl : pre.length = l) :
    ((((((pre ++ a :: b :: c :: d :: e :: f :: post).set (l + 3) a).set (l + 4) b).set (l + 5) c).set l d).set (l + 1) e).set (l + 2) f = pre ++ d :: e :: f :: a :: b :: c :: post := by
  subst hl
  have e0 : ∀ (q : List Value) (j : Nat) (v : Value), (pre ++ q).set (pre.length + j) v = pre ++ q.set j v := fun q j v => by
    rw [List.set_append_right _ _ (by omega), Nat.add_sub_cancel_left]
  have e1 : ∀ (q : List Value) (v : Value), (pre ++ q).set pre.length v = pre ++ q.set 0 v := fun q v => e0 q 0 v
  rw [e0, e0, e0, e1, e0, e0]
  rfl
theorem tnC_mid (X : List (Int × Int × Int)) (u t : Int × Int × Int) (Y : List (Int × Int × Int)) : tnC (X ++ u :: t :: Y) = tnC X ++ .int .i64 u.1 :: .int .i64 u.2.1 :: .int .i64 u.2.2 :: .int .i64 t.1 :: .int .i64 t.2.1 :: .int .i64 t.2.2 :: tnC Y := by simp [tnC]
theorem swap_tn (X : List (Int × Int × Int)) (u t : Int × Int × Int) (Y : List (Int × Int × Int)) (l : Nat) (hl : X.length = l) :
    ((((((tnC (X ++ u :: t :: Y)).set (l * 3 + 3) (.int .i64 u.1)).set (l * 3 + 4) (.int .i64 u.2.1)).set (l * 3 + 5) (.int .i64 u.2.2)).set (l * 3) (.int .i64 t.1)).set (l * 3 + 1) (.int .i64 t.2.1)).set (l * 3 + 2) (.int .i64 t.2.2) = tnC (X ++ t :: u :: Y) := by
  rw [tnC_mid, tnC_mid]
  exact swap6 _ _ _ _ _ _ _ _ _ (by rw [tnC_len, hl])
/-- The cells of two neighbours. -/
theorem own_two {w1 wr : World} {A : Option Addr} {n c : Nat} {X : List (Int × Int × Int)} {u t : Int × Int × Int} {Y : List (Int × Int × Int)} {l : Nat} (h : Own1 w1 wr 56 3 A n c (tnC (X ++ u :: t :: Y))) (hl : X.length = l) :
    ∃ g, A = some ⟨g, 0, none⟩ ∧ w1.heap.size ≤ g ∧ g < wr.heap.size ∧ (∀ j, wr.frozen? ⟨g, j, none⟩ = false) ∧
      (wr.cell? ⟨g, l * 3, none⟩ = some (.int .i64 u.1) ∧ wr.cell? ⟨g, l * 3 + 1, none⟩ = some (.int .i64 u.2.1) ∧ wr.cell? ⟨g, l * 3 + 2, none⟩ = some (.int .i64 u.2.2)) ∧
      wr.cell? ⟨g, l * 3 + 3, none⟩ = some (.int .i64 t.1) ∧ wr.cell? ⟨g, l * 3 + 4, none⟩ = some (.int .i64 t.2.1) ∧ wr.cell? ⟨g, l * 3 + 5, none⟩ = some (.int .i64 t.2.2) := by
  have hlen := h.own.1
  rw [tnC_len] at hlen
  simp at hlen
  have hat : ∀ j, (tnC (X ++ u :: t :: Y))[l * 3 + j]? = (Value.int .i64 u.1 :: .int .i64 u.2.1 :: .int .i64 u.2.2 :: .int .i64 t.1 :: .int .i64 t.2.1 :: .int .i64 t.2.2 :: tnC Y)[j]? := fun j => by
    rw [tnC_mid, List.getElem?_append_right (by rw [tnC_len, hl]; omega), tnC_len, hl, Nat.add_sub_cancel_left]
  rcases h.own.2 with ⟨_, h0⟩ | ⟨g, cap, cur, hv, hbs, hh, hle, _, hsz, htk⟩
  · omega
  · injection hv with h1 h2 h3
    have hB : Blk wr g 56 cur := hh
    refine ⟨g, h1, hbs, hB.lt, fun j => hB.frozen j, ⟨hB.cellOf htk (hat 0), hB.cellOf htk (hat 1), hB.cellOf htk (hat 2)⟩, hB.cellOf htk (hat 3), hB.cellOf htk (hat 4), hB.cellOf htk (hat 5)⟩
def swW (w : World) (g l : Nat) (u t : Int × Int × Int) : World :=
  (((((w.setCell ⟨g, (l + 1) * 3, none⟩ (.int .i64 u.1)).setCell ⟨g, (l + 1) * 3 + 1, none⟩ (.int .i64 u.2.1)).setCell ⟨g, (l + 1) * 3 + 2, none⟩ (.int .i64 u.2.2)).setCell ⟨g, l * 3, none⟩ (.int .i64 t.1)).setCell ⟨g, l * 3 + 1, none⟩ (.int .i64 t.2.1)).setCell ⟨g, l * 3 + 2, none⟩ (.int .i64 t.2.2)
theorem own_swap {w1 wr : World} {g n c : Nat} {X : List (Int × Int × Int)} {u t : Int × Int × Int} {Y : List (Int × Int × Int)} {l : Nat} (h : Own1 w1 wr 56 3 (some ⟨g, 0, none⟩) n c (tnC (X ++ u :: t :: Y))) (hl : X.length = l) (hg : w1.heap.size ≤ g) :
    Own1 w1 (swW wr g l u t) 56 3 (some ⟨g, 0, none⟩) n c (tnC (X ++ t :: u :: Y)) := by
  unfold swW
  rw [Nat.succ_mul]
  refine ⟨?_, ?_⟩
  · have h0 := ((((((h.own.stored (l * 3 + 3) (.int .i64 u.1)).1.stored (l * 3 + 4) (.int .i64 u.2.1)).1.stored (l * 3 + 5) (.int .i64 u.2.2)).1.stored (l * 3) (.int .i64 t.1)).1.stored (l * 3 + 1) (.int .i64 t.2.1)).1.stored (l * 3 + 2) (.int .i64 t.2.2)).1
    rw [swap_tn X u t Y l hl] at h0
    exact h0
  · exact (((((h.low.setCell hg _).setCell hg _).setCell hg _).setCell hg _).setCell hg _).setCell hg _

set_option maxRecDepth 100000 in
set_option maxHeartbeats 8000000 in
theorem rtones_any (A : Option Addr) (n c : Nat) (A' : Option Addr) (m c' : Nat) (A2 : Option Addr) (q cq : Nat) (C : List Cr) (S : List Int) (P : List EvP) (w : World) (hP : PcIn w A n c A' m c' A2 q cq C S P) (hnb : n ≤ 1000000) (hmb : m ≤ 1000000) (hq : q ≤ 65536) (hst : ∀ y ∈ P, y.L.length ≤ 1000000) :
    Calls Tryz.prog 8 #[pcV A n c A' m c' A2 q cq] w (TnPost (ntL C S P) (pcErr C S P) w) := by
  have HNT := Lib.hid (rnotes_any A n c A' m c' A2 q cq C S P _ (hP.below (ba w (pcO A n c A' m c' A2 q cq))) hnb hmb hq hst)
  unfold NtPost at HNT
  unfold TnPost
  have HLN := Lib.hid (ntL_len C S P)
  have HZ : Hid (pcErr C S P ≠ 0 → ntL C S P = []) := ntL_none
  obtain ⟨i0, ii1, ii2, ii3, ii4⟩ := info_parts (show (Tryz.prog.info? 56).map (fun i => (i.zero, i.size, i.bytes)) = some (some (.agg #[.int .i64 0, .int .i64 0, .int .i64 0]), 3, 24) by kernel_rfl)
  clear hP hst
  generalize ntL C S P = U at *
  generalize pcErr C S P = X at *
  by_cases hX : X = 0
  · subst hX
    clear HZ
    go_enter Tryz.func8, Tryz.ntmps8
    go_wp2_with (go_at_call 16; refine HNT.out.mono ?_; rintro e w1 ⟨B, n1, d, rfl, hn1, hs1, hb1⟩; have HN1 := Lib.hid hn1; have HS1 := Lib.hid hs1; have HB1 := Lib.hid hb1; have hn1b : n1 ≤ 5600 := (by have := HLN.out; omega); clear hn1 hs1 hb1)
    have HLL : Hid (U.length = n1) := HN1.out.symm
    go_loopw [7, 6] (fun i l wr => ∃ (k : Nat) (A3 : Option Addr) (c3 : Nat) (M : List (Int × Int × Int)), k ≤ n1 ∧ i = .int .i64 k ∧ l = .slice A3 k c3 ∧ Hid (M.Perm ((U.map tt).take k)) ∧ Hid (SrtT M) ∧ Hid (Own1 w1 wr 56 3 A3 k c3 (tnC M))) (fun i _ _ => n1 - (intOf i).toNat)
    case atStart => exact ⟨0, none, 0, [], by omega, rfl, rfl, List.Perm.refl _, List.Pairwise.nil, Own1.start (Below.refl _ _) _ _⟩
    case round =>
      obtain ⟨k, A3, c3, M, hk, rfl, rfl, HPM, HSM, HO⟩ := hrel
      by_cases hlt : k < n1
      · have hkn : (k : Int) < (n1 : Int) := by omega
        have hkL : k < U.length := by have := HLL.out; omega
        obtain ⟨b, off, rfl, hb, hc⟩ := HS1.out.2.2 (by omega)
        obtain ⟨j0, j1, j2, j3, j4⟩ := ntC_at U k hkL
        have a2 := hc _ _ j2
        have a3 := hc _ _ j3
        have a4 := hc _ _ j4
        rw [← Nat.add_assoc] at a2 a3 a4
        have HSN := Lib.hid (map_snoc hkL)
        clear hc j0 j1 j2 j3 j4 hkL
        generalize U.getD k zNt = x at *
        obtain ⟨xe, xc, xp, xf, xt⟩ := x
        dsimp only at a2 a3 a4
        have HC : Hid (∀ w', Below w1.heap.size w1 w' → w'.cell? ⟨b, off + k * 5 + 2, none⟩ = some (.int .i64 xp) ∧ w'.cell? ⟨b, off + k * 5 + 3, none⟩ = some (.int .i64 xf) ∧ w'.cell? ⟨b, off + k * 5 + 4, none⟩ = some (.int .i64 xt)) := fun w' h => ⟨cell_same (h.block b hb) a2, cell_same (h.block b hb) a3, cell_same (h.block b hb) a4⟩
        have HT : Hid (tt ⟨xe, xc, xp, xf, xt⟩ = (xp, xf, xt)) := rfl
        rw [HT.out] at HSN
        have hml : k + 1 ≤ maxLen := Nat.le_trans (show k + 1 ≤ 100000 by omega) (by decide)
        have hz1 : w1.heap.size ≤ wr.heap.size := HO.out.low.size
        clear a2 a3 a4 hb HT
        go_wp2_with (fail)
        have HOD := Lib.hid (HO.out.below (Below.refl _ _).drew)
        go_region_held_law (fun w' => w'.cell? ⟨b, off + k * 5 + 2, none⟩ = some (.int .i64 xp) ∧ w'.cell? ⟨b, off + k * 5 + 3, none⟩ = some (.int .i64 xf) ∧ w'.cell? ⟨b, off + k * 5 + 4, none⟩ = some (.int .i64 xt))
          (first | exact HC.out _ hO7.low | exact HC.out _ HOD.out.low | exact HC.out _ (bt HO.out.low (ba _ _)).drew)
          ((refine step_append_lies _ (by rfl) _ _ _ (by rfl) w1.heap.size 56 i0 _ 3 24 Tryz.underlying31 ii1 ii2 ii3 ii4 rfl (by decide) (.slice A3 k c3) k (tnC M) (by rfl) (HOD.out.own.alloc (tnO xp xf xt)) ⟨wr.heap.size, 0, none⟩ 1 1 [.int .i64 xp, .int .i64 xf, .int .i64 xt] (by rfl) rfl (World.news_of_block (cs := #[.int .i64 xp, .int .i64 xf, .int .i64 xt]) (t := 56) (fr := (0, 0)) (heap_alloc_new wr.drew _)) (one3T _ _ _) (by decide) hml (by omega) (by have h1 := HOD.out.low.size; simp; omega) (wr.heap.size + 1) (by simp) ?_; intro g cap w7 hown7 hgrow hat hlt7; obtain ⟨_, _, hsl, hO7, _⟩ := Own1.step HOD.out (Below.refl _ _) rfl hown7 hgrow; cases hsl))
        all_goals (
          have HO7 : Hid (Own1 w1 w7 56 3 (some ⟨g, 0, none⟩) (k + 1) cap (tnC (M ++ (xp, xf, xt) :: []))) := by
            unfold Hid
            rw [tnC_snoc]
            exact hO7
          have HML : Hid (M.length = k) := by
            unfold Hid
            rw [HPM.out.length_eq, List.length_take, List.length_map, HLL.out]
            exact Nat.min_eq_left hk
          clear hO7 hown7 hgrow hat HC HOD HO
          obtain ⟨t, ht⟩ : ∃ t, t = (xp, xf, xt) := ⟨_, rfl⟩
          rw [← ht] at HO7 HSN
          clear ht
          go_wp2_with (fail)
          go_loopw [8] (fun i wr => ∃ (h : Nat) (X Y : List (Int × Int × Int)), i = .int .i64 h ∧ h ≤ k ∧ Hid (X.length = h) ∧ Hid (InsR X t Y M) ∧ Hid (Own1 w1 wr 56 3 (some ⟨g, 0, none⟩) (k + 1) cap (tnC (X ++ t :: Y)))) (fun i _ => (intOf i).toNat)
          case atStart => exact ⟨k, M, [], by first | rfl | go_num, Nat.le_refl _, HML.out, InsR.start _ _, HO7.out⟩
          case round =>
            obtain ⟨h, X, Y, rfl, hh, HX, HI, HW⟩ := hrel
            rcases h with _ | j
            · have HM2 : Hid ((X ++ t :: Y).Perm ((U.map tt).take (k + 1)) ∧ SrtT (X ++ t :: Y)) := by
                have hX0 := List.length_eq_zero_iff.1 HX.out
                refine ⟨?_, HI.out.srt HSM.out (by rw [hX0]; intro x hx; cases hx)⟩
                rw [HSN.out]
                exact HI.out.perm.trans (List.Perm.append_right _ HPM.out)
              go_wp2_with (fail)
              go_quiet (fail)
              go_wp2_with (fail)
              go_roundw
              case rel => exact ⟨k + 1, some ⟨g, 0, none⟩, cap, X ++ t :: Y, by omega, by first | rfl | go_num, rfl, HM2.out.1, HM2.out.2, HW.out.below (bd (Below.refl _ _) _)⟩
              case measure => simp [intOf]; omega
            · rcases List.eq_nil_or_concat X with hX | ⟨X', u, hX⟩
              · have := HX.out; rw [hX] at this; simp at this
              rw [List.concat_eq_append] at hX
              subst hX
              have hX' : X'.length = j := by have := HX.out; simpa using this
              have HXJ := Lib.hid hX'
              have e0 : X' ++ [u] ++ t :: Y = X' ++ u :: t :: Y := by simp
              rw [e0] at HW
              have HWK : Hid (∀ w', Below wr.heap.size wr w' → Own1 w1 w' 56 3 (some ⟨g, 0, none⟩) (k + 1) cap (tnC (X' ++ u :: t :: Y))) := fun w' hb => HW.out.below hb
              have HC : Hid (∀ w', Below wr.heap.size wr w' → (w'.cell? ⟨g, j * 3, none⟩ = some (.int .i64 u.1) ∧ w'.cell? ⟨g, j * 3 + 1, none⟩ = some (.int .i64 u.2.1) ∧ w'.cell? ⟨g, j * 3 + 2, none⟩ = some (.int .i64 u.2.2)) ∧ w'.cell? ⟨g, (j + 1) * 3, none⟩ = some (.int .i64 t.1) ∧ w'.cell? ⟨g, (j + 1) * 3 + 1, none⟩ = some (.int .i64 t.2.1) ∧ w'.cell? ⟨g, (j + 1) * 3 + 2, none⟩ = some (.int .i64 t.2.2)) := fun w' hb => by
                obtain ⟨g', eg, _, _, _, hc⟩ := own_two (HWK.out w' hb) hX'
                injection eg with eg
                injection eg with eg
                subst eg
                rw [Nat.succ_mul]
                exact hc
              have HG : Hid (w1.heap.size ≤ g ∧ g < wr.heap.size) := by
                obtain ⟨g', eg, h1, h2, _⟩ := own_two HW.out hX'
                injection eg with eg
                injection eg with eg
                subst eg
                exact ⟨h1, h2⟩
              have HFZ : Hid (∀ w', Below wr.heap.size wr w' → ∀ i, w'.frozen? ⟨g, i, none⟩ = false) := fun w' hb => by
                obtain ⟨g', eg, _, _, hf, _⟩ := own_two (HWK.out w' hb) hX'
                injection eg with eg
                injection eg with eg
                subst eg
                exact hf
              have hjk : (j : Int) < (k : Int) + 1 := by omega
              have hjk1 : (j : Int) + 1 < (k : Int) + 1 := by omega
              have hjw : IntKind.i64.wrap (j : Int) = (j : Int) := IntWalk.i64_in _ ⟨by omega, by omega⟩
              have hjw1 : IntKind.i64.wrap ((j : Int) + 1) = (j : Int) + 1 := IntWalk.i64_in _ ⟨by omega, by omega⟩
              have hj0 : (0 : Int) < (j : Int) + 1 := by omega
              obtain ⟨bb, hbb⟩ : ∃ bb, ltT t u = bb := ⟨_, rfl⟩
              have HLT := Lib.hid hbb
              clear hbb hX' e0 HW
              obtain ⟨tp, tf, tto⟩ := t
              obtain ⟨up, uf, uto⟩ := u
              dsimp only at HC
              go_wp2_with (fail)
              go_region_held_law (fun w' => (w'.cell? ⟨g, j * 3, none⟩ = some (.int .i64 up) ∧ w'.cell? ⟨g, j * 3 + 1, none⟩ = some (.int .i64 uf) ∧ w'.cell? ⟨g, j * 3 + 2, none⟩ = some (.int .i64 uto)) ∧ w'.cell? ⟨g, (j + 1) * 3, none⟩ = some (.int .i64 tp) ∧ w'.cell? ⟨g, (j + 1) * 3 + 1, none⟩ = some (.int .i64 tf) ∧ w'.cell? ⟨g, (j + 1) * 3 + 2, none⟩ = some (.int .i64 tto))
                (first | exact HC.out _ (bt (Below.refl _ _).drew hb8) | exact HC.out _ (Below.refl _ _).drew)
                ((go_at_call 17; refine (before_any _ _ _ _ _ _ _).mono ?_; rintro e w8 ⟨rfl, hb8⟩; rw [HLT.out]))
              all_goals (
                have HB8 : Hid (Below wr.heap.size wr w8) := bt (Below.refl _ _).drew hb8
                clear hb8
                cases bb with
                | true =>
                  have HW8 : Hid (Own1 w1 w8 56 3 (some ⟨g, 0, none⟩) (k + 1) cap (tnC (X' ++ (up, uf, uto) :: (tp, tf, tto) :: Y))) := HWK.out _ HB8.out
                  have HI2 := Lib.hid (HI.out.step HLT.out)
                  obtain ⟨⟨u0, u1, u2⟩, v0, v1, v2⟩ := HC.out _ HB8.out
                  have fz := HFZ.out _ HB8.out
                  have z0 := fz (j * 3)
                  have z1 := fz (j * 3 + 1)
                  have z2 := fz (j * 3 + 2)
                  have y0 := fz ((j + 1) * 3)
                  have y1 := fz ((j + 1) * 3 + 1)
                  have y2 := fz ((j + 1) * 3 + 2)
                  clear fz
                  go_wp2_with (fail)
                  have HSW := Lib.hid (own_swap HW8.out HXJ.out HG.out.1)
                  go_region
                  go_wp2_with (fail)
                  go_roundw
                  case rel => exact ⟨j, X', (up, uf, uto) :: Y, by first | rfl | go_num, by omega, HXJ.out, HI2.out, HSW.out.below (Below.refl _ _).drew⟩
                  case measure => simp [intOf] <;> omega
                | false =>
                  have HM2 : Hid ((X' ++ [(up, uf, uto)] ++ (tp, tf, tto) :: Y).Perm ((U.map tt).take (k + 1)) ∧ SrtT (X' ++ [(up, uf, uto)] ++ (tp, tf, tto) :: Y)) := by
                    refine ⟨?_, HI.out.srt HSM.out (HI.out.last HSM.out HLT.out)⟩
                    rw [HSN.out]
                    exact HI.out.perm.trans (List.Perm.append_right _ HPM.out)
                  have HW8 : Hid (Own1 w1 w8 56 3 (some ⟨g, 0, none⟩) (k + 1) cap (tnC (X' ++ [(up, uf, uto)] ++ (tp, tf, tto) :: Y))) := by
                    have h1 := HWK.out _ HB8.out
                    unfold Hid
                    rw [List.append_assoc]
                    exact h1
                  go_wp2_with (fail)
                  go_roundw
                  case rel => exact ⟨k + 1, some ⟨g, 0, none⟩, cap, _, by omega, by first | rfl | go_num, rfl, HM2.out.1, HM2.out.2, HW8.out⟩
                  case measure => simp [intOf]; omega))
      · obtain rfl : k = n1 := by omega
        have HPF : Hid (M.Perm (U.map tt)) := by
          have h1 := HPM.out
          rw [List.take_of_length_le (by rw [List.length_map]; have := HLL.out; omega)] at h1
          exact h1
        go_wp2_with (fail)
        go_ret2
        exact ⟨A3, k, c3, M, rfl, by rw [HPF.out.length_eq, List.length_map]; exact HLL.out.symm, HPF.out, HSM.out, HO.out.sl, bx (bt HB1.out HO.out.low)⟩
  · have hXb : (X != 0) = true := by simpa using hX
    have HUZ : Hid (U = []) := HZ.out hX
    clear hX HZ
    go_enter Tryz.func8, Tryz.ntmps8
    go_wp2_with (go_at_call 16; refine HNT.out.mono ?_; rintro e w1 ⟨B, n1, d, rfl, hn1, hs1, hb1⟩; clear hn1 hs1)
    go_ret2
    exact ⟨none, 0, 0, [], rfl, rfl, by rw [HUZ.out]; exact List.Perm.refl _, List.Pairwise.nil, Sl.none_ _ _ _, bx hb1⟩

end Go.Proofs.YtpcehgifpajmbaaGreat
