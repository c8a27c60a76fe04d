/- Pieces: Break of the program. -/
import Derived.Test.YtdhjigaocamglaaDoorQdBk4
namespace Go.Proofs.YtdhjigaocamglaaDoor
open Go Go.RowKit

attribute [local go_sem] Oper.semAt_some

theorem bk_close {W5 W W' : World} {qb rb cb sb bq b1 Bp : Nat} {u0 u1 v bv v' bv' : Value} {ev ev' : List EvP} {bc bc' : List Int} {bar : Int} {X : List TmP} {pre : List Tm} {xt : Tm} {Ix : List Tm → World → Prop}
    (HJ : JnO W5 qb rb cb sb u0 u1 v bv ev bc bar W) (HJ' : JnO W5 qb rb cb sb u0 u1 v' bv' ev' bc' bar W') (hK : Kx (JnX qb rb rb bq v bv) W.heap.size W W') (hst : brGo bar (X.take (pre.length + 1)) ⟨[], []⟩ = some ⟨ev', bc'⟩)
    (h1 : b1 ≤ qb) (h2 : b1 ≤ rb) (hBp : Bp < W5.heap.size) (e1 : Bp ≠ qb) (e2 : Bp ≠ rb) (hbq : W5.heap.size ≤ bq) (hsq : sb ≠ bq) (hs : W5.heap.size ≤ sb) (hq : qb < W5.heap.size) (hr : rb < W5.heap.size) (act : Act) :
    bodyS (fun k => k < b1 ∨ k = Bp ∨ k = sb) (BkI W5 qb rb cb sb u0 u1 bar X) Ix (pre ++ [xt]) W .normal act W' := by
  refine ⟨⟨hK.size, hK.oth⟩, fun k hk hlt => hK.block k hlt ?_, v', bv', ⟨ev', bc'⟩, ?_, HJ'⟩
  · rintro (h | h | h | h | h | h)
    · rcases hk with hk | hk | hk <;> omega
    · rcases hk with hk | hk | hk <;> omega
    · rcases hk with hk | hk | hk <;> omega
    · rcases hk with hk | hk | hk
      · omega
      · omega
      · exact hsq (hk.symm.trans h)
    · have := (HJ.row.lt k h).1
      rcases hk with hk | hk | hk
      · omega
      · omega
      · exact HJ.ns (by rw [h, hk])
    · have := (HJ.brow.lt k h).1
      rcases hk with hk | hk | hk
      · omega
      · omega
      · exact HJ.nb (by rw [h, hk])
  · have hl : (pre ++ [xt]).length = pre.length + 1 := by simp
    rw [hl]
    exact hst
theorem mvL_Lc {B : List Int} {P : List EvP} {N : Nat} (h : ∀ y ∈ P, y.L.length ≤ N) : ∀ (k : Nat) (Q : List EvP), (∀ y ∈ Q, y.L.length ≤ N) → ∀ y ∈ mvL B P k Q, y.L.length ≤ N
  | 0, Q, hQ => hQ
  | k + 1, Q, hQ => fun y hy => by
    have ih := mvL_Lc (B := B) h k Q hQ
    unfold mvL at hy
    split at hy
    · exact ih y hy
    · rcases List.mem_or_eq_of_mem_set hy with hy | rfl
      · exact ih y hy
      · show ((P.getD k z6).L.map (mvS B k)).length ≤ N
        rw [List.length_map]
        by_cases hk : k < P.length
        · exact h _ (by rw [List.getD_eq_getElem?_getD, List.getElem?_eq_getElem hk]; exact List.getElem_mem hk)
        · rw [List.getD_eq_getElem?_getD, List.getElem?_eq_none (by omega)]
          simp [z6]
theorem evC_len2 (L : List EvP) : (evC (L.map zT)).length = L.length * 6 := by
  induction L with
  | nil => rfl
  | cons y r ih =>
    rw [List.map_cons]
    show (Value.bool (zT y).bar :: .int .i64 (zT y).v :: .bool (zT y).d :: .bool (zT y).t :: .bool (zT y).tie :: .slice (zT y).sa (zT y).sn (zT y).sc :: evC (r.map zT)).length = _
    simp only [List.length_cons, ih]
    omega
theorem bbox (w : World) (A : Option Addr) (n c : Nat) (A' : Option Addr) (m c' : Nat) (A2 : Option Addr) (q cq : Nat) (b : Int) :
    (Blk ((((w.alloc (pcO A n c A' m c' A2 q cq)).alloc (.cells #[.int .i64 b] 3)).alloc zPcO).alloc (.cells #[.int .i64 0] 32)) w.heap.size 28 #[.slice A n c, .slice A' m c', .slice A2 q cq] ∧ Blk ((((w.alloc (pcO A n c A' m c' A2 q cq)).alloc (.cells #[.int .i64 b] 3)).alloc zPcO).alloc (.cells #[.int .i64 0] 32)) (w.heap.size + 1) 3 #[.int .i64 b] ∧ Blk ((((w.alloc (pcO A n c A' m c' A2 q cq)).alloc (.cells #[.int .i64 b] 3)).alloc zPcO).alloc (.cells #[.int .i64 0] 32)) (w.heap.size + 2) 28 #[.slice none 0 0, .slice none 0 0, .slice none 0 0] ∧ Blk ((((w.alloc (pcO A n c A' m c' A2 q cq)).alloc (.cells #[.int .i64 b] 3)).alloc zPcO).alloc (.cells #[.int .i64 0] 32)) (w.heap.size + 3) 32 #[.int .i64 0]) ∧ Below w.heap.size w ((((w.alloc (pcO A n c A' m c' A2 q cq)).alloc (.cells #[.int .i64 b] 3)).alloc zPcO).alloc (.cells #[.int .i64 0] 32)) ∧ ((((w.alloc (pcO A n c A' m c' A2 q cq)).alloc (.cells #[.int .i64 b] 3)).alloc zPcO).alloc (.cells #[.int .i64 0] 32)).heap.size = w.heap.size + 4 := by
  have h1 := heap_alloc_new (w.alloc (pcO A n c A' m c' A2 q cq)) (.cells #[.int .i64 b] 3)
  have h2 := heap_alloc_new ((w.alloc (pcO A n c A' m c' A2 q cq)).alloc (.cells #[.int .i64 b] 3)) zPcO
  have h3 := heap_alloc_new (((w.alloc (pcO A n c A' m c' A2 q cq)).alloc (.cells #[.int .i64 b] 3)).alloc zPcO) (.cells #[.int .i64 0] 32)
  rw [World.size_alloc] at h1
  rw [World.size_alloc, World.size_alloc] at h2
  rw [World.size_alloc, World.size_alloc, World.size_alloc] at h3
  exact ⟨⟨Blk.below (heap_alloc_new w _) (bt (ba _ _) (bt (ba _ _) (ba _ _))), Blk.below h1 (bt (ba _ _) (ba _ _)), Blk.below h2 (ba _ _), h3⟩, bt (ba _ _) (bt (ba _ _) (bt (ba _ _) (ba _ _))), by simp⟩

set_option maxRecDepth 100000 in
set_option maxHeartbeats 3200000 in
theorem break_fine (A : Option Addr) (n c : Nat) (A' : Option Addr) (m c' : Nat) (A2 : Option Addr) (q cq : Nat) (C : List Cr) (S : List Int) (P : List EvP) (b : Nat) (w : World) (hP : PcIn w A n c A' m c' A2 q cq C S P) (hT : SgT w) (h0 : pcErr C S P = 0) (hb1 : 1 ≤ b) (hb2 : b ≤ 4608) (hnb : n ≤ 1000000) (hmb : m ≤ 1000000) (hqb : q ≤ 65536) (hst : ∀ y ∈ P, y.L.length ≤ 1000000) :
    Calls Tryd.prog 21 #[pcV A n c A' m c' A2 q cq, .int .i64 b] w (PcRes (brErr 0 b P) C S (brRes b P) w) := by
  obtain ⟨E, ⟨hE1, hE2⟩, hE3⟩ := hP.es.evs
  have HPI : Hid (∀ w', Below w.heap.size w w' → PcIn w' A n c A' m c' A2 q cq C S P) := fun w' hb => hP.below hb
  have HQ := Lib.hid hP.es.hq
  have hE : q = E.length := by rw [hP.es.hq, hE1]
  have HE := Lib.hid hE
  have HTM := Lib.hid (tm_pl w E P 0 0 false false 0 hE1 hE2)
  have HE3 := Lib.hid hE3
  have HST := Lib.hid hst
  have HSG : Hid (∀ w', Below w.heap.size w w' → SgT w') := fun w' h => hT.below h
  have HV := Lib.hid h0
  have HBX := Lib.hid (bbox w A n c A' m c' A2 q cq b)
  have hn1 : ¬ (b : Int) < 1 := by omega
  have hn2 : ¬ (4608 : Int) < (b : Int) := by omega
  have hn3 : ¬ b = 0 := by omega
  have hn4 : ¬ 4608 < b := by omega
  have hn5 : ¬ b < 1 := by omega
  clear hE hE2 hE3 hst hP hE1 hT h0
  refine (callsIn_wide (n := 3)).1 ?_
  refine callsIn_of_wp_marks Tryd.func21 rfl trivial ?_ rfl
  simp only [Tryd.ntmps21, List.size_toArray, List.length_cons, List.length_nil, Nat.reduceAdd, Nat.reduceSub, Array.replicate_succ, Array.replicate_zero, List.push_toArray, List.append_toArray, List.nil_append, List.cons_append]
  gi_wp2_with (first
    | (refine ⟨trivial, ?_⟩; gi_at_call 35; refine (callsIn_wide.2 (pcheck_any A n c A' m c' A2 q cq C S P _ (HPI.out _ HBX.out.2.1) hnb hmb (by omega) HST.out)).mono ?_; rintro e w0 ⟨rfl, hb0⟩; rw [HV.out]; have hPk := And.intro (HBX.out.1.1.below hb0) (And.intro (HBX.out.1.2.1.below hb0) trivial); have k0 := hPk.1.cell 0; have k1 := hPk.1.cell 1; have k2 := hPk.1.cell 2; have k3 := hPk.2.1.cell 0; simp at k0 k1 k2 k3; have HB0 := Lib.hid hb0; clear hPk hb0)
    | (refine ⟨trivial, ?_⟩; gi_at_call 44; refine (callsIn_wide.2 (cloneInst_any A A' n c m c' C S _ (HPI.out _ (bt HBX.out.2.1 HB0.out)).crs (HPI.out _ (bt HBX.out.2.1 HB0.out)).stp hnb hmb)).mono ?_; rintro e w1 ⟨B, d, B', d', rfl, ho1, ho2, hb1⟩; have hPk := And.intro ((((HBX.out.1.1.below HB0.out).below hb1).below (ba w1 (pcO B n d B' m d' none 0 0))).below (ba _ (.cells #[.slice none 0 0] 23))) (And.intro ((((HBX.out.1.2.1.below HB0.out).below hb1).below (ba w1 (pcO B n d B' m d' none 0 0))).below (ba _ (.cells #[.slice none 0 0] 23))) trivial); clear k0 k1 k2 k3; have k0 := hPk.1.cell 0; have k1 := hPk.1.cell 1; have k2 := hPk.1.cell 2; have k3 := hPk.2.1.cell 0; simp at k0 k1 k2 k3; have HO1 := Lib.hid ho1; have HO2 := Lib.hid ho2; have HB1 := Lib.hid (bt HB0.out hb1); have hz01 := hb1.size; clear hPk ho1 ho2 hb1)
    | (refine ⟨trivial, ?_⟩; gi_at_call 45; refine (callsIn_wide.2 (withTimes_any _ _ _ _ _ _ _ _ _ _)).mono ?_; rintro e w2 ⟨rfl, rfl⟩))
  have bQ : Blk (((w1.alloc (pcO B n d B' m d' none 0 0)).alloc (.cells #[.slice none 0 0] 23)).alloc (pcO A n c A' m c' A2 q cq)) w1.heap.size 28 #[.slice B n d, .slice B' m d', .slice none 0 0] := Blk.below (heap_alloc_new w1 _) (bt (ba _ _) (ba _ _))
  have bR : Blk (((w1.alloc (pcO B n d B' m d' none 0 0)).alloc (.cells #[.slice none 0 0] 23)).alloc (pcO A n c A' m c' A2 q cq)) (w1.heap.size + 1) 23 #[.slice none 0 0] := by
    have := heap_alloc_new (w1.alloc (pcO B n d B' m d' none 0 0)) (.cells #[.slice none 0 0] 23)
    rw [World.size_alloc] at this
    exact Blk.below this (ba _ _)
  have bB : Blk (((w1.alloc (pcO B n d B' m d' none 0 0)).alloc (.cells #[.slice none 0 0] 23)).alloc (pcO A n c A' m c' A2 q cq)) (w1.heap.size + 2) 28 #[.slice A n c, .slice A' m c', .slice A2 q cq] := by
    have := heap_alloc_new ((w1.alloc (pcO B n d B' m d' none 0 0)).alloc (.cells #[.slice none 0 0] 23)) (pcO A n c A' m c' A2 q cq)
    rwa [World.size_alloc, World.size_alloc] at this
  have hW1 : Below w1.heap.size w1 (((w1.alloc (pcO B n d B' m d' none 0 0)).alloc (.cells #[.slice none 0 0] 23)).alloc (pcO A n c A' m c' A2 q cq)) := bt (ba _ _) (bt (ba _ _) (ba _ _))
  have hz1 : w.heap.size + 4 ≤ w1.heap.size := by have := HB1.out.size; have := HBX.out.2.2; omega
  have hz5 : (((w1.alloc (pcO B n d B' m d' none 0 0)).alloc (.cells #[.slice none 0 0] 23)).alloc (pcO A n c A' m c' A2 q cq)).heap.size = w1.heap.size + 3 := by simp
  have low5 : Below w.heap.size w (((w1.alloc (pcO B n d B' m d' none 0 0)).alloc (.cells #[.slice none 0 0] 23)).alloc (pcO A n c A' m c' A2 q cq)) := bt HBX.out.2.1 (bt HB1.out hW1)
  have bP : Blk (((w1.alloc (pcO B n d B' m d' none 0 0)).alloc (.cells #[.slice none 0 0] 23)).alloc (pcO A n c A' m c' A2 q cq)) w.heap.size 28 #[.slice A n c, .slice A' m c', .slice A2 q cq] := (HBX.out.1.1.below HB1.out).below hW1
  have bC : Blk (((w1.alloc (pcO B n d B' m d' none 0 0)).alloc (.cells #[.slice none 0 0] 23)).alloc (pcO A n c A' m c' A2 q cq)) (w.heap.size + 1) 3 #[.int .i64 b] := (HBX.out.1.2.1.below HB1.out).below hW1
  have bS : Blk (((w1.alloc (pcO B n d B' m d' none 0 0)).alloc (.cells #[.slice none 0 0] 23)).alloc (pcO A n c A' m c' A2 q cq)) (w.heap.size + 2) 28 #[.slice none 0 0, .slice none 0 0, .slice none 0 0] := (HBX.out.1.2.2.1.below HB1.out).below hW1
  have bE : Blk (((w1.alloc (pcO B n d B' m d' none 0 0)).alloc (.cells #[.slice none 0 0] 23)).alloc (pcO A n c A' m c' A2 q cq)) (w.heap.size + 3) 32 #[.int .i64 0] := (HBX.out.1.2.2.2.below HB1.out).below hW1
  have oC := (HO1.out.below hW1).more (show w.heap.size ≤ _ by have := HB0.out.size; have := HBX.out.2.2; omega)
  have oS := (HO2.out.below hW1).more (show w.heap.size ≤ _ by have := HB0.out.size; have := HBX.out.2.2; omega)
  obtain ⟨W5, hW5⟩ : ∃ W5, (((w1.alloc (pcO B n d B' m d' none 0 0)).alloc (.cells #[.slice none 0 0] 23)).alloc (pcO A n c A' m c' A2 q cq)) = W5 := ⟨_, rfl⟩
  rw [hW5] at bQ bR bC bB hW1 hz5 low5 bP bS bE oC oS ⊢
  clear hW5 k0 k1 k2 k3 hz01
  have HOC := Lib.hid oC
  have HOS := Lib.hid oS
  have HBP := Lib.hid bP
  have HBS := Lib.hid bS
  have HBE := Lib.hid bE
  have HLW := Lib.hid low5
  clear oC oS bP bS bE
  obtain ⟨i0, hi, hi0, hi1, hi2⟩ := info_parts Tryd.infoEv
  obtain ⟨j0, hj, hj0, hj1, hj2⟩ := info_parts Tryd.info3'
  have hlenE : (tmL E 0 0 false false 0).length = q := (tmL_len _ _ _ _ _ _).trans HE.out.symm
  have hPl : P.length ≤ 400 := by
    have := HV.out
    unfold pcErr at this
    split at this
    · rename_i h1
      exact absurd this h1
    · split at this
      · simp at this
      · omega
  have HOK : Hid (∀ p ∈ tpL P, okB p.v p.d p.t = true) := tm_okB P 0 0 false false 0 (sgr_of HV.out) (.inr (fun y hy => by
    have h1 := ((pcErr_ok HV.out).2.2 0 y (by rw [← List.head?_eq_getElem?]; exact hy)).1
    unfold sgnB at h1
    simp at h1
    first | exact h1.2 | exact h1 | (cases hw : wrB y.v y.d y.t <;> simp [hw] at h1 ⊢)))
  refine rfBoxS (F := Fence.wide) (n := 3) rfl (by omega) (gf := 68) (lb := #[.pointer (some ⟨w1.heap.size + 2, 0, none⟩)]) rfl trivial (enters_of Tryd.func68 (by kernel_rfl) rfl)
    (encs := fun x : Tm => #[tmV x]) (keep := fun k => k < w1.heap.size ∨ k = w1.heap.size + 2 ∨ k = W5.heap.size + 2) (T := 48) (tmL E 0 0 false false 0)
    (times_anyS _ (by omega) (w1.heap.size + 2) A2 q cq E HE.out (by omega) _ W5 (by omega) (.inr (.inl rfl)) (W5.heap.size + 2) (by omega) (.inr (.inr rfl)) (by have := bB.cell 2; simpa using this) (fun h0 => by
      obtain ⟨eb, off, e1, e2, e3⟩ := HE3.out.2.2 h0
      refine ⟨eb, off, e1, Nat.lt_of_lt_of_le e2 low5.size, .inl (by omega), fun k x hk => ?_⟩
      have hs : W5.heap[eb]? = w.heap[eb]? := low5.block eb e2
      obtain ⟨i0, i1, i2, i3, i4, i5⟩ := evC_at E k x hk
      exact EvAt.same hs ⟨e3 _ _ i0, by have := e3 _ _ i1; rwa [← Nat.add_assoc] at this, by have := e3 _ _ i2; rwa [← Nat.add_assoc] at this, by have := e3 _ _ i3; rwa [← Nat.add_assoc] at this, by have := e3 _ _ i4; rwa [← Nat.add_assoc] at this, by have := e3 _ _ i5; rwa [← Nat.add_assoc] at this⟩))
    (by omega) (fun _ => rfl) (BkI W5 w1.heap.size (w1.heap.size + 1) (w.heap.size + 1) (W5.heap.size + 2) (.slice B n d) (.slice B' m d') b (tpL P)) (BkX w b (tpL P)) (bkI_bx (by omega) (by omega) (by omega) (by omega)) bkX_low (fun s W l o o' h hl ho hw => bkX_put s W l o o' h hl ho (by have := HLW.out.size; omega)) (fun s W l o o' h hl ho hw => bkI_put s W l o o' h hl ho hw)
    ⟨.slice none 0 0, .slice none 0 0, ⟨[], []⟩, rfl, bQ, World.ownsRow_nil _ _ _ _, bR, World.ownsRow_nil _ _ _ _, bC, by simp [Value.ownBlock], by simp [Value.ownBlock], Kx.refl _ _ _⟩
    (fun x a' W => ∃ bq, a' = { tmps := #[pcV A n c A' m c' A2 q cq, .int .i64 b, .pointer (some ⟨w.heap.size, 0, none⟩), .pointer (some ⟨w.heap.size + 1, 0, none⟩), .pointer (some ⟨w.heap.size + 1 + 1, 0, none⟩), .pointer (some ⟨w.heap.size + 1 + 1 + 1, 0, none⟩), .int .i64 0, .pointer (some ⟨w1.heap.size, 0, none⟩), .pointer (some ⟨w1.heap.size + 1, 0, none⟩), .pointer (some ⟨bq, 0, none⟩), undef, undef, pcV A n c A' m c' A2 q cq, .int .i64 0, .int .i64 0, .bool false, undef, undef, .int .i64 b, .bool (decide ((b : Int) < 1)), .bool (decide ((b : Int) < 1)), .int .i64 b, .bool (decide ((4608 : Int) < (b : Int))), .bool ((decide ((b : Int) < 1)) || (decide ((4608 : Int) < (b : Int)))), undef, .pointer (some ⟨w.heap.size, 0, none⟩), .agg #[.slice A n c, .slice A' m c'], .agg #[.slice B n d, .slice B' m d'], .agg #[.slice B n d, .slice B' m d', .slice none 0 0], pcV A n c A' m c' A2 q cq, .func (.func 68) #[] #[.pointer (some ⟨w1.heap.size + 2, 0, none⟩)], tmV x, undef, undef, undef, undef, undef, undef, undef, undef, undef, undef, undef, undef, undef, undef, undef, undef, undef, undef, undef, undef, undef, undef, undef, undef, undef, undef, undef, undef, undef, undef, undef, undef, undef, undef, undef, undef, undef], defers := [] } ∧ Blk W bq 75 (tmA x) ∧ W.heap.size = bq + 1)
    (fun x a' W l o o' ⟨bq, h, hq, hz⟩ hl ho => ⟨bq, h, blk_put hq hl ho, by simpa using hz⟩) ?assign ?body ?done ?stop
  case assign =>
    intro l x W K hK
    gi_wp2
    exact hK _ _ (ba W _) ⟨W.heap.size, rfl, heap_alloc_new W _, by simp⟩
  case body =>
    rintro l pre xt a' W ⟨v, bv, a, ha, HJ⟩ ⟨bq, rfl, hq, hzW⟩ ⟨post, hpost⟩ ⟨cs2, f2, hsb⟩
    obtain ⟨p, hTP, e1, e2, e3, e4, e5, e6, ⟨g1, g2, g3, g4, g5, g6⟩, hsl⟩ := HTM.out pre.length xt (by rw [hpost]; simp)
    have hpl : pre.length < q := by
      have := congrArg List.length hpost
      simp [hlenE] at this
      omega
    have hqP := HQ.out
    have htk : (tpL P).take (pre.length + 1) = (tpL P).take pre.length ++ [p] := by rw [List.take_add_one, hTP]; rfl
    obtain ⟨T, hbk, hfm, hTb⟩ := br_ok (bar := b) (by omega) P 0 0 false false 0 0 ⟨[], []⟩ a pre.length HOK.out ⟨rfl, by simp, fun x hx => by simp at hx, fun y hy => by simp at hy⟩ (by omega) ha
    have hfm' := hfm p hTP
    have hok := HOK.out p (List.mem_of_getElem? hTP)
    have htkk := tmPL_tk P 0 0 false false 0 p (List.mem_of_getElem? hTP)
    obtain ⟨_, hPy, d1, d2⟩ := tmPL_bd P 0 0 false false 0 pre.length p hTP
    have hlt4 : 4 ≤ p.to - p.fm := by
      obtain ⟨i, hi, hqq⟩ := sgn_idx hok
      have h4 := tks_four hi
      have e1 : p.v = (soQ i).v := by rw [hqq]
      have e2 : p.d = (soQ i).d := by rw [hqq]
      have e3 : p.t = (soQ i).t := by rw [hqq]
      rw [htkk, e1, e2, e3]
      exact h4.1
    have hGO := brGo_snoc (p := p) ha
    rw [← htk] at hGO
    obtain ⟨ev, bc⟩ := a
    dsimp only at HJ hGO
    have o1 := hbk.bl
    have o2 := hbk.el
    dsimp only at o1 o2
    have hfm0 : 0 ≤ p.fm := by omega
    have hft : p.fm < p.to := by omega
    have hto : p.to ≤ 1000000 := by omega
    have hsz := (Array.getElem?_eq_some_iff.1 hsb).1
    have hbq5 : W5.heap.size ≤ bq := by omega
    have hsq5 : W5.heap.size + 2 ≠ bq := fun e => by
      rw [e] at hsb
      have h2 := hq
      unfold Blk at h2
      rw [hsb] at h2
      injection h2 with h2
      injection h2 with _ h2
      revert h2
      decide
    have hs5 : W5.heap.size ≤ W5.heap.size + 2 := by omega
    have hq5 : w1.heap.size < W5.heap.size := by omega
    have hr5 : w1.heap.size + 1 < W5.heap.size := by omega
    have hc5 : w.heap.size + 1 < W5.heap.size := by omega
    have hBp5 : w1.heap.size + 2 < W5.heap.size := by omega
    have hBW : Below w.heap.size w W := HLW.out.trans (HJ.kx.belowB HLW.out.size (fun k h => by have := HLW.out.size; omega))
    have hS0 : Blk W (w.heap.size + 2) 28 #[.slice none 0 0, .slice none 0 0, .slice none 0 0] := (HJ.kx.block _ (by omega) (fun h => by omega)).trans HBS.out
    have hE0 : Blk W (w.heap.size + 3) 32 #[.int .i64 0] := (HJ.kx.block _ (by omega) (fun h => by omega)).trans HBE.out
    obtain ⟨pn, ⟨yb, yv, yd, yt, yi, yL⟩, sv, sd, st, fm, to⟩ := p
    dsimp only at e1 e2 e3 e4 e5 e6 g1 g2 g3 g4 g5 g6 hsl hfm0 hft hto
    unfold tmA at hq
    simp [e1, e2, e3, e4, e5, e6, g1, g2, g3, g4, g5, g6] at hq
    have y0 := hq.cell 0
    have y1 := hq.cell 1
    have y2 := hq.cell 2
    have y3 := hq.cell 3
    have y4 := hq.cell 4
    have y5 := hq.cell 5
    have y6 := hq.cell 6
    have y7 := hq.cell 7
    have y8 := hq.cell 8
    have y9 := hq.cell 9
    have y10 := hq.cell 10
    have y11 := hq.cell 11
    have c0 := HJ.c.cell 0
    have cl0 := HJ.c.lt
    simp at y0 y1 y2 y3 y4 y5 y6 y7 y8 y9 y10 y11 c0
    obtain ⟨Av, cv, rfl⟩ := own_slice HJ.row
    obtain ⟨Ab, cb', rfl⟩ := own_slice HJ.brow
    have DV : Hid (Calls Tryd.prog 50 #[tmPV ⟨pn, ⟨yb, yv, yd, yt, yi, yL⟩, sv, sd, st, fm, to⟩ xt.ev.sa xt.ev.sc, .int .i64 b] W fun e w2 => ∃ A c L E, e = .returned (.tuple #[.slice A (List.length L) c, .int .i64 E]) ∧ (∀ l, brF b ⟨pn, ⟨yb, yv, yd, yt, yi, yL⟩, sv, sd, st, fm, to⟩ = some l → L = l ∧ E = 0) ∧ (brF b ⟨pn, ⟨yb, yv, yd, yt, yi, yL⟩, sv, sd, st, fm, to⟩ = none → L = [] ∧ E = 25) ∧ Ow w2 W.heap.size 51 6 A L.length c (evC (L.map zT)) ∧ Below W.heap.size W w2) := by
      refine (divide_any pn yb yv yd yt yi yL xt.ev.sa xt.ev.sc sv sd st fm to b W (HSG.out _ hBW) hb1 hb2 hfm0 hft hto _ rfl).mono ?_
      rintro e w2 ⟨A, c, L, E, h1, h2, h3, h4, h5⟩
      refine ⟨A, c, L, E, h1, fun l hl => ?_, fun hl => h3 ?_, h4, h5⟩
      · unfold brF at hl
        obtain ⟨S, hS, rfl⟩ := Option.map_eq_some_iff.1 hl
        exact h2 S hS
      · unfold brF at hl
        exact Option.map_eq_none_iff.1 hl
    have HLT : Hid (∀ l, brF b ⟨pn, ⟨yb, yv, yd, yt, yi, yL⟩, sv, sd, st, fm, to⟩ = some l → 0 < l.length ∧ 4 * (l.length : Int) ≤ to - fm ∧ ∀ y ∈ l, y.L = []) := fun l hl => brF_len (by omega) hft hl
    have HJ0 := Lib.hid HJ
    have HGO := Lib.hid hGO
    have HS0 := Lib.hid hS0
    have HE0 := Lib.hid hE0
    have HBW := Lib.hid hBW
    have HQ0 := Lib.hid hq
    have HSB := Lib.hid hsb
    have lsW : W5.heap.size ≤ W.heap.size := HJ.kx.size
    have lev : ev.length ≤ 100000 := by omega
    have lbc : bc.length ≤ 65536 := by omega
    have lto : to - fm ≤ 576 := by
      dsimp only at d2
      exact d2
    clear HJ hGO hS0 hE0 hBW hbk hfm hfm' hok htkk hPy htk hTP hpost ha hq hsb e1 e2 e3 e4 e5 e6 g1 g2 g3 g4 g5 g6 hsl hz5 hzW hqP hlenE d1 d2 hlt4 hTb o2 o1
    generalize xt.ev.sa = xa at *
    generalize xt.ev.sc = xc at *
    cases hbf : brF b ⟨pn, ⟨yb, yv, yd, yt, yi, yL⟩, sv, sd, st, fm, to⟩ with
    | none =>
      rw [hbf] at HGO
      have HBF := Lib.hid hbf
      clear hbf
      gi_wp2_with (refine ⟨trivial, ?_⟩; gi_at_call 50; refine (callsIn_wide.2 DV.out).mono ?_; rintro e w3 ⟨A3, c3, L3, E3, rfl, _, hno, _, hb3⟩; obtain ⟨rfl, rfl⟩ := hno HBF.out; have hs3 := HS0.out.below hb3; have he3 := HE0.out.below hb3; have s0 := hs3.cell 0; have s1 := hs3.cell 1; have s2 := hs3.cell 2; have t0 := he3.cell 0; have sf0 := hs3.frozen 0; have sf1 := hs3.frozen 1; have sf2 := hs3.frozen 2; have tf0 := he3.frozen 0; have sl := hs3.lt; have tl := he3.lt; simp at s0 s1 s2 t0; have HS3 := Lib.hid (And.intro hs3 (And.intro he3 hb3)); clear hs3 he3 hb3 hno)
      obtain ⟨hs3, he3, hb3⟩ := HS3.out
      have hK := ((((Kx.of_below (x := fun k => k = w.heap.size + 2 ∨ k = w.heap.size + 3) hb3).setBlk (.inr (.inl rfl)) hs3 0 (.slice none 0 0)).setBlk (.inr (.inl rfl)) (hs3.set_ 0 (.slice none 0 0)) 1 (.slice none 0 0)).setBlk (.inr (.inl rfl)) ((hs3.set_ 0 (.slice none 0 0)).set_ 1 (.slice none 0 0)) 2 (.slice none 0 0)).setBlk (.inr (.inr rfl)) (((he3.setOther (show w.heap.size + 3 ≠ w.heap.size + 2 by omega) 0 (.slice none 0 0)).setOther (show w.heap.size + 3 ≠ w.heap.size + 2 by omega) 1 (.slice none 0 0)).setOther (show w.heap.size + 3 ≠ w.heap.size + 2 by omega) 2 (.slice none 0 0)) 0 (.int .i64 25)
      refine ⟨⟨hK.size, hK.oth⟩, ⟨by have hl : (pre ++ [xt]).length = pre.length + 1 := (by simp); rw [hl]; exact HGO.out, ?_, ?_, (((((bt HBW.out hb3).setCell (p := ⟨w.heap.size + 2, 0, none⟩) (by simp) _).setCell (p := ⟨w.heap.size + 2, 1, none⟩) (by simp) _).setCell (p := ⟨w.heap.size + 2, 2, none⟩) (by simp) _).setCell (p := ⟨w.heap.size + 3, 0, none⟩) (by simp) _)⟩⟩
      · have := (((hs3.set_ 0 (.slice none 0 0)).set_ 1 (.slice none 0 0)).set_ 2 (.slice none 0 0)).setOther (show w.heap.size + 2 ≠ w.heap.size + 3 by omega) 0 (.int .i64 25)
        simpa using this
      · have := (((he3.setOther (show w.heap.size + 3 ≠ w.heap.size + 2 by omega) 0 (.slice none 0 0)).setOther (show w.heap.size + 3 ≠ w.heap.size + 2 by omega) 1 (.slice none 0 0)).setOther (show w.heap.size + 3 ≠ w.heap.size + 2 by omega) 2 (.slice none 0 0)).set_ 0 (.int .i64 25)
        simpa using this
    | some lv =>
      rw [hbf] at HGO
      have HBF := Lib.hid hbf
      obtain ⟨lp, l4, lL⟩ := HLT.out lv hbf
      clear hbf
      have DV2 : Hid (Calls Tryd.prog 50 #[tmPV ⟨pn, ⟨yb, yv, yd, yt, yi, yL⟩, sv, sd, st, fm, to⟩ xa xc, .int .i64 b] W fun e w2 => ∃ A c, e = .returned (.tuple #[.slice A lv.length c, .int .i64 0]) ∧ Ow w2 W.heap.size 51 6 A lv.length c (evC (lv.map zT)) ∧ Below W.heap.size W w2) := by
        refine DV.out.mono ?_
        rintro e w2 ⟨A, c, L, E, h1, h2, _, h4, h5⟩
        obtain ⟨rfl, rfl⟩ := h2 lv HBF.out
        exact ⟨A, c, h1, h4, h5⟩
      have HG2 : Hid (brGo b ((tpL P).take (pre.length + 1)) ⟨[], []⟩ = some ⟨ev ++ lv, bc ++ [(ev.length : Int)]⟩) := HGO.out
      have llv : lv.length ≤ 200 := by omega
      have HLL := Lib.hid lL
      clear lL l4 DV HGO
      gi_wp2_with (first
        | (refine ⟨trivial, ?_⟩; gi_at_call 50; refine (callsIn_wide.2 DV2.out).mono ?_; rintro e w3 ⟨A3, c3, rfl, ho3, hb3⟩; have HJ3 := HJ0.out.below hb3 hs5 hq5 hr5 hc5; have q2 := HJ3.q.cell 2; have ql := HJ3.q.lt; have r0 := HJ3.r.cell 0; have rl := HJ3.r.lt; simp at q2 r0; have hsb3 := (hb3.block _ (Array.getElem?_eq_some_iff.1 HSB.out).1).trans HSB.out; have hz3 := hb3.size; have HJ3 := Lib.hid HJ3; have HS3 := Lib.hid hsb3; have HO3 := Lib.hid ho3; have K3 := Lib.hid (Kx.of_below (x := (JnX w1.heap.size (w1.heap.size + 1) (w1.heap.size + 1) bq (.slice Av ev.length cv) (.slice Ab bc.length cb'))) hb3); have D := Lib.hid (World.news_of_block (heap_alloc_new w3 (.cells #[.int .i64 (ev.length : Int)] 3))); clear ho3 hb3 hsb3)
        | (gi_at_builtin; go_loud (refine wpListIn_append_own _ rfl _ _ 23 rfl W5.heap.size 3 j0 _ 1 8 Tryd.underlying23 hj hj0 hj1 hj2 rfl (by decide) (.slice Ab bc.length cb') bc.length (intC bc) rfl (HJ3.out.brow.alloc _) ⟨w3.heap.size, 0, none⟩ 1 1 [.int .i64 (ev.length : Int)] rfl rfl D.out (by simp [Value.oneCell']) (by unfold maxLen; omega) (by omega) (by simp; omega) ?_)))
      intro bv' w8 hown8 hgrow8 _
      obtain ⟨Ab8, c8, rfl⟩ := own_slice hown8
      obtain ⟨hr8, hs8, HJ8⟩ := HJ3.out.bec hown8 hgrow8 HS3.out hq5 hr5 hc5 (by omega) (by omega)
      have hsb8 : (w8.setCell ⟨w1.heap.size + 1, 0, none⟩ (.slice Ab8 (bc.length + 1) c8)).heap[W5.heap.size + 2]? = some (.cells cs2 48 f2) := by
        rw [set_other _ _ _ _ _ (by omega)]
        exact hs8
      have K8 := (((K3.out.trans ((Kx.of_below (x := (JnX w1.heap.size (w1.heap.size + 1) (w1.heap.size + 1) bq (.slice Av ev.length cv) (.slice Ab bc.length cb'))) (ba w3 (.cells #[.int .i64 (ev.length : Int)] 3))).mono K3.out.size (fun _ _ h => h))).grownX hgrow8 (by simp; omega) (fun k hk => .inr (.inr (.inr (.inr (.inr (.inr hk)))))) (fun k hk => by
        obtain ⟨cs, T, f, h3⟩ := row_cells HJ3.out.brow k hk
        exact ⟨cs, T, f, ((ba w3 _).block k (Array.getElem?_eq_some_iff.1 h3).1).trans h3⟩)).setBlk (.inr (.inr (.inl rfl))) hr8 0 (.slice Ab8 (bc.length + 1) c8))
      have ho8 : Ow (w8.setCell ⟨w1.heap.size + 1, 0, none⟩ (.slice Ab8 (bc.length + 1) c8)) W.heap.size 51 6 A3 lv.length c3 (evC (lv.map zT)) := ((HO3.out.blk (fun g cs h => h.below (ba w3 (.cells #[.int .i64 (ev.length : Int)] 3)))).blk (fun g cs h => h.grown hgrow8 (blk_apart h (HJ3.out.brow.alloc _) (by decide)))).blk (fun g cs h => h.setOther (h.ne hr8 (by decide)) _ _)
      obtain ⟨g3, cur3, hA3, _, hB3, _, hn3'⟩ := ho8.2.2 lp
      subst hA3
      have HN := Lib.hid (fun (j : Nat) (u : Value) (hu : (evC (lv.map zT))[j]? = some u) => (show (w8.setCell ⟨w1.heap.size + 1, 0, none⟩ (.slice Ab8 (bc.length + 1) c8)).cell? ((⟨g3, 0, none⟩ : Addr).add j) = some u from by
        have h := hB3.cellOf hn3' hu
        by_cases hj : j = 0
        · subst hj
          simpa [Addr.add] using h
        · simpa [Addr.add, hj] using h))
      have r8 := hr8.cell 0
      have rf8 := hr8.frozen 0
      have rl8 := hr8.lt
      have q8 := HJ8.q.cell 2
      have ql8 := HJ8.q.lt
      simp at r8 q8
      have hz8 : W5.heap.size ≤ w8.heap.size := by have := HJ8.kx.size; simpa using this
      have HJ8 := Lib.hid HJ8
      have HSB8 := Lib.hid hsb8
      have K8 := Lib.hid K8
      clear hown8 hgrow8 hr8 hs8 hsb8 ho8 hB3 hn3'
      gi_wp2_with (gi_at_builtin; go_loud (refine wpListIn_append_own _ rfl _ _ 26 rfl W5.heap.size 51 i0 _ 6 56 Tryd.underlying26 hi hi0 hi1 hi2 rfl (by decide) (.slice Av ev.length cv) ev.length (evC (ev.map zT)) rfl HJ8.out.row ⟨g3, 0, none⟩ lv.length c3 (evC (lv.map zT)) rfl (evC_len2 lv) HN.out (evC_one _) (by unfold maxLen; omega) (by omega) (by simp; omega) ?_))
      intro v' w6 hown6 hgrow6 _
      obtain ⟨A6, c6, rfl⟩ := own_slice hown6
      obtain ⟨hq6, hs6, hk6, HJ6⟩ := HJ8.out.events lv hown6 hgrow6 HSB8.out hq5 (by omega) (by omega)
      have K9 := (K8.out.grownX hgrow6 (by have := K8.out.size; simpa using this) (fun k hk => .inr (.inr (.inr (.inr (.inr (.inl hk)))))) (row_cells HJ8.out.row)).setBlk (.inr (.inl rfl)) hq6 2 (.slice A6 (ev.length + lv.length) c6)
      have q6 := hq6.cell 2
      have qf6 := hq6.frozen 2
      have ql6 := hq6.lt
      simp at q6
      have HCL := Lib.hid (fun act => bk_close (xt := xt) (Ix := BkX w b (tpL P)) HJ0.out HJ6 K9 HG2.out (b1 := w1.heap.size) (Bp := w1.heap.size + 2) (by omega) (by omega) (by omega) (by omega) (by omega) hbq5 hsq5 hs5 hq5 hr5 act)
      clear hown6 hgrow6 hq6 hs6 hk6 HJ6 K9
      gi_wp2
      exact HCL.out _
  case done =>
    rintro D W hD ⟨v, bv, a, ha, HJ⟩ hK
    have hTP : (tpL P).take (tmL E 0 0 false false 0).length = tpL P := List.take_of_length_le (by rw [tmPL_len, hlenE, HQ.out]; exact Nat.le_refl _)
    rw [hTP] at ha
    have hAll : brAll b P = some a := ha
    obtain ⟨T, hbk, _, hTb⟩ := br_ok (bar := b) (by omega) P 0 0 false false 0 0 ⟨[], []⟩ a P.length HOK.out ⟨rfl, by simp, fun x hx => by simp at hx, fun y hy => by simp at hy⟩ (Nat.le_refl _) (by rw [show (tmPL P 0 0 false false 0).take P.length = tpL P from List.take_of_length_le (by rw [tmPL_len]; exact Nat.le_refl _)]; exact ha)
    have hRS : brRes b P = mvL a.bc P P.length a.ev := by unfold brRes; rw [hAll]
    have hER : brErr 0 b P = if 400 < a.ev.length then 2 else if (mvL a.bc P P.length a.ev).any htE then 24 else 0 := by
      unfold brErr
      rw [if_neg (by decide), if_neg (by omega), hAll]
    obtain ⟨ev, bc⟩ := a
    dsimp only at HJ hRS hER
    have hqP := HQ.out
    have o1 := hbk.bl
    have o2 := hbk.el
    have o5 := fun x hx => (hbk.be x hx).2
    have o4 : ∀ x ∈ bc, 0 ≤ x ∧ x ≤ 65536 := fun x hx => by
      have h1 := hbk.be x hx
      dsimp only at h1
      have h2 := hbk.el
      dsimp only at h2
      omega
    have o6 := hbk.eL
    dsimp only at o1 o2 o5 o6
    have hq5 : w1.heap.size + 2 < W5.heap.size := by omega
    have o3 : 0 < P.length → 0 < ev.length := fun h => by
      have hb0 : 0 < bc.length := by omega
      have h1 := hbk.be _ (List.getElem_mem hb0)
      dsimp only at h1
      omega
    obtain ⟨Ae, cE, rfl⟩ := own_slice HJ.row
    obtain ⟨Ab, cb', rfl⟩ := own_slice HJ.brow
    have hbl : bc.length = q := by omega
    have l5 := HLW.out.size
    have hBW : Below w.heap.size w W := HLW.out.trans (HJ.kx.belowB l5 (fun k h => by omega))
    have hkW : ∀ (g : Nat) (T : TypeId) (cs : Array Value), g < w1.heap.size → g ≠ w.heap.size + 1 → Blk W5 g T cs → Blk W g T cs := fun g T cs hg hg2 hb => (HJ.kx.block g hb.lt (fun h => by omega)).trans hb
    have hPB := hkW _ _ _ (by omega) (by omega) HBP.out
    have hSB := hkW _ _ _ (by omega) (by omega) HBS.out
    have hEB := hkW _ _ _ (by omega) (by omega) HBE.out
    have HDN : Hid (D ≠ w.heap.size + 2 ∧ D ≠ w.heap.size + 3) := ⟨by omega, by omega⟩
    have HDW : Hid (w.heap.size ≤ D) := by unfold Hid; omega
    by_cases hmany : 400 < ev.length
    · have HER : Hid (brErr 0 b P = 2) := by
        unfold Hid
        rw [hER, if_pos hmany]
      have HS := Lib.hid (And.intro hSB (And.intro hEB (And.intro hK hBW)))
      have q2 := HJ.q.cell 2
      simp at q2
      have hmi : (400 : Int) < (ev.length : Int) := by omega
      clear hRS hER hAll hbk HJ hPB hSB hEB hK hBW hkW o1 o2 o3 o4 o5 o6 hbl hTP ha hqP hlenE hz5 hTb
      have s0 := HS.out.1.cell 0
      have s1 := HS.out.1.cell 1
      have s2 := HS.out.1.cell 2
      have t0 := HS.out.2.1.cell 0
      have sf0 := HS.out.1.frozen 0
      have sf1 := HS.out.1.frozen 1
      have sf2 := HS.out.1.frozen 2
      have tf0 := HS.out.2.1.frozen 0
      have sl := HS.out.1.lt
      have tl := HS.out.2.1.lt
      simp at s0 s1 s2 t0
      gi_wp2
      obtain ⟨hs, ht, hKD, hlo⟩ := HS.out
      have hKD' : ((((W.setCell ⟨w.heap.size + 2, 0, none⟩ (.slice none 0 0)).setCell ⟨w.heap.size + 2, 1, none⟩ (.slice none 0 0)).setCell ⟨w.heap.size + 2, 2, none⟩ (.slice none 0 0)).setCell ⟨w.heap.size + 3, 0, none⟩ (.int .i64 2)).heap[D]? = some (.deferred (some [])) := by
        rw [Below.heap_setCell _ _ _ _ HDN.out.2, Below.heap_setCell _ _ _ _ HDN.out.1, Below.heap_setCell _ _ _ _ HDN.out.1, Below.heap_setCell _ _ _ _ HDN.out.1]
        exact hKD
      refine ⟨by simp, .inl ⟨_, _, rfl, run_takeDeferred hKD', ?_⟩⟩
      have hR0 := blk_put (l := D) (o' := .deferred none) ((((hs.set_ 0 (.slice none 0 0)).set_ 1 (.slice none 0 0)).set_ 2 (.slice none 0 0)).setOther (show w.heap.size + 2 ≠ w.heap.size + 3 by omega) 0 (.int .i64 2)) hKD' rfl
      have hR1 := blk_put (l := D) (o' := .deferred none) ((((ht.setOther (show w.heap.size + 3 ≠ w.heap.size + 2 by omega) 0 (.slice none 0 0)).setOther (show w.heap.size + 3 ≠ w.heap.size + 2 by omega) 1 (.slice none 0 0)).setOther (show w.heap.size + 3 ≠ w.heap.size + 2 by omega) 2 (.slice none 0 0)).set_ 0 (.int .i64 2)) hKD' rfl
      have z0 := hR0.cell 0
      have z1 := hR0.cell 1
      have z2 := hR0.cell 2
      have z3 := hR1.cell 0
      simp at z0 z1 z2 z3
      have hb := (((hlo.setCell (p := ⟨w.heap.size + 2, 0, none⟩) (by simp) (.slice none 0 0)).setCell (p := ⟨w.heap.size + 2, 1, none⟩) (by simp) (.slice none 0 0)).setCell (p := ⟨w.heap.size + 2, 2, none⟩) (by simp) (.slice none 0 0)).setCell (p := ⟨w.heap.size + 3, 0, none⟩) (by simp) (.int .i64 2)
      refine ⟨.tuple #[pcV none 0 0 none 0 0 none 0 0, .int .i64 2], ?_, ?_⟩
      · simp [results, Tryd.results21, go_sem, z0, z1, z2, z3]
      · rw [HER.out]
        exact ⟨none, 0, 0, none, 0, 0, none, 0, 0, rfl, by rw [oC_no (by decide), oC_no (by decide), oC_no (by decide)]; exact PcOw.nil_ _ _, hb.grown (grownBy_putObj' _ D _) hb.size (fun k e => by cases e; exact HDW.out)⟩
    have hmi : ¬ (400 : Int) < (ev.length : Int) := by omega
    rw [if_neg hmany] at hER
    have MV : Hid (Calls Tryd.prog 47 #[.slice A2 q cq, .slice Ae ev.length cE, .slice Ab q cb'] W fun e w' => (∃ v, e = .returned v) ∧ ∃ E', Kx (fun k => W5.heap.size ≤ k) W.heap.size W w' ∧ Kx (fun k => Ae = some ⟨k, 0, none⟩) W.heap.size W w' ∧ Ow w' W5.heap.size 51 6 Ae ev.length cE (evC E') ∧ CpE w' W5.heap.size E' (mvL bc P q ev) ∧ E'.length = (mvL bc P q ev).length) := by
      by_cases hq0 : q = 0
      · subst hq0
        have hev : ev = [] := List.length_eq_zero_iff.1 (by omega)
        subst hev
        refine (moveHolds_nil A2 cq _ Ab 0 cb' W).mono ?_
        rintro e w' ⟨h1, hb⟩
        exact ⟨h1, [], (Kx.of_below hb).mono (Nat.le_refl _) (fun _ _ h => h), Kx.of_below hb, (Ow.of_own HJ.row).below hb, fun j x y hx _ => by simp at hx, rfl⟩
      · have hpe : 0 < ev.length := o3 (by omega)
        have hrow := HJ.row
        rcases hrow.2 with ⟨_, e0⟩ | ⟨ge, cap, cu, e1, e2, e3, e4, e5, e6, e7⟩
        · omega
        injection e1 with e1 e8 e9
        subst e1 e9
        have hBg : Blk W ge 51 cu := e3
        obtain ⟨eb, off, f1, f2, _⟩ := HE3.out.2.2 (by omega)
        refine (moveHolds_any A2 q cq P W5.heap.size ge ev.length cE (ev.map zT) ev Ab cb' bc W ⟨Ow.of_own HJ.row, cpe_zT _ _ o6, by simp, Kx.refl _ _ _⟩ (by simp) HJ.kx.size hBg.lt (fun W' hx => ⟨(HPI.out W' (hBW.trans (hx.belowB hBW.size (fun k h => by omega)))).es, ?_⟩) (fun b o hb => by rw [f1] at hb; injection hb with hb; injection hb with hb; omega) (fun b o hb => ?_) (by omega) hqb HST.out (fun x hx => by have := o4 x hx; omega) (fun i hi hne => ⟨?_, ?_⟩)).mono ?_
        · have := HJ.brow
          rw [hbl] at this
          exact Sl_own (ownsRow_heap this (fun g hg => hx.block g (by have := (HJ.brow.lt g (by rw [hbl]; exact hg)).2; exact this) (fun e => by
            refine blk_apart hBg this (by decide) ?_
            rw [← e]
            exact hg.symm)))
        · intro e
          refine blk_apart hBg HJ.brow (by decide) ?_
          rw [hb, ← e]
          rfl
        · have hib : i < bc.length := by omega
          have hm : bc.getD i 0 ∈ bc := by
            rw [List.getD_eq_getElem?_getD, List.getElem?_eq_getElem hib]
            exact List.getElem_mem hib
          have h1 := o5 _ hm
          have h2 := o4 _ hm
          omega
        · intro s hs
          have := hold_in HV.out (show i < P.length by omega) s hs
          omega
        · rintro e w' ⟨h1, E', h2⟩
          exact ⟨h1, E', h2.kx.mono (Nat.le_refl _) (fun k _ h => by omega), h2.kx.mono (Nat.le_refl _) (fun k _ h => by rw [h]), h2.row, h2.cp, h2.len⟩
    have HEL : Hid (∀ y ∈ ev, y.L = []) := o6
    have HQB := Lib.hid HJ.q
    have HKX := Lib.hid HJ.kx
    have HSB := Lib.hid (And.intro hSB hEB)
    have HK := Lib.hid hK
    have HRS := Lib.hid hRS
    have HER0 := Lib.hid hER
    have HBL := Lib.hid hbl
    have HBW := Lib.hid hBW
    have p2 := hPB.cell 2
    have q2 := HJ.q.cell 2
    have r0 := HJ.r.cell 0
    simp at p2 q2 r0
    rw [hbl] at r0
    clear HJ hbk o1 o2 o3 o4 o5 o6 hRS hER hAll hPB hSB hEB hkW hbl hqP hlenE hK hBW hTP ha hz5 hTb
    gi_wp2_with (fail)
    refine ⟨trivial, ?_⟩
    gi_at_call 47
    refine (callsIn_wide.2 MV.out).mono ?_
    rintro e w2 ⟨⟨v2, rfl⟩, E', hKa, hKb, hO2, hC2, hl2⟩
    have hb2 : ∀ (g : Nat) (T : TypeId) (cs : Array Value), g < W5.heap.size → Blk W g T cs → Blk w2 g T cs := fun g T cs hg hb => (hKa.block g hb.lt (fun h => by omega)).trans hb
    have hQ2 := hb2 _ _ _ (by omega) HQB.out
    have q2' := hQ2.cell 2
    simp at q2'
    have hEs : EsIn w2 Ae ev.length cE (mvL bc P q ev) := ⟨by rw [mvL_len], E', ⟨hl2, fun j x y hx hy => by
      obtain ⟨h1, h2⟩ := hC2 j x y hx hy
      exact ⟨h1, by rw [h1.2.2.2.2.2]; exact h2.sl⟩⟩, hO2.sl⟩
    have CF := Lib.hid (conE_any Ae ev.length cE (mvL bc P q ev) w2 hEs (mvL_Lc HST.out _ _ (fun y hy => by rw [HEL.out y hy]; simp)) (by omega))
    have HM := Lib.hid (And.intro hKa (And.intro hKb (And.intro hO2 (And.intro hC2 (And.intro hl2 (And.intro hb2 hQ2))))))
    clear hKa hKb hO2 hC2 hl2 hb2 hQ2 hEs
    gi_wp2_with (fail)
    refine ⟨trivial, ?_⟩
    gi_at_call 51
    refine (callsIn_wide.2 CF.out).mono ?_
    rintro e w4 ⟨rfl, hb4⟩
    obtain ⟨hKa, hKb, hO2, hC2, hl2, hb2, hQ2⟩ := HM.out
    have hs4 := (hb2 _ _ _ (by omega) HSB.out.1).below hb4
    have he4 := (hb2 _ _ _ (by omega) HSB.out.2).below hb4
    have hKD4 : w4.heap[D]? = some (.deferred (some [])) := by
      have h1 := hKa.oth D _ HK.out rfl
      exact (hb4.block D (Array.getElem?_eq_some_iff.1 h1).1).trans h1
    have hlo4 : Below w.heap.size w w4 := (HBW.out.trans (hKa.belowB HBW.out.size (fun k h => by omega))).trans (hb4.mono (by have := HBW.out.size; have := hKa.size; omega))
    have HS := Lib.hid (And.intro hs4 (And.intro he4 (And.intro hKD4 hlo4)))
    have HQ4 := Lib.hid (hQ2.below hb4)
    have HB4 := Lib.hid hb4
    obtain ⟨bo, hbo⟩ : ∃ x, (mvL bc P q ev).any htE = x := ⟨_, rfl⟩
    rw [hbo]
    have hER2 := HER0.out
    rw [← HQ.out, hbo] at hER2
    clear hKa hKb hO2 hC2 hl2 hb2 hQ2 hs4 he4 hKD4 hlo4 hb4 hbo q2' q2 r0 p2
    cases bo with
    | true =>
      have HER : Hid (brErr 0 b P = 24) := hER2
      clear hER2
      have s0 := HS.out.1.cell 0
      have s1 := HS.out.1.cell 1
      have s2 := HS.out.1.cell 2
      have t0 := HS.out.2.1.cell 0
      have sf0 := HS.out.1.frozen 0
      have sf1 := HS.out.1.frozen 1
      have sf2 := HS.out.1.frozen 2
      have tf0 := HS.out.2.1.frozen 0
      have sl := HS.out.1.lt
      have tl := HS.out.2.1.lt
      simp at s0 s1 s2 t0
      gi_wp2
      obtain ⟨hs, ht, hKD, hlo⟩ := HS.out
      have hKD' : ((((w4.setCell ⟨w.heap.size + 2, 0, none⟩ (.slice none 0 0)).setCell ⟨w.heap.size + 2, 1, none⟩ (.slice none 0 0)).setCell ⟨w.heap.size + 2, 2, none⟩ (.slice none 0 0)).setCell ⟨w.heap.size + 3, 0, none⟩ (.int .i64 24)).heap[D]? = some (.deferred (some [])) := by
        rw [Below.heap_setCell _ _ _ _ HDN.out.2, Below.heap_setCell _ _ _ _ HDN.out.1, Below.heap_setCell _ _ _ _ HDN.out.1, Below.heap_setCell _ _ _ _ HDN.out.1]
        exact hKD
      refine ⟨by simp, .inl ⟨_, _, rfl, run_takeDeferred hKD', ?_⟩⟩
      have hR0 := blk_put (l := D) (o' := .deferred none) ((((hs.set_ 0 (.slice none 0 0)).set_ 1 (.slice none 0 0)).set_ 2 (.slice none 0 0)).setOther (show w.heap.size + 2 ≠ w.heap.size + 3 by omega) 0 (.int .i64 24)) hKD' rfl
      have hR1 := blk_put (l := D) (o' := .deferred none) ((((ht.setOther (show w.heap.size + 3 ≠ w.heap.size + 2 by omega) 0 (.slice none 0 0)).setOther (show w.heap.size + 3 ≠ w.heap.size + 2 by omega) 1 (.slice none 0 0)).setOther (show w.heap.size + 3 ≠ w.heap.size + 2 by omega) 2 (.slice none 0 0)).set_ 0 (.int .i64 24)) hKD' rfl
      have z0 := hR0.cell 0
      have z1 := hR0.cell 1
      have z2 := hR0.cell 2
      have z3 := hR1.cell 0
      simp at z0 z1 z2 z3
      have hb := (((hlo.setCell (p := ⟨w.heap.size + 2, 0, none⟩) (by simp) (.slice none 0 0)).setCell (p := ⟨w.heap.size + 2, 1, none⟩) (by simp) (.slice none 0 0)).setCell (p := ⟨w.heap.size + 2, 2, none⟩) (by simp) (.slice none 0 0)).setCell (p := ⟨w.heap.size + 3, 0, none⟩) (by simp) (.int .i64 24)
      refine ⟨.tuple #[pcV none 0 0 none 0 0 none 0 0, .int .i64 24], ?_, ?_⟩
      · simp [results, Tryd.results21, go_sem, z0, z1, z2, z3]
      · rw [HER.out]
        exact ⟨none, 0, 0, none, 0, 0, none, 0, 0, rfl, by rw [oC_no (by decide), oC_no (by decide), oC_no (by decide)]; exact PcOw.nil_ _ _, hb.grown (grownBy_putObj' _ D _) hb.size (fun k e => by cases e; exact HDW.out)⟩
    | false =>
      have HER : Hid (brErr 0 b P = 0) := hER2
      clear hER2
      have s0 := HS.out.1.cell 0
      have s1 := HS.out.1.cell 1
      have s2 := HS.out.1.cell 2
      have t0 := HS.out.2.1.cell 0
      have sf0 := HS.out.1.frozen 0
      have sf1 := HS.out.1.frozen 1
      have sf2 := HS.out.1.frozen 2
      have tf0 := HS.out.2.1.frozen 0
      have sl := HS.out.1.lt
      have tl := HS.out.2.1.lt
      have q0 := HQ4.out.cell 0
      have q1 := HQ4.out.cell 1
      have q2 := HQ4.out.cell 2
      simp at s0 s1 s2 t0 q0 q1 q2
      gi_wp2
      obtain ⟨hs, ht, hKD, hlo⟩ := HS.out
      have hKD' : ((((w4.setCell ⟨w.heap.size + 2, 0, none⟩ (.slice B n d)).setCell ⟨w.heap.size + 2, 1, none⟩ (.slice B' m d')).setCell ⟨w.heap.size + 2, 2, none⟩ (.slice Ae ev.length cE)).setCell ⟨w.heap.size + 3, 0, none⟩ (.int .i64 0)).heap[D]? = some (.deferred (some [])) := by
        rw [Below.heap_setCell _ _ _ _ HDN.out.2, Below.heap_setCell _ _ _ _ HDN.out.1, Below.heap_setCell _ _ _ _ HDN.out.1, Below.heap_setCell _ _ _ _ HDN.out.1]
        exact hKD
      refine ⟨by simp, .inl ⟨_, _, rfl, run_takeDeferred hKD', ?_⟩⟩
      have hR0 := blk_put (l := D) (o' := .deferred none) ((((hs.set_ 0 (.slice B n d)).set_ 1 (.slice B' m d')).set_ 2 (.slice Ae ev.length cE)).setOther (show w.heap.size + 2 ≠ w.heap.size + 3 by omega) 0 (.int .i64 0)) hKD' rfl
      have hR1 := blk_put (l := D) (o' := .deferred none) ((((ht.setOther (show w.heap.size + 3 ≠ w.heap.size + 2 by omega) 0 (.slice B n d)).setOther (show w.heap.size + 3 ≠ w.heap.size + 2 by omega) 1 (.slice B' m d')).setOther (show w.heap.size + 3 ≠ w.heap.size + 2 by omega) 2 (.slice Ae ev.length cE)).set_ 0 (.int .i64 0)) hKD' rfl
      have z0 := hR0.cell 0
      have z1 := hR0.cell 1
      have z2 := hR0.cell 2
      have z3 := hR1.cell 0
      simp at z0 z1 z2 z3
      have hb := (((hlo.setCell (p := ⟨w.heap.size + 2, 0, none⟩) (by simp) (.slice B n d)).setCell (p := ⟨w.heap.size + 2, 1, none⟩) (by simp) (.slice B' m d')).setCell (p := ⟨w.heap.size + 2, 2, none⟩) (by simp) (.slice Ae ev.length cE)).setCell (p := ⟨w.heap.size + 3, 0, none⟩) (by simp) (.int .i64 0)
      have hfin : ∀ (g : Nat) (T : TypeId) (cs : Array Value), g ≠ w.heap.size + 2 → g ≠ w.heap.size + 3 → Blk w4 g T cs → Blk (((((w4.setCell ⟨w.heap.size + 2, 0, none⟩ (.slice B n d)).setCell ⟨w.heap.size + 2, 1, none⟩ (.slice B' m d')).setCell ⟨w.heap.size + 2, 2, none⟩ (.slice Ae ev.length cE)).setCell ⟨w.heap.size + 3, 0, none⟩ (.int .i64 0)).putObj D (.deferred none)) g T cs := fun g T cs hg hg2 hb =>
        blk_put ((((hb.setOther hg _ _).setOther hg _ _).setOther hg _ _).setOther hg2 _ _) hKD' rfl
      obtain ⟨hKa, hKb, hO2, hC2, hl2, hb2, hQ2⟩ := HM.out
      have hkO : ∀ (g : Nat) (T : TypeId) (cs : Array Value), T ≠ 28 → T ≠ 32 → Blk w1 g T cs → g ≠ w.heap.size + 1 → Blk (((((w4.setCell ⟨w.heap.size + 2, 0, none⟩ (.slice B n d)).setCell ⟨w.heap.size + 2, 1, none⟩ (.slice B' m d')).setCell ⟨w.heap.size + 2, 2, none⟩ (.slice Ae ev.length cE)).setCell ⟨w.heap.size + 3, 0, none⟩ (.int .i64 0)).putObj D (.deferred none)) g T cs := fun g T cs hT hT2 hb hg1 => by
        have hg := hb.lt
        have h5 : Blk W5 g T cs := hb.below hW1
        have hW : Blk W g T cs := (HKX.out.block g (by omega) (fun h => by omega)).trans h5
        exact hfin g T cs (hb.ne (HBX.out.1.2.2.1.below HB1.out) hT) (hb.ne (HBX.out.1.2.2.2.below HB1.out) hT2) ((hb2 g T cs (by omega) hW).below HB4.out)
      refine ⟨.tuple #[pcV B n d B' m d' Ae ev.length cE, .int .i64 0], ?_, ?_⟩
      · simp [results, Tryd.results21, go_sem, z0, z1, z2, z3]
      · have hP0 := HPI.out w (Below.refl _ _)
        have hw0 : w.heap.size + 4 ≤ w0.heap.size := by have := HB0.out.size; have := HBX.out.2.2; omega
        have l5 := HLW.out.size
        rw [HER.out, HRS.out]
        refine ⟨B, n, d, B', m, d', Ae, ev.length, cE, rfl, ⟨?_, ?_, hP0.hn, hP0.hm, ?_, E', ?_, ?_, ?_⟩, ?_⟩
        · exact (HO1.out.blkB (fun g cs hg hb => hkO g _ _ (by decide) (by decide) hb (by omega))).more (by omega)
        · exact (HO2.out.blkB (fun g cs hg hb => hkO g _ _ (by decide) (by decide) hb (by omega))).more (by omega)
        · rw [oC_ok, mvL_len]
        · rw [oC_ok, ← HQ.out]
          exact hl2
        · rw [oC_ok, ← HQ.out]
          exact (hC2.blkB (fun g cs hg hb => hfin g _ _ (by omega) (by omega) (hb.below HB4.out))).more l5
        · exact (hO2.blkB (fun g cs hg hb => hfin g _ _ (by omega) (by omega) (hb.below HB4.out))).more l5
        · exact hb.grown (grownBy_putObj' _ D _) hb.size (fun k e => by cases e; exact HDW.out)
  case stop =>
    rintro D pre x W hD ⟨post, hpo⟩ HX hK
    have hno : brAll b P = none := by
      unfold brAll
      have h1 := HX.no
      have h2 : tpL P = (tpL P).take (pre ++ [x]).length ++ (tpL P).drop (pre ++ [x]).length := (List.take_append_drop _ _).symm
      rw [h2, brGo_app, h1]
      rfl
    have her : brErr 0 b P = 25 := by
      unfold brErr
      rw [if_neg (by decide), if_neg (by omega), hno]
    rw [her]
    have hR0 := blk_put (l := D) (o' := .deferred none) HX.r0 hK rfl
    have hR1 := blk_put (l := D) (o' := .deferred none) HX.r1 hK rfl
    have z0 := hR0.cell 0
    have z1 := hR0.cell 1
    have z2 := hR0.cell 2
    have z3 := hR1.cell 0
    simp at z0 z1 z2 z3
    have HLO := Lib.hid (HX.lo.grown (grownBy_putObj' W D (.deferred none)) HX.lo.size (fun k e => by cases e; have := HLW.out.size; omega))
    have HK := Lib.hid hK
    clear hK hno her HX hR0 hR1 hpo
    gi_wp2
    refine ⟨by simp, .inl ⟨_, _, rfl, run_takeDeferred HK.out, ?_⟩⟩
    refine ⟨.tuple #[pcV none 0 0 none 0 0 none 0 0, .int .i64 25], ?_, ?_⟩
    · simp [results, Tryd.results21, go_sem, z0, z1, z2, z3]
    · exact ⟨none, 0, 0, none, 0, 0, none, 0, 0, rfl, by rw [oC_no (by decide), oC_no (by decide), oC_no (by decide)]; exact PcOw.nil_ _ _, HLO.out⟩

set_option maxRecDepth 100000 in
set_option maxHeartbeats 3200000 in
theorem break_any (A : Option Addr) (n c : Nat) (A' : Option Addr) (m c' : Nat) (A2 : Option Addr) (q cq : Nat) (C : List Cr) (S : List Int) (P : List EvP) (b : Int) (w : World) (hP : PcIn w A n c A' m c' A2 q cq C S P) (hT : SgT w) (hnb : n ≤ 1000000) (hmb : m ≤ 1000000) (hqb : q ≤ 65536) (hst : ∀ y ∈ P, y.L.length ≤ 1000000) :
    Calls Tryd.prog 21 #[pcV A n c A' m c' A2 q cq, .int .i64 b] w (PcRes (brErr (pcErr C S P) b P) C S (brRes b P) w) := by
  obtain ⟨X, hX⟩ : ∃ X, pcErr C S P = X := ⟨_, rfl⟩
  have HP : Hid (∀ w', Below w.heap.size w w' → PcIn w' A n c A' m c' A2 q cq C S P) := fun w' hb => hP.below hb
  have HST := Lib.hid hst
  have HBX := Lib.hid (bbox w A n c A' m c' A2 q cq b)
  have HX := Lib.hid hX
  rw [hX]
  by_cases hX0 : X = 0
  · subst hX0
    by_cases hb1 : b < 1
    · have he : brErr 0 b P = 1 := by
        unfold brErr
        rw [if_neg (by decide), if_pos (.inl hb1)]
      rw [he]
      clear he hP hT hst hX
      go_enter Tryd.func21, Tryd.ntmps21
      go_wp2_with (go_at_call 35; refine (pcheck_any A n c A' m c' A2 q cq C S P _ (HP.out _ HBX.out.2.1) hnb hmb (by omega) HST.out).mono ?_; rintro e W1 ⟨rfl, hb1⟩; rw [HX.out]; have hP1 := HBX.out.1.1.below hb1; have hC1 := HBX.out.1.2.1.below hb1; have hs1 := HBX.out.1.2.2.1.below hb1; have ht1 := HBX.out.1.2.2.2.below hb1; have p0 := hP1.cell 0; have p1 := hP1.cell 1; have p2 := hP1.cell 2; have p3 := hC1.cell 0; have s0 := hs1.cell 0; have s1 := hs1.cell 1; have s2 := hs1.cell 2; have t0 := ht1.cell 0; have sf0 := hs1.frozen 0; have sf1 := hs1.frozen 1; have sf2 := hs1.frozen 2; have tf0 := ht1.frozen 0; have sl := hs1.lt; have tl := ht1.lt; simp at p0 p1 p2 p3 s0 s1 s2 t0; have HS := Lib.hid (And.intro hs1 (And.intro ht1 hb1)); clear hP1 hC1 hs1 ht1 hb1)
      obtain ⟨hs, ht, hb1⟩ := HS.out
      have hR0 := (((hs.set_ 0 (.slice none 0 0)).set_ 1 (.slice none 0 0)).set_ 2 (.slice none 0 0)).setOther (show w.heap.size + 2 ≠ w.heap.size + 3 by omega) 0 (.int .i64 1)
      have hR1 := (((ht.setOther (show w.heap.size + 3 ≠ w.heap.size + 2 by omega) 0 (.slice none 0 0)).setOther (show w.heap.size + 3 ≠ w.heap.size + 2 by omega) 1 (.slice none 0 0)).setOther (show w.heap.size + 3 ≠ w.heap.size + 2 by omega) 2 (.slice none 0 0)).set_ 0 (.int .i64 1)
      have z0 := hR0.cell 0
      have z1 := hR0.cell 1
      have z2 := hR0.cell 2
      have z3 := hR1.cell 0
      simp at z0 z1 z2 z3
      have hlo := bt HBX.out.2.1 hb1
      refine err_retW w _ 1 ((((hlo.setCell (p := ⟨w.heap.size + 2, 0, none⟩) (by simp) (.slice none 0 0)).setCell (p := ⟨w.heap.size + 2, 1, none⟩) (by simp) (.slice none 0 0)).setCell (p := ⟨w.heap.size + 2, 2, none⟩) (by simp) (.slice none 0 0)).setCell (p := ⟨w.heap.size + 3, 0, none⟩) (by simp) (.int .i64 1)) (by decide) ?_
      simp [results, Tryd.results21, go_sem, z0, z1, z2, z3]
    · by_cases hb2 : 4608 < b
      · have he : brErr 0 b P = 1 := by
          unfold brErr
          rw [if_neg (by decide), if_pos (.inr hb2)]
        rw [he]
        clear he hP hT hst hX
        go_enter Tryd.func21, Tryd.ntmps21
        go_wp2_with (go_at_call 35; refine (pcheck_any A n c A' m c' A2 q cq C S P _ (HP.out _ HBX.out.2.1) hnb hmb (by omega) HST.out).mono ?_; rintro e W1 ⟨rfl, hb1⟩; rw [HX.out]; have hP1 := HBX.out.1.1.below hb1; have hC1 := HBX.out.1.2.1.below hb1; have hs1 := HBX.out.1.2.2.1.below hb1; have ht1 := HBX.out.1.2.2.2.below hb1; have p0 := hP1.cell 0; have p1 := hP1.cell 1; have p2 := hP1.cell 2; have p3 := hC1.cell 0; have s0 := hs1.cell 0; have s1 := hs1.cell 1; have s2 := hs1.cell 2; have t0 := ht1.cell 0; have sf0 := hs1.frozen 0; have sf1 := hs1.frozen 1; have sf2 := hs1.frozen 2; have tf0 := ht1.frozen 0; have sl := hs1.lt; have tl := ht1.lt; simp at p0 p1 p2 p3 s0 s1 s2 t0; have HS := Lib.hid (And.intro hs1 (And.intro ht1 hb1)); clear hP1 hC1 hs1 ht1 hb1)
        obtain ⟨hs, ht, hb1⟩ := HS.out
        have hR0 := (((hs.set_ 0 (.slice none 0 0)).set_ 1 (.slice none 0 0)).set_ 2 (.slice none 0 0)).setOther (show w.heap.size + 2 ≠ w.heap.size + 3 by omega) 0 (.int .i64 1)
        have hR1 := (((ht.setOther (show w.heap.size + 3 ≠ w.heap.size + 2 by omega) 0 (.slice none 0 0)).setOther (show w.heap.size + 3 ≠ w.heap.size + 2 by omega) 1 (.slice none 0 0)).setOther (show w.heap.size + 3 ≠ w.heap.size + 2 by omega) 2 (.slice none 0 0)).set_ 0 (.int .i64 1)
        have z0 := hR0.cell 0
        have z1 := hR0.cell 1
        have z2 := hR0.cell 2
        have z3 := hR1.cell 0
        simp at z0 z1 z2 z3
        have hlo := bt HBX.out.2.1 hb1
        refine err_retW w _ 1 ((((hlo.setCell (p := ⟨w.heap.size + 2, 0, none⟩) (by simp) (.slice none 0 0)).setCell (p := ⟨w.heap.size + 2, 1, none⟩) (by simp) (.slice none 0 0)).setCell (p := ⟨w.heap.size + 2, 2, none⟩) (by simp) (.slice none 0 0)).setCell (p := ⟨w.heap.size + 3, 0, none⟩) (by simp) (.int .i64 1)) (by decide) ?_
        simp [results, Tryd.results21, go_sem, z0, z1, z2, z3]
      · obtain ⟨b', rfl⟩ := Int.eq_ofNat_of_zero_le (show 0 ≤ b by omega)
        exact break_fine A n c A' m c' A2 q cq C S P b' w hP hT hX (by omega) (by omega) hnb hmb hqb hst
  · have he : brErr X b P = X := by
      unfold brErr
      rw [if_pos hX0]
    rw [he]
    have hXb : (X != 0) = true := by simpa using hX0
    have HX0 := Lib.hid hX0
    clear he hP hT hst hX hX0
    go_enter Tryd.func21, Tryd.ntmps21
    go_wp2_with (go_at_call 35; refine (pcheck_any A n c A' m c' A2 q cq C S P _ (HP.out _ HBX.out.2.1) hnb hmb (by omega) HST.out).mono ?_; rintro e W1 ⟨rfl, hb1⟩; rw [HX.out]; have hP1 := HBX.out.1.1.below hb1; have hC1 := HBX.out.1.2.1.below hb1; have hs1 := HBX.out.1.2.2.1.below hb1; have ht1 := HBX.out.1.2.2.2.below hb1; have p0 := hP1.cell 0; have p1 := hP1.cell 1; have p2 := hP1.cell 2; have p3 := hC1.cell 0; have s0 := hs1.cell 0; have s1 := hs1.cell 1; have s2 := hs1.cell 2; have t0 := ht1.cell 0; have sf0 := hs1.frozen 0; have sf1 := hs1.frozen 1; have sf2 := hs1.frozen 2; have tf0 := ht1.frozen 0; have sl := hs1.lt; have tl := ht1.lt; simp at p0 p1 p2 p3 s0 s1 s2 t0; have HS := Lib.hid (And.intro hs1 (And.intro ht1 hb1)); clear hP1 hC1 hs1 ht1 hb1)
    obtain ⟨hs, ht, hb1⟩ := HS.out
    have hR0 := (((hs.set_ 0 (.slice none 0 0)).set_ 1 (.slice none 0 0)).set_ 2 (.slice none 0 0)).setOther (show w.heap.size + 2 ≠ w.heap.size + 3 by omega) 0 (.int .i64 X)
    have hR1 := (((ht.setOther (show w.heap.size + 3 ≠ w.heap.size + 2 by omega) 0 (.slice none 0 0)).setOther (show w.heap.size + 3 ≠ w.heap.size + 2 by omega) 1 (.slice none 0 0)).setOther (show w.heap.size + 3 ≠ w.heap.size + 2 by omega) 2 (.slice none 0 0)).set_ 0 (.int .i64 X)
    have z0 := hR0.cell 0
    have z1 := hR0.cell 1
    have z2 := hR0.cell 2
    have z3 := hR1.cell 0
    simp at z0 z1 z2 z3
    have hlo := bt HBX.out.2.1 hb1
    refine err_retW w _ X ((((hlo.setCell (p := ⟨w.heap.size + 2, 0, none⟩) (by simp) (.slice none 0 0)).setCell (p := ⟨w.heap.size + 2, 1, none⟩) (by simp) (.slice none 0 0)).setCell (p := ⟨w.heap.size + 2, 2, none⟩) (by simp) (.slice none 0 0)).setCell (p := ⟨w.heap.size + 3, 0, none⟩) (by simp) (.int .i64 X)) HX0.out ?_
    simp [results, Tryd.results21, go_sem, z0, z1, z2, z3]

end Go.Proofs.YtdhjigaocamglaaDoor
