/- What the reference's Parse returns for any text of up to 4,096 bytes. -/
import Derived.Test.YtdaeanjjmbibmaaDoorParse3
import Derived.Test.YtdaeanjjmbibmaaDoorRefCourse
import Derived.Test.YtdaeanjjmbibmaaDoorRefTune
namespace Go.Proofs.YtdaeanjjmbibmaaDoor
open Go.RowKit

/-- What holds behind k courses: the words lie as they did, the instrument's block holds the courses read so far. -/
def R1 (l : List UInt8) (W0 wr : World) (k : Nat) (A : Option Addr) (c : Nat) : Prop :=
  Below W0.heap.size W0 wr ∧ Blk wr (W0.heap.size) 25 #[.slice A k c, .slice none 0 0] ∧
    wr.ownsRow (W0.heap.size + 1) 75 3 (.slice A k c) k (crC ((rawC l).take k)) ∧ crsFE (preW l) = crsFE ((preW l).drop k)

theorem R1_start (l : List UInt8) (W0 : World) : R1 l W0 (W0.alloc zIn) 0 none 0 := by
  refine ⟨ba _ _, ?_, ⟨rfl, .inl ⟨rfl, rfl⟩⟩, rfl⟩
  have := heap_alloc_new W0 zIn
  simpa [Blk] using this

theorem R1_step {l : List UInt8} {W0 wr w2 w3 : World} {k : Nat} {A : Option Addr} {c : Nat} {v' : Value} {O1 O2 : Obj} {x : List UInt8} (h : R1 l W0 wr k A c) (hk : k < (preW l).length) (hxd : (preW l).getD k [] = x)
    (hx : crsE x = 0) (hb : Below wr.heap.size wr w2)
    (hown : w3.ownsRow (W0.heap.size + 1) 75 3 v' (k + 1) (crC ((rawC l).take k) ++ [.int .i64 (crsP x), .int .i64 (crsF x), .bool (crsO x)]))
    (hg : ((w2.alloc O1).alloc O2).grownBy w3 (Value.slice A k c).ownBlock) :
    ∃ A' c', v' = .slice A' (k + 1) c' ∧ w3.cell? ⟨W0.heap.size, 0, none⟩ = some (.slice A k c) ∧ w3.frozen? ⟨W0.heap.size, 0, none⟩ = false ∧
      R1 l W0 (w3.setCell ⟨W0.heap.size, 0, none⟩ (.slice A' (k + 1) c')) (k + 1) A' c' := by
  subst hxd
  obtain ⟨h1, h2, h3, h4⟩ := h
  obtain ⟨A', c', rfl⟩ := own_slice hown
  have hrow : ∀ g, (Value.slice A k c).ownBlock = some g → W0.heap.size + 1 ≤ g := fun g hh => (h3.lt g hh).1
  have hB : Blk w3 (W0.heap.size) 25 #[.slice A k c, .slice none 0 0] :=
    ((((h2.below hb).below (ba _ _)).below (ba _ _)).grown hg (fun e => by have := hrow _ e.symm; omega))
  have h1' := h1.trans ((hb.mono h1.size))
  refine ⟨A', c', rfl, by rw [hB.cell]; rfl, hB.frozen 0, ?_, ?_, ?_, ?_⟩
  · refine Below.setCell (Below.grown ((h1'.alloc h1'.size O1).alloc ?_ O2) hg ?_ ?_) ?_ _
    · have := (h1'.alloc h1'.size O1).size; exact this
    · have := ((h1'.alloc h1'.size O1).alloc (h1'.alloc h1'.size O1).size O2).size; exact this
    · intro g hh
      have := hrow g hh
      omega
    · exact Nat.le_refl _
  · exact hB.set_ 0 _
  · have e : crC ((rawC l).take (k + 1)) = crC ((rawC l).take k) ++ [.int .i64 (crsP ((preW l).getD k [])), .int .i64 (crsF ((preW l).getD k [])), .bool (crsO ((preW l).getD k []))] := by
      rw [rawC, ← List.map_take, ← List.map_take, take_snocW _ _ hk, List.map_append]; exact crC_snoc _ _
    rw [e]
    exact ownsRow_setCell_below hown (by simp) _
  · rw [h4, drop_consW _ _ hk, crsFE, if_pos hx]

/-- What holds behind k steps. -/
def R2 (l : List UInt8) (W0 wr : World) (A : Option Addr) (c : Nat) (k : Nat) (A' : Option Addr) (c' : Nat) : Prop :=
  Below W0.heap.size W0 wr ∧ Blk wr (W0.heap.size) 25 #[.slice A (rawC l).length c, .slice A' k c'] ∧
    wr.ownsRow (W0.heap.size + 1) 75 3 (.slice A (rawC l).length c) (rawC l).length (crC (rawC l)) ∧
    wr.ownsRow (W0.heap.size + 1) 3 1 (.slice A' k c') k (intC ((rawS l).take k)) ∧ stpFE (postW l) = stpFE ((postW l).drop k)

theorem R2_start {l : List UInt8} {W0 wr : World} {k : Nat} {A : Option Addr} {c : Nat} (h : R1 l W0 wr k A c) (hk : k = (rawC l).length) : R2 l W0 wr A c 0 none 0 := by
  subst hk
  obtain ⟨h1, h2, h3, _⟩ := h
  rw [List.take_length] at h3
  exact ⟨h1, h2, h3, ⟨rfl, .inl ⟨rfl, rfl⟩⟩, rfl⟩

theorem R2_step {l : List UInt8} {W0 wr w3 : World} {k : Nat} {A A1 : Option Addr} {c c1 : Nat} {v' : Value} {O1 : Obj} {x : List UInt8} (h : R2 l W0 wr A c k A1 c1) (hk : k < (postW l).length) (hxd : (postW l).getD k [] = x)
    (hx : numB x = true)
    (hown : w3.ownsRow (W0.heap.size + 1) 3 1 v' (k + 1) (intC ((rawS l).take k) ++ [.int .i64 (numV x)]))
    (hg : (wr.alloc O1).grownBy w3 (Value.slice A1 k c1).ownBlock) :
    ∃ A' c', v' = .slice A' (k + 1) c' ∧ w3.cell? ⟨W0.heap.size, 1, none⟩ = some (.slice A1 k c1) ∧ w3.frozen? ⟨W0.heap.size, 1, none⟩ = false ∧
      R2 l W0 (w3.setCell ⟨W0.heap.size, 1, none⟩ (.slice A' (k + 1) c')) A c (k + 1) A' c' := by
  subst hxd
  obtain ⟨h1, h2, h3, h4, h5⟩ := h
  obtain ⟨A', c', rfl⟩ := own_slice hown
  have hrow : ∀ g, (Value.slice A1 k c1).ownBlock = some g → W0.heap.size + 1 ≤ g := fun g hh => (h4.lt g hh).1
  have hB : Blk w3 (W0.heap.size) 25 #[.slice A (rawC l).length c, .slice A1 k c1] :=
    ((h2.below (ba _ _)).grown hg (fun e => by have := hrow _ e.symm; omega))
  refine ⟨A', c', rfl, by rw [hB.cell]; rfl, hB.frozen 1, ?_, ?_, ?_, ?_, ?_⟩
  · refine Below.setCell (Below.grown (h1.alloc h1.size O1) hg ?_ ?_) ?_ _
    · exact (h1.alloc h1.size O1).size
    · intro g hh
      have := hrow g hh
      omega
    · exact Nat.le_refl _
  · exact hB.set_ 1 _
  · have hap := own_apart h3 h4 (by decide)
    exact ownsRow_setCell_below ((h3.alloc O1).kept hg hap) (by simp) _
  · have e : intC ((rawS l).take (k + 1)) = intC ((rawS l).take k) ++ [.int .i64 (numV ((postW l).getD k []))] := by
      rw [rawS, ← List.map_take, ← List.map_take, take_snocW _ _ hk, List.map_append]; exact intC_snoc _ _
    rw [e]
    exact ownsRow_setCell_below hown (by simp) _
  · rw [h5, drop_consW _ _ hk, stpFE, if_pos hx]

theorem rparsePost_ok {l : List UInt8} {w W0 w' wr w4 : World} {A A1 : Option Addr} {c c1 : Nat} (hw0 : Below (w.alloc zIn).heap.size (w.alloc zIn) W0) (h : R2 l W0 wr A c (postW l).length A1 c1) (he : prsE l = 0) (hb : Below wr.heap.size wr w4)
    (hw : w' = (w4.setCell ⟨w.heap.size, 0, none⟩ (.slice A (rawC l).length c)).setCell ⟨w.heap.size, 1, none⟩ (.slice A1 (postW l).length c1)) :
    ParsePost l w (.returned (.tuple #[.agg #[.slice A (rawC l).length c, .slice A1 (postW l).length c1], .int .i64 0])) w' := by
  subst hw
  obtain ⟨h1, _, h3, h4, _⟩ := h
  have hrl : (rawS l).length = (postW l).length := by simp [rawS]
  rw [List.take_of_length_le (by omega)] at h4
  refine ⟨A, _, c, A1, _, c1, by rw [he], by rw [prsC, if_pos he], by rw [prsS, if_pos he, hrl], ?_, ?_, own_fresh h3 _ (by have := hw0.size; simp at this; omega), own_fresh h4 _ (by have := hw0.size; simp at this; omega), ?_⟩
  · rw [prsC, if_pos he]
    exact Sl_own (ownsRow_setCell_below (ownsRow_setCell_below (own_below h3 hb) (by have := hw0.size; simp at this ⊢; omega) _) (by have := hw0.size; simp at this ⊢; omega) _)
  · rw [prsS, if_pos he]
    exact Sl_own (ownsRow_setCell_below (ownsRow_setCell_below (own_below h4 hb) (by have := hw0.size; simp at this ⊢; omega) _) (by have := hw0.size; simp at this ⊢; omega) _)
  · exact ((bx (bt hw0 (bt h1 hb))).setCell (Nat.le_refl _) _).setCell (Nat.le_refl _) _


theorem rprsE_steps {l : List UInt8} {k : Nat} (hm : preOf (wrd l) < (wrd l).length) (h0 : crsFE (preW l) = 0) (h : stpFE (postW l) = stpFE ((postW l).drop k)) (hk : k < (postW l).length) {x : List UInt8} (hxd : (postW l).getD k [] = x) (hx : numB x = false) : prsE l = 4 := by
  rw [prsE, if_neg (by omega), if_neg (by rw [h0]; simp), if_pos ?_]
  rw [h, drop_consW _ _ hk, hxd, stpFE, if_neg (by rw [hx]; simp)]
  decide
theorem rprsE_end {l : List UInt8} {k : Nat} (hm : preOf (wrd l) < (wrd l).length) (h0 : crsFE (preW l) = 0) (h : stpFE (postW l) = stpFE ((postW l).drop k)) (hk : k = (postW l).length) : prsE l = chk (rawC l) (rawS l) := by
  rw [prsE, if_neg (by omega), if_neg (by rw [h0]; simp), if_neg ?_]
  rw [h, hk, List.drop_length]
  simp [stpFE]

/-- The words that the reference has cut: they lie below the world W0, whole. -/
theorem words_lie {l : List UInt8} {W0 : World} {base : Nat} {A : Option Addr} {c : Nat} (h : W0.ownsRow base 9 1 (.slice A (wrd l).length c) (wrd l).length (strC (wrd l))) :
    ∃ g, A = some ⟨g, 0, none⟩ ∧ ∀ wr, Below W0.heap.size W0 wr → ∀ j, j < (wrd l).length → wr.cell? ⟨g, j, none⟩ = some (.string ⟨((wrd l).getD j []).toArray⟩) ∧ g < wr.heap.size := by
  have hn : 0 < (wrd l).length := List.length_pos_iff.2 (wrd_ne l)
  have hS := Sl_own h
  obtain ⟨g, cap, cur, hv, _⟩ : ∃ g cap, ∃ cur : Array Value, Value.slice A (wrd l).length c = .slice (some ⟨g, 0, none⟩) (wrd l).length cap ∧ True := by
    rcases h.2 with ⟨_, h0⟩ | ⟨g, cap, cur, hv, _⟩
    · omega
    · exact ⟨g, cap, cur, hv, trivial⟩
  injection hv with h1 _ _
  subst h1
  refine ⟨g, rfl, fun wr hb j hj => ?_⟩
  obtain ⟨b, off, hA, hB, hc⟩ := (hS.below hb).2.2 hn
  injection hA with hA
  injection hA with e1 e2
  subst e1 e2
  have := hc j _ (strC_at _ j hj)
  rw [Nat.zero_add] at this
  exact ⟨this, hB⟩
theorem pre_get (l : List UInt8) (k : Nat) (h : k < preOf (wrd l)) : (preW l).getD k [] = (wrd l).getD k [] := by
  simp [preW, List.getD_eq_getElem?_getD, h]
theorem post_get (l : List UInt8) (k : Nat) : (postW l).getD k [] = (wrd l).getD (preOf (wrd l) + 1 + k) [] := by
  simp [postW, List.getD_eq_getElem?_getD, List.getElem?_drop]
theorem colon_no {x : List UInt8} (h : x ≠ [58]) : (x == [58]) = false := by simpa using h
theorem colon_yes {x : List UInt8} (h : x = [58]) : (x == [58]) = true := by simpa using h

set_option maxRecDepth 100000 in
set_option maxHeartbeats 16000000 in
theorem rparse_text (l : List UInt8) (w : World) (hs : l.length ≤ 4096) : Calls Tryd.prog 28 #[.string ⟨l.toArray⟩] w (ParsePost l w) := by
  have hwl : (wrd l).length ≤ 4097 := by have := wrd_len l; omega
  have hpo := preOf_le (wrd l)
  have hHit := Lib.hid (preOf_hit (wrd l))
  have hBef := Lib.hid (preOf_before (wrd l))
  have HS := Lib.hid hs
  clear hs
  go_enter Tryd.func28, Tryd.ntmps28
  go_wp2_with (go_at_call 63; refine (rwords_any l _ (by have := HS.out; omega)).mono ?_; rintro e w1 ⟨A, c, rfl, hown, hb1⟩)
  obtain ⟨g, rfl, hW⟩ := words_lie hown
  have HW := Lib.hid hW
  have HB1 := Lib.hid hb1
  clear hown hW hb1
  have hz1 : w.heap.size < w1.heap.size := by have := HB1.out.size; simp at this; omega
  go_loop [5] (fun i => ∃ k : Nat, i = .int .i64 k ∧ k ≤ preOf (wrd l)) (fun i => preOf (wrd l) - (intOf i).toNat)
  case atStart => exact ⟨0, rfl, by omega⟩
  case round =>
    obtain ⟨k, rfl, hk⟩ := hrel
    rcases Nat.lt_or_ge k (preOf (wrd l)) with hlt | hge
    · have g1 : (k : Int) < ((wrd l).length : Int) := by omega
      obtain ⟨c0, z0⟩ := HW.out _ (Below.refl _ _) k (by omega)
      have hne := colon_no (hBef.out k hlt)
      generalize (wrd l).getD k [] = x at c0 hne
      go_wp2_with (fail)
      go_round
      case rel => exact ⟨k + 1, by go_num, by omega⟩
      case measure => simp [intOf]; omega
    · have hkk : k = preOf (wrd l) := by omega
      rcases Nat.lt_or_ge k (wrd l).length with hkn | hkn
      · have g1 : (k : Int) < ((wrd l).length : Int) := by omega
        have g2 : ((k : Int) == ((wrd l).length : Int)) = false := by simp; omega
        obtain ⟨c0, z0⟩ := HW.out _ (Below.refl _ _) k (by omega)
        have hne : ((wrd l).getD k [] == [58]) = true := colon_yes (by rw [hkk]; exact hHit.out (by omega))
        generalize (wrd l).getD k [] = x0 at c0 hne
        have h : preOf (wrd l) < (wrd l).length := by omega
        have hpl : (preW l).length = k := by simp [preW]; omega
        have HK := Lib.hid hkk
        have HP := Lib.hid hpl
        have hPW : Hid (∀ j, j < k → (preW l).getD j [] = (wrd l).getD j []) := fun j hj => pre_get l j (by omega)
        have hQW : Hid (∀ j, (postW l).getD j [] = (wrd l).getD (k + 1 + j) []) := fun j => by rw [hkk]; exact post_get l j
        have hQL : Hid ((postW l).length = (wrd l).length - (k + 1)) := by unfold Hid; rw [hkk]; simp [postW]
        have wk1 : IntKind.i64.wrap ((k : Int) + 1) = (k : Int) + 1 := IntWalk.i64_in _ ⟨by omega, by omega⟩
        have HH := Lib.hid h
        obtain ⟨i0, ii1, ii2, ii3, ii4⟩ := info_parts Tryd.info60
        obtain ⟨j0, jj1, jj2, jj3, jj4⟩ := info_parts Tryd.info3'
        clear hkk hpl hge hk h hpo
        go_wp2_with (fail)
        generalize hN : (wrd l).length = N at *
        have HNN := Lib.hid hN
        clear hN
        go_loopw [7] (fun i wr => ∃ (q : Nat) (A : Option Addr) (c : Nat), q ≤ k ∧ i = .int .i64 q ∧ Hid (R1 l w1 wr q A c)) (fun i _ => k - (intOf i).toNat)
        case atStart => exact ⟨0, none, 0, by omega, rfl, R1_start l w1⟩
        case round =>
          obtain ⟨q, A, c', hq, rfl, HL⟩ := hrel
          have r0 := HL.out.2.1.cell 0
          have r1 := HL.out.2.1.cell 1
          have r2 := HL.out.2.1.frozen 0
          have hz := HL.out.2.1.lt
          simp at r0 r1
          by_cases hlt : q < k
          · have hqk : (q : Int) < (k : Int) := by omega
            obtain ⟨cq, zq⟩ := HW.out _ HL.out.1 q (by omega)
            have hxl : ((preW l).getD q []).length < 4294967200 := by have := pre_len l q; have := HS.out; omega
            rw [← hPW.out q hlt] at cq
            generalize hgx : (preW l).getD q [] = x at *
            have HG := Lib.hid hgx
            clear hgx
            rcases crsE_cases x with hx | hx | hx
            · have HX := Lib.hid hx
              clear hx
              go_wp2_with (first | (go_at_call 64; refine (rcourse_any _ _ hxl).mono ?_; rintro e w2 ⟨rfl, hb2⟩; rw [HX.out]; have rr0 := (HL.out.2.1.below hb2).cell 0; have hz2 := (HL.out.2.1.below hb2).lt; simp at rr0) | (at_builtin; refine wpList_append_own _ rfl _ _ 22 rfl (w1.heap.size + 1) 75 i0 _ 3 24 Tryd.underlying22 ii1 ii2 ii3 ii4 rfl (by decide) (.slice A q c') q _ rfl (((own_below HL.out.2.2.1 hb2).alloc _).alloc _) ⟨w2.heap.size + 1, 0, none⟩ 1 1 [.int .i64 (crsP x), .int .i64 (crsF x), .bool (crsO x)] rfl rfl ?c1 ?c2 ?c3 ?c4 ?c5 ?_))
              case c1 => exact World.news_of_block (cs := #[.int .i64 (crsP x), .int .i64 (crsF x), .bool (crsO x)]) (t := 75) (fr := (0, 0)) (by have := heap_alloc_new (w2.alloc (.cells #[.int .i64 (crsP x), .int .i64 (crsF x), .bool (crsO x)] 75)) (.cells #[.int .i64 (crsP x), .int .i64 (crsF x), .bool (crsO x)] 75); simpa using this)
              case c2 =>
                intro u hu
                simp at hu
                rcases hu with rfl | rfl | rfl <;> rfl
              case c3 => unfold maxLen; omega
              case c4 => omega
              case c5 => have := hz2; simp; omega
              intro v' w3 hown' hgrow _
              obtain ⟨A', c2, rfl, f0, f1, HL'⟩ := R1_step HL.out (by have := HP.out; omega) HG.out HX.out hb2 hown' hgrow
              have HLL := Lib.hid HL'
              clear HL' hown' hgrow
              go_wp2_with (fail)
              go_roundw
              case rel => exact ⟨q + 1, A', c2, by omega, by go_num, HLL⟩
              case measure => simp [intOf]; omega
            · have HX := Lib.hid hx
              have HE : Hid (prsE l = 4) := by
                unfold Hid
                rw [prsE, if_neg (by have := HH.out; have := HNN.out; omega)]
                have e : crsFE (preW l) = 4 := by rw [HL.out.2.2.2, drop_consW _ _ (by have := HP.out; omega), HG.out, crsFE, if_neg (by rw [HX.out]; decide), HX.out]
                rw [e]; rfl
              clear hx
              go_wp2_with (go_at_call 64; refine (rcourse_any _ _ hxl).mono ?_; rintro e w2 ⟨rfl, hb2⟩; rw [HX.out]; have hbT := bt HB1.out (bt HL.out.1 hb2); obtain ⟨s0, s1⟩ := keepb hbT 0; obtain ⟨s2, s3⟩ := keepb hbT 1; have hz2 : w.heap.size < w2.heap.size := (by have := hbT.size; simp at this; omega); simp at s0 s2)
              refine bodyPost_ret (v := .tuple #[.agg #[.slice none 0 0, .slice none 0 0], .int .i64 4]) ?_ rfl ?_
              · simp [results, Tryd.results28, go_sem, s0, s2, hz2]
                done
              · rw [← HE.out]
                refine parsePost_err (by rw [HE.out]; decide) ?_
                exact bal (((bx hbT).setCell (Nat.le_refl _) _).setCell (Nat.le_refl _) _) _
            · have HX := Lib.hid hx
              have HE : Hid (prsE l = 10) := by
                unfold Hid
                rw [prsE, if_neg (by have := HH.out; have := HNN.out; omega)]
                have e : crsFE (preW l) = 10 := by rw [HL.out.2.2.2, drop_consW _ _ (by have := HP.out; omega), HG.out, crsFE, if_neg (by rw [HX.out]; decide), HX.out]
                rw [e]; rfl
              clear hx
              go_wp2_with (go_at_call 64; refine (rcourse_any _ _ hxl).mono ?_; rintro e w2 ⟨rfl, hb2⟩; rw [HX.out]; have hbT := bt HB1.out (bt HL.out.1 hb2); obtain ⟨s0, s1⟩ := keepb hbT 0; obtain ⟨s2, s3⟩ := keepb hbT 1; have hz2 : w.heap.size < w2.heap.size := (by have := hbT.size; simp at this; omega); simp at s0 s2)
              refine bodyPost_ret (v := .tuple #[.agg #[.slice none 0 0, .slice none 0 0], .int .i64 10]) ?_ rfl ?_
              · simp [results, Tryd.results28, go_sem, s0, s2, hz2]
                done
              · rw [← HE.out]
                refine parsePost_err (by rw [HE.out]; decide) ?_
                exact bal (((bx hbT).setCell (Nat.le_refl _) _).setCell (Nat.le_refl _) _) _
          · have hqk : ¬ (q : Int) < (k : Int) := by omega
            have hqq : q = k := by omega
            have h00 : crsFE (preW l) = 0 := by rw [HL.out.2.2.2, hqq, ← HP.out, List.drop_length]; rfl
            have H00 := Lib.hid h00
            have hL2 := R2_start HL.out (by rw [hqq, ← HP.out]; simp [rawC])
            have HLA := Lib.hid hL2
            clear h00 hL2 hqq r0 r1 r2 HL
            go_wp2_with (fail)
            obtain ⟨wo, rfl⟩ : ∃ wo : World, wo = wr := ⟨_, rfl⟩
            go_loopw [10] (fun i wr => ∃ (q2 : Nat) (A' : Option Addr) (c2 : Nat), q2 ≤ N - (k + 1) ∧ i = .int .i64 ((k + 1 + q2 : Nat) : Int) ∧ Hid (R2 l w1 wr A c' q2 A' c2)) (fun i _ => N - (intOf i).toNat)
            case atStart => exact ⟨0, none, 0, by omega, by go_num, HLA⟩
            case round =>
              obtain ⟨q2, A1, c1, hq2, rfl, HL⟩ := hrel
              have r0 := HL.out.2.1.cell 0
              have r1 := HL.out.2.1.cell 1
              have r2 := HL.out.2.1.frozen 1
              have hz2 := HL.out.2.1.lt
              have hbT := bt HB1.out HL.out.1
              obtain ⟨s0, s1⟩ := keepb hbT 0
              obtain ⟨s2, s3⟩ := keepb hbT 1
              have hz3 : w.heap.size < wr.heap.size := by have := hbT.size; simp at this; omega
              have HBT := Lib.hid hbT
              simp at r0 r1 s0 s2
              clear hbT
              by_cases hlt2 : q2 < N - (k + 1)
              · have hqn : (((k + 1 + q2 : Nat) : Int)) < (N : Int) := by omega
                obtain ⟨cq, zq⟩ := HW.out _ HL.out.1 (k + 1 + q2) (by omega)
                rw [← hQW.out q2] at cq
                generalize hgx : (postW l).getD q2 [] = x at *
                have HG := Lib.hid hgx
                clear hgx
                cases hx : numB x with
                | true =>
                  have HX := Lib.hid hx
                  clear hx
                  go_wp2_with (first | (go_at_call 65; refine (rnumber_any _ _).mono ?_; rintro e w2 ⟨rfl, rfl⟩; rw [HX.out]) | (at_builtin; refine wpList_append_own _ rfl _ _ 23 rfl (w1.heap.size + 1) 3 j0 _ 1 8 Tryd.underlying23 jj1 jj2 jj3 jj4 rfl (by decide) (.slice A1 q2 c1) q2 _ rfl (HL.out.2.2.2.1.alloc _) ⟨wr.heap.size, 0, none⟩ 1 1 [.int .i64 (numV x)] rfl rfl ?d1 ?d2 ?d3 ?d4 ?d5 ?_))
                  case d1 => exact cell_one_new _ _ _
                  case d2 =>
                    intro u hu
                    simp at hu
                    rcases hu with rfl
                    rfl
                  case d3 => unfold maxLen; omega
                  case d4 => omega
                  case d5 => have := hz2; simp; omega
                  intro v' w3 hown' hgrow _
                  obtain ⟨A', c3, rfl, f0, f1, HL'⟩ := R2_step HL.out (by have := hQL.out; have := HNN.out; omega) HG.out HX.out hown' hgrow
                  have HLL := Lib.hid HL'
                  clear HL' hown' hgrow
                  go_wp2_with (fail)
                  go_roundw
                  case rel => exact ⟨q2 + 1, A', c3, by omega, by go_num, HLL⟩
                  case measure => simp [intOf]; omega
                | false =>
                  have HX := Lib.hid hx
                  have HE := Lib.hid (rprsE_steps (by have := HH.out; have := HNN.out; omega) H00.out HL.out.2.2.2.2 (by have := hQL.out; have := HNN.out; omega) HG.out hx)
                  clear hx
                  go_wp2_with (go_at_call 65; refine (rnumber_any _ _).mono ?_; rintro e w2 ⟨rfl, rfl⟩; rw [HX.out])
                  refine bodyPost_ret (v := .tuple #[.agg #[.slice none 0 0, .slice none 0 0], .int .i64 4]) ?_ rfl ?_
                  · simp [results, Tryd.results28, go_sem, s0, s2]
                    done
                  · rw [← HE.out]
                    refine parsePost_err (by rw [HE.out]; decide) ?_
                    exact ((bx HBT.out).setCell (Nat.le_refl _) _).setCell (Nat.le_refl _) _
              · have hqn : ¬ (((k + 1 + q2 : Nat) : Int)) < (N : Int) := by omega
                obtain rfl : q2 = (postW l).length := by have := hQL.out; have := HNN.out; omega
                clear hq2
                have hrl : (rawC l).length = k := by rw [rawC, List.length_map]; exact HP.out
                have hrs : (rawS l).length = (postW l).length := by simp [rawS]
                have b1 : (rawC l).length ≤ 65536 := by omega
                have b2 : (postW l).length ≤ 65536 := by have := hQL.out; have := HNN.out; omega
                have HSC := Lib.hid (Sl_own HL.out.2.2.1)
                have HSS : Hid (Sl wr wr.heap.size 1 A1 (postW l).length c1 (intC (rawS l))) := Sl_own (by have := HL.out.2.2.2.1; rw [List.take_of_length_le (by omega)] at this; exact this)
                have HEN := Lib.hid (rprsE_end (by have := HH.out; have := HNN.out; omega) H00.out HL.out.2.2.2.2 rfl)
                have HRS := Lib.hid hrs
                clear hrl hrs
                cases hev : decide (chk (rawC l) (rawS l) = 0) with
                | true =>
                  have HV2 : Hid (chk (rawC l) (rawS l) = 0) := Lib.hid (of_decide_eq_true hev)
                  clear hev
                  go_wp2_with (go_at_call 66; refine (rchecked_ok A A1 (rawC l).length c' (postW l).length c1 (rawC l) (rawS l) wr HSC.out HSS.out rfl HRS.out.symm b1 b2 HV2.out).mono ?_; rintro e w4 ⟨rfl, hb4⟩; obtain ⟨v0, v1⟩ := keepb (bt HBT.out hb4) 0; obtain ⟨v2, v3⟩ := keepb (bt HBT.out hb4) 1; have hz4 : w.heap.size < w4.heap.size := (by have := (bt HBT.out hb4).size; simp at this; omega); simp at v0 v2)
                  refine bodyPost_ret (v := .tuple #[.agg #[.slice A (rawC l).length c', .slice A1 (postW l).length c1], .int .i64 0]) ?_ rfl (rparsePost_ok HB1.out HL.out (by rw [HEN.out, HV2.out]) hb4 rfl)
                  simp [results, Tryd.results28, go_sem, v0, v2]
                  done
                | false =>
                  obtain ⟨ev, hev2⟩ : ∃ ev, chk (rawC l) (rawS l) = ev := ⟨_, rfl⟩
                  have hne : ¬ ev = 0 := by rw [hev2] at hev; simpa using hev
                  have HV2 := Lib.hid hev2
                  clear hev hev2
                  go_wp2_with (go_at_call 66; refine (rchecked_no A A1 (rawC l).length c' (postW l).length c1 (rawC l) (rawS l) ev wr HSC.out HSS.out rfl HRS.out.symm b1 b2 HV2.out hne).mono ?_; rintro e w4 ⟨rfl, hb4⟩; obtain ⟨v0, v1⟩ := keepb (bt HBT.out hb4) 0; obtain ⟨v2, v3⟩ := keepb (bt HBT.out hb4) 1; have hz4 : w.heap.size < w4.heap.size := (by have := (bt HBT.out hb4).size; simp at this; omega); simp at v0 v2)
                  refine bodyPost_ret (v := .tuple #[.agg #[.slice none 0 0, .slice none 0 0], .int .i64 ev]) ?_ rfl ?_
                  · simp [results, Tryd.results28, go_sem, v0, v2]
                    done
                  · rw [← HV2.out, ← HEN.out]
                    refine parsePost_err (by rw [HEN.out, HV2.out]; exact hne) ?_
                    exact ((bx (bt HBT.out hb4)).setCell (Nat.le_refl _) _).setCell (Nat.le_refl _) _
      · have g1 : ¬ (k : Int) < ((wrd l).length : Int) := by omega
        have g2 : ((k : Int) == ((wrd l).length : Int)) = true := by simp; omega
        have HE : Hid (prsE l = 4) := by unfold Hid; rw [prsE, if_pos (by omega)]
        obtain ⟨s0, s1⟩ := keepb HB1.out 0
        obtain ⟨s2, s3⟩ := keepb HB1.out 1
        simp at s0 s2
        go_wp2_with (fail)
        refine bodyPost_ret (v := .tuple #[.agg #[.slice none 0 0, .slice none 0 0], .int .i64 4]) ?_ rfl ?_
        · simp [results, Tryd.results28, go_sem, s0, s2]
          done
        · rw [← HE.out]
          refine parsePost_err (by rw [HE.out]; decide) ?_
          exact ((bx HB1.out).setCell (Nat.le_refl _) _).setCell (Nat.le_refl _) _

end Go.Proofs.YtdaeanjjmbibmaaDoor
