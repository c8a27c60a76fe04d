/- What the program's Parse returns for any text, second part: the two loops. -/
import Derived.Test.YtdaeanjjmbibmaaDoorParse2
import Derived.Deep.AppendLies
namespace Go.Proofs.YtdaeanjjmbibmaaDoor
open Go.RowKit

/-- What holds behind k courses: the words lie as they did, the instrument's block holds the courses read so far. -/
def L1 (l : List UInt8) (w wr : World) (k : Nat) (A : Option Addr) (c : Nat) : Prop :=
  Below ((w.alloc zIn).alloc (wObj l)).heap.size ((w.alloc zIn).alloc (wObj l)) wr ∧ Blk wr (w.heap.size + 1 + 1) 25 #[.slice A k c, .slice none 0 0] ∧
    wr.ownsRow (w.heap.size + 1 + 1 + 1) 75 3 (.slice A k c) k (crC ((rawC l).take k)) ∧ crsFE (preW l) = crsFE ((preW l).drop k)

theorem L1_start (l : List UInt8) (w : World) : L1 l w (((w.alloc zIn).alloc (wObj l)).alloc zIn) 0 none 0 := by
  refine ⟨ba _ _, ?_, ⟨rfl, .inl ⟨rfl, rfl⟩⟩, rfl⟩
  unfold Blk
  have := heap_alloc_new ((w.alloc zIn).alloc (wObj l)) zIn
  simpa using this

theorem word_cell {l : List UInt8} {w wr : World} (h : Below ((w.alloc zIn).alloc (wObj l)).heap.size ((w.alloc zIn).alloc (wObj l)) wr) (j : Nat) : wr.cell? ⟨w.heap.size + 1, j, none⟩ = (strC (wrd l))[j]? := by
  have := (keepb (w := w.alloc zIn) (cs := (strC (wrd l)).toArray) (t := 9) h j).1
  simpa using this
theorem pre_word (l : List UInt8) (k : Nat) (h : k < (preW l).length) : (strC (wrd l))[k]? = some (.string ⟨((preW l).getD k []).toArray⟩) := by
  have hp : (preW l).length ≤ (wrd l).length := by simp [preW]; omega
  have hk : k < preOf (wrd l) := by simp [preW] at h; omega
  rw [strC_at (wrd l) k (by omega)]
  simp [preW, hk]
theorem post_word (l : List UInt8) (k : Nat) (h : k < (postW l).length) : (strC (wrd l))[preOf (wrd l) + 1 + k]? = some (.string ⟨((postW l).getD k []).toArray⟩) := by
  have hk : preOf (wrd l) + 1 + k < (wrd l).length := by simp [postW] at h; omega
  rw [strC_at (wrd l) _ hk]
  simp [postW, List.getElem?_drop]

theorem crC_snoc (C : List Cr) (x : Cr) : crC (C ++ [x]) = crC C ++ [.int .i64 x.p, .int .i64 x.f, .bool x.o] := by simp [crC]
theorem take_snocW (L : List (List UInt8)) (k : Nat) (h : k < L.length) : L.take (k + 1) = L.take k ++ [L.getD k []] := by
  rw [List.take_add_one]; simp [List.getElem?_eq_getElem h]
theorem drop_consW (L : List (List UInt8)) (k : Nat) (h : k < L.length) : L.drop k = L.getD k [] :: L.drop (k + 1) := by
  rw [List.drop_eq_getElem_cons h]; simp [List.getElem?_eq_getElem h]
theorem L1_step {l : List UInt8} {w wr w2 w3 : World} {k : Nat} {A : Option Addr} {c : Nat} {v' : Value} {O1 O2 : Obj} {x : List UInt8} (h : L1 l w wr k A c) (hk : k < (preW l).length) (hxd : (preW l).getD k [] = x)
    (hx : crsE x = 0) (hb : Below wr.heap.size wr w2)
    (hown : w3.ownsRow (w.heap.size + 1 + 1 + 1) 75 3 v' (k + 1) (crC ((rawC l).take k) ++ [.int .i64 (crsP x), .int .i64 (crsF x), .bool (crsO x)]))
    (hg : ((w2.alloc O1).alloc O2).grownBy w3 (Value.slice A k c).ownBlock) :
    ∃ A' c', v' = .slice A' (k + 1) c' ∧ w3.cell? ⟨w.heap.size + 1 + 1, 0, none⟩ = some (.slice A k c) ∧ w3.frozen? ⟨w.heap.size + 1 + 1, 0, none⟩ = false ∧
      L1 l w (w3.setCell ⟨w.heap.size + 1 + 1, 0, none⟩ (.slice A' (k + 1) c')) (k + 1) A' c' := by
  subst hxd
  obtain ⟨h1, h2, h3, h4⟩ := h
  obtain ⟨A', c', rfl⟩ := own_slice hown
  have hrow : ∀ g, (Value.slice A k c).ownBlock = some g → w.heap.size + 1 + 1 + 1 ≤ g := fun g hh => (h3.lt g hh).1
  have hB : Blk w3 (w.heap.size + 1 + 1) 25 #[.slice A k c, .slice none 0 0] :=
    ((((h2.below hb).below (ba _ _)).below (ba _ _)).grown hg (fun e => by have := hrow _ e.symm; omega))
  have hsz : ((w.alloc zIn).alloc (wObj l)).heap.size = w.heap.size + 1 + 1 := by simp
  have h1' := h1.trans ((hb.mono h1.size))
  refine ⟨A', c', rfl, by rw [hB.cell]; rfl, hB.frozen 0, ?_, ?_, ?_, ?_⟩
  · refine Below.setCell (Below.grown ((h1'.alloc h1'.size O1).alloc ?_ O2) hg ?_ ?_) ?_ _
    · have := (h1'.alloc h1'.size O1).size; exact this
    · have := ((h1'.alloc h1'.size O1).alloc (h1'.alloc h1'.size O1).size O2).size; exact this
    · intro g hh
      have := hrow g hh
      rw [hsz]; omega
    · rw [hsz]; exact Nat.le_refl _
  · exact hB.set_ 0 _
  · have e : crC ((rawC l).take (k + 1)) = crC ((rawC l).take k) ++ [.int .i64 (crsP ((preW l).getD k [])), .int .i64 (crsF ((preW l).getD k [])), .bool (crsO ((preW l).getD k []))] := by
      rw [rawC, ← List.map_take, ← List.map_take, take_snocW _ _ hk, List.map_append]; exact crC_snoc _ _
    rw [e]
    exact ownsRow_setCell_below hown (by simp) _
  · rw [h4, drop_consW _ _ hk, crsFE, if_pos hx]

/-- What holds behind k steps. -/
def L2 (l : List UInt8) (w wr : World) (A : Option Addr) (c : Nat) (k : Nat) (A' : Option Addr) (c' : Nat) : Prop :=
  Below ((w.alloc zIn).alloc (wObj l)).heap.size ((w.alloc zIn).alloc (wObj l)) wr ∧ Blk wr (w.heap.size + 1 + 1) 25 #[.slice A (rawC l).length c, .slice A' k c'] ∧
    wr.ownsRow (w.heap.size + 1 + 1 + 1) 75 3 (.slice A (rawC l).length c) (rawC l).length (crC (rawC l)) ∧
    wr.ownsRow (w.heap.size + 1 + 1 + 1) 3 1 (.slice A' k c') k (intC ((rawS l).take k)) ∧ stpFE (postW l) = stpFE ((postW l).drop k)

theorem L2_start {l : List UInt8} {w wr : World} {k : Nat} {A : Option Addr} {c : Nat} (h : L1 l w wr k A c) (hk : k = (rawC l).length) : L2 l w wr A c 0 none 0 := by
  subst hk
  obtain ⟨h1, h2, h3, _⟩ := h
  rw [List.take_length] at h3
  exact ⟨h1, h2, h3, ⟨rfl, .inl ⟨rfl, rfl⟩⟩, rfl⟩

theorem own_apart {w : World} {base base2 : Nat} {e e2 : TypeId} {s s2 : Nat} {v v2 : Value} {n n2 : Nat} {xs xs2 : List Value} (h : w.ownsRow base e s v n xs) (h2 : w.ownsRow base2 e2 s2 v2 n2 xs2) (hne : e ≠ e2) :
    v.ownBlock = none ∨ v.ownBlock ≠ v2.ownBlock := by
  rcases h.2 with ⟨rfl, _⟩ | ⟨g, cap, cur, rfl, _, hh, _⟩
  · exact .inl rfl
  · rcases h2.2 with ⟨rfl, _⟩ | ⟨g2, cap2, cur2, rfl, _, hh2, _⟩
    · exact .inr (by intro hc; cases hc)
    · refine .inr fun hc => ?_
      have : g = g2 := by simpa [Value.ownBlock] using hc
      subst this
      rw [hh] at hh2
      injection hh2 with hh2
      injection hh2 with _ he
      exact hne he

theorem intC_snoc (S : List Int) (x : Int) : intC (S ++ [x]) = intC S ++ [.int .i64 x] := by simp [intC]

theorem L2_step {l : List UInt8} {w wr w3 : World} {k : Nat} {A A1 : Option Addr} {c c1 : Nat} {v' : Value} {O1 : Obj} {x : List UInt8} (h : L2 l w wr A c k A1 c1) (hk : k < (postW l).length) (hxd : (postW l).getD k [] = x)
    (hx : numB x = true)
    (hown : w3.ownsRow (w.heap.size + 1 + 1 + 1) 3 1 v' (k + 1) (intC ((rawS l).take k) ++ [.int .i64 (numV x)]))
    (hg : (wr.alloc O1).grownBy w3 (Value.slice A1 k c1).ownBlock) :
    ∃ A' c', v' = .slice A' (k + 1) c' ∧ w3.cell? ⟨w.heap.size + 1 + 1, 1, none⟩ = some (.slice A1 k c1) ∧ w3.frozen? ⟨w.heap.size + 1 + 1, 1, none⟩ = false ∧
      L2 l w (w3.setCell ⟨w.heap.size + 1 + 1, 1, none⟩ (.slice A' (k + 1) c')) A c (k + 1) A' c' := by
  subst hxd
  obtain ⟨h1, h2, h3, h4, h5⟩ := h
  obtain ⟨A', c', rfl⟩ := own_slice hown
  have hrow : ∀ g, (Value.slice A1 k c1).ownBlock = some g → w.heap.size + 1 + 1 + 1 ≤ g := fun g hh => (h4.lt g hh).1
  have hB : Blk w3 (w.heap.size + 1 + 1) 25 #[.slice A (rawC l).length c, .slice A1 k c1] :=
    ((h2.below (ba _ _)).grown hg (fun e => by have := hrow _ e.symm; omega))
  have hsz : ((w.alloc zIn).alloc (wObj l)).heap.size = w.heap.size + 1 + 1 := by simp
  refine ⟨A', c', rfl, by rw [hB.cell]; rfl, hB.frozen 1, ?_, ?_, ?_, ?_, ?_⟩
  · refine Below.setCell (Below.grown (h1.alloc h1.size O1) hg ?_ ?_) ?_ _
    · exact (h1.alloc h1.size O1).size
    · intro g hh
      have := hrow g hh
      rw [hsz]; omega
    · rw [hsz]; exact Nat.le_refl _
  · exact hB.set_ 1 _
  · have hap := own_apart h3 h4 (by decide)
    exact ownsRow_setCell_below ((h3.alloc O1).kept hg hap) (by simp) _
  · have e : intC ((rawS l).take (k + 1)) = intC ((rawS l).take k) ++ [.int .i64 (numV ((postW l).getD k []))] := by
      rw [rawS, ← List.map_take, ← List.map_take, take_snocW _ _ hk, List.map_append]; exact intC_snoc _ _
    rw [e]
    exact ownsRow_setCell_below hown (by simp) _
  · rw [h5, drop_consW _ _ hk, stpFE, if_pos hx]

theorem prsE_steps {l : List UInt8} {w wr : World} {A A1 : Option Addr} {c c1 k : Nat} (hm : preOf (wrd l) < (wrd l).length) (h0 : crsFE (preW l) = 0) (h : L2 l w wr A c k A1 c1) (hk : k < (postW l).length) {x : List UInt8} (hxd : (postW l).getD k [] = x) (hx : numB x = false) : prsE l = 4 := by
  rw [prsE, if_neg (by omega), if_neg (by rw [h0]; simp), if_pos ?_]
  rw [h.2.2.2.2, drop_consW _ _ hk, hxd, stpFE, if_neg (by rw [hx]; simp)]
  decide
theorem prsE_end {l : List UInt8} {w wr : World} {A A1 : Option Addr} {c c1 k : Nat} (hm : preOf (wrd l) < (wrd l).length) (h0 : crsFE (preW l) = 0) (h : L2 l w wr A c k A1 c1) (hk : k = (postW l).length) : prsE l = chk (rawC l) (rawS l) := by
  rw [prsE, if_neg (by omega), if_neg (by rw [h0]; simp), if_neg ?_]
  rw [h.2.2.2.2, hk, List.drop_length]
  simp [stpFE]
theorem parsePost_ok {l : List UInt8} {w w' wr w4 : World} {A A1 : Option Addr} {c c1 : Nat} (h : L2 l w wr A c (postW l).length A1 c1) (he : prsE l = 0) (hb : Below wr.heap.size wr w4)
    (hw : w' = (w4.setCell ⟨w.heap.size, 0, none⟩ (.slice A (rawC l).length c)).setCell ⟨w.heap.size, 1, none⟩ (.slice A1 (postW l).length c1)) :
    ParsePost l w (.returned (.tuple #[.agg #[.slice A (rawC l).length c, .slice A1 (postW l).length c1], .int .i64 0])) w' := by
  subst hw
  obtain ⟨h1, _, h3, h4, _⟩ := h
  have hrl : (rawS l).length = (postW l).length := by simp [rawS]
  rw [List.take_of_length_le (by omega)] at h4
  refine ⟨A, _, c, A1, _, c1, by rw [he], by rw [prsC, if_pos he], by rw [prsS, if_pos he, hrl], ?_, ?_, own_fresh h3 _ (by omega), own_fresh h4 _ (by omega), ?_⟩
  · rw [prsC, if_pos he]
    exact Sl_own (ownsRow_setCell_below (ownsRow_setCell_below (own_below h3 hb) (by simp; omega) _) (by simp; omega) _)
  · rw [prsS, if_pos he]
    exact Sl_own (ownsRow_setCell_below (ownsRow_setCell_below (own_below h4 hb) (by simp; omega) _) (by simp; omega) _)
  · exact ((bx (bt (ba (w.alloc zIn) (wObj l)) (bt h1 hb))).setCell (Nat.le_refl _) _).setCell (Nat.le_refl _) _

theorem crsE_cases (x : List UInt8) : crsE x = 0 ∨ crsE x = 4 ∨ crsE x = 10 := by
  unfold crsE
  split
  · exact nmE_cases _
  · simp

theorem wrd_mem : ∀ (l : List UInt8) (x : List UInt8), x ∈ wrd l → x.length ≤ l.length
  | [], x, h => by simp [wrd] at h; subst h; simp
  | c :: r, x, h => by
    unfold wrd at h
    split at h
    · rcases List.mem_cons.1 h with rfl | h
      · simp
      · have := wrd_mem r x h; simp; omega
    · split at h
      · simp at h; subst h; simp
      · rename_i y ys hy
        rcases List.mem_cons.1 h with rfl | h
        · have := wrd_mem r y (by rw [hy]; simp); simp; omega
        · have := wrd_mem r x (by rw [hy]; simp [h]); simp; omega
theorem getD_len (L : List (List UInt8)) (k N : Nat) (h : ∀ x ∈ L, x.length ≤ N) : (L.getD k []).length ≤ N := by
  rcases Nat.lt_or_ge k L.length with hk | hk
  · have e : L.getD k [] = L[k] := by rw [List.getD_eq_getElem?_getD, List.getElem?_eq_getElem hk]; rfl
    rw [e]; exact h _ (List.getElem_mem hk)
  · rw [List.getD_eq_getElem?_getD, List.getElem?_eq_none hk]; simp
theorem pre_len (l : List UInt8) (k : Nat) : ((preW l).getD k []).length ≤ l.length := getD_len _ _ _ fun x hx => wrd_mem l x (List.mem_of_mem_take hx)
theorem post_len (l : List UInt8) (k : Nat) : ((postW l).getD k []).length ≤ l.length := getD_len _ _ _ fun x hx => wrd_mem l x (List.mem_of_mem_drop hx)

set_option maxRecDepth 100000 in
set_option maxHeartbeats 1600000 in
theorem parse_mark (l : List UInt8) (w : World) (E : Env w) (hs : l.length < 4294967200) (h : preOf (wrd l) < (wrd l).length) :
    Calls Tryd.prog 27 #[.string ⟨l.toArray⟩] w (ParsePost l w) := by
  have hN : (wrd l).length ≤ 4294967201 := by have := wrd_len l; omega
  have HI := Lib.hid (mark_any l w (by omega))
  have HV : Hid ((if preOf (wrd l) < (wrd l).length then (preOf (wrd l) : Int) else -1) = preOf (wrd l)) := if_pos h
  have HS := Lib.hid hs
  have E1 := E.alloc zIn
  have hpl : (preW l).length = preOf (wrd l) := by simp [preW]; omega
  have HP := Lib.hid hpl
  have h0 : (0 : Int) ≤ (preOf (wrd l) : Int) := by omega
  obtain ⟨i0, ii1, ii2, ii3, ii4⟩ := info_parts Tryd.info60
  have E2 : Hid (Env ((w.alloc zIn).alloc (wObj l))) := E1.alloc (wObj l)
  clear hs hpl
  go_enter Tryd.func27, Tryd.ntmps27
  go_wp2_with (first | (go_at_call 59; refine (split_any l _ E1 (by have := HS.out; omega)).mono ?_; rintro e w1 ⟨rfl, rfl⟩) | (go_at_call 60; refine HI.out.mono ?_; rintro e w1 ⟨rfl, rfl⟩; rw [HV.out]))
  go_loopw [27] (fun i wr => ∃ (k : Nat) (A : Option Addr) (c : Nat), k ≤ preOf (wrd l) ∧ i = .int .i64 k ∧ L1 l w wr k A c) (fun i _ => preOf (wrd l) - (intOf i).toNat)
  case atStart => exact ⟨0, none, 0, by omega, rfl, L1_start l w⟩
  case round =>
    obtain ⟨k, A, c, hk, rfl, hL⟩ := hrel
    have HL := Lib.hid hL
    have Ew := E2.out.below hL.1
    have hcell := word_cell hL.1 k
    have r0 := hL.2.1.cell 0
    have r1 := hL.2.1.cell 1
    have r2 := hL.2.1.frozen 0
    have hz := hL.2.1.lt
    simp at r0 r1
    clear hL
    by_cases hlt : k < preOf (wrd l)
    · rw [pre_word l k (by have := HP.out; omega)] at hcell
      have hxl : ((preW l).getD k []).length < 4294967281 := by have := pre_len l k; have := HS.out; omega
      generalize hgx : (preW l).getD k [] = x at *
      have HG := Lib.hid hgx
      clear hgx
      rcases crsE_cases x with hx | hx | hx
      · have HX := Lib.hid hx
        clear hx
        go_wp2_with (first | (go_at_call 61; refine (parseCourse_any _ _ Ew hxl).mono ?_; rintro e w2 ⟨rfl, hb2⟩; rw [HX.out]; have rr0 := (HL.out.2.1.below hb2).cell 0; have hz2 := (HL.out.2.1.below hb2).lt; simp at rr0) | (at_builtin; refine wpList_append_own _ rfl _ _ 22 rfl (w.heap.size + 1 + 1 + 1) 75 i0 _ 3 24 Tryd.underlying22 ii1 ii2 ii3 ii4 rfl (by decide) (.slice A k c) k _ rfl (((own_below HL.out.2.2.1 hb2).alloc _).alloc _) ⟨w2.heap.size + 1, 0, none⟩ 1 1 [.int .i64 (crsP x), .int .i64 (crsF x), .bool (crsO x)] rfl rfl ?c1 ?c2 ?c3 ?c4 ?c5 ?_))
        case c1 => exact World.news_of_block (cs := #[.int .i64 (crsP x), .int .i64 (crsF x), .bool (crsO x)]) (t := 75) (fr := (0, 0)) (by have := heap_alloc_new (w2.alloc (.cells #[.int .i64 (crsP x), .int .i64 (crsF x), .bool (crsO x)] 75)) (.cells #[.int .i64 (crsP x), .int .i64 (crsF x), .bool (crsO x)] 75); simpa using this)
        case c2 =>
          intro u hu
          simp at hu
          rcases hu with rfl | rfl | rfl <;> rfl
        case c3 => unfold maxLen; omega
        case c4 => omega
        case c5 => have := hz2; simp; omega
        intro v' w3 hown' hgrow _
        obtain ⟨A', c', rfl, f0, f1, HL'⟩ := L1_step HL.out (by have := HP.out; omega) HG.out HX.out hb2 hown' hgrow
        have HLL := Lib.hid HL'
        clear HL' hown' hgrow
        go_wp2_with (fail)
        go_roundw
        case rel => exact ⟨k + 1, A', c', by omega, by go_num, HLL.out⟩
        case measure => simp [intOf]; omega
      · have HX := Lib.hid hx
        have HE : Hid (prsE l = 4) := by
          unfold Hid
          rw [prsE, if_neg (by omega)]
          have e : crsFE (preW l) = 4 := by rw [HL.out.2.2.2, drop_consW _ _ (by have := HP.out; omega), HG.out, crsFE, if_neg (by rw [HX.out]; decide), HX.out]
          rw [e]; rfl
        clear hx
        go_wp2_with (first | (go_at_call 61; refine (parseCourse_any _ _ Ew hxl).mono ?_; rintro e w2 ⟨rfl, hb2⟩; rw [HX.out]; have hbT := bt HL.out.1 hb2; obtain ⟨s0, s1⟩ := keepb (bt (ba (w.alloc zIn) (wObj l)) hbT) 0; obtain ⟨s2, s3⟩ := keepb (bt (ba (w.alloc zIn) (wObj l)) hbT) 1; have hz2 : w.heap.size < w2.heap.size := (by have := (bt (ba (w.alloc zIn) (wObj l)) hbT).size; simp at this; omega); simp at s0 s2))
        refine bodyPost_ret (v := .tuple #[.agg #[.slice none 0 0, .slice none 0 0], .int .i64 4]) ?_ rfl ?_
        · simp [results, Tryd.results27, go_sem, s0, s2, hz2]
          done
        · rw [← HE.out]
          refine parsePost_err (by rw [HE.out]; decide) ?_
          have hq := bx (bt (ba (w.alloc zIn) (wObj l)) hbT)
          exact bal ((hq.setCell (Nat.le_refl _) _).setCell (Nat.le_refl _) _) _
      · have HX := Lib.hid hx
        have HE : Hid (prsE l = 10) := by
          unfold Hid
          rw [prsE, if_neg (by omega)]
          have e : crsFE (preW l) = 10 := by rw [HL.out.2.2.2, drop_consW _ _ (by have := HP.out; omega), HG.out, crsFE, if_neg (by rw [HX.out]; decide), HX.out]
          rw [e]; rfl
        clear hx
        go_wp2_with (first | (go_at_call 61; refine (parseCourse_any _ _ Ew hxl).mono ?_; rintro e w2 ⟨rfl, hb2⟩; rw [HX.out]; have hbT := bt HL.out.1 hb2; obtain ⟨s0, s1⟩ := keepb (bt (ba (w.alloc zIn) (wObj l)) hbT) 0; obtain ⟨s2, s3⟩ := keepb (bt (ba (w.alloc zIn) (wObj l)) hbT) 1; have hz2 : w.heap.size < w2.heap.size := (by have := (bt (ba (w.alloc zIn) (wObj l)) hbT).size; simp at this; omega); simp at s0 s2))
        refine bodyPost_ret (v := .tuple #[.agg #[.slice none 0 0, .slice none 0 0], .int .i64 10]) ?_ rfl ?_
        · simp [results, Tryd.results27, go_sem, s0, s2, hz2]
          done
        · rw [← HE.out]
          refine parsePost_err (by rw [HE.out]; decide) ?_
          have hq := bx (bt (ba (w.alloc zIn) (wObj l)) hbT)
          exact bal ((hq.setCell (Nat.le_refl _) _).setCell (Nat.le_refl _) _) _
    · have hkk : k = preOf (wrd l) := by omega
      have h00 : crsFE (preW l) = 0 := by rw [HL.out.2.2.2, hkk, ← HP.out, List.drop_length]; rfl
      have H00 := Lib.hid h00
      have hL2 := L2_start HL.out (by rw [hkk, ← HP.out]; simp [rawC])
      have HLA := Lib.hid hL2
      have hql : (postW l).length = (wrd l).length - (preOf (wrd l) + 1) := by simp [postW]
      have HQ := Lib.hid hql
      clear h00 hL2 hcell hkk hql r0 r1 r2 HL i0 ii1 ii2 ii3 ii4
      obtain ⟨i0, ii1, ii2, ii3, ii4⟩ := info_parts Tryd.info3'
      by_cases hq : (wrd l).length = preOf (wrd l) + 1
      · have hp0 : (postW l).length = 0 := by have := HQ.out; omega
        have HL : Hid (L2 l w wr A c (postW l).length none 0) := by unfold Hid; rw [hp0]; exact HLA.out
        have r0 := HL.out.2.1.cell 0
        have r1 := HL.out.2.1.cell 1
        have hz2 := HL.out.2.1.lt
        simp at r0 r1
        clear hp0 HLA
        have hrl : (rawC l).length = preOf (wrd l) := by rw [rawC, List.length_map]; exact HP.out
        have hrs : (rawS l).length = (postW l).length := by simp [rawS]
        have b1 : (rawC l).length ≤ 9223372036854775807 := by omega
        have b2 : (postW l).length ≤ 9223372036854775807 := by have := HQ.out; omega
        have HCK := Lib.hid (check_any A none (rawC l).length c (postW l).length 0 (rawC l) (rawS l) wr (Sl_own HL.out.2.2.1) (Sl_own (by have := HL.out.2.2.2.1; rw [List.take_of_length_le (by omega)] at this; exact this)) rfl hrs.symm b1 b2)
        have HEN := Lib.hid (prsE_end h H00.out HL.out rfl)
        clear hrl hrs
        cases hev : decide (chk (rawC l) (rawS l) = 0) with
        | true =>
          have HV2 : Hid (chk (rawC l) (rawS l) = 0) := Lib.hid (of_decide_eq_true hev)
          clear hev
          go_wp2_with (fail)
          refine wp_loop_rounds 1 ?_
          rw [rounds_succ]
          go_wp2_with (go_at_call 45; refine HCK.out.mono ?_; rintro e w4 ⟨rfl, hb4⟩; rw [HV2.out]; have t0 := (HL.out.2.1.below hb4).cell 0; have t1 := (HL.out.2.1.below hb4).cell 1; obtain ⟨v0, v1⟩ := keepb (bt (ba (w.alloc zIn) (wObj l)) (bt HL.out.1 hb4)) 0; obtain ⟨v2, v3⟩ := keepb (bt (ba (w.alloc zIn) (wObj l)) (bt HL.out.1 hb4)) 1; have hz4 : w.heap.size + 1 + 1 < w4.heap.size := (HL.out.2.1.below hb4).lt; simp at t0 t1 v0 v2)
          refine bodyPost_ret (v := .tuple #[.agg #[.slice A (rawC l).length c, .slice none (postW l).length 0], .int .i64 0]) ?_ rfl (parsePost_ok HL.out (by rw [HEN.out, HV2.out]) hb4 rfl)
          simp [results, Tryd.results27, go_sem, v0, v2]
          done
        | false =>
          obtain ⟨ev, hev2⟩ : ∃ ev, chk (rawC l) (rawS l) = ev := ⟨_, rfl⟩
          have hne : ¬ ev = 0 := by rw [hev2] at hev; simpa using hev
          have HV2 := Lib.hid hev2
          clear hev hev2
          go_wp2_with (fail)
          refine wp_loop_rounds 1 ?_
          rw [rounds_succ]
          go_wp2_with (go_at_call 45; refine HCK.out.mono ?_; rintro e w4 ⟨rfl, hb4⟩; rw [HV2.out]; obtain ⟨v0, v1⟩ := keepb (bt (ba (w.alloc zIn) (wObj l)) (bt HL.out.1 hb4)) 0; obtain ⟨v2, v3⟩ := keepb (bt (ba (w.alloc zIn) (wObj l)) (bt HL.out.1 hb4)) 1; have hz4 : w.heap.size + 1 + 1 < w4.heap.size := (HL.out.2.1.below hb4).lt; simp at v0 v2)
          refine bodyPost_ret (v := .tuple #[.agg #[.slice none 0 0, .slice none 0 0], .int .i64 ev]) ?_ rfl ?_
          · simp [results, Tryd.results27, go_sem, v0, v2]
            done
          · rw [← HV2.out, ← HEN.out]
            refine parsePost_err (by rw [HEN.out, HV2.out]; exact hne) ?_
            exact ((bx (bt (ba (w.alloc zIn) (wObj l)) (bt HL.out.1 hb4))).setCell (Nat.le_refl _) _).setCell (Nat.le_refl _) _
      · go_wp2_with (fail)
        obtain ⟨wo, rfl⟩ : ∃ wo : World, wo = wr := ⟨_, rfl⟩
        go_loopw [52] (fun i wr => ∃ (k : Nat) (A' : Option Addr) (c' : Nat), k ≤ (wrd l).length - (preOf (wrd l) + 1) ∧ i = .int .i64 k ∧ L2 l w wr A c k A' c') (fun i _ => (wrd l).length - (preOf (wrd l) + 1) - (intOf i).toNat)
        case atStart => exact ⟨0, none, 0, by omega, rfl, HLA.out⟩
        case round =>
          obtain ⟨k2, A1, c1, hk2, rfl, hL⟩ := hrel
          have HL := Lib.hid hL
          have r0 := hL.2.1.cell 0
          have r1 := hL.2.1.cell 1
          have r2 := hL.2.1.frozen 1
          have hz2 := hL.2.1.lt
          obtain ⟨s0, s1⟩ := keepb (bt (ba (w.alloc zIn) (wObj l)) hL.1) 0
          obtain ⟨s2, s3⟩ := keepb (bt (ba (w.alloc zIn) (wObj l)) hL.1) 1
          have hcell := word_cell hL.1 (preOf (wrd l) + 1 + k2)
          simp at r0 r1 s0 s2
          clear hL
          clear hlt
          by_cases hlt : k2 < (wrd l).length - (preOf (wrd l) + 1)
          · rw [post_word l k2 (by have := HQ.out; omega)] at hcell
            generalize hgx : (postW l).getD k2 [] = x at *
            have HG := Lib.hid hgx
            clear hgx
            cases hx : numB x with
            | true =>
              have HX := Lib.hid hx
              clear hx
              go_wp2_with (first | (go_at_call 62; refine (parseNumber_any _ _).mono ?_; rintro e w2 ⟨rfl, rfl⟩; rw [HX.out]) | (at_builtin; refine wpList_append_own _ rfl _ _ 23 rfl (w.heap.size + 1 + 1 + 1) 3 i0 _ 1 8 Tryd.underlying23 ii1 ii2 ii3 ii4 rfl (by decide) (.slice A1 k2 c1) k2 _ rfl (HL.out.2.2.2.1.alloc _) ⟨wr.heap.size, 0, none⟩ 1 1 [.int .i64 (numV x)] rfl rfl ?d1 ?d2 ?d3 ?d4 ?d5 ?_))
              case d1 => exact cell_one_new _ _ _
              case d2 =>
                intro u hu
                simp at hu
                rcases hu with rfl
                rfl
              case d3 => unfold maxLen; omega
              case d4 => omega
              case d5 => have := hz2; simp; omega
              intro v' w3 hown' hgrow _
              obtain ⟨A', c', rfl, f0, f1, HL'⟩ := L2_step HL.out (by have := HQ.out; omega) HG.out HX.out hown' hgrow
              have HLL := Lib.hid HL'
              clear HL' hown' hgrow
              go_wp2_with (fail)
              go_roundw
              case rel => exact ⟨k2 + 1, A', c', by omega, by go_num, HLL.out⟩
              case measure => simp [intOf]; omega
            | false =>
              have HX := Lib.hid hx
              have HE := Lib.hid (prsE_steps h H00.out HL.out (by have := HQ.out; omega) HG.out hx)
              clear hx
              go_wp2_with (go_at_call 62; refine (parseNumber_any _ _).mono ?_; rintro e w2 ⟨rfl, rfl⟩; rw [HX.out])
              refine bodyPost_ret (v := .tuple #[.agg #[.slice none 0 0, .slice none 0 0], .int .i64 4]) ?_ rfl ?_
              · simp [results, Tryd.results27, go_sem, s0, s2]
                done
              · rw [← HE.out]
                refine parsePost_err (by rw [HE.out]; decide) ?_
                have hq := bx (bt (ba (w.alloc zIn) (wObj l)) HL.out.1)
                exact (hq.setCell (Nat.le_refl _) _).setCell (Nat.le_refl _) _
          · obtain rfl : k2 = (postW l).length := by have := HQ.out; omega
            clear hk2 hcell
            have hrl : (rawC l).length = preOf (wrd l) := by rw [rawC, List.length_map]; exact HP.out
            have hrs : (rawS l).length = (postW l).length := by simp [rawS]
            have b1 : (rawC l).length ≤ 9223372036854775807 := by omega
            have b2 : (postW l).length ≤ 9223372036854775807 := by have := HQ.out; omega
            have HCK := Lib.hid (check_any A A1 (rawC l).length c (postW l).length c1 (rawC l) (rawS l) wr (Sl_own HL.out.2.2.1) (Sl_own (by have := HL.out.2.2.2.1; rw [List.take_of_length_le (by omega)] at this; exact this)) rfl hrs.symm b1 b2)
            have HEN := Lib.hid (prsE_end h H00.out HL.out rfl)
            clear hrl hrs
            cases hev : decide (chk (rawC l) (rawS l) = 0) with
            | true =>
              have HV2 : Hid (chk (rawC l) (rawS l) = 0) := Lib.hid (of_decide_eq_true hev)
              clear hev
              go_wp2_with (go_at_call 45; refine HCK.out.mono ?_; rintro e w4 ⟨rfl, hb4⟩; rw [HV2.out]; have t0 := (HL.out.2.1.below hb4).cell 0; have t1 := (HL.out.2.1.below hb4).cell 1; obtain ⟨v0, v1⟩ := keepb (bt (ba (w.alloc zIn) (wObj l)) (bt HL.out.1 hb4)) 0; obtain ⟨v2, v3⟩ := keepb (bt (ba (w.alloc zIn) (wObj l)) (bt HL.out.1 hb4)) 1; have hz4 : w.heap.size + 1 + 1 < w4.heap.size := (HL.out.2.1.below hb4).lt; simp at t0 t1 v0 v2)
              refine bodyPost_ret (v := .tuple #[.agg #[.slice A (rawC l).length c, .slice A1 (postW l).length c1], .int .i64 0]) ?_ rfl (parsePost_ok HL.out (by rw [HEN.out, HV2.out]) hb4 rfl)
              simp [results, Tryd.results27, go_sem, v0, v2]
              done
            | false =>
              obtain ⟨ev, hev2⟩ : ∃ ev, chk (rawC l) (rawS l) = ev := ⟨_, rfl⟩
              have hne : ¬ ev = 0 := by rw [hev2] at hev; simpa using hev
              have HV2 := Lib.hid hev2
              clear hev hev2
              go_wp2_with (go_at_call 45; refine HCK.out.mono ?_; rintro e w4 ⟨rfl, hb4⟩; rw [HV2.out]; obtain ⟨v0, v1⟩ := keepb (bt (ba (w.alloc zIn) (wObj l)) (bt HL.out.1 hb4)) 0; obtain ⟨v2, v3⟩ := keepb (bt (ba (w.alloc zIn) (wObj l)) (bt HL.out.1 hb4)) 1; have hz4 : w.heap.size + 1 + 1 < w4.heap.size := (HL.out.2.1.below hb4).lt; simp at v0 v2)
              refine bodyPost_ret (v := .tuple #[.agg #[.slice none 0 0, .slice none 0 0], .int .i64 ev]) ?_ rfl ?_
              · simp [results, Tryd.results27, go_sem, v0, v2]
                done
              · rw [← HV2.out, ← HEN.out]
                refine parsePost_err (by rw [HEN.out, HV2.out]; exact hne) ?_
                exact ((bx (bt (ba (w.alloc zIn) (wObj l)) (bt HL.out.1 hb4))).setCell (Nat.le_refl _) _).setCell (Nat.le_refl _) _

theorem parse_any (l : List UInt8) (w : World) (E : Env w) (hs : l.length < 4294967200) : Calls Tryd.prog 27 #[.string ⟨l.toArray⟩] w (ParsePost l w) := by
  by_cases h : preOf (wrd l) < (wrd l).length
  · exact parse_mark l w E hs h
  · exact parse_nomark l w E hs (by omega)

end Go.Proofs.YtdaeanjjmbibmaaDoor
