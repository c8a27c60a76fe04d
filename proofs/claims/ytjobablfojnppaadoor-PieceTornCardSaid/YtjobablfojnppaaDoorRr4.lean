/- Pieces: the reference's Augment. -/
import Derived.Test.YtjobablfojnppaaDoorRr2
namespace Go.Proofs.YtjobablfojnppaaDoor
open Go Go.RowKit

def augE (b : Int) (y : EvP) : EvP := if y.v = 0 then y else { y with v := y.v - b }
def augOk (b : Int) (y : EvP) : Bool := decide (y.v = 0) || (decide (1 ≤ y.v - b) && decide (y.v - b ≤ 7))
/-- The first k elements are mapped. -/
def mpK {α : Type} (f : α → α) (k : Nat) (P : List α) : List α := (P.take k).map f ++ P.drop k
theorem mpK_zero {α : Type} (f : α → α) (P : List α) : mpK f 0 P = P := by simp [mpK]
theorem mpK_len {α : Type} (f : α → α) (k : Nat) (P : List α) : (mpK f k P).length = P.length := by simp [mpK]; omega
theorem mpK_at {α : Type} (f : α → α) (k : Nat) (P : List α) (h : k < P.length) : (mpK f k P)[k]? = P[k]? := by
  unfold mpK
  rw [List.getElem?_append_right (by simp; omega), List.length_map, List.length_take, Nat.min_eq_left (by omega), Nat.sub_self, List.getElem?_drop]
  rfl
theorem mpK_set {α : Type} (f : α → α) (k : Nat) (P : List α) (y : α) (h : P[k]? = some y) : (mpK f k P).set k (f y) = mpK f (k + 1) P := by
  have hk : k < P.length := (List.getElem?_eq_some_iff.1 h).1
  have hd : P.drop k = y :: P.drop (k + 1) := by
    rw [List.drop_eq_getElem_cons hk]
    rw [List.getElem?_eq_getElem hk] at h
    injection h with h
    rw [h]
  have ht : P.take (k + 1) = P.take k ++ [y] := by rw [List.take_add_one, h]; rfl
  have hl : ((P.take k).map f).length = k := by simp; omega
  unfold mpK
  rw [hd, ht, List.set_append_right _ _ (by omega), hl, Nat.sub_self, List.set_cons_zero, List.map_append, List.append_assoc]
  rfl
theorem mpK_same {α : Type} (f : α → α) (k : Nat) (P : List α) (y : α) (h : P[k]? = some y) (hf : f y = y) : mpK f (k + 1) P = mpK f k P := by
  rw [← mpK_set f k P y h, hf]
  have hk : k < P.length := (List.getElem?_eq_some_iff.1 h).1
  refine List.ext_getElem? (fun j => ?_)
  by_cases hj : j = k
  · subst hj
    rw [List.getElem?_set_self (by rw [mpK_len]; exact hk), mpK_at f _ P hk, h]
  · rw [List.getElem?_set_ne (fun e => hj e.symm)]
theorem mpK_all {α : Type} (f : α → α) (k : Nat) (P : List α) (h : P.length ≤ k) : mpK f k P = P.map f := by
  unfold mpK
  rw [List.take_of_length_le h, List.drop_of_length_le h, List.append_nil]
theorem rwO_aug (b : Int) : ∀ (X : List TmP) (o : List EvP) (s : Bool), X.foldl (fun a p => (a.1 ++ [(augSt b a.2 p).2], (augSt b a.2 p).1)) (o, s) = (o ++ X.map (fun p => augE b p.y), s && X.all (fun p => augOk b p.y)) := by
  intro X
  induction X with
  | nil => intro o s; simp
  | cons p r ih =>
    intro o s
    rw [List.foldl_cons]
    by_cases h : p.y.v = 0
    · have e : augSt b s p = (s, p.y) := if_pos h
      rw [e, ih]
      simp [augE, augOk, h]
    · have e : augSt b s p = (s && (decide (1 ≤ p.y.v - b) && decide (p.y.v - b ≤ 7)), { p.y with v := p.y.v - b }) := if_neg h
      rw [e, ih]
      simp [augE, augOk, h, Bool.and_assoc]
theorem tpL_map {α : Type} (f : EvP → α) : ∀ (P : List EvP) (n : Nat) (v : Int) (d t : Bool) (fm : Int), (tmPL P n v d t fm).map (fun p => f p.y) = P.map f
  | [], _, _, _, _, _ => rfl
  | y :: r, n, v, d, t, fm => by
    unfold tmPL
    split <;> simp [tpL_map f r]
theorem tpL_all (f : EvP → Bool) : ∀ (P : List EvP) (n : Nat) (v : Int) (d t : Bool) (fm : Int), (tmPL P n v d t fm).all (fun p => f p.y) = P.all f
  | [], _, _, _, _, _ => rfl
  | y :: r, n, v, d, t, fm => by
    unfold tmPL
    split <;> simp [tpL_all f r]
theorem aug_out (b : Int) (P : List EvP) : rwO (augSt b) true (tpL P) = (P.map (augE b), P.all (augOk b)) := by
  unfold rwO
  rw [rwO_aug, tpL_map, tpL_all]
  simp

/-- What a reference's loop over its own copy keeps. -/
structure RpA (w : World) (b qb rb : Nat) (A : Option Addr) (n c : Nat) (A' : Option Addr) (m c' : Nat) (A2 : Option Addr) (q cq : Nat) (C : List Cr) (S : List Int) (P : List EvP) (wr : World) : Prop where
  pc : ∃ E, PcOE wr b A n c A' m c' A2 q cq C S P E
  qx : Blk wr qb 28 #[.slice A n c, .slice A' m c', .slice A2 q cq]
  rs : Blk wr rb 28 #[.slice none 0 0, .slice none 0 0, .slice none 0 0]
  lo : Below w.heap.size w wr
theorem RpA.val {w : World} {b qb rb : Nat} {A : Option Addr} {n c : Nat} {A' : Option Addr} {m c' : Nat} {A2 : Option Addr} {q cq : Nat} {C : List Cr} {S : List Int} {P : List EvP} {wr : World}
    (h : RpA w b qb rb A n c A' m c' A2 q cq C S P wr) (hb : w.heap.size ≤ b) {k : Nat} {y : EvP} (hy : P[k]? = some y) :
    ∃ g, A2 = some ⟨g, 0, none⟩ ∧ g < wr.heap.size ∧ wr.cell? ⟨g, k * 6 + 1, none⟩ = some (.int .i64 y.v) ∧ (∀ j, wr.frozen? ⟨g, j, none⟩ = false) ∧ g ≠ qb ∧ qb ≠ g ∧ g ≠ rb ∧ rb ≠ g ∧
      (∀ v : Int, RpA w b qb rb A n c A' m c' A2 q cq C S (P.set k (upS y ⟨v, y.d, y.t⟩)) (wr.setCell ⟨g, k * 6 + 1, none⟩ (.int .i64 v))) := by
  obtain ⟨E, hE⟩ := h.pc
  obtain ⟨g, x, rfl, h1, h2, _, ⟨_, c1, _⟩, hf, ⟨cs, hB⟩, _, hs⟩ := hE.sign hy
  have hq := hB.ne h.qx (by decide)
  have hr := hB.ne h.rs (by decide)
  refine ⟨g, rfl, h2, c1, hf, hq, fun e => hq e.symm, hr, fun e => hr e.symm, fun v => ?_⟩
  exact ⟨⟨_, hs v⟩, h.qx.setOther (fun e => hq e.symm) _ _, h.rs.setOther (fun e => hr e.symm) _ _, h.lo.setCell (p := ⟨g, k * 6 + 1, none⟩) (Nat.le_trans hb h1) _⟩

set_option maxRecDepth 100000 in
set_option maxHeartbeats 6400000 in
theorem raug_any (A : Option Addr) (n c : Nat) (A' : Option Addr) (m c' : Nat) (A2 : Option Addr) (q cq : Nat) (C : List Cr) (S : List Int) (P : List EvP) (b : Int) (w : World) (hP : PcIn w A n c A' m c' A2 q cq C S P) (hnb : n ≤ 65536) (hmb : m ≤ 65536) (hqb : q ≤ 65536) (hst : ∀ y ∈ P, y.L.length ≤ 65536) :
    Calls Tryd.prog 43 #[pcV A n c A' m c' A2 q cq, .int .i64 b] w (PcRes (augErr (pcErr C S P) b (P.all (augOk b))) C S (P.map (augE b)) w) := by
  have HP : Hid (∀ w', Below w.heap.size w w' → PcIn w' A n c A' m c' A2 q cq C S P) := fun w' hb => hP.below hb
  have HST := Lib.hid hst
  have HST2 : Hid (∀ y ∈ P, y.L.length ≤ 1000000) := fun y hy => Nat.le_trans (hst y hy) (by omega)
  have HL := Lib.hid hP.es.hq
  have HBX := Lib.hid (pbox w A n c A' m c' A2 q cq)
  obtain ⟨X, hX⟩ : ∃ X, pcErr C S P = X := ⟨_, rfl⟩
  have HX := Lib.hid hX
  have HTV : Hid (pcErr C S P = 0 → ∀ y ∈ P, 0 ≤ y.v ∧ y.v ≤ 7) := fun h y hy => by
    obtain ⟨j, hj⟩ := List.mem_iff_getElem?.1 hy
    exact sgn_v ((pcErr_ok h).2.2 j _ hj).1
  rw [hX]
  clear hX hP hst
  by_cases hX0 : X = 0
  rotate_left
  · have hXb : (X != 0) = true := by simpa using hX0
    rw [augErr1 hX0]
    have HX0 := Lib.hid hX0
    clear hX0
    go_enter Tryd.func43, Tryd.ntmps43
    go_wp2_with (go_at_call 26; refine (rpcheck_any A n c A' m c' A2 q cq C S P _ (HP.out _ HBX.out.2.2.1) (by omega) (by omega) (by omega) HST2.out).mono ?_; rintro e W1 ⟨rfl, hb1⟩; rw [HX.out]; have hR1 := HBX.out.2.1.below hb1; have r0 := hR1.cell 0; have r1 := hR1.cell 1; have r2 := hR1.cell 2; have f0 := hR1.frozen 0; have f1 := hR1.frozen 1; have f2 := hR1.frozen 2; simp at r0 r1 r2; have HB1 := Lib.hid hb1; clear hR1 hb1)
    exact err_retR w W1 _ (by omega) X (bt HBX.out.2.2.1 HB1.out) HX0.out (by simp [results, Tryd.results43, go_sem, World.cell?_setCell_same', World.cell?_setCell_other, r0, r1, r2])
  subst hX0
  by_cases hbb : b < -6 ∨ 6 < b
  · rw [augErr2 hbb]
    have hb2 : b < -6 ∨ (¬ b < -6 ∧ 6 < b) := by omega
    clear hbb
    rcases hb2 with hb2 | ⟨hb3, hb2⟩
    all_goals
      go_enter Tryd.func43, Tryd.ntmps43
      go_wp2_with (go_at_call 26; refine (rpcheck_any A n c A' m c' A2 q cq C S P _ (HP.out _ HBX.out.2.2.1) (by omega) (by omega) (by omega) HST2.out).mono ?_; rintro e W1 ⟨rfl, hb1⟩; rw [HX.out]; have hR1 := HBX.out.2.1.below hb1; have r0 := hR1.cell 0; have r1 := hR1.cell 1; have r2 := hR1.cell 2; have f0 := hR1.frozen 0; have f1 := hR1.frozen 1; have f2 := hR1.frozen 2; simp at r0 r1 r2; have HB1 := Lib.hid hb1; clear hR1 hb1)
      exact err_retR w W1 _ (by omega) 1 (bt HBX.out.2.2.1 HB1.out) (by omega) (by simp [results, Tryd.results43, go_sem, World.cell?_setCell_same', World.cell?_setCell_other, r0, r1, r2])
  rw [augErr3 hbb]
  have hk1 : -6 ≤ b := by omega
  have hk2 : b ≤ 6 := by omega
  clear hbb
  obtain ⟨er, her⟩ : ∃ er : Int, (if P.all (augOk b) = true then 0 else 20) = er := ⟨_, rfl⟩
  rw [her]
  have HER := Lib.hid her
  clear her
  go_enter Tryd.func43, Tryd.ntmps43
  go_wp2_with (first
    | (go_at_call 26; refine (rpcheck_any A n c A' m c' A2 q cq C S P _ (HP.out _ HBX.out.2.2.1) (by omega) (by omega) (by omega) HST2.out).mono ?_; rintro e W1 ⟨rfl, hb1⟩; rw [HX.out]; have hR1 := HBX.out.2.1.below hb1; have hP1 := HBX.out.1.below hb1; have p0 := hP1.cell 0; have p1 := hP1.cell 1; have p2 := hP1.cell 2; simp at p0 p1 p2; have HB1 := Lib.hid (And.intro hP1 (And.intro hR1 (bt HBX.out.2.2.1 hb1))); clear hR1 hP1 hb1)
    | (go_at_call 16; refine (pcopyO_any A n c A' m c' A2 q cq C S P _ (HP.out _ HB1.out.2.2) hnb hmb hqb HST.out).mono ?_; rintro e W2 ⟨B, d, B', d', B2, d2, E, rfl, hO, hb2⟩; have HR0 : Hid (RpA w W1.heap.size W2.heap.size (w.heap.size + 1) B n d B' m d' B2 q d2 C S P (W2.alloc (pcO B n d B' m d' B2 q d2))) := ⟨⟨_, hO.below (ba W2 (pcO B n d B' m d' B2 q d2))⟩, heap_alloc_new W2 (pcO B n d B' m d' B2 q d2), Blk.below (HB1.out.2.1.below hb2) (ba W2 (pcO B n d B' m d' B2 q d2)), bt HB1.out.2.2 (bt hb2 (ba W2 (pcO B n d B' m d' B2 q d2)))⟩; clear hO hb2))
  have hz12 : w.heap.size ≤ W1.heap.size := HB1.out.2.2.size
  go_loopw [8] (fun i wr => ∃ k : Nat, k ≤ q ∧ i = .int .i64 k ∧ Hid (RpA w W1.heap.size W2.heap.size (w.heap.size + 1) B n d B' m d' B2 q d2 C S (mpK (augE b) k P) wr) ∧ Hid ((P.take k).all (augOk b) = true)) (fun i _ => q - (intOf i).toNat)
  case atStart => exact ⟨0, by omega, rfl, by rw [mpK_zero]; exact HR0.out, rfl⟩
  case round =>
    obtain ⟨k, hk, rfl, HR, HOK⟩ := hrel
    have q0 := HR.out.qx.cell 0
    have q1 := HR.out.qx.cell 1
    have q2 := HR.out.qx.cell 2
    simp at q0 q1 q2
    by_cases hlt : k < q
    · have hkn : (k : Int) < (q : Int) := by omega
      have hPk : P[k]? = some (P.getD k z6) := by
        have : k < P.length := by have := HL.out; omega
        simp [List.getD_eq_getElem?_getD, List.getElem?_eq_getElem this]
      obtain ⟨g, rfl, hg, c1, hfz, hgq, hqg, hgr, hrg, hnext⟩ := HR.out.val hz12 (show (mpK (augE b) k P)[k]? = some (P.getD k z6) by rw [mpK_at _ k P (by have := HL.out; omega)]; exact hPk)
      have z1 := hfz (k * 6 + 1)
      obtain ⟨hv0, hv7⟩ := HTV.out HX.out _ (List.mem_of_getElem? hPk)
      have HPK := Lib.hid hPk
      have HNX := Lib.hid hnext
      have HTK : Hid (P.take (k + 1) = P.take k ++ [P.getD k z6]) := by unfold Hid; rw [List.take_add_one, hPk]; rfl
      have HALL : Hid (augOk b (P.getD k z6) = false → P.all (augOk b) = false) := fun h => by
        rw [List.all_eq_false]
        exact ⟨_, List.mem_of_getElem? hPk, by rw [h]; simp⟩
      clear hPk hnext hfz
      generalize P.getD k z6 = y at *
      have hw : IntKind.i64.wrap (y.v - b) = y.v - b := IntWalk.i64_in _ ⟨by omega, by omega⟩
      by_cases h0 : y.v = 0
      · have HM := Lib.hid (mpK_same (augE b) k P y HPK.out (if_pos h0))
        have HO1 : Hid ((P.take (k + 1)).all (augOk b) = true) := by
          unfold Hid
          rw [HTK.out, List.all_append, HOK.out]
          simp [augOk, h0]
        rw [h0] at c1
        clear h0 hw hv0 hv7
        go_wp2_with (fail)
        go_roundw
        case rel => exact ⟨k + 1, by omega, by first | rfl | go_num, by rw [HM.out]; exact HR.out, HO1.out⟩
        case measure => simp [intOf]; omega
      have hvb : (y.v == 0) = false := by simpa using h0
      by_cases hok : augOk b y = true
      · have HM := Lib.hid (mpK_set (augE b) k P y HPK.out)
        have HN := Lib.hid (HNX.out (y.v - b))
        have HE0 : Hid (augE b y = upS y ⟨y.v - b, y.d, y.t⟩) := if_neg h0
        have HO1 : Hid ((P.take (k + 1)).all (augOk b) = true) := by
          unfold Hid
          rw [HTK.out, List.all_append, HOK.out]
          simp [hok]
        obtain ⟨h1, h7⟩ : 1 ≤ y.v - b ∧ y.v - b ≤ 7 := by simpa [augOk, h0] using hok
        clear h0 hok
        go_wp2_with (fail)
        go_roundw
        case rel => exact ⟨k + 1, by omega, by first | rfl | go_num, by rw [← HM.out, HE0.out]; exact HN.out, HO1.out⟩
        case measure => simp [intOf]; omega
      · have hok2 : augOk b y = false := by simpa using hok
        obtain rfl : er = 20 := by rw [← HER.out, HALL.out hok2]; rfl
        have hor : y.v - b < 1 ∨ (¬ y.v - b < 1 ∧ 7 < y.v - b) := by
          simp [augOk, h0] at hok2
          omega
        have r0 := HR.out.rs.cell 0
        have r1 := HR.out.rs.cell 1
        have r2 := HR.out.rs.cell 2
        have f0 := HR.out.rs.frozen 0
        have f1 := HR.out.rs.frozen 1
        have f2 := HR.out.rs.frozen 2
        simp at r0 r1 r2
        clear h0 hok hok2
        rcases hor with h1 | ⟨h1, h7⟩
        all_goals
          go_wp2_with (fail)
          exact err_retR w wr _ (by omega) 20 HR.out.lo (by omega) (by simp [results, Tryd.results43, go_sem, World.cell?_setCell_same', World.cell?_setCell_other, r0, r1, r2])
    · obtain rfl : k = q := by omega
      have hall : P.all (augOk b) = true := by
        have := HOK.out
        rwa [List.take_of_length_le (Nat.le_of_eq HL.out.symm)] at this
      obtain rfl : er = 0 := by rw [← HER.out, hall]; rfl
      obtain ⟨E', hE'⟩ := HR.out.pc
      rw [mpK_all _ k P (Nat.le_of_eq HL.out.symm)] at hE'
      have HE := Lib.hid hE'
      have r0 := HR.out.rs.cell 0
      have r1 := HR.out.rs.cell 1
      have r2 := HR.out.rs.cell 2
      have f0 := HR.out.rs.frozen 0
      have f1 := HR.out.rs.frozen 1
      have f2 := HR.out.rs.frozen 2
      have hlr := HB1.out.2.1.lt
      simp at r0 r1 r2
      clear hE' hall
      go_wp2_with (fail)
      have hR3 := ((HR.out.rs.set_ 0 (.slice B n d)).set_ 1 (.slice B' m d')).set_ 2 (.slice B2 k d2)
      have z0 := hR3.cell 0
      have z1 := hR3.cell 1
      have z2 := hR3.cell 2
      refine bodyPost_ret (v := .tuple #[pcV B n d B' m d' B2 k d2, .int .i64 0]) ?_ rfl ?_
      · simp at z0 z1 z2
        simp [results, Tryd.results43, go_sem, z0, z1, z2]
      · refine ⟨B, n, d, B', m, d', B2, k, d2, rfl, ?_, ((HR.out.lo.setCell (p := ⟨w.heap.size + 1, 0, none⟩) (by simp) _).setCell (p := ⟨w.heap.size + 1, 1, none⟩) (by simp) _).setCell (p := ⟨w.heap.size + 1, 2, none⟩) (by simp) _⟩
        rw [oC_ok, oC_ok, oC_ok]
        exact (((HE.out.pcOw.other hlr _ _).other hlr _ _).other hlr _ _).more hz12

end Go.Proofs.YtjobablfojnppaaDoor
