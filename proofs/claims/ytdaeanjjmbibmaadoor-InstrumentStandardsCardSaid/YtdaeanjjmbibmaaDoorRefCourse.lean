/- What the reference's course returns for any text. -/
import Derived.Test.YtdaeanjjmbibmaaDoorPure12
import Derived.Test.YtdaeanjjmbibmaaDoorRefNumber
import Derived.Test.YtdaeanjjmbibmaaDoorRefName2
import Derived.Test.YtdaeanjjmbibmaaDoorRefWords
namespace Go.Proofs.YtdaeanjjmbibmaaDoor
open Go.RowKit

theorem last_plus {l : List UInt8} {m : Nat} (h : l.length = m + 1) (hb : m < l.length) (h2 : l[m] = 43) : l = l.take m ++ [43] := by
  rw [← h2]
  have := List.take_append_getElem hb
  rw [this, List.take_of_length_le (by omega)]
theorem last_bare {l : List UInt8} {m : Nat} (h : l.length = m + 1) (hb : m < l.length) (h2 : l[m] ≠ 43) : l.getLast? ≠ some 43 := by
  rw [List.getLast?_eq_getElem?, h, Nat.add_sub_cancel, List.getElem?_eq_getElem hb]
  intro e; injection e with e; exact h2 e
theorem blk_two (w : World) : Blk ((w.alloc zCr).alloc zCr) w.heap.size 75 #[.int .i64 0, .int .i64 0, .bool false] ∧ Blk ((w.alloc zCr).alloc zCr) (w.heap.size + 1) 75 #[.int .i64 0, .int .i64 0, .bool false] := by
  constructor
  · refine Blk.below (w := w.alloc zCr) ?_ (ba _ _)
    exact heap_alloc_new w zCr
  · have := heap_alloc_new (w.alloc zCr) zCr
    simpa [Blk] using this
/-- What a course's word says, in terms of what stands ahead of the plus. -/
structure CrSays (l t : List UInt8) (oct : Bool) : Prop where
  no : slA t = t.length → crsW l = false
  yes : slA t < t.length → crsN l = t.take (slA t) ∧ crsW l = numB (t.drop (slA t + 1)) ∧ crsD l = t.drop (slA t + 1) ∧ Lib.hasSuffix (crsR l) [43] = oct
theorem says_plus {l : List UInt8} {m : Nat} (h : l.length = m + 1) (hb : m < l.length) (h2 : l[m] = 43) : CrSays l (l.take m) true := by
  constructor
  · intro hs; rw [last_plus h hb h2]; exact crs_plus_no (t := l.take m) hs
  · intro hs
    obtain ⟨h1, h3, h4, h5⟩ := crs_plus hs
    rw [← last_plus h hb h2] at h1 h3 h4 h5
    exact ⟨h1, h4, h3, h5⟩
theorem says_bare {l : List UInt8} (h : l.getLast? ≠ some 43) : CrSays l l false :=
  ⟨crs_bare_no, fun hs => by obtain ⟨h1, h3, h4, h5⟩ := crs_bare h hs; exact ⟨h1, h4, h3, h5⟩⟩
theorem says_form {l t : List UInt8} {oct : Bool} (h : CrSays l t oct) (hs : slA t = t.length ∨ (slA t < t.length ∧ (numB (t.drop (slA t + 1)) = false ∨ nmE (t.take (slA t)) = 4))) : crsE l = 4 ∧ crsP l = 0 ∧ crsF l = 0 ∧ crsO l = false := by
  rcases hs with hs | ⟨hs, hs2⟩
  · exact crs_form (h.no hs)
  · obtain ⟨h1, h2, h3, h4⟩ := h.yes hs
    rcases hs2 with hs2 | hs2
    · exact crs_form (h2.trans hs2)
    · have he : crsE l = 4 := by unfold crsE; rw [h1, hs2]; simp
      exact ⟨he, by simp [crsP, he], by simp [crsF, he], by simp [crsO, he]⟩
theorem says_pitch {l t : List UInt8} {oct : Bool} (h : CrSays l t oct) (hs : slA t < t.length) (hn : numB (t.drop (slA t + 1)) = true) (he : nmE (t.take (slA t)) = 10) : crsE l = 10 ∧ crsP l = 0 ∧ crsF l = 0 ∧ crsO l = false := by
  obtain ⟨h1, h2, h3, h4⟩ := h.yes hs
  have he : crsE l = 10 := by unfold crsE; rw [h2, hn, h1]; simpa using he
  exact ⟨he, by simp [crsP, he], by simp [crsF, he], by simp [crsO, he]⟩
theorem says_ok {l t : List UInt8} {oct : Bool} (h : CrSays l t oct) (hs : slA t < t.length) (hn : numB (t.drop (slA t + 1)) = true) (he : nmE (t.take (slA t)) = 0) :
    crsE l = 0 ∧ crsP l = sndP (nmL (t.take (slA t))) (nmA (t.take (slA t))) (nmO (t.take (slA t))) ∧ crsF l = numV (t.drop (slA t + 1)) ∧ crsO l = oct := by
  obtain ⟨h1, h2, h3, h4⟩ := h.yes hs
  have he : crsE l = 0 := by unfold crsE; rw [h2, hn, h1]; simpa using he
  exact ⟨he, by simp [crsP, he, h1], by simp [crsF, he, h3], by simp [crsO, he, h4]⟩

set_option maxRecDepth 100000 in
set_option maxHeartbeats 16000000 in
theorem rcourse_plus (l : List UInt8) (m : Nat) (w : World) (hs : l.length < 4294967200) (hm : l.length = m + 1) (h43 : l[m]? = some 43) :
    Calls Tryd.prog 64 #[.string ⟨l.toArray⟩] w fun e w' => e = .returned (.tuple #[.agg #[.int .i64 (crsP l), .int .i64 (crsF l), .bool (crsO l)], .int .i64 (crsE l)]) ∧ Below w.heap.size w w' := by
  have hml : m < l.length := by omega
  have hl43 : l[m] = 43 := (List.getElem?_eq_some_iff.1 h43).2
  have HSY : Hid (CrSays l (l.take m) true) := says_plus hm hml hl43
  have hsz : m < (ByteArray.mk l.toArray).size := hml
  have hb : ((((ByteArray.mk l.toArray)[m]'hsz).toNat : Int) == 43) = true := by rw [byte_at l m hsz hml, hl43]; rfl
  have hw : IntKind.i64.wrap ((l.length : Int) - 1) = (m : Int) := by rw [IntWalk.i64_in _ ⟨by omega, by omega⟩]; omega
  have hpos : (0 : Int) < (l.length : Int) := by omega
  have hmi : (m : Int) ≤ (l.length : Int) := by omega
  have HX : Hid ((ByteArray.mk l.toArray).extract 0 m = ⟨(l.take m).toArray⟩) := by have := cut_bytes l 0 m; rw [List.drop_zero, Nat.sub_zero] at this; exact this
  have hB0 : Blk ((w.alloc zCr).alloc (.cells #[.int .i64 0, .int .i64 0, .bool true] 75)) w.heap.size 75 #[.int .i64 0, .int .i64 0, .bool false] := Blk.below (w := w.alloc zCr) (heap_alloc_new w zCr) (ba _ _)
  have hB1 : Blk ((w.alloc zCr).alloc (.cells #[.int .i64 0, .int .i64 0, .bool true] 75)) (w.heap.size + 1) 75 #[.int .i64 0, .int .i64 0, .bool true] := by
    have := heap_alloc_new (w.alloc zCr) (.cells #[.int .i64 0, .int .i64 0, .bool true] 75)
    simpa [Blk] using this
  have hlow := bal (ba w zCr) (.cells #[.int .i64 0, .int .i64 0, .bool true] 75)
  clear hm h43 hl43
  go_enter Tryd.func64, Tryd.ntmps64
  go_wp2_with (fail)
  rw [HX.out]
  have htl : (l.take m).length < 4294967200 := by simp; omega
  clear HX hs
  generalize l.take m = t at *
  generalize hWZ : ((w.alloc zCr).alloc (.cells #[.int .i64 0, .int .i64 0, .bool true] 75)) = wz at *
  clear hWZ
  have HLOW := Lib.hid hlow
  have HB0 := Lib.hid hB0
  have HB1 := Lib.hid hB1
  have hz0 : w.heap.size + 1 < wz.heap.size := hB1.lt
  clear hlow hB0 hB1
  go_loop [5] (fun i => ∃ k : Nat, i = .int .i64 k ∧ k ≤ slA t) (fun i => slA t - (intOf i).toNat)
  case atStart => exact ⟨0, rfl, by omega⟩
  case round =>
    obtain ⟨k, rfl, hk⟩ := hrel
    have hkl : k ≤ t.length := Nat.le_trans hk (slA_le t)
    rcases slA_at t k hk with ⟨he, h | h⟩ | ⟨h1, h2, c, h3, h4⟩
    · have g1 : ¬ ((k : Int) < (t.length : Int)) := by omega
      have g2 : ((k : Int) == (t.length : Int)) = true := by simp; omega
      have H := Lib.hid (says_form HSY.out (.inl (by omega)))
      clear h he
      have c0 := HB0.out.cell 0
      have c1 := HB0.out.cell 1
      have c2 := HB0.out.cell 2
      have f0 := HB0.out.frozen 0
      have f1 := HB0.out.frozen 1
      have f2 := HB0.out.frozen 2
      simp at c0 c1 c2
      go_wp2_with (fail)
      refine bodyPost_ret (v := .tuple #[.agg #[.int .i64 0, .int .i64 0, .bool false], .int .i64 4]) ?_ rfl ?_
      · simp [results, Tryd.results64, go_sem, c0, c1, c2]
        done
      · rw [H.out.1, H.out.2.1, H.out.2.2.1, H.out.2.2.2]
        exact ⟨rfl, bs3 HLOW.out _ _ _⟩
    · have hkt : k < t.length := (List.getElem?_eq_some_iff.1 h).1
      have g1 : (k : Int) < (t.length : Int) := by omega
      have g2 : ((k : Int) == (t.length : Int)) = false := by simp; omega
      have hsz : k < (ByteArray.mk t.toArray).size := hkt
      have hb : ((((ByteArray.mk t.toArray)[k]'hsz).toNat : Int) == 47) = true := by
        rw [byte_at t k hsz hkt, (List.getElem?_eq_some_iff.1 h).2]; rfl
      have w1 : IntKind.i64.wrap ((k : Int) + 1) = (k : Int) + 1 := IntWalk.i64_in _ ⟨by omega, by omega⟩
      have HN : Hid (∀ (s : ByteArray) (w' : World), s = ⟨(t.take k).toArray⟩ → Calls Tryd.prog 98 #[.string s] w' fun e w2 => e = .returned (.tuple #[.agg #[.int .i64 (nmL (t.take k)), .int .i64 (nmA (t.take k)), .int .i64 (nmO (t.take k))], .int .i64 (nmE (t.take k))]) ∧ Below w'.heap.size w' w2) :=
        fun s w' h => by subst h; exact rparse_any _ w' (by simp; omega)
      have HU : Hid (∀ (s : ByteArray) (w' : World), s = ⟨(t.drop (k + 1)).toArray⟩ → Calls Tryd.prog 65 #[.string s] w' fun e w2 => e = .returned (.tuple #[.int .i64 (numV (t.drop (k + 1))), .bool (numB (t.drop (k + 1)))]) ∧ w' = w2) :=
        fun s w' h => by subst h; exact rnumber_any _ w'
      have HX1 : Hid ((ByteArray.mk t.toArray).extract 0 k = ⟨(t.take k).toArray⟩) := by have := cut_bytes t 0 k; rw [List.drop_zero, Nat.sub_zero] at this; exact this
      have HX2 : Hid ((ByteArray.mk t.toArray).extract (k + 1) t.length = ⟨(t.drop (k + 1)).toArray⟩) := by
        have := cut_bytes t (k + 1) t.length
        rw [List.take_of_length_le (by simp)] at this
        exact this
      have hlt : slA t < t.length := by omega
      have HS4 : Hid (numB (t.drop (k + 1)) = false ∨ nmE (t.take k) = 4 → crsE l = 4 ∧ crsP l = 0 ∧ crsF l = 0 ∧ crsO l = false) := fun h => says_form HSY.out (.inr ⟨hlt, by rw [← he]; exact h⟩)
      have HS10 : Hid (numB (t.drop (k + 1)) = true → nmE (t.take k) = 10 → crsE l = 10 ∧ crsP l = 0 ∧ crsF l = 0 ∧ crsO l = false) := fun h h' => says_pitch HSY.out hlt (by rw [← he]; exact h) (by rw [← he]; exact h')
      have HS0 : Hid (numB (t.drop (k + 1)) = true → nmE (t.take k) = 0 → crsE l = 0 ∧ crsP l = sndP (nmL (t.take k)) (nmA (t.take k)) (nmO (t.take k)) ∧ crsF l = numV (t.drop (k + 1)) ∧ crsO l = true) := fun h h' => by
        have := says_ok HSY.out hlt (by rw [← he]; exact h) (by rw [← he]; exact h')
        rwa [← he] at this
      have hnc := nmE_cases (t.take k)
      clear h he hlt
      generalize nmL (t.take k) = L at *
      generalize nmA (t.take k) = A at *
      generalize nmO (t.take k) = O at *
      generalize nmE (t.take k) = er at *
      generalize numV (t.drop (k + 1)) = nv at *
      generalize numB (t.drop (k + 1)) = nb at *
      have c0 := HB0.out.cell 0
      have f0 := HB0.out.frozen 0
      rcases hnc with rfl | rfl | rfl
      · cases nb with
        | false =>
          have H := Lib.hid (HS4.out (.inl rfl))
          go_wp2_with (first | (go_at_call 98; refine (HN.out _ _ HX1.out).mono ?_; rintro e w2 ⟨rfl, hb2⟩; have D0 := HB0.out.below (bal hb2 (.cells #[.int .i64 L, .int .i64 A, .int .i64 O] 86))) | (go_at_call 65; refine (HU.out _ _ HX2.out).mono ?_; rintro e w3 ⟨rfl, rfl⟩; have d0 := D0.cell 0; have d1 := D0.cell 1; have d2 := D0.cell 2; have e0 := D0.frozen 0; have e1 := D0.frozen 1; have e2 := D0.frozen 2; have hz2 := D0.lt; simp at d0 d1 d2 hz2))
          refine bodyPost_ret (v := .tuple #[.agg #[.int .i64 0, .int .i64 0, .bool false], .int .i64 4]) ?_ rfl ?_
          · simp [results, Tryd.results64, go_sem, d0, d1, d2]
            done
          · rw [H.out.1, H.out.2.1, H.out.2.2.1, H.out.2.2.2]
            exact ⟨rfl, bs3 (bt HLOW.out (bal hb2 _)) _ _ _⟩
        | true =>
          have H := Lib.hid (HS0.out rfl rfl)
          go_wp2_with (first | (go_at_call 98; refine (HN.out _ _ HX1.out).mono ?_; rintro e w2 ⟨rfl, hb2⟩) | (go_at_call 65; refine (HU.out _ _ HX2.out).mono ?_; rintro e w3 ⟨rfl, rfl⟩) | (go_at_call 92; refine (rsounding_any L A O _).mono ?_; rintro e w4 ⟨rfl, hb4⟩; have D0 := (HB0.out.below (bal hb2 (.cells #[.int .i64 L, .int .i64 A, .int .i64 O] 86))).below hb4; have D1 := (HB1.out.below (bal hb2 (.cells #[.int .i64 L, .int .i64 A, .int .i64 O] 86))).below hb4; have d0 := D0.cell 0; have d1 := D0.cell 1; have d2 := D0.cell 2; have e0 := D0.frozen 0; have e1 := D0.frozen 1; have e2 := D0.frozen 2; have hz2 := D0.lt; have d3 := D1.cell 0; have d4 := D1.cell 1; have d5 := D1.cell 2; have e3 := D1.frozen 0; have e4 := D1.frozen 1; have e5 := D1.frozen 2; have hz3 := D1.lt; simp at d0 d1 d2 d3 d4 d5))
          refine bodyPost_ret (v := .tuple #[.agg #[.int .i64 (sndP L A O), .int .i64 nv, .bool true], .int .i64 0]) ?_ rfl ?_
          · simp [results, Tryd.results64, go_sem, d0, d1, d2]
            done
          · rw [H.out.1, H.out.2.1, H.out.2.2.1, H.out.2.2.2]
            refine ⟨rfl, bs3 (Below.setCell (Below.setCell (bt HLOW.out (bt (bal hb2 _) hb4)) ?_ _) ?_ _) _ _ _⟩
            · first | omega | (simp; done) | (simp; omega)
            · first | omega | (simp; done) | (simp; omega)
      · have H := Lib.hid (HS4.out (.inr rfl))
        go_wp2_with (first | (go_at_call 98; refine (HN.out _ _ HX1.out).mono ?_; rintro e w2 ⟨rfl, hb2⟩; have D0 := HB0.out.below (bal hb2 (.cells #[.int .i64 L, .int .i64 A, .int .i64 O] 86))) | (go_at_call 65; refine (HU.out _ _ HX2.out).mono ?_; rintro e w3 ⟨rfl, rfl⟩; have d0 := D0.cell 0; have d1 := D0.cell 1; have d2 := D0.cell 2; have e0 := D0.frozen 0; have e1 := D0.frozen 1; have e2 := D0.frozen 2; have hz2 := D0.lt; simp at d0 d1 d2 hz2))
        refine bodyPost_ret (v := .tuple #[.agg #[.int .i64 0, .int .i64 0, .bool false], .int .i64 4]) ?_ rfl ?_
        · simp [results, Tryd.results64, go_sem, d0, d1, d2]
          done
        · rw [H.out.1, H.out.2.1, H.out.2.2.1, H.out.2.2.2]
          exact ⟨rfl, bs3 (bt HLOW.out (bal hb2 _)) _ _ _⟩
      · cases nb with
        | false =>
          have H := Lib.hid (HS4.out (.inl rfl))
          go_wp2_with (first | (go_at_call 98; refine (HN.out _ _ HX1.out).mono ?_; rintro e w2 ⟨rfl, hb2⟩; have D0 := HB0.out.below (bal hb2 (.cells #[.int .i64 L, .int .i64 A, .int .i64 O] 86))) | (go_at_call 65; refine (HU.out _ _ HX2.out).mono ?_; rintro e w3 ⟨rfl, rfl⟩; have d0 := D0.cell 0; have d1 := D0.cell 1; have d2 := D0.cell 2; have e0 := D0.frozen 0; have e1 := D0.frozen 1; have e2 := D0.frozen 2; have hz2 := D0.lt; simp at d0 d1 d2 hz2))
          refine bodyPost_ret (v := .tuple #[.agg #[.int .i64 0, .int .i64 0, .bool false], .int .i64 4]) ?_ rfl ?_
          · simp [results, Tryd.results64, go_sem, d0, d1, d2]
            done
          · rw [H.out.1, H.out.2.1, H.out.2.2.1, H.out.2.2.2]
            exact ⟨rfl, bs3 (bt HLOW.out (bal hb2 _)) _ _ _⟩
        | true =>
          have H := Lib.hid (HS10.out rfl rfl)
          go_wp2_with (first | (go_at_call 98; refine (HN.out _ _ HX1.out).mono ?_; rintro e w2 ⟨rfl, hb2⟩; have D0 := HB0.out.below (bal hb2 (.cells #[.int .i64 L, .int .i64 A, .int .i64 O] 86))) | (go_at_call 65; refine (HU.out _ _ HX2.out).mono ?_; rintro e w3 ⟨rfl, rfl⟩; have d0 := D0.cell 0; have d1 := D0.cell 1; have d2 := D0.cell 2; have e0 := D0.frozen 0; have e1 := D0.frozen 1; have e2 := D0.frozen 2; have hz2 := D0.lt; simp at d0 d1 d2 hz2))
          refine bodyPost_ret (v := .tuple #[.agg #[.int .i64 0, .int .i64 0, .bool false], .int .i64 10]) ?_ rfl ?_
          · simp [results, Tryd.results64, go_sem, d0, d1, d2]
            done
          · rw [H.out.1, H.out.2.1, H.out.2.2.1, H.out.2.2.2]
            exact ⟨rfl, bs3 (bt HLOW.out (bal hb2 _)) _ _ _⟩
    · have g1 : (k : Int) < (t.length : Int) := by omega
      have hsz : k < (ByteArray.mk t.toArray).size := h2
      have hb : ((((ByteArray.mk t.toArray)[k]'hsz).toNat : Int) == 47) = false := by
        rw [byte_at t k hsz h2, (List.getElem?_eq_some_iff.1 h3).2]
        have : c.toNat ≠ 47 := fun e => h4 (UInt8.toNat_inj.1 e)
        simp; omega
      clear h2 h3 h4
      go_wp2_with (fail)
      go_round
      case rel => exact ⟨k + 1, by go_num, by omega⟩
      case measure => simp [intOf]; omega

set_option maxRecDepth 100000 in
set_option maxHeartbeats 16000000 in
theorem rcourse_bare (l : List UInt8) (t : List UInt8) (w : World) (hs : l.length < 4294967200) (ht : l = t) (h43 : ∃ m c, l.length = m + 1 ∧ l[m]? = some c ∧ c ≠ 43) :
    Calls Tryd.prog 64 #[.string ⟨l.toArray⟩] w fun e w' => e = .returned (.tuple #[.agg #[.int .i64 (crsP l), .int .i64 (crsF l), .bool (crsO l)], .int .i64 (crsE l)]) ∧ Below w.heap.size w w' := by
  have HSY : Hid (CrSays l t false) := by
    subst ht
    refine says_bare ?_
    obtain ⟨m, c, hm, hc, hne⟩ := h43
    · exact last_bare hm (by omega) (by rw [(List.getElem?_eq_some_iff.1 hc).2]; exact hne)
  have hlow := bal (ba w zCr) zCr
  obtain ⟨hB0, hB1⟩ := blk_two w
  have HTL := Lib.hid ht
  obtain ⟨m, c, hm, hc, hne⟩ := h43
  · have hml : m < t.length := by rw [← ht]; omega
    have hsz : m < (ByteArray.mk t.toArray).size := hml
    have hcm : t[m]? = some c := by rw [← ht]; exact hc
    have hb : ((((ByteArray.mk t.toArray)[m]'hsz).toNat : Int) == 43) = false := by
      rw [byte_at t m hsz hml, (List.getElem?_eq_some_iff.1 hcm).2]
      have : c.toNat ≠ 43 := fun e => hne (UInt8.toNat_inj.1 e)
      simp; omega
    have hmt : t.length = m + 1 := by rw [← ht]; exact hm
    have hw : IntKind.i64.wrap ((t.length : Int) - 1) = (m : Int) := by rw [IntWalk.i64_in _ ⟨by omega, by omega⟩]; omega
    have hpos : (0 : Int) < (t.length : Int) := by omega
    have htl : t.length < 4294967200 := by rw [← ht]; exact hs
    rw [ht]
    rw [show crsP t = crsP l by rw [ht], show crsF t = crsF l by rw [ht], show crsO t = crsO l by rw [ht], show crsE t = crsE l by rw [ht]]
    clear ht hs hm hc hne hcm hmt
    go_enter Tryd.func64, Tryd.ntmps64
    go_wp2_with (fail)
    generalize hWZ : ((w.alloc zCr).alloc zCr) = wz at *
    clear hWZ
    have HLOW := Lib.hid hlow
    have HB0 := Lib.hid hB0
    have HB1 := Lib.hid hB1
    have hz0 : w.heap.size + 1 < wz.heap.size := hB1.lt
    clear hlow hB0 hB1
    go_loop [5] (fun i => ∃ k : Nat, i = .int .i64 k ∧ k ≤ slA t) (fun i => slA t - (intOf i).toNat)
    case atStart => exact ⟨0, rfl, by omega⟩
    case round =>
      obtain ⟨k, rfl, hk⟩ := hrel
      have hkl : k ≤ t.length := Nat.le_trans hk (slA_le t)
      rcases slA_at t k hk with ⟨he, h | h⟩ | ⟨h1, h2, c, h3, h4⟩
      · have g1 : ¬ ((k : Int) < (t.length : Int)) := by omega
        have g2 : ((k : Int) == (t.length : Int)) = true := by simp; omega
        have H := Lib.hid (says_form HSY.out (.inl (by omega)))
        clear h he
        have c0 := HB0.out.cell 0
        have c1 := HB0.out.cell 1
        have c2 := HB0.out.cell 2
        have f0 := HB0.out.frozen 0
        have f1 := HB0.out.frozen 1
        have f2 := HB0.out.frozen 2
        simp at c0 c1 c2
        go_wp2_with (fail)
        refine bodyPost_ret (v := .tuple #[.agg #[.int .i64 0, .int .i64 0, .bool false], .int .i64 4]) ?_ rfl ?_
        · simp [results, Tryd.results64, go_sem, c0, c1, c2]
          done
        · rw [H.out.1, H.out.2.1, H.out.2.2.1, H.out.2.2.2]
          exact ⟨rfl, bs3 HLOW.out _ _ _⟩
      · have hkt : k < t.length := (List.getElem?_eq_some_iff.1 h).1
        have g1 : (k : Int) < (t.length : Int) := by omega
        have g2 : ((k : Int) == (t.length : Int)) = false := by simp; omega
        have hsz : k < (ByteArray.mk t.toArray).size := hkt
        have hb : ((((ByteArray.mk t.toArray)[k]'hsz).toNat : Int) == 47) = true := by
          rw [byte_at t k hsz hkt, (List.getElem?_eq_some_iff.1 h).2]; rfl
        have w1 : IntKind.i64.wrap ((k : Int) + 1) = (k : Int) + 1 := IntWalk.i64_in _ ⟨by omega, by omega⟩
        have HN : Hid (∀ (s : ByteArray) (w' : World), s = ⟨(t.take k).toArray⟩ → Calls Tryd.prog 98 #[.string s] w' fun e w2 => e = .returned (.tuple #[.agg #[.int .i64 (nmL (t.take k)), .int .i64 (nmA (t.take k)), .int .i64 (nmO (t.take k))], .int .i64 (nmE (t.take k))]) ∧ Below w'.heap.size w' w2) :=
          fun s w' h => by subst h; exact rparse_any _ w' (by simp; omega)
        have HU : Hid (∀ (s : ByteArray) (w' : World), s = ⟨(t.drop (k + 1)).toArray⟩ → Calls Tryd.prog 65 #[.string s] w' fun e w2 => e = .returned (.tuple #[.int .i64 (numV (t.drop (k + 1))), .bool (numB (t.drop (k + 1)))]) ∧ w' = w2) :=
          fun s w' h => by subst h; exact rnumber_any _ w'
        have HX1 : Hid ((ByteArray.mk t.toArray).extract 0 k = ⟨(t.take k).toArray⟩) := by have := cut_bytes t 0 k; rw [List.drop_zero, Nat.sub_zero] at this; exact this
        have HX2 : Hid ((ByteArray.mk t.toArray).extract (k + 1) t.length = ⟨(t.drop (k + 1)).toArray⟩) := by
          have := cut_bytes t (k + 1) t.length
          rw [List.take_of_length_le (by simp)] at this
          exact this
        have hlt : slA t < t.length := by omega
        have HS4 : Hid (numB (t.drop (k + 1)) = false ∨ nmE (t.take k) = 4 → crsE l = 4 ∧ crsP l = 0 ∧ crsF l = 0 ∧ crsO l = false) := fun h => says_form HSY.out (.inr ⟨hlt, by rw [← he]; exact h⟩)
        have HS10 : Hid (numB (t.drop (k + 1)) = true → nmE (t.take k) = 10 → crsE l = 10 ∧ crsP l = 0 ∧ crsF l = 0 ∧ crsO l = false) := fun h h' => says_pitch HSY.out hlt (by rw [← he]; exact h) (by rw [← he]; exact h')
        have HS0 : Hid (numB (t.drop (k + 1)) = true → nmE (t.take k) = 0 → crsE l = 0 ∧ crsP l = sndP (nmL (t.take k)) (nmA (t.take k)) (nmO (t.take k)) ∧ crsF l = numV (t.drop (k + 1)) ∧ crsO l = false) := fun h h' => by
          have := says_ok HSY.out hlt (by rw [← he]; exact h) (by rw [← he]; exact h')
          rwa [← he] at this
        have hnc := nmE_cases (t.take k)
        clear h he hlt
        generalize nmL (t.take k) = L at *
        generalize nmA (t.take k) = A at *
        generalize nmO (t.take k) = O at *
        generalize nmE (t.take k) = er at *
        generalize numV (t.drop (k + 1)) = nv at *
        generalize numB (t.drop (k + 1)) = nb at *
        have c0 := HB0.out.cell 0
        have f0 := HB0.out.frozen 0
        rcases hnc with rfl | rfl | rfl
        · cases nb with
          | false =>
            have H := Lib.hid (HS4.out (.inl rfl))
            go_wp2_with (first | (go_at_call 98; refine (HN.out _ _ HX1.out).mono ?_; rintro e w2 ⟨rfl, hb2⟩; have D0 := HB0.out.below (bal hb2 (.cells #[.int .i64 L, .int .i64 A, .int .i64 O] 86))) | (go_at_call 65; refine (HU.out _ _ HX2.out).mono ?_; rintro e w3 ⟨rfl, rfl⟩; have d0 := D0.cell 0; have d1 := D0.cell 1; have d2 := D0.cell 2; have e0 := D0.frozen 0; have e1 := D0.frozen 1; have e2 := D0.frozen 2; have hz2 := D0.lt; simp at d0 d1 d2 hz2))
            refine bodyPost_ret (v := .tuple #[.agg #[.int .i64 0, .int .i64 0, .bool false], .int .i64 4]) ?_ rfl ?_
            · simp [results, Tryd.results64, go_sem, d0, d1, d2]
              done
            · rw [H.out.1, H.out.2.1, H.out.2.2.1, H.out.2.2.2]
              exact ⟨rfl, bs3 (bt HLOW.out (bal hb2 _)) _ _ _⟩
          | true =>
            have H := Lib.hid (HS0.out rfl rfl)
            go_wp2_with (first | (go_at_call 98; refine (HN.out _ _ HX1.out).mono ?_; rintro e w2 ⟨rfl, hb2⟩) | (go_at_call 65; refine (HU.out _ _ HX2.out).mono ?_; rintro e w3 ⟨rfl, rfl⟩) | (go_at_call 92; refine (rsounding_any L A O _).mono ?_; rintro e w4 ⟨rfl, hb4⟩; have D0 := (HB0.out.below (bal hb2 (.cells #[.int .i64 L, .int .i64 A, .int .i64 O] 86))).below hb4; have D1 := (HB1.out.below (bal hb2 (.cells #[.int .i64 L, .int .i64 A, .int .i64 O] 86))).below hb4; have d0 := D0.cell 0; have d1 := D0.cell 1; have d2 := D0.cell 2; have e0 := D0.frozen 0; have e1 := D0.frozen 1; have e2 := D0.frozen 2; have hz2 := D0.lt; have d3 := D1.cell 0; have d4 := D1.cell 1; have d5 := D1.cell 2; have e3 := D1.frozen 0; have e4 := D1.frozen 1; have e5 := D1.frozen 2; have hz3 := D1.lt; simp at d0 d1 d2 d3 d4 d5))
            refine bodyPost_ret (v := .tuple #[.agg #[.int .i64 (sndP L A O), .int .i64 nv, .bool false], .int .i64 0]) ?_ rfl ?_
            · simp [results, Tryd.results64, go_sem, d0, d1, d2]
              done
            · rw [H.out.1, H.out.2.1, H.out.2.2.1, H.out.2.2.2]
              refine ⟨rfl, bs3 (Below.setCell (Below.setCell (bt HLOW.out (bt (bal hb2 _) hb4)) ?_ _) ?_ _) _ _ _⟩
              · first | omega | (simp; done) | (simp; omega)
              · first | omega | (simp; done) | (simp; omega)
        · have H := Lib.hid (HS4.out (.inr rfl))
          go_wp2_with (first | (go_at_call 98; refine (HN.out _ _ HX1.out).mono ?_; rintro e w2 ⟨rfl, hb2⟩; have D0 := HB0.out.below (bal hb2 (.cells #[.int .i64 L, .int .i64 A, .int .i64 O] 86))) | (go_at_call 65; refine (HU.out _ _ HX2.out).mono ?_; rintro e w3 ⟨rfl, rfl⟩; have d0 := D0.cell 0; have d1 := D0.cell 1; have d2 := D0.cell 2; have e0 := D0.frozen 0; have e1 := D0.frozen 1; have e2 := D0.frozen 2; have hz2 := D0.lt; simp at d0 d1 d2 hz2))
          refine bodyPost_ret (v := .tuple #[.agg #[.int .i64 0, .int .i64 0, .bool false], .int .i64 4]) ?_ rfl ?_
          · simp [results, Tryd.results64, go_sem, d0, d1, d2]
            done
          · rw [H.out.1, H.out.2.1, H.out.2.2.1, H.out.2.2.2]
            exact ⟨rfl, bs3 (bt HLOW.out (bal hb2 _)) _ _ _⟩
        · cases nb with
          | false =>
            have H := Lib.hid (HS4.out (.inl rfl))
            go_wp2_with (first | (go_at_call 98; refine (HN.out _ _ HX1.out).mono ?_; rintro e w2 ⟨rfl, hb2⟩; have D0 := HB0.out.below (bal hb2 (.cells #[.int .i64 L, .int .i64 A, .int .i64 O] 86))) | (go_at_call 65; refine (HU.out _ _ HX2.out).mono ?_; rintro e w3 ⟨rfl, rfl⟩; have d0 := D0.cell 0; have d1 := D0.cell 1; have d2 := D0.cell 2; have e0 := D0.frozen 0; have e1 := D0.frozen 1; have e2 := D0.frozen 2; have hz2 := D0.lt; simp at d0 d1 d2 hz2))
            refine bodyPost_ret (v := .tuple #[.agg #[.int .i64 0, .int .i64 0, .bool false], .int .i64 4]) ?_ rfl ?_
            · simp [results, Tryd.results64, go_sem, d0, d1, d2]
              done
            · rw [H.out.1, H.out.2.1, H.out.2.2.1, H.out.2.2.2]
              exact ⟨rfl, bs3 (bt HLOW.out (bal hb2 _)) _ _ _⟩
          | true =>
            have H := Lib.hid (HS10.out rfl rfl)
            go_wp2_with (first | (go_at_call 98; refine (HN.out _ _ HX1.out).mono ?_; rintro e w2 ⟨rfl, hb2⟩; have D0 := HB0.out.below (bal hb2 (.cells #[.int .i64 L, .int .i64 A, .int .i64 O] 86))) | (go_at_call 65; refine (HU.out _ _ HX2.out).mono ?_; rintro e w3 ⟨rfl, rfl⟩; have d0 := D0.cell 0; have d1 := D0.cell 1; have d2 := D0.cell 2; have e0 := D0.frozen 0; have e1 := D0.frozen 1; have e2 := D0.frozen 2; have hz2 := D0.lt; simp at d0 d1 d2 hz2))
            refine bodyPost_ret (v := .tuple #[.agg #[.int .i64 0, .int .i64 0, .bool false], .int .i64 10]) ?_ rfl ?_
            · simp [results, Tryd.results64, go_sem, d0, d1, d2]
              done
            · rw [H.out.1, H.out.2.1, H.out.2.2.1, H.out.2.2.2]
              exact ⟨rfl, bs3 (bt HLOW.out (bal hb2 _)) _ _ _⟩
      · have g1 : (k : Int) < (t.length : Int) := by omega
        have hsz : k < (ByteArray.mk t.toArray).size := h2
        have hb : ((((ByteArray.mk t.toArray)[k]'hsz).toNat : Int) == 47) = false := by
          rw [byte_at t k hsz h2, (List.getElem?_eq_some_iff.1 h3).2]
          have : c.toNat ≠ 47 := fun e => h4 (UInt8.toNat_inj.1 e)
          simp; omega
        clear h2 h3 h4
        go_wp2_with (fail)
        go_round
        case rel => exact ⟨k + 1, by go_num, by omega⟩
        case measure => simp [intOf]; omega

set_option maxHeartbeats 1600000 in
theorem rcourse_nil (w : World) :
    Calls Tryd.prog 64 #[.string ⟨#[]⟩] w fun e w' => e = .returned (.tuple #[.agg #[.int .i64 (crsP []), .int .i64 (crsF []), .bool (crsO [])], .int .i64 (crsE [])]) ∧ Below w.heap.size w w' := by
  have H := Lib.hid (crs_form (l := []) rfl)
  go_enter Tryd.func64, Tryd.ntmps64
  go_wp2_with (fail)
  refine wp_loop_rounds 1 ?_
  rw [rounds_succ]
  go_wp2_with (fail)
  refine bodyPost_ret (v := .tuple #[.agg #[.int .i64 0, .int .i64 0, .bool false], .int .i64 4]) ?_ rfl ?_
  · simp [results, Tryd.results64, go_sem]
    done
  · rw [H.out.1, H.out.2.1, H.out.2.2.1, H.out.2.2.2]
    exact ⟨rfl, bal (ba w zCr) zCr⟩

theorem rcourse_any (l : List UInt8) (w : World) (hs : l.length < 4294967200) :
    Calls Tryd.prog 64 #[.string ⟨l.toArray⟩] w fun e w' => e = .returned (.tuple #[.agg #[.int .i64 (crsP l), .int .i64 (crsF l), .bool (crsO l)], .int .i64 (crsE l)]) ∧ Below w.heap.size w w' := by
  by_cases h0 : l = []
  · subst h0; exact rcourse_nil w
  · obtain ⟨m, hm⟩ : ∃ m, l.length = m + 1 := ⟨l.length - 1, by have := List.length_pos_iff.2 h0; omega⟩
    have hml : m < l.length := by omega
    by_cases h : l[m] = 43
    · exact rcourse_plus l m w hs hm (by rw [List.getElem?_eq_getElem hml, h])
    · exact rcourse_bare l l w hs rfl (⟨m, l[m], hm, List.getElem?_eq_getElem hml, h⟩)

end Go.Proofs.YtdaeanjjmbibmaaDoor
