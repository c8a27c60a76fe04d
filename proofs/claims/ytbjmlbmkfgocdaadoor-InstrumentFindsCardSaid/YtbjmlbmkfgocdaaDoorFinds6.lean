/- The law InstrumentFinds where an instrument is too big, and where a place is one. -/
import Derived.Test.YtbjmlbmkfgocdaaDoorLawChecks
import Derived.Test.YtbjmlbmkfgocdaaDoorSamePl
import Derived.Test.YtbjmlbmkfgocdaaDoorPure10
namespace Go.Proofs.YtbjmlbmkfgocdaaDoor
open Go.RowKit

set_option maxRecDepth 100000 in
set_option maxHeartbeats 16000000 in
theorem law_finds_big (A A' : Option Addr) (n c m c' : Nat) (pc pf : Int) (w : World) (E : Env w) (hb : bigB n m = true) :
    Calls Tryd.prog 6 #[.agg #[.slice A n c, .slice A' m c'], .agg #[.int .i64 pc, .int .i64 pf]] w fun e w' => e = .returned (.bool true) ∧ Below w.heap.size w w' := by
  have HE : Hid (∀ w', Below ((w.alloc (iObj A n c A' m c')).alloc (pObj pc pf)).heap.size ((w.alloc (iObj A n c A' m c')).alloc (pObj pc pf)) w' → Env w' ∧ Below w.heap.size w w') :=
    fun w' h => ⟨((E.alloc _).alloc _).below h, bx (bt (ba _ _) h)⟩
  have HB := Lib.hid hb
  clear hb E
  go_enter Tryd.func6, Tryd.ntmps6
  go_wp2_with (first | (go_at_call 19; refine (big_any _ _ _ _ _ _ _).mono ?_; rintro e w1 ⟨rfl, hb1⟩; rw [HB.out]) | (go_at_call 18; refine (works_any _ (HE.out _ hb1).1).mono ?_; rintro e w2 ⟨rfl, hb2⟩))
  go_ret
  exact ⟨rfl, bt (HE.out _ hb1).2 hb2⟩

set_option maxRecDepth 100000 in
set_option maxHeartbeats 16000000 in
theorem law_finds_yes (A A' : Option Addr) (n c m c' : Nat) (C : List Cr) (S : List Int) (pc pf : Int) (w : World) (E : Env w) (hC : Sl w w.heap.size 3 A n c (crC C)) (hS : Sl w w.heap.size 1 A' m c' (intC S)) (hn : n = C.length) (hm : m = S.length)
    (hb : bigB n m = false) (he : atE C S pc pf = 0) :
    Calls Tryd.prog 6 #[.agg #[.slice A n c, .slice A' m c'], .agg #[.int .i64 pc, .int .i64 pf]] w fun e w' => e = .returned (.bool true) ∧ Below w.heap.size w w' := by
  have HE : Hid (∀ w', Below ((w.alloc (iObj A n c A' m c')).alloc (pObj pc pf)).heap.size ((w.alloc (iObj A n c A' m c')).alloc (pObj pc pf)) w' → Env w' ∧ Sl w' w'.heap.size 3 A n c (crC C) ∧ Sl w' w'.heap.size 1 A' m c' (intC S) ∧ Below w.heap.size w w') :=
    fun w' h => ⟨((E.alloc _).alloc _).below h, ((hC.below (ba _ _)).below (ba _ _)).below h, ((hS.below (ba _ _)).below (ba _ _)).below h, bx (bt (ba _ _) h)⟩
  have HB := Lib.hid hb
  have HN := Lib.hid hn
  have HM := Lib.hid hm
  obtain ⟨l1, l2⟩ : n ≤ 64 ∧ m ≤ 64 := by simp [bigB] at hb; omega
  have b1 : n ≤ 65536 := by omega
  have b2 : m ≤ 65536 := by omega
  have b3 : n ≤ 9223372036854775807 := by omega
  have b4 : m ≤ 9223372036854775807 := by omega
  obtain ⟨f1, f2, f3, f4⟩ := finds he
  have HL0 : Hid ((plL C S (atP C S pc pf)).length ≤ 9223372036854775807) := plL_len C S _
  have HP : Hid (∀ (A1 A2 : Option Addr) (c1 c2 : Nat) (w' : World), Sl w' w'.heap.size 3 A1 n c1 (crC C) → Sl w' w'.heap.size 1 A2 m c2 (intC S) → Calls Tryd.prog 25 #[.agg #[.slice A1 n c1, .slice A2 m c2], .int .i64 (atP C S pc pf)] w' (PlPost (plL C S (atP C S pc pf)) 0 w')) := by
    intro A1 A2 c1 c2 w' h1 h2
    have := places_any A1 A2 n c1 m c2 C S (atP C S pc pf) w' h1 h2 HN.out HM.out b3 b4
    rw [f1] at this
    exact this
  have HF := Lib.hid (And.intro f2 (And.intro f3 f4))
  clear hC hS hn hm E hb l1 l2 f1 f2 f3 f4
  generalize hLL : plL C S (atP C S pc pf) = L at *
  generalize hpp : atP C S pc pf = pv at *
  have HV := Lib.hid (And.intro hpp he)
  clear hLL hpp he
  go_enter Tryd.func6, Tryd.ntmps6
  go_wp2_with (go_at_call 19; refine (big_any _ _ _ _ _ _ _).mono ?_; rintro e w1 ⟨rfl, hb1⟩; rw [HB.out])
  go_region_held3 (fun w' => w'.cell? ⟨w.heap.size, 0, none⟩ = some (.slice A n c) ∧ w'.cell? ⟨w.heap.size, 1, none⟩ = some (.slice A' m c') ∧ w'.cell? ⟨w.heap.size + 1, 0, none⟩ = some (.int .i64 pc) ∧ w'.cell? ⟨w.heap.size + 1, 1, none⟩ = some (.int .i64 pf) ∧ w.heap.size + 1 < w'.heap.size ∧ Below ((w.alloc (iObj A n c A' m c')).alloc (pObj pc pf)).heap.size ((w.alloc (iObj A n c A' m c')).alloc (pObj pc pf)) w')
    (first | exact args2 (bt (bt hb1.drew hb3) hb4) | exact args2 (bt hb1.drew hb3) | exact args2 hb1.drew)
    (first
      | (go_at_call 21; refine (rcopy_any A A' n c m c' C S _ (HE.out _ hb1.drew).2.1 (HE.out _ hb1.drew).2.2.1 b1 b2).mono ?_; rintro e w3 ⟨A1, c1, A2, c2, rfl, o1, o2, hb3⟩)
      | (go_at_call 20; refine (at_any _ _ _ _ _ _ C S pc pf _ o1.sl o2.sl HN.out HM.out b3 b4).mono ?_; rintro e w4 ⟨rfl, hb4⟩; rw [HV.out.1, HV.out.2]))
  have hT4 := bt (bt hb1.drew hb3) hb4
  obtain ⟨q0, q1, q2, q3, hz, _⟩ := args2 hT4
  go_wp2_with (fail)
  refine (rcopy_any A A' n c m c' C S _ (HE.out _ hT4).2.1 (HE.out _ hT4).2.2.1 b1 b2).mono ?_
  rintro e w5 ⟨G1, d1, G2, d2, rfl, o1, o2, hb5⟩
  clear q0 q1 q2 q3 hz
  go_wp2_with (fail)
  refine (HP.out _ _ _ _ _ o1.sl o2.sl).mono ?_
  rintro e w6 ⟨A3, n3, d3, rfl, hn3, s3, hb6⟩
  have hT6 := bt (bt hT4 hb5) hb6
  have HN3 := Lib.hid hn3
  have HS3 := Lib.hid s3
  have b5 : n3 ≤ 9223372036854775807 := by have := HL0.out; omega
  clear hn3 s3 o1 o2
  go_wp2_with (fail)
  go_loopw [8, 9, 10, 11] (fun s i _ _ wr => ∃ (k : Nat) (sb : Bool), k ≤ n3 ∧ i = .int .i64 k ∧ s = .bool sb ∧ (sb = true ↔ (pc, pf) ∈ L.take k) ∧ Below w6.heap.size w6 wr) (fun _ i _ _ _ => n3 - (intOf i).toNat)
  case atStart => exact ⟨0, false, by omega, rfl, rfl, by simp, Below.refl _ _⟩
  case round =>
    obtain ⟨k, sb, hk, rfl, rfl, hsb, hbw⟩ := hrel
    have HSB := Lib.hid hsb
    clear hsb
    by_cases hlt : k < n3
    · have hkn : (k : Int) < (n3 : Int) := by omega
      obtain ⟨g, off, hA3, _⟩ := HS3.out.2.2 (by omega)
      subst hA3
      obtain ⟨ck, hck⟩ : ∃ x, (L.getD k (0, 0)).1 = x := ⟨_, rfl⟩
      obtain ⟨fk, hfk⟩ : ∃ x, (L.getD k (0, 0)).2 = x := ⟨_, rfl⟩
      have HY := HF.out.2.1 _ (getP_mem L k (by have := HN3.out; omega))
      rw [hck, hfk] at HY
      have HY2 := Lib.hid HY
      have HCELL : Hid (∀ (t : Nat), t < n3 → ∀ w', Below w6.heap.size w6 w' → w'.cell? ⟨g, off + t * 2, none⟩ = some (.int .i64 (L.getD t (0, 0)).1) ∧ w'.cell? ⟨g, off + t * 2 + 1, none⟩ = some (.int .i64 (L.getD t (0, 0)).2) ∧ g < w'.heap.size) := by
        intro t ht w' h
        obtain ⟨g', off', hA, hB, hc⟩ := (HS3.out.below h).2.2 (by omega)
        injection hA with hA
        injection hA with hA1 hA2
        subst hA1 hA2
        obtain ⟨i0, i1⟩ := plC_at L t (by have := HN3.out; omega)
        have k0 := hc _ _ i0
        have k1 := hc _ _ i1
        rw [← Nat.add_assoc] at k1
        exact ⟨k0, k1, hB⟩
      have HK : Hid (∀ w', Below w6.heap.size w6 w' → w'.cell? ⟨w.heap.size, 0, none⟩ = some (.slice A n c) ∧ w'.cell? ⟨w.heap.size, 1, none⟩ = some (.slice A' m c') ∧ w'.cell? ⟨w.heap.size + 1, 0, none⟩ = some (.int .i64 pc) ∧ w'.cell? ⟨w.heap.size + 1, 1, none⟩ = some (.int .i64 pf) ∧ w.heap.size + 1 < w'.heap.size ∧ w'.cell? ⟨g, off + k * 2, none⟩ = some (.int .i64 ck) ∧ w'.cell? ⟨g, off + k * 2 + 1, none⟩ = some (.int .i64 fk) ∧ g < w'.heap.size ∧ Below w6.heap.size w6 w') := by
        intro w' h
        obtain ⟨q0, q1, q2, q3, hz, _⟩ := args2 (bt hT6 h)
        obtain ⟨k0, k1, hB⟩ := HCELL.out k hlt w' h
        rw [hck] at k0
        rw [hfk] at k1
        exact ⟨q0, q1, q2, q3, hz, k0, k1, hB, h⟩
      have HTK : Hid ((pc, pf) ∈ L.take (k + 1) ↔ (pc, pf) ∈ L.take k ∨ (ck = pc ∧ fk = pf)) := by
        unfold Hid
        rw [take_in (by have := HN3.out; omega), ← hck, ← hfk]
        refine or_congr Iff.rfl ⟨fun h => by rw [h]; exact ⟨rfl, rfl⟩, fun h => Prod.ext h.1 h.2⟩
      have hord : k = 0 ∨ ∃ (j : Nat) (cj : Int), (k : Int) - 1 = (j : Int) ∧ 0 < k ∧ j < n3 ∧ (L.getD j (0, 0)).1 = cj ∧ cj < ck := by
        rcases Nat.eq_zero_or_pos k with h | h
        · exact .inl h
        · refine .inr ⟨k - 1, _, by omega, h, by omega, rfl, ?_⟩
          rw [← hck]
          exact pw_next HF.out.2.2 (by omega) (by have := HN3.out; omega)
      clear hck hfk HY
      go_wp2_with (fail)
      go_region_held3 (fun w' => w'.cell? ⟨w.heap.size, 0, none⟩ = some (.slice A n c) ∧ w'.cell? ⟨w.heap.size, 1, none⟩ = some (.slice A' m c') ∧ w'.cell? ⟨w.heap.size + 1, 0, none⟩ = some (.int .i64 pc) ∧ w'.cell? ⟨w.heap.size + 1, 1, none⟩ = some (.int .i64 pf) ∧ w.heap.size + 1 < w'.heap.size ∧ w'.cell? ⟨g, off + k * 2, none⟩ = some (.int .i64 ck) ∧ w'.cell? ⟨g, off + k * 2 + 1, none⟩ = some (.int .i64 fk) ∧ g < w'.heap.size ∧ Below w6.heap.size w6 w')
        (first | exact HK.out _ (bt (bt hbw.drew hba) hbb) | exact HK.out _ (bt hbw.drew hba) | exact HK.out _ hbw.drew)
        (first
          | (go_at_call 21; refine (rcopy_any A A' n c m c' C S _ (HE.out _ (bt hT6 hbw.drew)).2.1 (HE.out _ (bt hT6 hbw.drew)).2.2.1 b1 b2).mono ?_; rintro e wa ⟨A5, d5, A6, d6, rfl, o5, o6, hba⟩)
          | (go_at_call 20; refine (at_any _ _ _ _ _ _ C S ck fk _ o5.sl o6.sl HN.out HM.out b3 b4).mono ?_; rintro e wb ⟨rfl, hbb⟩; rw [HY2.out.1, HY2.out.2]))
      have hT := bt (bt hbw.drew hba) hbb
      clear o5 o6
      obtain ⟨q0, q1, q2, q3, hz, c0, c1, hg, _⟩ := HK.out _ hT
      have hsee : sb = true ∨ (sb = false ∧ ¬ ck = pc) ∨ (sb = false ∧ ck = pc ∧ ¬ fk = pf) ∨ (sb = false ∧ ck = pc ∧ fk = pf) := by
        cases sb
        · by_cases h1 : ck = pc
          · by_cases h2 : fk = pf
            · exact .inr (.inr (.inr ⟨rfl, h1, h2⟩))
            · exact .inr (.inr (.inl ⟨rfl, h1, h2⟩))
          · exact .inr (.inl ⟨rfl, h1⟩)
        · exact .inl rfl
      rcases hord with h0 | ⟨j, cj, hj, hk0, hjn, hcj, hlc⟩
      · have hkb : decide (0 < (k : Int)) = false := by simp; omega
        have hkb2 : decide (0 < k) = false := by simp; omega
        clear h0
        go_wp2_with (fail)
        go_quiet (fail)
        go_wp2_with (fail)
        have hT2 := bd hT nq
        clear q0 q1 q2 q3 hz c0 c1 hg
        obtain ⟨q0, q1, q2, q3, hz, c0, c1, hg, _⟩ := HK.out _ hT2
        generalize wb.drewN nq = wc at *
        rcases hsee with rfl | ⟨rfl, h1⟩ | ⟨rfl, rfl, h1⟩ | ⟨rfl, rfl, rfl⟩
        · go_quiet (fail)
          go_wp2_with (fail)
          go_roundw
          case rel => exact ⟨k + 1, true, by omega, by go_num, rfl, ⟨fun _ => HTK.out.2 (.inl (HSB.out.1 rfl)), fun _ => rfl⟩, bd hT2 _⟩
          case measure => simp [intOf]; omega
        · have hxb : (ck == pc) = false := by simpa using h1
          go_quiet (fail)
          go_wp2_with (fail)
          go_roundw
          case rel => exact ⟨k + 1, false, by omega, by go_num, rfl, ⟨fun h => (by cases h), fun h => (HTK.out.1 h).elim HSB.out.2 (fun h => absurd h.1 h1)⟩, bd hT2 _⟩
          case measure => simp [intOf]; omega
        · have hxb : (fk == pf) = false := by simpa using h1
          go_quiet (fail)
          go_wp2_with (fail)
          go_roundw
          case rel => exact ⟨k + 1, false, by omega, by go_num, rfl, ⟨fun h => (by cases h), fun h => (HTK.out.1 h).elim HSB.out.2 (fun h => absurd h.2 h1)⟩, bd hT2 _⟩
          case measure => simp [intOf]; omega
        · go_quiet (fail)
          go_wp2_with (fail)
          go_roundw
          case rel => exact ⟨k + 1, true, by omega, by go_num, rfl, ⟨fun _ => HTK.out.2 (.inr ⟨rfl, rfl⟩), fun _ => rfl⟩, bd hT2 _⟩
          case measure => simp [intOf]; omega
      · have hkb : decide (0 < (k : Int)) = true := by simp; omega
        have hle : decide (ck ≤ cj) = false := by simp; omega
        have hjn2 : (j : Int) < (n3 : Int) := by omega
        obtain ⟨d0, d1, _⟩ := HCELL.out j hjn _ hT
        rw [hcj] at d0
        have w64 : IntKind.i64.wrap ((k : Int) - 1) = (j : Int) := by rw [hj]; exact IntWalk.i64_in _ ⟨by omega, by omega⟩
        clear hcj
        go_wp2_with (fail)
        go_quiet (fail)
        go_wp2_with (fail)
        have hT2 := bd hT nq
        clear q0 q1 q2 q3 hz c0 c1 hg d0 d1 hj w64 hjn2 hle
        obtain ⟨q0, q1, q2, q3, hz, c0, c1, hg, _⟩ := HK.out _ hT2
        generalize wb.drewN nq = wc at *
        rcases hsee with rfl | ⟨rfl, h1⟩ | ⟨rfl, rfl, h1⟩ | ⟨rfl, rfl, rfl⟩
        · go_quiet (fail)
          go_wp2_with (fail)
          go_roundw
          case rel => exact ⟨k + 1, true, by omega, by go_num, rfl, ⟨fun _ => HTK.out.2 (.inl (HSB.out.1 rfl)), fun _ => rfl⟩, bd hT2 _⟩
          case measure => simp [intOf]; omega
        · have hxb : (ck == pc) = false := by simpa using h1
          go_quiet (fail)
          go_wp2_with (fail)
          go_roundw
          case rel => exact ⟨k + 1, false, by omega, by go_num, rfl, ⟨fun h => (by cases h), fun h => (HTK.out.1 h).elim HSB.out.2 (fun h => absurd h.1 h1)⟩, bd hT2 _⟩
          case measure => simp [intOf]; omega
        · have hxb : (fk == pf) = false := by simpa using h1
          go_quiet (fail)
          go_wp2_with (fail)
          go_roundw
          case rel => exact ⟨k + 1, false, by omega, by go_num, rfl, ⟨fun h => (by cases h), fun h => (HTK.out.1 h).elim HSB.out.2 (fun h => absurd h.2 h1)⟩, bd hT2 _⟩
          case measure => simp [intOf]; omega
        · go_quiet (fail)
          go_wp2_with (fail)
          go_roundw
          case rel => exact ⟨k + 1, true, by omega, by go_num, rfl, ⟨fun _ => HTK.out.2 (.inr ⟨rfl, rfl⟩), fun _ => rfl⟩, bd hT2 _⟩
          case measure => simp [intOf]; omega
    · obtain rfl : k = n3 := by omega
      have hkn : ¬ ((k : Int) < (k : Int)) := by omega
      obtain rfl : sb = true := HSB.out.2 (by rw [List.take_of_length_le (by have := HN3.out; omega)]; exact HF.out.1)
      have hT := bt hT6 hbw
      go_wp2_with (go_at_call 18; refine (works_any _ (HE.out _ hT).1).mono ?_; rintro e w9 ⟨rfl, hb9⟩)
      go_ret
      exact ⟨rfl, (HE.out _ (bt hT hb9)).2.2.2⟩

end Go.Proofs.YtbjmlbmkfgocdaaDoor
