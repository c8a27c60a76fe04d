/- Sound: the stops of a piece with their notes (sound.play), for any piece. -/
import Derived.Test.YtpcehgifpajmbaaGreatSndEnd
import Derived.Test.YtpcehgifpajmbaaGreatAt
import Derived.Deep.RegionHeldLaw
import Derived.Deep.AppendLies
import Derived.OwnWalk
import Derived.Test.YtpcehgifpajmbaaGreatPure8
import Derived.Maps.AppendAt
namespace Go.Proofs.YtpcehgifpajmbaaGreat
open Go Go.RowKit

theorem stsErr_len {C : List Cr} {P : List EvP} {k : Nat} : ∀ (L : List St) (bf : Int), bf ≤ C.length → stsErr C P k bf L = 0 → bf + L.length ≤ C.length
  | [], bf, h, _ => by simpa using h
  | x :: r, bf, h, h0 => by
    unfold stsErr at h0
    by_cases hx : stErr C P k bf x = 0
    · rw [if_pos hx] at h0
      obtain ⟨⟨_, a2⟩, _, a3, _⟩ := stErr_ok hx
      have := stsErr_len r x.c a2 h0
      simp only [List.length_cons]
      push_cast
      omega
    · rw [if_neg hx] at h0; exact absurd h0 hx
theorem ev_len {C : List Cr} {S : List Int} {P : List EvP} (h : pcErr C S P = 0) {i : Nat} {y : EvP} (hy : P[i]? = some y) : y.L.length ≤ 14 := by
  obtain ⟨h1, _, h3⟩ := pcErr_ok h
  have := stsErr_len y.L 0 (by omega) ((h3 i y hy).2.2)
  have := (chk_ok h1).1
  omega
theorem pyGo_len {C : List Cr} {S : List Int} {P : List EvP} {O : List Int} : ∀ (Q : List EvP) (i : Nat), (∀ y ∈ Q, y.L.length ≤ 14) → (pyGo C S P O i Q).length ≤ 14 * Q.length
  | [], _, _ => by simp [pyGo]
  | y :: r, i, h => by
    have := pyGo_len (C := C) (S := S) (P := P) (O := O) r (i + 1) (fun z hz => h z (List.mem_cons_of_mem _ hz))
    have := h y (List.mem_cons_self ..)
    simp only [pyGo, pyEv, List.length_append, List.length_map, List.length_cons]
    omega
theorem pyL_len (C : List Cr) (S : List Int) (P : List EvP) : (pyL C S P).length ≤ 5600 := by
  unfold pyL
  split
  · rename_i h
    have h2 := (pcErr_ok h).2.1
    have := pyGo_len (C := C) (S := S) (P := P) (O := onsL C S P) P 0 (fun y hy => by
      obtain ⟨i, hi⟩ := List.getElem?_of_mem hy
      exact ev_len h hi)
    omega
  · simp
def PyPost (C : List Cr) (S : List Int) (P : List EvP) (w : World) (e : Ending) (w' : World) : Prop :=
  ∃ A n c B m d, e = .returned (.tuple #[.slice A n c, .slice B m d, .int .i64 (pcErr C S P)]) ∧ n = (pyL C S P).length ∧ m = (onsL C S P).length ∧ Sl w' w'.heap.size 7 A n c (pyC (pyL C S P)) ∧ Sl w' w'.heap.size 1 B m d (intC (onsL C S P)) ∧ Below w.heap.size w w'

set_option maxRecDepth 100000 in
set_option maxHeartbeats 8000000 in
theorem play_fine (A : Option Addr) (n c : Nat) (A' : Option Addr) (m c' : Nat) (A2 : Option Addr) (q cq : Nat) (C : List Cr) (S : List Int) (P : List EvP) (w : World) (hP : PcIn w A n c A' m c' A2 q cq C S P) (hnb : n ≤ 1000000) (hmb : m ≤ 1000000) (hq : q ≤ 65536) (hst : ∀ y ∈ P, y.L.length ≤ 1000000) (hX : pcErr C S P = 0) :
    Calls Tryz.prog 18 #[pcV A n c A' m c' A2 q cq] w (PyPost C S P w) := by
  have HP : Hid (∀ w', Below w.heap.size w w' → PcIn w' A n c A' m c' A2 q cq C S P) := fun w' hb => hP.below hb
  have HL := Lib.hid hP.es.hq
  have HN := Lib.hid hP.hn
  have HM := Lib.hid hP.hm
  have HST := Lib.hid hst
  have h400 : q ≤ 400 := by have := (pcErr_ok hX).2.1; have := hP.es.hq; omega
  have hol : Hid ((onsL C S P).length = q + 1) := by unfold Hid onsL; rw [if_pos hX]; simp [sumL_len, frcL_len, hP.es.hq]
  have HT : Hid (pyL C S P = pyGo C S P (onsL C S P) 0 P) := by unfold Hid pyL; rw [if_pos hX]
  have HSO : Hid (∀ (i : Nat) (y : EvP), P[i]? = some y → y.L.length ≤ 14 ∧ ∀ s ∈ y.L, StOk C P i s) := fun i y hy => ⟨ev_len hX hy, fun s hs => stOk_of hX hy hs⟩
  obtain ⟨i0, ii1, ii2, ii3, ii4⟩ := info_parts (show (Tryz.prog.info? 82).map (fun i => (i.zero, i.size, i.bytes)) = some (some (.agg #[.int .i64 0, .int .i64 0, .int .i64 0, .int .i64 0, .int .i64 0, .int .i64 0, .int .i64 0]), 7, 56) by kernel_rfl)
  have DO := Lib.hid (fun w' (h : PcIn w' A n c A' m c' A2 q cq C S P) => onsets_any A n c A' m c' A2 q cq C S P w' h hnb hmb hq hst)
  unfold OnPost at DO
  unfold PyPost
  rw [hX] at DO ⊢
  have hn9 : n ≤ 9223372036854775807 := by omega
  have hm9 : m ≤ 9223372036854775807 := by omega
  clear hP hst hX
  generalize onsL C S P = O at *
  generalize pyL C S P = T at *
  go_enter Tryz.func18, Tryz.ntmps18
  go_wp2_with (go_at_call 33; refine (DO.out _ (HP.out _ (ba w _))).mono ?_; rintro e w1 ⟨B, mo, d, rfl, hmo, hO, hb1⟩; obtain ⟨p0, p1, p2⟩ := cell3 hb1; have HB1 := Lib.hid hb1; have HO := Lib.hid hO; have hmq : mo = q + 1 := hmo.trans hol.out; clear hO hb1 hmo)
  go_loopw [23, 2, 5, 9, 10, 11] (fun i l _ _ _ _ wr => ∃ (k : Nat) (acc : List Py) (A1 : Option Addr) (c1 : Nat), k ≤ q ∧ i = .int .i64 k ∧ l = .slice A1 acc.length c1 ∧ Own1 w1 wr 82 7 A1 acc.length c1 (pyC acc) ∧ T = acc ++ pyGo C S P O k (P.drop k) ∧ acc.length ≤ 14 * k) (fun i _ _ _ _ _ _ => q - (intOf i).toNat)
  case atStart => exact ⟨0, [], none, 0, by omega, rfl, rfl, Own1.start (Below.refl _ _) _ _, HT.out, by simp⟩
  case round =>
    obtain ⟨k, acc, A1, c1, hk, rfl, rfl, hOw, hT, hlen⟩ := hrel
    have HOw := Lib.hid hOw
    have HTk := Lib.hid hT
    have HW : Hid (Below w.heap.size w wr) := bx (bt HB1.out hOw.low)
    obtain ⟨p0, p1, p2⟩ := cell3 (bt HB1.out hOw.low)
    clear hOw hT
    by_cases hlt : k < q
    · obtain ⟨b, off, sa, sc', rfl, hbl, hPk, hd, ⟨e0, e1, e2, e3, e4, e5⟩, hS⟩ := (HP.out _ (Below.refl _ _)).es.at hlt
      have c0 := cell_same (HW.out.block b hbl) e0
      have c1' := cell_same (HW.out.block b hbl) e1
      have c2 := cell_same (HW.out.block b hbl) e2
      have c3 := cell_same (HW.out.block b hbl) e3
      have c4 := cell_same (HW.out.block b hbl) e4
      have c5 := cell_same (HW.out.block b hbl) e5
      have HS := Lib.hid hS
      have HD := Lib.hid (py_enter HTk.out hd)
      have HPk := Lib.hid hPk
      have hL14 : (P.getD k z6).L.length ≤ 14 := (HSO.out _ _ hPk).1
      have HOK : Hid (∀ s ∈ (P.getD k z6).L, StOk C P k s) := (HSO.out _ _ hPk).2
      clear hS hd hPk e0 e1 e2 e3 e4 e5
      generalize P.getD k z6 = y at *
      obtain ⟨bar, v, dt, tr, tie, L⟩ := y
      dsimp only at c0 c1' c2 c3 c4 c5 hL14 HS HOK HD
      obtain ⟨N, hN⟩ : ∃ N, L.length = N := ⟨_, rfl⟩
      have HLN := Lib.hid hN
      rw [hN] at c5 hL14 HS
      clear hN
      go_wp2_with (fail)
      obtain ⟨wo, rfl⟩ : ∃ wo : World, wo = wr := ⟨_, rfl⟩
      have HW0 := Lib.hid (ba wo (.cells #[.bool bar, .int .i64 v, .bool dt, .bool tr, .bool tie, .slice sa N sc'] 45))
      go_loopw [31, 2, 9, 10, 11] (fun s v _ _ _ wr => ∃ (j : Nat) (acc2 : List Py) (A2 : Option Addr) (c2 : Nat), j ≤ N ∧ s = .int .i64 j ∧ v = .slice A2 acc2.length c2 ∧ Own1 w1 wr 82 7 A2 acc2.length c2 (pyC acc2) ∧ T = acc2 ++ (pyEv C S P O k (L.drop j) ++ pyGo C S P O (k + 1) (P.drop (k + 1))) ∧ acc2.length ≤ 14 * k + j) (fun s _ _ _ _ _ => N - (intOf s).toNat)
      case atStart => exact ⟨0, acc, A1, c1, by omega, rfl, rfl, HOw.out.below HW0.out, HD.out, by omega⟩
      case round =>
        obtain ⟨j, acc2, A3, c3', hj, rfl, rfl, hO2, hT2, hlen2⟩ := hrel
        have HO2 := Lib.hid hO2
        have HT2 := Lib.hid hT2
        have HW2 : Hid (Below w.heap.size w wr) := bx (bt HB1.out hO2.low)
        obtain ⟨p0, p1, p2⟩ := cell3 (bt HB1.out hO2.low)
        have hz2 : w.heap.size < wr.heap.size := by have h1 := HB1.out.size; have h2 := hO2.low.size; simp at h1; omega
        clear hO2 hT2
        by_cases hlj : j < N
        · obtain ⟨sb, so, rfl, hsb, hsd, hsj, d0, d1, d2, d3, d4⟩ := st_at (HS.out.below HW2.out) HLN.out.symm hlj
          have HD2 := Lib.hid (py_hit HT2.out hsd)
          have HSK : Hid (StOk C P k (L.getD j z5)) := HOK.out _ (List.mem_of_getElem? hsj)
          clear hsd hsj
          generalize L.getD j z5 = s at *
          obtain ⟨ek, hek⟩ : ∃ ek, endN P k s = ek := ⟨_, rfl⟩
          obtain ⟨pv, hpv⟩ : ∃ pv, atP C S s.c s.f = pv := ⟨_, rfl⟩
          have hb := endN_bd (by have := HL.out; omega) HSK.out
          rw [hek] at hb
          have hekq : ek ≤ q := by have := HL.out; omega
          have HPY : Hid (pyOf C S P O k s = ⟨s.f, ek, ⟨k, s.c, pv, onAt O k, onAt O ek⟩⟩) := by unfold Hid pyOf; rw [hek, hpv]
          have HEK := Lib.hid hek
          have HPV := Lib.hid hpv
          clear hek hpv hb
          obtain ⟨sc, sf, sr, sg, sh⟩ := s
          dsimp only at d0 d1 d2 d3 d4 HPY HPV
          have hk1 : (k : Int) < (mo : Int) := by omega
          have hk2 : (ek : Int) < (mo : Int) := by omega
          go_wp2_with (first
            | (go_at_call 34; refine (ending_any _ q cq C P k ⟨sc, sf, sr, sg, sh⟩ _ (HP.out _ (bt HW2.out (ba wr _))).es (by omega) hq HST.out HSK.out).mono ?_; rintro e w5 ⟨rfl, hb5⟩; rw [HEK.out]; obtain ⟨x0, x1, x2, x3, x4⟩ := cell5 hb5; clear d0 d1 d2 d3 d4; have p0' := cell_same ((bx hb5).block w.heap.size hz2) p0; have p1' := cell_same ((bx hb5).block w.heap.size hz2) p1; clear p0 p1 p2)
            | (go_at_call 35; refine (at_any A A' n c m c' C S sc sf _ (HP.out _ (bt HW2.out (bx hb5))).crs (HP.out _ (bt HW2.out (bx hb5))).stp HN.out HM.out hn9 hm9).mono ?_; rintro e w6 ⟨rfl, hb6⟩; rw [HPV.out]))
          have HB6 : Hid (Below wr.heap.size wr w6) := bx (bt hb5 hb6)
          have HO6 := Lib.hid (HO2.out.below HB6.out)
          have HK6 : Hid (Blk w6 wr.heap.size 42 #[.int .i64 sc, .int .i64 sf, .int .i64 sr, .int .i64 sg, .int .i64 sh]) := (show Blk (wr.alloc (.cells #[.int .i64 sc, .int .i64 sf, .int .i64 sr, .int .i64 sg, .int .i64 sh] 42)) wr.heap.size 42 #[.int .i64 sc, .int .i64 sf, .int .i64 sr, .int .i64 sg, .int .i64 sh] from heap_alloc_new wr _).below (bt hb5 hb6)
          obtain ⟨bO, oO, rfl, hbO, hcO⟩ := HO.out.2.2 (by omega)
          have HCO : Hid (∀ w', Below w1.heap.size w1 w' → w'.cell? ⟨bO, oO + k, none⟩ = some (.int .i64 (onAt O k)) ∧ w'.cell? ⟨bO, oO + ek, none⟩ = some (.int .i64 (onAt O ek))) := fun w' hb =>
            ⟨cell_same (hb.block bO hbO) (hcO _ _ (intC_at O k (by have := hol.out; omega))), cell_same (hb.block bO hbO) (hcO _ _ (intC_at O ek (by have := hol.out; omega)))⟩
          have hz6 : w1.heap.size ≤ w6.heap.size := HO6.out.low.size
          clear x0 x1 x2 x3 x4 p0' p1' hcO hbO hb5 hb6
          have SH : Hid (∀ w', Blk w' wr.heap.size 42 #[.int .i64 sc, .int .i64 sf, .int .i64 sr, .int .i64 sg, .int .i64 sh] → Below w1.heap.size w1 w' → (w'.cell? ⟨wr.heap.size, 0, none⟩ = some (.int .i64 sc) ∧ w'.cell? ⟨wr.heap.size, 1, none⟩ = some (.int .i64 sf)) ∧ w'.cell? ⟨bO, oO + k, none⟩ = some (.int .i64 (onAt O k)) ∧ w'.cell? ⟨bO, oO + ek, none⟩ = some (.int .i64 (onAt O ek))) := fun w' hk hb =>
            ⟨⟨by have := hk.cell 0; simpa using this, by have := hk.cell 1; simpa using this⟩, HCO.out _ hb⟩
          have hml : acc2.length + 1 ≤ maxLen := Nat.le_trans (show acc2.length + 1 ≤ 100000 by omega) (by decide)
          generalize onAt O k = x1 at *
          generalize onAt O ek = x2 at *
          go_region_held_law (fun w' => (w'.cell? ⟨wr.heap.size, 0, none⟩ = some (.int .i64 sc) ∧ w'.cell? ⟨wr.heap.size, 1, none⟩ = some (.int .i64 sf)) ∧ w'.cell? ⟨bO, oO + k, none⟩ = some (.int .i64 x1) ∧ w'.cell? ⟨bO, oO + ek, none⟩ = some (.int .i64 x2))
            (first | exact SH.out _ hK7 hO7.low | exact SH.out _ (HK6.out.below (Below.refl _ _).drew) HO6.out.low.drew | exact SH.out _ (HK6.out.below (bt (Below.refl _ _).drew (ba _ _))) (HO6.out.low.drew.alloc hz6 _))
            ((refine step_append_lies _ (by rfl) _ _ _ (by rfl) w1.heap.size 82 i0 _ 7 56 Tryz.underlying59 ii1 ii2 ii3 ii4 rfl (by decide) (.slice A3 acc2.length c3') acc2.length (pyC acc2) (by rfl) ((own_below HO6.out.own (Below.refl _ _).drew).alloc (.cells #[.int .i64 sf, .int .i64 ek, .int .i64 k, .int .i64 sc, .int .i64 pv, .int .i64 x1, .int .i64 x2] 82)) ⟨w6.heap.size, 0, none⟩ 1 1 [.int .i64 sf, .int .i64 ek, .int .i64 k, .int .i64 sc, .int .i64 pv, .int .i64 x1, .int .i64 x2] (by rfl) rfl (World.news_of_block (cs := #[.int .i64 sf, .int .i64 ek, .int .i64 k, .int .i64 sc, .int .i64 pv, .int .i64 x1, .int .i64 x2]) (t := 82) (fr := (0, 0)) (heap_alloc_new w6.drew _)) (by intro u hu; simp at hu; rcases hu with rfl | rfl | rfl | rfl | rfl | rfl | rfl <;> rfl) (by decide) hml (by omega) (by first | (simp; done) | (simp; omega)) (w6.heap.size + 1) (by simp) ?_; intro g cap w7 hown7 hgrow hat hlt7; obtain ⟨_, _, hsl, hO7, hK7'⟩ := Own1.step HO6.out (Below.refl _ _).drew rfl hown7 hgrow; cases hsl; have hK7 := hK7' _ _ _ (by decide) HK6.out))
          all_goals (
            have HO7 : Hid (Own1 w1 w7 82 7 (some ⟨g, 0, none⟩) (acc2 ++ [pyOf C S P O k ⟨sc, sf, sr, sg, sh⟩]).length cap (pyC (acc2 ++ [pyOf C S P O k ⟨sc, sf, sr, sg, sh⟩]))) := by
              unfold Hid
              rw [pyC_snoc, HPY.out, List.length_append]
              exact hO7
            clear hO7 hK7 hK7' hown7 hgrow hat
            go_wp2_with (fail)
            go_roundw
            case rel => exact ⟨j + 1, _, _, cap, by omega, by first | rfl | go_num, by simp, HO7.out, HD2.out, by simp; omega⟩
            case measure => simp [intOf]; omega)
        · have hjN : ¬ ((j : Int) < (N : Int)) := by omega
          have HZ := Lib.hid (py_out HT2.out (by have := HLN.out; omega))
          go_wp2_with (fail)
          go_roundw
          case rel => exact ⟨k + 1, acc2, A3, c3', by omega, by first | rfl | go_num, rfl, HO2.out, HZ.out, by omega⟩
          case measure => simp [intOf]; omega
    · have hkq : ¬ ((k : Int) < (q : Int)) := by omega
      have HZ : Hid (T = acc) := by
        unfold Hid
        rw [HTk.out, List.drop_of_length_le (by have := HL.out; omega)]
        simp [pyGo]
      go_wp2_with (fail)
      go_ret3
      have hs := HO.out.below HOw.out.low
      rw [hmq] at hs
      exact ⟨A1, _, c1, B, _, d, rfl, by rw [HZ.out], hol.out.symm, by rw [HZ.out]; exact HOw.out.sl, hs, HW.out⟩

set_option maxRecDepth 100000 in
set_option maxHeartbeats 1600000 in
theorem play_any (A : Option Addr) (n c : Nat) (A' : Option Addr) (m c' : Nat) (A2 : Option Addr) (q cq : Nat) (C : List Cr) (S : List Int) (P : List EvP) (w : World) (hP : PcIn w A n c A' m c' A2 q cq C S P) (hnb : n ≤ 1000000) (hmb : m ≤ 1000000) (hq : q ≤ 65536) (hst : ∀ y ∈ P, y.L.length ≤ 1000000) :
    Calls Tryz.prog 18 #[pcV A n c A' m c' A2 q cq] w (PyPost C S P w) := by
  by_cases hX0 : pcErr C S P = 0
  · exact play_fine A n c A' m c' A2 q cq C S P w hP hnb hmb hq hst hX0
  · have HP : Hid (∀ w', Below w.heap.size w w' → PcIn w' A n c A' m c' A2 q cq C S P) := fun w' hb => hP.below hb
    have HZ : Hid (pyL C S P = [] ∧ onsL C S P = []) := ⟨by unfold pyL; rw [if_neg hX0], by unfold onsL; rw [if_neg hX0]⟩
    have DO := Lib.hid (fun w' (h : PcIn w' A n c A' m c' A2 q cq C S P) => onsets_any A n c A' m c' A2 q cq C S P w' h hnb hmb hq hst)
    unfold OnPost at DO
    unfold PyPost
    rw [HZ.out.1, HZ.out.2]
    rw [HZ.out.2] at DO
    obtain ⟨X, hX⟩ : ∃ X, pcErr C S P = X := ⟨_, rfl⟩
    rw [hX] at hX0 DO ⊢
    have hXb : (X != 0) = true := by simpa using hX0
    clear hP hst hX hX0 HZ
    go_enter Tryz.func18, Tryz.ntmps18
    go_wp2_with (go_at_call 33; refine (DO.out _ (HP.out _ (ba w _))).mono ?_; rintro e w1 ⟨B, mo, d, rfl, hmo, hO, hb1⟩)
    go_ret3
    exact ⟨none, 0, 0, none, 0, 0, rfl, rfl, rfl, Sl.none_ _ _ _, Sl.none_ _ _ _, bx hb1⟩

end Go.Proofs.YtpcehgifpajmbaaGreat

/- Sound: notesOf and Notes, for any piece. -/
namespace Go.Proofs.YtpcehgifpajmbaaGreat
open Go Go.RowKit

def NfR (w wr : World) (g n : Nat) (T : List Nt) (k : Nat) : Prop :=
  Below w.heap.size w wr ∧ w.heap.size ≤ g ∧ ∃ cur, Blk wr g 52 cur ∧ cur.size = n * 5 ∧ ∀ (j : Nat) (u : Value), j < k * 5 → (ntC T)[j]? = some u → cur[j]? = some u
theorem NfR.below {w wr w' : World} {g n : Nat} {T : List Nt} {k : Nat} (h : NfR w wr g n T k) (hb : Below wr.heap.size wr w') : NfR w w' g n T k := by
  obtain ⟨h1, h2, cur, h3, h4, h5⟩ := h
  exact ⟨bt h1 hb, h2, cur, h3.below hb, h4, h5⟩
theorem NfR.some_ {w wr : World} {g n : Nat} {T : List Nt} {k : Nat} (h : NfR w wr g n T k) {j : Nat} (hj : j < n * 5) : (∃ u, wr.cell? ⟨g, j, none⟩ = some u) ∧ wr.frozen? ⟨g, j, none⟩ = false ∧ g < wr.heap.size := by
  obtain ⟨h1, h2, cur, h3, h4, h5⟩ := h
  exact ⟨⟨cur[j]'(by omega), by rw [h3.cell j]; simp [show j < cur.size by omega]⟩, h3.frozen j, h3.lt⟩
theorem NfR.put {w wr : World} {g n : Nat} {T : List Nt} {k : Nat} (h : NfR w wr g n T k) (hk : k < n) (hT : n = T.length) (x : Nt) (hx : T.getD k zNt = x) :
    NfR w (((((wr.setCell ⟨g, k * 5, none⟩ (.int .i64 x.ev)).setCell ⟨g, k * 5 + 1, none⟩ (.int .i64 x.c)).setCell ⟨g, k * 5 + 2, none⟩ (.int .i64 x.p)).setCell ⟨g, k * 5 + 3, none⟩ (.int .i64 x.fm)).setCell ⟨g, k * 5 + 4, none⟩ (.int .i64 x.to)) g n T (k + 1) := by
  obtain ⟨h1, h2, cur, h3, h4, h5⟩ := h
  obtain ⟨i0, i1, i2, i3, i4⟩ := ntC_at T k (by omega)
  rw [hx] at i0 i1 i2 i3 i4
  refine ⟨((((h1.setCell h2 _).setCell h2 _).setCell h2 _).setCell h2 _).setCell h2 _, h2, _, ((((h3.set_ _ _).set_ _ _).set_ _ _).set_ _ _).set_ _ _, by simp [h4], fun j u hj hu => ?_⟩
  simp only [Array.getElem?_setIfInBounds, Array.size_setIfInBounds]
  by_cases hjk : j < k * 5
  · rw [if_neg (by omega), if_neg (by omega), if_neg (by omega), if_neg (by omega), if_neg (by omega)]
    exact h5 j u hjk hu
  · have : j = k * 5 ∨ j = k * 5 + 1 ∨ j = k * 5 + 2 ∨ j = k * 5 + 3 ∨ j = k * 5 + 4 := by omega
    rcases this with rfl | rfl | rfl | rfl | rfl
    · rw [if_neg (by omega), if_neg (by omega), if_neg (by omega), if_neg (by omega), if_pos rfl, if_pos (by omega), ← i0, hu]
    · rw [if_neg (by omega), if_neg (by omega), if_neg (by omega), if_pos rfl, if_pos (by omega), ← i1, hu]
    · rw [if_neg (by omega), if_neg (by omega), if_pos rfl, if_pos (by omega), ← i2, hu]
    · rw [if_neg (by omega), if_pos rfl, if_pos (by omega), ← i3, hu]
    · rw [if_pos rfl, if_pos (by omega), ← i4, hu]
theorem NfR.sl {w wr : World} {g n : Nat} {T : List Nt} (h : NfR w wr g n T n) (hT : n = T.length) : Sl wr wr.heap.size 5 (some ⟨g, 0, none⟩) n n (ntC T) := by
  obtain ⟨h1, h2, cur, h3, h4, h5⟩ := h
  refine ⟨Nat.le_refl _, by rw [ntC_len, hT], fun _ => ⟨g, 0, rfl, h3.lt, fun j u hu => ?_⟩⟩
  rw [Nat.zero_add, h3.cell j]
  refine h5 j u ?_ hu
  have := (List.getElem?_eq_some_iff.1 hu).1
  rw [ntC_len] at this
  omega

set_option maxRecDepth 100000 in
set_option maxHeartbeats 4000000 in
theorem notesOf_any (A : Option Addr) (n c : Nat) (L : List Py) (w : World) (hA : Sl w w.heap.size 7 A n c (pyC L)) (hn : n = L.length) (hlim : n ≤ 100000) :
    Calls Tryz.prog 19 #[.slice A n c] w fun e w' => ∃ B d, e = .returned (.slice B n d) ∧ Sl w' w'.heap.size 5 B n d (ntC (L.map fun x => x.t)) ∧ Below w.heap.size w w' := by
  have HA : Hid (∀ w', Below w.heap.size w w' → Sl w' w'.heap.size 7 A n c (pyC L)) := fun w' hb => hA.below hb
  have HN := Lib.hid hn
  have HT : Hid (n = (L.map fun x => x.t).length) := by unfold Hid; simpa using hn
  obtain ⟨i0, ii1, ii2, ii3, ii4⟩ := info_parts (show (Tryz.prog.info? 52).map (fun i => (i.zero, i.size, i.bytes)) = some (some (.agg #[.int .i64 0, .int .i64 0, .int .i64 0, .int .i64 0, .int .i64 0]), 5, 40) by kernel_rfl)
  clear hA hn
  go_enter Tryz.func19, Tryz.ntmps19
  go_wp2_with (at_make; refine wpList_make_full _ rfl _ _ 46 rfl w.heap.size 52 i0 _ 5 Tryz.underlying46 ii1 ii2 ii3 .i64 .i64 _ _ n rfl rfl rfl rfl (by rw [ii4]; omega) (by unfold maxLen; omega) (Nat.le_refl _) ?_)
  intro w2 hown hgrow
  have hb2 : Below w.heap.size w w2 := Below.grown (Below.refl _ _) hgrow (Nat.le_refl _) (fun g h => by cases h)
  by_cases h0 : n = 0
  · subst h0
    have HZ : Hid (ntC (L.map fun x => x.t) = []) := by
      have : L = [] := List.length_eq_zero_iff.1 HN.out.symm
      unfold Hid
      rw [this]
      rfl
    clear hown hgrow
    go_wp2_with (fail)
    refine wp_loop_rounds 1 ?_
    rw [rounds_succ]
    go_wp2_with (fail)
    go_ret
    refine ⟨_, _, rfl, ?_, hb2⟩
    rw [HZ.out]
    exact ⟨Nat.le_refl _, rfl, fun h => by omega⟩
  · have hR0 : NfR w w2 w.heap.size n (L.map fun x => x.t) 0 := by
      obtain ⟨g, cur, e1, _, e3, e4, _⟩ := (Ow.of_own hown).2.2 (by omega)
      injection e1 with e1
      injection e1 with e1
      subst e1
      exact ⟨hb2, Nat.le_refl _, cur, e3, by omega, fun j u hj => by omega⟩
    have HR0 := Lib.hid hR0
    clear hown hgrow hR0
    go_wp2_with (fail)
    go_loopw [11, 4] (fun i _ wr => ∃ k : Nat, k ≤ n ∧ i = .int .i64 k ∧ Hid (NfR w wr w.heap.size n (L.map fun x => x.t) k)) (fun i _ _ => n - (intOf i).toNat)
    case atStart => exact ⟨0, by omega, rfl, HR0⟩
    case round =>
      obtain ⟨k, hk, rfl, hR⟩ := hrel
      by_cases hlt : k < n
      · have hkn : (k : Int) < (n : Int) := by omega
        obtain ⟨b, off, rfl, hB, hc⟩ := (HA.out _ hR.out.1).2.2 (by omega)
        obtain ⟨j0, j1, j2, j3, j4, j5, j6⟩ := pyC_at L k (by have := HN.out; omega)
        have a0 := hc _ _ j0
        have a1 := hc _ _ j1
        have a2 := hc _ _ j2
        have a3 := hc _ _ j3
        have a4 := hc _ _ j4
        have a5 := hc _ _ j5
        have a6 := hc _ _ j6
        rw [← Nat.add_assoc] at a1 a2 a3 a4 a5 a6
        have HXT : Hid ((L.map fun x => x.t).getD k zNt = (L.getD k zPy).t) := by
          have := HN.out
          simp [Hid, List.getD_eq_getElem?_getD, List.getElem?_map, List.getElem?_eq_getElem (show k < L.length by omega)]
        clear hc j0 j1 j2 j3 j4 j5 j6 hB
        generalize L.getD k zPy = x at *
        obtain ⟨xf, xu, ⟨t0, t1, t2, t3, t4⟩⟩ := x
        dsimp only at a0 a1 a2 a3 a4 a5 a6 HXT
        obtain ⟨⟨u0, k0⟩, f0, hgw⟩ := (hR.out.below (ba wr (.cells #[.int .i64 xf, .int .i64 xu, .int .i64 t0, .int .i64 t1, .int .i64 t2, .int .i64 t3, .int .i64 t4] 82))).some_ (j := k * 5) (by omega)
        obtain ⟨⟨u1, k1⟩, f1, _⟩ := (hR.out.below (ba wr (.cells #[.int .i64 xf, .int .i64 xu, .int .i64 t0, .int .i64 t1, .int .i64 t2, .int .i64 t3, .int .i64 t4] 82))).some_ (j := k * 5 + 1) (by omega)
        obtain ⟨⟨u2, k2⟩, f2, _⟩ := (hR.out.below (ba wr (.cells #[.int .i64 xf, .int .i64 xu, .int .i64 t0, .int .i64 t1, .int .i64 t2, .int .i64 t3, .int .i64 t4] 82))).some_ (j := k * 5 + 2) (by omega)
        obtain ⟨⟨u3, k3⟩, f3, _⟩ := (hR.out.below (ba wr (.cells #[.int .i64 xf, .int .i64 xu, .int .i64 t0, .int .i64 t1, .int .i64 t2, .int .i64 t3, .int .i64 t4] 82))).some_ (j := k * 5 + 3) (by omega)
        obtain ⟨⟨u4, k4⟩, f4, _⟩ := (hR.out.below (ba wr (.cells #[.int .i64 xf, .int .i64 xu, .int .i64 t0, .int .i64 t1, .int .i64 t2, .int .i64 t3, .int .i64 t4] 82))).some_ (j := k * 5 + 4) (by omega)
        have HPUT := Lib.hid ((hR.out.below (ba wr (.cells #[.int .i64 xf, .int .i64 xu, .int .i64 t0, .int .i64 t1, .int .i64 t2, .int .i64 t3, .int .i64 t4] 82))).put hlt HT.out ⟨t0, t1, t2, t3, t4⟩ HXT.out)
        go_wp2_with (fail)
        go_roundw
        case rel => exact ⟨k + 1, by omega, by first | rfl | go_num, HPUT⟩
        case measure => simp [intOf]; omega
      · obtain rfl : k = n := by omega
        go_wp2_with (fail)
        go_ret
        exact ⟨_, _, rfl, hR.out.sl HT.out, hR.out.1⟩

end Go.Proofs.YtpcehgifpajmbaaGreat

/- Sound: Notes, the strings of a piece (strung, Strings), for any piece. -/
namespace Go.Proofs.YtpcehgifpajmbaaGreat
open Go Go.RowKit

theorem pyGo_mem {C : List Cr} {S : List Int} {P : List EvP} {O : List Int} {x : Py} : ∀ (Q : List EvP) (i : Nat), x ∈ pyGo C S P O i Q → ∃ (j : Nat) (y : EvP) (s : St), Q[j]? = some y ∧ s ∈ y.L ∧ x = pyOf C S P O (i + j) s
  | [], _, h => by simp [pyGo] at h
  | y :: r, i, h => by
    rw [pyGo, List.mem_append] at h
    rcases h with h | h
    · obtain ⟨s, hs, rfl⟩ := List.mem_map.1 h
      exact ⟨0, y, s, rfl, hs, rfl⟩
    · obtain ⟨j, z, s, h1, h2, h3⟩ := pyGo_mem r (i + 1) h
      exact ⟨j + 1, z, s, by simpa using h1, h2, by rw [h3]; congr 1; omega⟩
theorem pyL_mem {C : List Cr} {S : List Int} {P : List EvP} {x : Py} (h : x ∈ pyL C S P) : pcErr C S P = 0 ∧ ∃ (j : Nat) (y : EvP) (s : St), P[j]? = some y ∧ s ∈ y.L ∧ StOk C P j s ∧ x = pyOf C S P (onsL C S P) j s := by
  unfold pyL at h
  split at h
  · rename_i h0
    obtain ⟨j, y, s, h1, h2, h3⟩ := pyGo_mem P 0 h
    rw [Nat.zero_add] at h3
    exact ⟨h0, j, y, s, h1, h2, stOk_of h0 h1 h2, h3⟩
  · cases h
/-- Where a note lies: its course, its pitch. -/
def NtOk (C : List Cr) (x : Nt) : Prop := 1 ≤ x.c ∧ x.c ≤ C.length ∧ 0 ≤ x.p ∧ x.p ≤ 127 ∧ ((C.getD (x.c - 1).toNat z0).o = true → x.p + 12 ≤ 127)
theorem at_pitch {C : List Cr} {S : List Int} {pc pf : Int} (h : chk C S = 0) (h1 : 1 ≤ pc) (h2 : pc ≤ C.length) (h3 : 0 ≤ pf) (h4 : pf ≤ (C.getD (pc - 1).toNat z0).f) :
    atP C S pc pf = (C.getD (pc - 1).toNat z0).p + riseV S pf ∧ 0 ≤ atP C S pc pf ∧ atP C S pc pf ≤ 127 ∧ ((C.getD (pc - 1).toNat z0).o = true → atP C S pc pf + 12 ≤ 127) := by
  obtain ⟨_, _, hr, hce⟩ := chk_ok h
  have e := (at_ok (S := S) h (show hasB C.length pc = true by simp [hasB]; omega) (show ¬ (pf < 0 ∨ (C.getD (pc - 1).toNat z0).f < pf) by omega)).2
  obtain ⟨a1, a2, a3, a4, a5⟩ := crErr_ok (crsErr_mem hce _ (getD_mem C (pc - 1).toNat (by omega)))
  rw [e]
  generalize C.getD (pc - 1).toNat z0 = x at *
  obtain ⟨i, rfl⟩ := Int.eq_ofNat_of_zero_le h3
  obtain ⟨F, hF⟩ := Int.eq_ofNat_of_zero_le a1
  have m1 := riseV_mono hr (show i ≤ F by omega) (show F ≤ S.length by omega)
  have m2 := (riseV_bd hr (f := (i : Int)) (by omega) (by omega)).1
  unfold crTop at a5
  rw [hF] at a5
  refine ⟨rfl, by omega, ?_, fun ho => ?_⟩
  · split at a5 <;> omega
  · rw [if_pos ho] at a5
    omega
theorem ntL_ok (C : List Cr) (S : List Int) (P : List EvP) : ∀ x ∈ ntL C S P, NtOk C x := by
  intro x hx
  obtain ⟨y, hy, rfl⟩ := List.mem_map.1 hx
  obtain ⟨h0, j, z, s, _, _, hs, rfl⟩ := pyL_mem hy
  obtain ⟨_, p1, p2, p3⟩ := at_pitch (pcErr_ok h0).1 hs.c1 hs.c2 hs.f1 hs.f2
  exact ⟨hs.c1, hs.c2, p1, p2, p3⟩
theorem ntL_len (C : List Cr) (S : List Int) (P : List EvP) : (ntL C S P).length ≤ 5600 := by
  unfold ntL
  rw [List.length_map]
  exact pyL_len C S P
theorem ntL_none {C : List Cr} {S : List Int} {P : List EvP} (h : pcErr C S P ≠ 0) : ntL C S P = [] := by
  unfold ntL pyL
  rw [if_neg h]
  rfl

/-- A call hands back notes and an error. -/
def NtPost (T : List Nt) (er : Int) (w : World) (e : Ending) (w' : World) : Prop :=
  ∃ B n d, e = .returned (.tuple #[.slice B n d, .int .i64 er]) ∧ n = T.length ∧ Sl w' w'.heap.size 5 B n d (ntC T) ∧ Below w.heap.size w w'

set_option maxRecDepth 100000 in
set_option maxHeartbeats 1600000 in
theorem notes_any (A : Option Addr) (n c : Nat) (A' : Option Addr) (m c' : Nat) (A2 : Option Addr) (q cq : Nat) (C : List Cr) (S : List Int) (P : List EvP) (w : World) (hP : PcIn w A n c A' m c' A2 q cq C S P) (hnb : n ≤ 1000000) (hmb : m ≤ 1000000) (hq : q ≤ 65536) (hst : ∀ y ∈ P, y.L.length ≤ 1000000) :
    Calls Tryz.prog 11 #[pcV A n c A' m c' A2 q cq] w (NtPost (ntL C S P) (pcErr C S P) w) := by
  have HPY := Lib.hid (play_any A n c A' m c' A2 q cq C S P _ (hP.below (ba w (pcO A n c A' m c' A2 q cq))) hnb hmb hq hst)
  unfold PyPost at HPY
  unfold NtPost
  have HLL := Lib.hid (pyL_len C S P)
  have HE : Hid (ntL C S P = (pyL C S P).map fun x => x.t) := rfl
  have HZ : Hid (pcErr C S P ≠ 0 → ntL C S P = []) := ntL_none
  clear hP hst
  generalize pyL C S P = T at *
  generalize ntL C S P = U at *
  generalize pcErr C S P = X at *
  by_cases hX : X = 0
  · subst hX
    go_enter Tryz.func11, Tryz.ntmps11
    go_wp2_with (first
      | (go_at_call 18; refine HPY.out.mono ?_; rintro e w1 ⟨A1, n1, c1, B1, m1, d1, rfl, hn1, hm1, hA1, hB1, hb1⟩; have HN := Lib.hid (And.intro hn1 hA1); clear hn1 hm1 hA1 hB1)
      | (go_at_call 19; refine (notesOf_any A1 n1 c1 T _ HN.out.2 HN.out.1 (by have := HN.out.1; have := HLL.out; omega)).mono ?_; rintro e w2 ⟨B2, d2, rfl, hs2, hb2⟩))
    go_ret2
    exact ⟨B2, n1, d2, rfl, by rw [HE.out, List.length_map]; exact HN.out.1, by rw [HE.out]; exact hs2, bx (bt hb1 hb2)⟩
  · have hXb : (X != 0) = true := by simpa using hX
    have HZ2 := Lib.hid (HZ.out hX)
    clear hX
    go_enter Tryz.func11, Tryz.ntmps11
    go_wp2_with (go_at_call 18; refine HPY.out.mono ?_; rintro e w1 ⟨A1, n1, c1, B1, m1, d1, rfl, hn1, hm1, hA1, hB1, hb1⟩; clear hn1 hm1 hA1 hB1)
    go_ret2
    exact ⟨none, 0, 0, rfl, by rw [HZ2.out]; rfl, by rw [HZ2.out]; exact Sl.none_ _ _ _, bx hb1⟩

/-- The strings of a note: the note, and its octave string. -/
def stOf (C : List Cr) (x : Nt) : List Nt := if (C.getD (x.c - 1).toNat z0).o = true then [x, ⟨x.ev, x.c, x.p + 12, x.fm, x.to⟩] else [x]
def stL (C : List Cr) (S : List Int) (P : List EvP) : List Nt := (ntL C S P).flatMap (stOf C)
theorem stOf_len (C : List Cr) (x : Nt) : (stOf C x).length ≤ 2 := by unfold stOf; split <;> simp
theorem stL_len (C : List Cr) (S : List Int) (P : List EvP) : (stL C S P).length ≤ 11200 := by
  have h := ntL_len C S P
  unfold stL
  have : ∀ L : List Nt, (L.flatMap (stOf C)).length ≤ 2 * L.length := by
    intro L
    induction L with
    | nil => simp
    | cons x r ih =>
      have := stOf_len C x
      simp only [List.flatMap_cons, List.length_append, List.length_cons]
      omega
  have := this (ntL C S P)
  omega
theorem drop_consN (L : List Nt) (k : Nat) (h : k < L.length) : L.drop k = L.getD k zNt :: L.drop (k + 1) := by
  rw [List.drop_eq_getElem_cons h]; simp [List.getElem?_eq_getElem h]
theorem st_one {C : List Cr} {T acc : List Nt} {L : List Nt} {k : Nat} (h : T = acc ++ (L.drop k).flatMap (stOf C)) (hk : k < L.length) (ho : (C.getD ((L.getD k zNt).c - 1).toNat z0).o = false) :
    T = (acc ++ [L.getD k zNt]) ++ (L.drop (k + 1)).flatMap (stOf C) := by
  rw [h, drop_consN L k hk, List.flatMap_cons, stOf, if_neg (by rw [ho]; simp)]
  simp
theorem st_two {C : List Cr} {T acc : List Nt} {L : List Nt} {k : Nat} (h : T = acc ++ (L.drop k).flatMap (stOf C)) (hk : k < L.length) (ho : (C.getD ((L.getD k zNt).c - 1).toNat z0).o = true) :
    T = (acc ++ [L.getD k zNt] ++ [⟨(L.getD k zNt).ev, (L.getD k zNt).c, (L.getD k zNt).p + 12, (L.getD k zNt).fm, (L.getD k zNt).to⟩]) ++ (L.drop (k + 1)).flatMap (stOf C) := by
  rw [h, drop_consN L k hk, List.flatMap_cons, stOf, if_pos ho]
  simp
theorem one5 (a b c d e : Int) : ∀ u ∈ [Value.int .i64 a, .int .i64 b, .int .i64 c, .int .i64 d, .int .i64 e], u.oneCell' = true := by
  intro u hu
  simp at hu
  rcases hu with rfl | rfl | rfl | rfl | rfl <;> rfl
/-- The end of a piece. -/
def endT (C : List Cr) (S : List Int) (P : List EvP) : Int := if pcErr C S P = 0 then onAt (onsL C S P) ((onsL C S P).length - 1) else 0

end Go.Proofs.YtpcehgifpajmbaaGreat
