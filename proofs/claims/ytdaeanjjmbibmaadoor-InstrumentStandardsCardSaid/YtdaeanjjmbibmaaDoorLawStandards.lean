/- The law InstrumentStandards returns true for every text, in every world that holds the program's tables. -/
import Derived.Test.YtdaeanjjmbibmaaDoorLawParses
import Derived.Deep.RegionHeld3
namespace Go.Proofs.YtdaeanjjmbibmaaDoor
open Go.RowKit

/-- The names and the texts of the nine, as cells. -/
def nmC : Array Value := ((List.range 9).map fun k => Value.string (stn k)).toArray
def txC : Array Value := ((List.range 9).map fun k => Value.string (stt k)).toArray
theorem nmC_at (k : Nat) (h : k < 9) : nmC[k]? = some (.string (stn k)) := by simp [nmC, h]
theorem txC_at (k : Nat) (h : k < 9) : txC[k]? = some (.string (stt k)) := by simp [txC, h]

set_option maxHeartbeats 1600000 in
theorem rnames_any (w : World) : Calls Tryd.prog 21 #[] w fun e w' => e = .returned (.slice (some ⟨w.heap.size, 0, none⟩) 9 9) ∧ w.alloc (.cells nmC 9) = w' := by
  go_enter Tryd.func21, Tryd.ntmps21
  go_wp2_with (fail)
  go_ret
  exact ⟨rfl, congrArg (fun c => w.alloc (.cells c 9)) (by kernel_rfl)⟩
set_option maxHeartbeats 1600000 in
theorem rtexts_any (w : World) : Calls Tryd.prog 52 #[] w fun e w' => e = .returned (.slice (some ⟨w.heap.size, 0, none⟩) 9 9) ∧ w.alloc (.cells txC 9) = w' := by
  go_enter Tryd.func52, Tryd.ntmps52
  go_wp2_with (fail)
  go_ret
  exact ⟨rfl, congrArg (fun c => w.alloc (.cells c 9)) (by kernel_rfl)⟩

/-- A block of nine strings, in whatever world lies above it. -/
theorem keep9 {w w' : World} {cs : Array Value} {f : Nat → ByteArray} (hc : ∀ k, k < 9 → cs[k]? = some (.string (f k))) (h : Below (w.alloc (.cells cs 9)).heap.size (w.alloc (.cells cs 9)) w') (k : Nat) (hk : k < 9) :
    w'.cell? ⟨w.heap.size, k, none⟩ = some (.string (f k)) ∧ w.heap.size < w'.heap.size := by
  obtain ⟨c0, _⟩ := keepb h k
  have hz := h.size
  simp at hz
  exact ⟨c0.trans (hc k hk), by omega⟩

set_option maxHeartbeats 1600000 in
theorem names_any (w : World) (E : Env w) : Calls Tryd.prog 20 #[] w fun e w' => ∃ g c, e = .returned (.slice (some ⟨g, 0, none⟩) 9 c) ∧ (∀ wr, Below w'.heap.size w' wr → ∀ k, k < 9 → wr.cell? ⟨g, k, none⟩ = some (.string (stn k)) ∧ g < wr.heap.size) ∧ Below w.heap.size w w' := by
  obtain ⟨i0, ii1, ii2, ii3, ii4⟩ := info_parts Tryd.infoStr
  obtain ⟨t, fr, hr⟩ := E.srow
  have hg := E.big
  go_enter Tryd.func20, Tryd.ntmps20
  go_wp2_with (refine wpList_load_row rfl 82 _ rfl 0 rfl t stdC fr _ hr Tryd.underlying82 rfl stdC_load ?_)
  go_loopw [5, 1, 3] (fun i v _ wr => ∃ (k : Nat) (A1 : Option Addr) (c1 : Nat), k ≤ 9 ∧ i = .int .i64 k ∧ v = .slice A1 k c1 ∧ Hid (Own1 w wr 9 1 A1 k c1 ((List.range k).map fun j => .string (stn j)))) (fun i _ _ _ => 9 - (intOf i).toNat)
  case atStart => exact ⟨0, none, 0, by omega, rfl, rfl, Own1.start (Below.refl _ _) _ _⟩
  case round =>
    obtain ⟨k, A1, c1, hk, rfl, rfl, HO⟩ := hrel
    by_cases hlt : k < 9
    · have hix := stdC_ix k hlt
      have hkn : (k : Int) < 9 := by omega
      go_wp2_with (at_builtin; refine wpList_append_own _ rfl _ _ 35 rfl w.heap.size 9 i0 _ 1 16 Tryd.underlying35 ii1 ii2 ii3 ii4 rfl (by decide) (.slice A1 k c1) k _ rfl ((HO.out.own.alloc _).alloc _) ⟨wr.heap.size + 1, 0, none⟩ 1 1 [.string (stn k)] rfl rfl ?d1 ?d2 ?d3 ?d4 ?d5 ?_)
      case d1 => exact World.news_of_block (cs := #[.string (stn k)]) (t := 9) (fr := (0, 0)) (by have := heap_alloc_new (wr.alloc (.cells #[.string (stn k), .string (stt k)] 81)) (.cells #[.string (stn k)] 9); simpa using this)
      case d2 =>
        intro u hu
        simp at hu
        rcases hu with rfl
        rfl
      case d3 => unfold maxLen; omega
      case d4 => omega
      case d5 => have := HO.out.low.size; simp; omega
      intro v' w3 hown' hgrow _
      obtain ⟨A3, c3, rfl, hO3, _⟩ := Own1.step HO.out (ba wr (.cells #[.string (stn k), .string (stt k)] 81)) rfl hown' hgrow
      have HO4 : Hid (Own1 w w3 9 1 A3 (k + 1) c3 ((List.range (k + 1)).map fun j => .string (stn j))) := by
        unfold Hid; rw [List.range_succ, List.map_append]; exact hO3
      clear hown' hgrow hO3
      go_wp2_with (fail)
      go_roundw
      case rel => exact ⟨k + 1, A3, c3, by omega, by go_num, rfl, HO4⟩
      case measure => simp [intOf]; omega
    · obtain rfl : k = 9 := by omega
      go_wp2_with (fail)
      go_ret
      obtain ⟨g, cap, cur, hv⟩ : ∃ g cap, ∃ _ : Array Value, Value.slice A1 9 c1 = .slice (some ⟨g, 0, none⟩) 9 cap := by
        rcases HO.out.own.2 with ⟨_, h0⟩ | ⟨g, cap, cur, hv, _⟩
        · omega
        · exact ⟨g, cap, cur, hv⟩
      injection hv with h1 _ _
      subst h1
      refine ⟨g, c1, rfl, fun wr' hb k hk => ?_, HO.out.low⟩
      obtain ⟨b, off, hA, hB, hc⟩ := (HO.out.sl.below hb).2.2 (by omega)
      injection hA with hA
      injection hA with e1 e2
      subst e1 e2
      have := hc k (.string (stn k)) (by simp [hk])
      rw [Nat.zero_add] at this
      exact ⟨this, hB⟩

theorem stt_short (k : Nat) (h : k < 9) : (sttB k).length ≤ 4096 := by
  have : ∀ k : Fin 9, (sttB k.val).length < 200 := by decide
  have h2 : (sttB k).length < 200 := this ⟨k, h⟩
  omega

set_option maxHeartbeats 3200000 in
theorem rstandard_any (l : List UInt8) (w : World) :
    Calls Tryd.prog 23 #[.string ⟨l.toArray⟩] w (InPost (stdC' l) (stdS l) (stdE l) w) := by
  have hLOW := ba (w.alloc zIn) (.cells nmC 9)
  have HCELL : Hid (∀ wr, Below ((w.alloc zIn).alloc (.cells nmC 9)).heap.size ((w.alloc zIn).alloc (.cells nmC 9)) wr → ∀ k, k < 9 → wr.cell? ⟨w.heap.size + 1, k, none⟩ = some (.string (stn k)) ∧ w.heap.size + 1 < wr.heap.size) := by
    intro wr h k hk
    have := keep9 nmC_at h k hk
    simpa using this
  go_enter Tryd.func23, Tryd.ntmps23
  go_wp2_with (go_at_call 21; refine (rnames_any _).mono ?_; rintro e w1 ⟨rfl, rfl⟩)
  generalize hWZ : (w.alloc zIn).alloc (.cells nmC 9) = wz at *
  clear hWZ
  have HLOW := Lib.hid hLOW
  clear hLOW
  go_loop [5] (fun i => ∃ k : Nat, k ≤ 9 ∧ i = .int .i64 k ∧ Hid (∀ n, n < k → stnB n ≠ l)) (fun i => 9 - (intOf i).toNat)
  case atStart => exact ⟨0, by omega, rfl, fun n hn => by omega⟩
  case round =>
    obtain ⟨k, hk, rfl, HN⟩ := hrel
    obtain ⟨s0, s1⟩ := keepb HLOW.out 0
    obtain ⟨s2, s3⟩ := keepb HLOW.out 1
    have hz : w.heap.size < wz.heap.size := by have := HLOW.out.size; simp at this; omega
    simp at s0 s2
    by_cases hlt : k < 9
    · have hkn : (k : Int) < 9 := by omega
      obtain ⟨c0, z0⟩ := HCELL.out _ (Below.refl _ _) k hlt
      by_cases hh : stnB k = l
      · have h2 : ((stn k).toList == l) = true := by rw [stn_list, hh]; simp
        have HA := Lib.hid (stdAt_hit l k hlt hh HN.out)
        have HT := Lib.hid (keep9 txC_at (Below.refl (wz.alloc (.cells txC 9)).heap.size (wz.alloc (.cells txC 9))) k hlt)
        have HP := Lib.hid (rparse_text (sttB k) (wz.alloc (.cells txC 9)) (stt_short k hlt))
        clear hh
        go_wp2_with (fail)
        refine (rtexts_any _).mono ?_
        rintro e w2 ⟨rfl, rfl⟩
        obtain ⟨t0, tz⟩ := HT.out
        go_wp2_with (fail)
        refine HP.out.mono ?_
        intro e w2 hpost
        obtain ⟨A, n, c, A', m, c', rfl, hbT, hP⟩ := inPost_stored (bal HLOW.out _) hpost
        obtain ⟨r0, r1⟩ := keepb hbT 0
        obtain ⟨r2, r3⟩ := keepb hbT 1
        have hz2 : w.heap.size < w2.heap.size := by have := hbT.size; simp at this; omega
        simp at r0 r2
        have HPP := Lib.hid hP
        clear hP hpost
        go_wp2_with (fail)
        have e1 : stdAt l ≠ 9 := by rw [HA.out]; omega
        rw [stdC', if_neg e1, stdS, if_neg e1, stdE, if_neg e1, HA.out]
        refine bodyPost_ret (v := .tuple #[.agg #[.slice A n c, .slice A' m c'], .int .i64 (prsE (sttB k))]) ?_ rfl HPP.out
        simp [results, Tryd.results23, go_sem, r0, r2]
        done
      · have h2 : ((stn k).toList == l) = false := by rw [stn_list]; simpa using hh
        have HH := Lib.hid hh
        clear hh
        go_wp2_with (fail)
        go_round
        case rel =>
          refine ⟨k + 1, by omega, by go_num, fun n hn => ?_⟩
          by_cases e : n = k
          · subst e; exact HH.out
          · exact HN.out n (by omega)
        case measure => simp [intOf]; omega
    · have hk9 : k = 9 := by omega
      have HA := Lib.hid (stdAt_miss l (by rw [← hk9]; exact HN.out))
      have hkn : ¬ (k : Int) < 9 := by omega
      clear hk9
      go_wp2_with (fail)
      rw [stdC', if_pos HA.out, stdS, if_pos HA.out, stdE, if_pos HA.out]
      refine bodyPost_ret (v := .tuple #[.agg #[.slice none 0 0, .slice none 0 0], .int .i64 3]) ?_ rfl (inPost_err (((bx HLOW.out).setCell (Nat.le_refl _) _).setCell (Nat.le_refl _) _))
      simp [results, Tryd.results23, go_sem, s0, s2]
      done

theorem std_ok (k : Nat) (h : k < 9) : stdE (stnB k) = 0 :=
  match k, h with
  | 0, _ => by kernel_rfl
  | 1, _ => by kernel_rfl
  | 2, _ => by kernel_rfl
  | 3, _ => by kernel_rfl
  | 4, _ => by kernel_rfl
  | 5, _ => by kernel_rfl
  | 6, _ => by kernel_rfl
  | 7, _ => by kernel_rfl
  | 8, _ => by kernel_rfl
theorem std_len (l : List UInt8) : (stdC' l).length ≤ 65536 ∧ (stdS l).length ≤ 65536 := by
  have h9 : stdAt l ≤ 9 := by unfold stdAt; (repeat' split) <;> omega
  have hk : stdAt l < 9 ∨ stdAt l = 9 := by omega
  rcases hk with hk | hk
  · have := prs_len _ (stt_short _ hk)
    unfold stdC' stdS
    rw [if_neg (by omega), if_neg (by omega)]
    exact this
  · unfold stdC' stdS
    rw [if_pos hk, if_pos hk]; simp

set_option maxRecDepth 100000 in
set_option maxHeartbeats 16000000 in
theorem law_standards (l : List UInt8) (w : World) (E : Env w) :
    Calls Tryd.prog 4 #[.string ⟨l.toArray⟩] w fun e w' => e = .returned (.bool true) ∧ Below w.heap.size w w' := by
  have HE : Hid (∀ w', Below w.heap.size w w' → Env w') := fun w' h => E.below h
  have HST : Hid (∀ (x : List UInt8) (w' : World), Below w.heap.size w w' → Calls Tryd.prog 22 #[.string ⟨x.toArray⟩] w' (InPost (stdC' x) (stdS x) (stdE x) w')) := fun x w' h => standard_any x w' (E.below h)
  clear E
  go_enter Tryd.func4, Tryd.ntmps4
  go_wp2_with (fail)
  refine (names_any _ (HE.out _ (Below.refl _ _))).mono ?_
  rintro e w1 ⟨g, c, rfl, HG0, hb1⟩
  have HG := Lib.hid HG0
  clear HG0
  go_wp2_with (fail)
  refine (rnames_any _).mono ?_
  rintro e w1' ⟨rfl, rfl⟩
  have HM : Hid (∀ wr, Below (w1.alloc (.cells nmC 9)).heap.size (w1.alloc (.cells nmC 9)) wr → ∀ k, k < 9 → (wr.cell? ⟨w1.heap.size, k, none⟩ = some (.string (stn k)) ∧ w1.heap.size < wr.heap.size) ∧ (wr.cell? ⟨g, k, none⟩ = some (.string (stn k)) ∧ g < wr.heap.size)) :=
    fun wr h k hk => ⟨keep9 nmC_at h k hk, HG.out wr (bx h) k hk⟩
  have HLW : Hid (∀ wr, Below (w1.alloc (.cells nmC 9)).heap.size (w1.alloc (.cells nmC 9)) wr → Below w.heap.size w wr) := fun wr h => bt hb1 (bx h)
  clear HG hb1
  go_wp2_with (fail)
  generalize hg2 : w1.heap.size = g2 at *
  clear hg2
  generalize hWZ : w1.alloc (.cells nmC 9) = wz at *
  clear hWZ
  go_loopw [5, 6, 7, 8, 9] (fun i _ _ _ _ wr => ∃ k : Nat, k ≤ 9 ∧ i = .int .i64 k ∧ Below wz.heap.size wz wr) (fun i _ _ _ _ _ => 9 - (intOf i).toNat)
  case atStart => exact ⟨0, by omega, rfl, Below.refl _ _⟩
  case round =>
    obtain ⟨k, hk, rfl, hbw⟩ := hrel
    by_cases hlt : k < 9
    · have hkn : (k : Int) < 9 := by omega
      obtain ⟨⟨m0, mz⟩, _⟩ := HM.out wr hbw k hlt
      have HS0 := Lib.hid (HST.out (stnB k) wr (HLW.out wr hbw))
      have HLL := Lib.hid (std_len (stnB k))
      have HSR := Lib.hid (sameB_refl (stdC' (stnB k)) (stdS (stnB k)))
      have HRS : Hid (∀ w', Calls Tryd.prog 23 #[.string ⟨(stnB k).toArray⟩] w' (InPost (stdC' (stnB k)) (stdS (stnB k)) (stdE (stnB k)) w')) := fun w' => rstandard_any _ w'
      rw [std_ok k hlt] at HS0 HRS
      generalize stdC' (stnB k) = D at *
      generalize stdS (stnB k) = U at *
      go_wp2_with (fail)
      refine HS0.out.mono ?_
      rintro e w2 ⟨B1, n1, d1, B2, p1, d2, rfl, hn1, hm1, s1, s2, _, _, hb2⟩
      have HS1 := Lib.hid (And.intro hn1 (And.intro hm1 (And.intro s1 s2)))
      clear s1 s2 hn1 hm1 m0 mz
      have T2 := bt hbw hb2
      have T2' := bt T2 (ba w2 (iObj B1 n1 d1 B2 p1 d2))
      obtain ⟨⟨m0, mz⟩, _⟩ := HM.out _ T2' k hlt
      go_wp2_with (fail)
      refine (HRS.out _).mono ?_
      rintro e w3 ⟨B3, n3, d3, B4, p3, d4, rfl, hn3, hm3, s1, s2, _, _, hb3⟩
      have HS3 := Lib.hid (And.intro hn3 (And.intro hm3 (And.intro s1 s2)))
      have HK : Hid (∀ w', Below (w3.alloc (iObj B3 n3 d3 B4 p3 d4)).heap.size (w3.alloc (iObj B3 n3 d3 B4 p3 d4)) w' → w'.cell? ⟨g, k, none⟩ = some (.string (stn k)) ∧ w'.cell? ⟨g2, k, none⟩ = some (.string (stn k)) ∧ w'.cell? ⟨w2.heap.size, 0, none⟩ = some (.slice B1 n1 d1) ∧ w'.cell? ⟨w2.heap.size, 1, none⟩ = some (.slice B2 p1 d2) ∧
          w'.cell? ⟨w3.heap.size, 0, none⟩ = some (.slice B3 n3 d3) ∧ w'.cell? ⟨w3.heap.size, 1, none⟩ = some (.slice B4 p3 d4) ∧ g < w'.heap.size ∧ g2 < w'.heap.size ∧ w2.heap.size < w'.heap.size ∧ w3.heap.size < w'.heap.size ∧ Below (w3.alloc (iObj B3 n3 d3 B4 p3 d4)).heap.size (w3.alloc (iObj B3 n3 d3 B4 p3 d4)) w') := by
        intro w' h
        obtain ⟨⟨x1, x2⟩, x3, x4⟩ := HM.out w' (bt T2' (bt hb3 (bx h))) k hlt
        obtain ⟨y1, y2, y3⟩ := keepI (bt hb3 (bx h))
        obtain ⟨u1, u2, u3⟩ := keepI h
        exact ⟨x3, x1, y1, y2, u1, u2, x4, x2, y3, u3, h⟩
      have HT3 := Lib.hid (bt T2' hb3)
      clear s1 s2 hn3 hm3 m0 mz
      have hR : Below (w3.alloc (iObj B3 n3 d3 B4 p3 d4)).heap.size (w3.alloc (iObj B3 n3 d3 B4 p3 d4)) (w3.alloc (iObj B3 n3 d3 B4 p3 d4)).drew := (Below.refl _ _).drew
      have HB3 := Lib.hid hb3
      go_wp2_with (fail)
      go_region_held3 (fun w' => w'.cell? ⟨g, k, none⟩ = some (.string (stn k)) ∧ w'.cell? ⟨g2, k, none⟩ = some (.string (stn k)) ∧ w'.cell? ⟨w2.heap.size, 0, none⟩ = some (.slice B1 n1 d1) ∧ w'.cell? ⟨w2.heap.size, 1, none⟩ = some (.slice B2 p1 d2) ∧
          w'.cell? ⟨w3.heap.size, 0, none⟩ = some (.slice B3 n3 d3) ∧ w'.cell? ⟨w3.heap.size, 1, none⟩ = some (.slice B4 p3 d4) ∧ g < w'.heap.size ∧ g2 < w'.heap.size ∧ w2.heap.size < w'.heap.size ∧ w3.heap.size < w'.heap.size ∧ Below (w3.alloc (iObj B3 n3 d3 B4 p3 d4)).heap.size (w3.alloc (iObj B3 n3 d3 B4 p3 d4)) w')
        (first | exact HK.out _ (bt hR hb6) | exact HK.out _ hR)
        (first | (go_at_call 24; refine (rsame_any _ _ _ _ _ _ _ _ _ _ _ _ D U D U _ (HS1.out.2.2.1.below (bt (bx HB3.out) (bx hR))) (HS1.out.2.2.2.below (bt (bx HB3.out) (bx hR))) (HS3.out.2.2.1.below (bx hR)) (HS3.out.2.2.2.below (bx hR)) HS1.out.1 HS1.out.2.1 HS3.out.1 HS3.out.2.1 (by rw [HS1.out.1]; exact HLL.out.1) (by rw [HS1.out.2.1]; exact HLL.out.2) (by rw [HS3.out.1]; exact HLL.out.1) (by rw [HS3.out.2.1]; exact HLL.out.2)).mono ?_; rintro e w6 ⟨rfl, hb6⟩; rw [HSR.out]))
      go_wp2_with (fail)
      go_roundw
      case rel => exact ⟨k + 1, by omega, by go_num, bt HT3.out (bx (bt hR hb6))⟩
      case measure => simp [intOf]; omega
    · have hkn : ¬ (k : Int) < 9 := by omega
      have HS0 := Lib.hid (HST.out l wr (HLW.out wr hbw))
      have HLL := Lib.hid (std_len l)
      have HSR := Lib.hid (sameB_refl (stdC' l) (stdS l))
      have HRS : Hid (∀ w', Calls Tryd.prog 23 #[.string ⟨l.toArray⟩] w' (InPost (stdC' l) (stdS l) (stdE l) w')) := fun w' => rstandard_any _ w'
      generalize stdC' l = D at *
      generalize stdS l = U at *
      generalize stdE l = e1 at *
      go_wp2_with (fail)
      refine HS0.out.mono ?_
      rintro e w2 ⟨B1, n1, d1, B2, p1, d2, rfl, hn1, hm1, s1, s2, _, _, hb2⟩
      have HS1 := Lib.hid (And.intro hn1 (And.intro hm1 (And.intro s1 s2)))
      clear s1 s2 hn1 hm1
      go_wp2_with (fail)
      refine (HRS.out _).mono ?_
      rintro e w3 ⟨B3, n3, d3, B4, p3, d4, rfl, hn3, hm3, s1, s2, _, _, hb3⟩
      have HS3 := Lib.hid (And.intro hn3 (And.intro hm3 (And.intro s1 s2)))
      have T3 := bt hbw (bt hb2 (bx hb3))
      obtain ⟨a0, a1, az⟩ := keepI hb3
      clear s1 s2 hn3 hm3
      go_wp2_with (fail)
      have y1 := bt (bx hb3) (ba w3 (.cells #[.slice B3 n3 d3, .slice B4 p3 d4] 25))
      have y3 := ba w3 (.cells #[.slice B3 n3 d3, .slice B4 p3 d4] 25)
      refine (rsame_any _ _ _ _ _ _ _ _ _ _ _ _ D U D U _ (HS1.out.2.2.1.below y1) (HS1.out.2.2.2.below y1) (HS3.out.2.2.1.below y3) (HS3.out.2.2.2.below y3) HS1.out.1 HS1.out.2.1 HS3.out.1 HS3.out.2.1 (by rw [HS1.out.1]; exact HLL.out.1) (by rw [HS1.out.2.1]; exact HLL.out.2) (by rw [HS3.out.1]; exact HLL.out.1) (by rw [HS3.out.2.1]; exact HLL.out.2)).mono ?_
      rintro e w6 ⟨rfl, hb6⟩
      rw [HSR.out]
      have T6 := bt T3 (bx hb6)
      go_wp2_with (go_at_call 11; refine (works_any _ (HE.out _ (HLW.out _ T6))).mono ?_; rintro e w9 ⟨rfl, hb9⟩)
      go_ret
      exact ⟨rfl, HLW.out _ (bt T6 hb9)⟩

end Go.Proofs.YtdaeanjjmbibmaaDoor
