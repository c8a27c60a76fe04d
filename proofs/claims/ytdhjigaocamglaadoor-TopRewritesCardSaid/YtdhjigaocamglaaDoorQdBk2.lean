/- Pieces: divide: the events that one becomes. -/
import Derived.Test.YtdhjigaocamglaaDoorQdBk1
import Derived.Deep.AppendLies
namespace Go.Proofs.YtdhjigaocamglaaDoor
open Go Go.RowKit

theorem brS_snoc (tie : Bool) (bar fm : Int) (S : List Sg) (s : Sg) : brS tie bar fm (S ++ [s]) = brS tie bar fm S ++ [⟨decide (0 < fm + tkSum S) && decide ((fm + tkSum S) % bar = 0), s.v, s.d, s.t, tie, []⟩] := by
  rw [brS_app]
  rfl
theorem tkSum_take {S : List Sg} {k : Nat} {s : Sg} (h : S[k]? = some s) : tkSum (S.take (k + 1)) = tkSum (S.take k) + tkS s := by
  rw [List.take_add_one, h, tkSum_app]
  simp [tkSum]
theorem tkSum_nn {S : List Sg} (h : ∀ s ∈ S, 4 ≤ tkS s) (k : Nat) : 0 ≤ tkSum (S.take k) ∧ tkSum (S.take k) ≤ tkSum S := by
  have h1 := tkSum_len (S := S.take k) (fun s hs => h s (List.mem_of_mem_take hs))
  have h2 := tkSum_len (S := S.drop k) (fun s hs => h s (List.mem_of_mem_drop hs))
  have h3 := tkSum_app (S.take k) (S.drop k)
  rw [List.take_append_drop] at h3
  omega
theorem ptM_nat (b f : Nat) (to : Int) : ptM b f to = min (to - f) ((b : Int) - ((f % b : Nat) : Int)) := by
  unfold ptM
  rw [Int.natCast_emod]

set_option maxRecDepth 100000 in
set_option maxHeartbeats 6400000 in
theorem divide_any (pn : Nat) (yb : Bool) (yv : Int) (yd yt yi : Bool) (yL : List St) (sa : Option Addr) (sc : Nat) (sv : Int) (sd st : Bool) (fm to : Int) (b : Nat) (w : World) (hT : SgT w) (hb1 : 1 ≤ b) (hb2 : b ≤ 4608) (hf0 : 0 ≤ fm) (hft : fm < to) (hto : to ≤ 1000000) (R : Option (List Sg)) (hR : sgAll (ptA b fm to) = R) :
    Calls Tryd.prog 50 #[tmPV ⟨pn, ⟨yb, yv, yd, yt, yi, yL⟩, sv, sd, st, fm, to⟩ sa sc, .int .i64 b] w fun e w' => ∃ A c L E, e = .returned (.tuple #[.slice A (List.length L) c, .int .i64 E]) ∧ (∀ S, R = some S → L = tie1 yi (brS (!restB ⟨yb, yv, yd, yt, yi, yL⟩) b fm S) ∧ E = 0) ∧ (R = none → L = [] ∧ E = 25) ∧ Ow w' w.heap.size 51 6 A L.length c (evC (L.map zT)) ∧ Below w.heap.size w w' := by
  obtain ⟨i0, ii1, ii2, ii3, ii4⟩ := info_parts Tryd.infoEv
  have HBX : Hid (Blk (w.alloc (.cells #[.int .i64 pn, .bool yb, .int .i64 yv, .bool yd, .bool yt, .bool yi, .slice sa yL.length sc, .int .i64 sv, .bool sd, .bool st, .int .i64 fm, .int .i64 to] 75)) w.heap.size 75 #[.int .i64 pn, .bool yb, .int .i64 yv, .bool yd, .bool yt, .bool yi, .slice sa yL.length sc, .int .i64 sv, .bool sd, .bool st, .int .i64 fm, .int .i64 to]) := heap_alloc_new w _
  have HGT : Hid (∀ w', Below w.heap.size w w' → SgT w') := fun w' h => hT.below h
  have HR := Lib.hid hR
  have HBA := Lib.hid (ba w (.cells #[.int .i64 pn, .bool yb, .int .i64 yv, .bool yd, .bool yt, .bool yi, .slice sa yL.length sc, .int .i64 sv, .bool sd, .bool st, .int .i64 fm, .int .i64 to] 75))
  clear hR hT
  go_enter Tryd.func50, Tryd.ntmps50
  go_wp2_with (fail)
  obtain ⟨W1, hW1⟩ : ∃ W, w.alloc (.cells #[.int .i64 pn, .bool yb, .int .i64 yv, .bool yd, .bool yt, .bool yi, .slice sa yL.length sc, .int .i64 sv, .bool sd, .bool st, .int .i64 fm, .int .i64 to] 75) = W := ⟨_, rfl⟩
  rw [hW1] at HBX HBA ⊢
  have hz1 : W1.heap.size = w.heap.size + 1 := by rw [← hW1]; simp
  have HZ1 := Lib.hid hz1
  have hlz : w.heap.size < W1.heap.size := by omega
  clear hW1 hz1
  go_loopw [6, 7] (fun ev fr wr => ∃ (S : List Sg) (f : Nat) (A : Option Addr) (c : Nat), ev = .slice A S.length c ∧ fr = .int .i64 (f : Int) ∧ Hid ((f : Int) = fm + tkSum S) ∧ (f : Int) ≤ to ∧ Hid (R = (sgAll (ptA b f to)).map (S ++ ·)) ∧ Hid (Own1 W1 wr 51 6 A S.length c (evC ((brS (!restB ⟨yb, yv, yd, yt, yi, yL⟩) b fm S).map zT))) ∧ 4 * (S.length : Int) ≤ f) (fun _ fr _ => (to - intOf fr).toNat)
  case atStart =>
    obtain ⟨f, rfl⟩ := Int.eq_ofNat_of_zero_le hf0
    refine ⟨[], f, none, 0, rfl, rfl, by simp [Hid, tkSum], by omega, ?_, Own1.start (Below.refl _ _) _ _, by simp⟩
    unfold Hid
    rw [HR.out]
    cases R <;> simp
  case round =>
    obtain ⟨S, f, A, c, rfl, rfl, HF, hfl, HS, HO, hsl⟩ := hrel
    have hBr := HBX.out.below HO.out.low
    have q10 := hBr.cell 10
    have q11 := hBr.cell 11
    have ql := hBr.lt
    simp at q10 q11
    by_cases hlt : (f : Int) < to
    · obtain ⟨m1, m2⟩ := ptM_pos (bar := b) (by omega) hlt
      have hmb : ptM b f to ≤ b := by
        have := Nat.mod_lt f (show 0 < b by omega)
        rw [ptM_nat]
        omega
      have HMX := Lib.hid (ptM_nat b f to)
      have hst1 := ptA_step (bar := b) (by omega) hlt
      obtain ⟨x, hx⟩ : ∃ x, ptM b f to = x := ⟨_, rfl⟩
      rw [hx] at m1 m2 hmb HMX hst1
      have HST := Lib.hid hst1
      have hmod : f % b < b := Nat.mod_lt f (by omega)
      obtain ⟨r, hr⟩ : ∃ r, f % b = r := ⟨_, rfl⟩
      rw [hr] at HMX hmod
      have HRM := Lib.hid hr
      clear hx hst1 hr
      have hbz : ((b : Int) == 0) = false := beq_eq_false_iff_ne.2 (by omega)
      have hrem : Int.tmod (f : Int) (b : Int) = (r : Int) := by
        rw [← HRM.out]
        rfl
      have hw1 : IntKind.i64.wrap (to - (f : Int)) = to - (f : Int) := IntWalk.i64_in _ ⟨by omega, by omega⟩
      have hw2 : IntKind.i64.wrap ((b : Int) - (r : Int)) = (b : Int) - (r : Int) := IntWalk.i64_in _ ⟨by omega, by omega⟩
      go_wp2_with (fail)
      go_quiet (fail)
      have hxi : (if (b : Int) - (r : Int) < to - (f : Int) then (b : Int) - (r : Int) else to - (f : Int)) = x := by
        have := HMX.out
        split <;> omega
      rw [hxi]
      clear hxi
      obtain ⟨w2, hwq⟩ : ∃ W, wr.drewN nq = W := ⟨_, rfl⟩
      have hb2 : Below wr.heap.size wr w2 := by rw [← hwq]; exact bd (Below.refl _ _) nq
      rw [hwq]
      clear hwq q10 q11 ql hBr hrem hw1 hw2 hbz
      have HO2 := Lib.hid (HO.out.below hb2)
      obtain ⟨T, hT⟩ : ∃ T, sgS x = T := ⟨_, rfl⟩
      obtain ⟨n5, hn5⟩ : ∃ n, sgN x = n := ⟨_, rfl⟩
      obtain ⟨E0, hE0⟩ : ∃ E, sgE x = E := ⟨_, rfl⟩
      have HN5 : Hid (T.length = n5) := by unfold Hid; rw [← hT, ← hn5]; exact sgS_len x
      have SG : Hid (∀ w', Below w.heap.size w w' → Calls Tryd.prog 33 #[.int .i64 x] w' fun e w2 => ∃ A c, e = .returned (.tuple #[.slice A n5 c, .int .i64 E0]) ∧ Ow w2 w'.heap.size 48 3 A n5 c (sfC T) ∧ Below w'.heap.size w' w2) := fun w' h => by
        refine (signs_any x w' (HGT.out _ h)).mono ?_
        rintro e w2 ⟨v, rfl, ho, hb⟩
        rw [hn5, ← sgS_cells, hT] at ho
        obtain ⟨A, c, rfl⟩ := own_slice ho
        rw [hE0]
        exact ⟨A, c, rfl, Ow.of_own ho, hb⟩
      have hBw : Below w.heap.size w w2 := bt HBA.out HO2.out.low
      go_wp2_with (fail)
      refine (SG.out _ hBw).mono ?_
      rintro e w3 ⟨A5, c5, rfl, hsl5, hb3⟩
      by_cases he : E0 = 0
      case neg =>
        have heb : (E0 != 0) = true := by simpa using he
        have HRN : Hid (R = none) := by
          unfold Hid
          rw [HS.out, HST.out, sgAll_bad (by rw [hE0]; exact he)]
          rfl
        clear he
        go_wp2_with (fail)
        go_ret2
        refine ⟨none, 0, [], 25, rfl, fun S h => ?_, fun _ => ⟨rfl, rfl⟩, ⟨Nat.le_refl _, rfl, fun h => absurd h (by simp)⟩, bt hBw hb3⟩
        rw [HRN.out] at h
        cases h
      subst he
      have HRS : Hid (R = (sgAll (ptA b (f + x) to)).map ((S ++ T) ++ ·)) := by
        unfold Hid
        rw [HS.out, HST.out, sgAll_good hE0, hT]
        cases sgAll (ptA b (f + x) to) <;> simp
      have HTS : Hid (tkSum T = x) := by unfold Hid; rw [← hT]; exact sgS_sum hE0
      have HTO : Hid (∀ s ∈ T, okB s.v s.d s.t = true ∧ 4 ≤ tkS s ∧ tkS s ≤ 576) := by unfold Hid; rw [← hT]; exact sgS_ok hE0
      have hT4 := tkSum_len (S := T) (fun s hs => (HTO.out s hs).2.1)
      rw [HTS.out, HN5.out] at hT4
      have HO3 := Lib.hid (HO2.out.below hb3)
      have HSL := Lib.hid hsl5
      have HB3 := Lib.hid (bt hb2 hb3)
      clear hT hn5 hE0 hsl5 hb3 hb2 hBw HO2 SG
      go_wp2_with (fail)
      go_loopw [6, 7, 38] (fun ev fr kv wx => ∃ (k g : Nat) (A : Option Addr) (c : Nat), k ≤ n5 ∧ ev = .slice A (S.length + k) c ∧ fr = .int .i64 (g : Int) ∧ kv = .int .i64 (k : Int) ∧ Hid ((g : Int) = f + tkSum (T.take k)) ∧ (g : Int) ≤ to ∧ Hid (Own1 W1 wx 51 6 A (S.length + k) c (evC ((brS (!restB ⟨yb, yv, yd, yt, yi, yL⟩) b fm (S ++ T.take k)).map zT)) ∧ Ow wx w2.heap.size 48 3 A5 n5 c5 (sfC T))) (fun _ _ kv _ => n5 - (intOf kv).toNat)
      case atStart => exact ⟨0, f, A, c, by omega, rfl, rfl, rfl, by simp [Hid, tkSum], by omega, by simpa using HO3.out, HSL.out⟩
      case round =>
        obtain ⟨k, g, A, c, hk, rfl, rfl, rfl, HG, hgl, HOW0⟩ := hrel
        by_cases hkl : k < n5
        · have hki : (k : Int) < (n5 : Int) := by omega
          obtain ⟨bb, rfl, hbb, hTk, d0, d1, d2⟩ := sg_at HOW0.out.2 hkl HN5.out
          obtain ⟨z, hz⟩ : ∃ z, T.getD k s0g = z := ⟨_, rfl⟩
          rw [hz] at d0 d1 d2 hTk
          clear hz
          obtain ⟨hzo, hz4, hz5⟩ := HTO.out z (List.mem_of_getElem? hTk)
          obtain ⟨zv, zd, zt⟩ := z
          obtain ⟨tz, htz⟩ := Int.eq_ofNat_of_zero_le (show 0 ≤ tkS ⟨zv, zd, zt⟩ by omega)
          have hgn : ((g + tz : Nat) : Int) = f + tkSum (T.take (k + 1)) := by
            rw [tkSum_take hTk, htz]
            have := HG.out
            push_cast
            omega
          have hgt' : ((g + tz : Nat) : Int) ≤ to := by
            rw [hgn]
            have := (tkSum_nn (S := T) (fun s hs => (HTO.out s hs).2.1) (k + 1)).2
            rw [HTS.out] at this
            omega
          have HBN : Hid (∀ bar : Bool, bar = (decide ((0 : Int) < (g : Int)) && decide ((g : Int) % (b : Int) = 0)) → evC ((brS (!restB ⟨yb, yv, yd, yt, yi, yL⟩) b fm (S ++ T.take (k + 1))).map zT) = evC ((brS (!restB ⟨yb, yv, yd, yt, yi, yL⟩) b fm (S ++ T.take k)).map zT) ++ [.bool bar, .int .i64 zv, .bool zd, .bool zt, .bool (!restB ⟨yb, yv, yd, yt, yi, yL⟩), .slice none 0 0]) := fun bar hbar => by
            have hg0 : fm + tkSum (S ++ T.take k) = g := by
              rw [tkSum_app]
              have h1 := HF.out
              have h2 := HG.out
              omega
            rw [List.take_add_one, hTk, ← List.append_assoc]
            show evC ((brS _ b fm ((S ++ T.take k) ++ [⟨zv, zd, zt⟩])).map zT) = _
            rw [brS_snoc, List.map_append, evC_append, hg0, hbar]
            rfl
          have HTZ : Hid (tkV zv zd zt = (tz : Int)) := htz
          have HGR := Lib.hid hgn
          have htz5 : tz ≤ 576 := by omega
          have hgb : g ≤ 1000000 := by omega
          have hsk : S.length + k ≤ 1000000 := by omega
          obtain ⟨r2, hr2⟩ : ∃ r, g % b = r := ⟨_, rfl⟩
          have hr2b : r2 < b := by rw [← hr2]; exact Nat.mod_lt _ (by omega)
          have hgmod : (g : Int) % (b : Int) = (r2 : Int) := by rw [← hr2]; exact (Int.natCast_emod g b).symm
          have hrem : Int.tmod (g : Int) (b : Int) = (r2 : Int) := by rw [← hr2]; rfl
          have HRM2 := Lib.hid hgmod
          have HHT := Lib.hid hTk
          dsimp only at d0 d1 d2
          clear hTk htz hgn hz4 hz5 hzo hr2 hgmod
          have hbz : ((b : Int) == 0) = false := beq_eq_false_iff_ne.2 (by omega)
          have hbn : ¬ b = 0 := by omega
          go_wp2_with (fail)
          have hsb0 : Blk (wr.alloc (.cells #[.int .i64 zv, .bool zd, .bool zt] 48)) wr.heap.size 48 #[.int .i64 zv, .bool zd, .bool zt] := heap_alloc_new wr _
          have hOW := HOW0.out.1.below (ba wr (.cells #[.int .i64 zv, .bool zd, .bool zt] 48))
          have hOS : Ow (wr.alloc (.cells #[.int .i64 zv, .bool zd, .bool zt] 48)) w2.heap.size 48 3 (some ⟨bb, 0, none⟩) n5 c5 (sfC T) := HOW0.out.2.blk (fun g2 cs h => h.below (ba wr _))
          obtain ⟨sbx, hsbx⟩ : ∃ s, wr.heap.size = s := ⟨_, rfl⟩
          obtain ⟨W0, hW0⟩ : ∃ W, wr.alloc (.cells #[.int .i64 zv, .bool zd, .bool zt] 48) = W := ⟨_, rfl⟩
          rw [hsbx] at hsb0 ⊢
          rw [hW0] at hsb0 hOW hOS ⊢
          have HSB := Lib.hid hsb0
          have HTB := Lib.hid (HBX.out.below hOW.low)
          have HOW := Lib.hid hOW
          have HOS := Lib.hid hOS
          have CC : Hid (∀ w', (Blk w' sbx 48 #[.int .i64 zv, .bool zd, .bool zt] ∧ Blk w' w.heap.size 75 #[.int .i64 pn, .bool yb, .int .i64 yv, .bool yd, .bool yt, .bool yi, .slice sa yL.length sc, .int .i64 sv, .bool sd, .bool st, .int .i64 fm, .int .i64 to]) → (w'.cell? ⟨sbx, 0, none⟩ = some (.int .i64 zv)) ∧ (w'.cell? ⟨sbx, 1, none⟩ = some (.bool zd)) ∧ (w'.cell? ⟨sbx, 2, none⟩ = some (.bool zt)) ∧ (w'.cell? ⟨w.heap.size, 1, none⟩ = some (.bool yb)) ∧ (w'.cell? ⟨w.heap.size, 2, none⟩ = some (.int .i64 yv)) ∧ (w'.cell? ⟨w.heap.size, 3, none⟩ = some (.bool yd)) ∧ (w'.cell? ⟨w.heap.size, 4, none⟩ = some (.bool yt)) ∧ (w'.cell? ⟨w.heap.size, 5, none⟩ = some (.bool yi)) ∧ (w'.cell? ⟨w.heap.size, 6, none⟩ = some (.slice sa yL.length sc))) := fun w' h => by
            have a0 := h.1.cell 0
            have a1 := h.1.cell 1
            have a2 := h.1.cell 2
            have b1 := h.2.cell 1
            have b2 := h.2.cell 2
            have b3 := h.2.cell 3
            have b4 := h.2.cell 4
            have b5 := h.2.cell 5
            have b6 := h.2.cell 6
            simp at a0 a1 a2 b1 b2 b3 b4 b5 b6
            exact ⟨a0, a1, a2, b1, b2, b3, b4, b5, b6⟩
          clear hsb0 hOW hOS hW0 hsbx d0 d1 d2 hbb
          by_cases hg0 : g = 0
          · have hgd : decide ((0 : Int) < (g : Int)) = false := decide_eq_false (by omega)
            have hgn0 : ¬ (0 : Int) < (g : Int) := by omega
            have hgdN : decide (0 < g) = false := decide_eq_false (by omega)
            have hgnN : ¬ 0 < g := by omega
            have HBAR := Lib.hid (HBN.out false (by rw [hgd]; rfl))
            clear hg0
            have hs : Below W0.heap.size W0 W0.drew := (Below.refl _ _).drew
            refine wp_region_held_drew (S := fun w' => Blk w' sbx 48 #[.int .i64 zv, .bool zd, .bool zt] ∧ Blk w' w.heap.size 75 #[.int .i64 pn, .bool yb, .int .i64 yv, .bool yd, .bool yt, .bool yi, .slice sa yL.length sc, .int .i64 sv, .bool sd, .bool st, .int .i64 fm, .int .i64 to]) (by kernel_rfl) ⟨HSB.out.below hs, HTB.out.below hs⟩ (fun hHeld => ?_)
            change wpAnyH _ _ _ _ _ 18 #[false, false, false, false, false, false, false, false, false, false, false, false, false, false, false, false, false, false] _ _
            refine wpAnyH_take (i := 0) (v := ?_) rfl (by kernel_rfl) (by kernel_rfl) (by kernel_rfl) (fun _ _ _ h => h) (Or.inl ⟨by rfl, ?_⟩) (by assumption) ?_
            rotate_left
            · intro w' hSw
              obtain ⟨c0, c1, c2, e0, e1, e2, e3, e4, e5⟩ := CC.out _ hSw
              go_simp
              try with_reducible rfl
            (try simp only [Act.put, List.getElem_toArray, List.getElem_cons_zero, List.setIfInBounds_toArray, List.set_cons_zero, List.set_cons_succ])
            refine wpAnyH_take (i := 1) (v := ?_) rfl (by kernel_rfl) (by kernel_rfl) (by kernel_rfl) (fun _ _ _ h => h) (Or.inl ⟨by rfl, ?_⟩) (by assumption) ?_
            rotate_left
            · intro w' hSw
              obtain ⟨c0, c1, c2, e0, e1, e2, e3, e4, e5⟩ := CC.out _ hSw
              go_simp
              try with_reducible rfl
            (try simp only [Act.put, List.getElem_toArray, List.getElem_cons_succ, List.getElem_cons_zero, List.setIfInBounds_toArray, List.set_cons_zero, List.set_cons_succ])
            refine wpAnyH_take (i := 2) (v := ?_) rfl (by kernel_rfl) (by kernel_rfl) (by kernel_rfl) (fun _ _ _ h => h) (Or.inl ⟨by rfl, ?_⟩) (by assumption) ?_
            rotate_left
            · intro w' hSw
              obtain ⟨c0, c1, c2, e0, e1, e2, e3, e4, e5⟩ := CC.out _ hSw
              go_simp
              try with_reducible rfl
            (try simp only [Act.put, List.getElem_toArray, List.getElem_cons_succ, List.getElem_cons_zero, List.setIfInBounds_toArray, List.set_cons_zero, List.set_cons_succ])
            refine wpAnyH_take (i := 3) (v := ?_) rfl (by kernel_rfl) (by kernel_rfl) (by kernel_rfl) (fun _ _ _ h => h) (Or.inl ⟨by rfl, ?_⟩) (by assumption) ?_
            rotate_left
            · intro w' hSw
              obtain ⟨c0, c1, c2, e0, e1, e2, e3, e4, e5⟩ := CC.out _ hSw
              go_simp
              try with_reducible rfl
            (try simp only [Act.put, List.getElem_toArray, List.getElem_cons_succ, List.getElem_cons_zero, List.setIfInBounds_toArray, List.set_cons_zero, List.set_cons_succ])
            refine wpAnyH_take (i := 4) (v := undef) rfl (by kernel_rfl) (by kernel_rfl) (by kernel_rfl) (fun _ _ _ h => h) (Or.inr ⟨by rfl, rfl⟩) (by assumption) ?_
            (try simp only [Act.put, List.getElem_toArray, List.getElem_cons_succ, List.getElem_cons_zero, List.setIfInBounds_toArray, List.set_cons_zero, List.set_cons_succ])
            refine wpAnyH_take (i := 5) (v := undef) rfl (by kernel_rfl) (by kernel_rfl) (by kernel_rfl) (fun _ _ _ h => h) (Or.inr ⟨by rfl, rfl⟩) (by assumption) ?_
            (try simp only [Act.put, List.getElem_toArray, List.getElem_cons_succ, List.getElem_cons_zero, List.setIfInBounds_toArray, List.set_cons_zero, List.set_cons_succ])
            refine wpAnyH_take (i := 6) (v := undef) rfl (by kernel_rfl) (by kernel_rfl) (by kernel_rfl) (fun _ _ _ h => h) (Or.inr ⟨by rfl, rfl⟩) (by assumption) ?_
            (try simp only [Act.put, List.getElem_toArray, List.getElem_cons_succ, List.getElem_cons_zero, List.setIfInBounds_toArray, List.set_cons_zero, List.set_cons_succ])
            refine wpAnyH_take (i := 7) (v := undef) rfl (by kernel_rfl) (by kernel_rfl) (by kernel_rfl) (fun _ _ _ h => h) (Or.inr ⟨by rfl, rfl⟩) (by assumption) ?_
            (try simp only [Act.put, List.getElem_toArray, List.getElem_cons_succ, List.getElem_cons_zero, List.setIfInBounds_toArray, List.set_cons_zero, List.set_cons_succ])
            refine wpAnyH_take (i := 8) (v := ?_) rfl (by kernel_rfl) (by kernel_rfl) (by kernel_rfl) (fun _ _ _ h => h) (Or.inl ⟨by rfl, ?_⟩) (by assumption) ?_
            rotate_left
            · intro w' hSw
              obtain ⟨c0, c1, c2, e0, e1, e2, e3, e4, e5⟩ := CC.out _ hSw
              go_simp
              try with_reducible rfl
            (try simp only [Act.put, List.getElem_toArray, List.getElem_cons_succ, List.getElem_cons_zero, List.setIfInBounds_toArray, List.set_cons_zero, List.set_cons_succ])
            refine wpAnyH_take (i := 9) (v := ?_) rfl (by kernel_rfl) (by kernel_rfl) (by kernel_rfl) (fun _ _ _ h => h) (Or.inl ⟨by rfl, ?_⟩) (by assumption) ?_
            rotate_left
            · intro w' hSw
              obtain ⟨c0, c1, c2, e0, e1, e2, e3, e4, e5⟩ := CC.out _ hSw
              go_simp
              try with_reducible rfl
            (try simp only [Act.put, List.getElem_toArray, List.getElem_cons_succ, List.getElem_cons_zero, List.setIfInBounds_toArray, List.set_cons_zero, List.set_cons_succ])
            refine wpAnyH_take (i := 10) (v := ?_) rfl (by kernel_rfl) (by kernel_rfl) (by kernel_rfl) (fun _ _ _ h => h) (Or.inl ⟨by rfl, ?_⟩) (by assumption) ?_
            rotate_left
            · intro w' hSw
              obtain ⟨c0, c1, c2, e0, e1, e2, e3, e4, e5⟩ := CC.out _ hSw
              go_simp
              try with_reducible rfl
            (try simp only [Act.put, List.getElem_toArray, List.getElem_cons_succ, List.getElem_cons_zero, List.setIfInBounds_toArray, List.set_cons_zero, List.set_cons_succ])
            refine wpAnyH_take (i := 11) (v := ?_) rfl (by kernel_rfl) (by kernel_rfl) (by kernel_rfl) (fun _ _ _ h => h) (Or.inl ⟨by rfl, ?_⟩) (by assumption) ?_
            rotate_left
            · intro w' hSw
              obtain ⟨c0, c1, c2, e0, e1, e2, e3, e4, e5⟩ := CC.out _ hSw
              go_simp
              try with_reducible rfl
            (try simp only [Act.put, List.getElem_toArray, List.getElem_cons_succ, List.getElem_cons_zero, List.setIfInBounds_toArray, List.set_cons_zero, List.set_cons_succ])
            obtain ⟨W_0, hW_0⟩ : ∃ W, W0.drew = W := ⟨_, rfl⟩
            rw [hW_0] at hs hHeld ⊢
            clear hW_0
            refine wpAnyH_ready (rs := [12]) (by kernel_rfl) (by simp) ?_
            refine AllReadyH.cons rfl (fun K hK => ?_) AllReadyH.nil
            go_simp
            go_wp2_with (go_at_call 73; (with_reducible refine (isRest_any ⟨yb, yv, yd, yt, yi, yL⟩ sa sc _).mono ?_); rintro e W_1 ⟨rfl, hst⟩)
            replace hs := bt hs hst
            refine hK.out _ _ ⟨HSB.out.below hs, HTB.out.below hs⟩ (fun hHeld => ?_)
            clear hK K
            (try simp only [List.setIfInBounds_toArray, List.set_cons_zero, List.set_cons_succ])
            clear hst
            refine wpAnyH_take (i := 13) (v := ?_) rfl (by kernel_rfl) (by kernel_rfl) (by kernel_rfl) (fun _ _ _ h => h) (Or.inl ⟨by rfl, ?_⟩) (by assumption) ?_
            rotate_left
            · intro w' hSw
              skip
              go_simp
              try with_reducible rfl
            (try simp only [Act.put, List.getElem_toArray, List.getElem_cons_succ, List.getElem_cons_zero, List.setIfInBounds_toArray, List.set_cons_zero, List.set_cons_succ])
            refine wpAnyH_take (i := 14) (v := ?_) rfl (by kernel_rfl) (by kernel_rfl) (by kernel_rfl) (fun _ _ _ h => h) (Or.inl ⟨by rfl, ?_⟩) (by assumption) ?_
            rotate_left
            · intro w' hSw
              skip
              go_simp
              try with_reducible rfl
            (try simp only [Act.put, List.getElem_toArray, List.getElem_cons_succ, List.getElem_cons_zero, List.setIfInBounds_toArray, List.set_cons_zero, List.set_cons_succ])
            refine wpAnyH_ready (rs := [15]) (by kernel_rfl) (by simp) ?_
            refine AllReadyH.cons rfl (fun K hK => ?_) AllReadyH.nil
            go_simp
            have hs2 := bt hs (ba W_1 (.cells #[.bool false, .int .i64 zv, .bool zd, .bool zt, .bool (!restB ⟨yb, yv, yd, yt, yi, yL⟩), .slice none 0 0] 51))
            refine hK.out _ _ ⟨HSB.out.below hs2, HTB.out.below hs2⟩ (fun hHeld2 => ?_)
            clear hK K hHeld
            (try simp only [List.setIfInBounds_toArray, List.set_cons_zero, List.set_cons_succ])
            refine wpAnyH_ready (rs := [16]) (by kernel_rfl) (by simp) ?_
            refine AllReadyH.cons rfl (fun K hK => ?_) AllReadyH.nil
            have hrow := (HOW.out.below hs2).own
            refine step_append_lies _ rfl (.tmp 42) (.tmp 57) 26 rfl W1.heap.size 51 i0 _ 6 56 Tryd.underlying26 ii1 ii2 ii3 ii4 rfl (by decide) (.slice A (S.length + k) c) (S.length + k) _ (by rfl) hrow ⟨W_1.heap.size, 0, none⟩ 1 1 [.bool false, .int .i64 zv, .bool zd, .bool zt, .bool (!restB ⟨yb, yv, yd, yt, yi, yL⟩), .slice none 0 0] (by rfl) rfl (World.news_of_block (heap_alloc_new W_1 (.cells #[.bool false, .int .i64 zv, .bool zd, .bool zt, .bool (!restB ⟨yb, yv, yd, yt, yi, yL⟩), .slice none 0 0] 51))) (by intro u hu; simp at hu; rcases hu with rfl | rfl | rfl | rfl | rfl | rfl <;> rfl) (by decide) (by unfold maxLen; omega) (by omega) (by have := (HOW.out.below hs2).low.size; omega) _ rfl ?_
            intro g2 cap2 w6 hown6 hgrow6 hat6 hlt6
            have hS6 : Blk w6 sbx 48 #[.int .i64 zv, .bool zd, .bool zt] ∧ Blk w6 w.heap.size 75 #[.int .i64 pn, .bool yb, .int .i64 yv, .bool yd, .bool yt, .bool yi, .slice sa yL.length sc, .int .i64 sv, .bool sd, .bool st, .int .i64 fm, .int .i64 to] := ⟨(HSB.out.below hs2).grown hgrow6 (blk_apart (HSB.out.below hs2) hrow (by decide)), (HTB.out.below hs2).grown hgrow6 (blk_apart (HTB.out.below hs2) hrow (by decide))⟩
            obtain ⟨A6, c6, hAc, hO6⟩ := Own1.stepN HOW.out (bt hs (Below.refl _ W_1)) rfl hown6 hgrow6
            injection hAc with e1 e2 e3
            subst e1 e3
            have HO6 := Lib.hid hO6
            have HS6 := Lib.hid hS6
            refine hK.out _ _ hS6 (fun hHeld => ?_)
            have hrow9 := hrow
            have hgrow9 := hgrow6
            have hs9 := hs2
            clear hK K hHeld2 hHeld hS6 hO6 hown6 hgrow6 hat6 hrow hs hs2
            (try simp only [List.setIfInBounds_toArray, List.set_cons_zero, List.set_cons_succ])
            refine wpAnyH_take (i := 17) (v := ?_) rfl (by kernel_rfl) (by kernel_rfl) (by kernel_rfl) (fun _ _ _ h => h) (Or.inl ⟨by rfl, ?_⟩) (by assumption) ?_
            rotate_left
            · intro w' hSw
              skip
              go_simp
              try with_reducible rfl
            (try simp only [Act.put, List.getElem_toArray, List.getElem_cons_succ, List.getElem_cons_zero, List.setIfInBounds_toArray, List.set_cons_zero, List.set_cons_succ])
            refine wpAnyH_done (by kernel_rfl) ?_ _
            have HS7 := Lib.hid (And.intro HO6.out ((HOS.out.blk (fun g3 cs h => h.below hs9)).blk (fun g3 cs h => h.grown hgrow9 (blk_apart h hrow9 (by decide)))))
            clear hgrow9 hrow9 hs9
            obtain ⟨c0, c1, c2, e0, e1, e2, e3, e4, e5⟩ := CC.out _ HS6.out
            go_wp2_with (go_at_call 62; (with_reducible refine (ticks_any _ _ _ _).mono ?_); rintro e w7 ⟨rfl, hb7⟩; rw [HTZ.out])
            go_roundw
            case rel =>
              refine ⟨k + 1, g + tz, _, _, by omega, by first | rfl | go_num, by first | rfl | go_num, by first | rfl | go_num, HGR.out, hgt', ?_⟩
              unfold Hid
              rw [HBAR.out]
              exact ⟨HS7.out.1.below hb7, HS7.out.2.blk (fun _ _ h => h.below hb7)⟩
            case measure => simp [intOf]; omega
          · have hgd : decide ((0 : Int) < (g : Int)) = true := decide_eq_true (by omega)
            have hgp : (0 : Int) < (g : Int) := by omega
            have hgdN : decide (0 < g) = true := decide_eq_true (by omega)
            have hgpN : 0 < g := by omega
            by_cases hrz : r2 = 0
            · have hrb : ((r2 : Int) == 0) = true := beq_iff_eq.2 (by omega)
              have hrbN : (r2 == 0) = true := beq_iff_eq.2 (by omega)
              have HBAR := Lib.hid (HBN.out true (by rw [hgd, HRM2.out, hrz]; rfl))
              clear hg0 hrz
              have hs : Below W0.heap.size W0 W0.drew := (Below.refl _ _).drew
              refine wp_region_held_drew (S := fun w' => Blk w' sbx 48 #[.int .i64 zv, .bool zd, .bool zt] ∧ Blk w' w.heap.size 75 #[.int .i64 pn, .bool yb, .int .i64 yv, .bool yd, .bool yt, .bool yi, .slice sa yL.length sc, .int .i64 sv, .bool sd, .bool st, .int .i64 fm, .int .i64 to]) (by kernel_rfl) ⟨HSB.out.below hs, HTB.out.below hs⟩ (fun hHeld => ?_)
              change wpAnyH _ _ _ _ _ 18 #[false, false, false, false, false, false, false, false, false, false, false, false, false, false, false, false, false, false] _ _
              refine wpAnyH_take (i := 0) (v := ?_) rfl (by kernel_rfl) (by kernel_rfl) (by kernel_rfl) (fun _ _ _ h => h) (Or.inl ⟨by rfl, ?_⟩) (by assumption) ?_
              rotate_left
              · intro w' hSw
                obtain ⟨c0, c1, c2, e0, e1, e2, e3, e4, e5⟩ := CC.out _ hSw
                go_simp
                try with_reducible rfl
              (try simp only [Act.put, List.getElem_toArray, List.getElem_cons_zero, List.setIfInBounds_toArray, List.set_cons_zero, List.set_cons_succ])
              refine wpAnyH_take (i := 1) (v := ?_) rfl (by kernel_rfl) (by kernel_rfl) (by kernel_rfl) (fun _ _ _ h => h) (Or.inl ⟨by rfl, ?_⟩) (by assumption) ?_
              rotate_left
              · intro w' hSw
                obtain ⟨c0, c1, c2, e0, e1, e2, e3, e4, e5⟩ := CC.out _ hSw
                go_simp
                try with_reducible rfl
              (try simp only [Act.put, List.getElem_toArray, List.getElem_cons_succ, List.getElem_cons_zero, List.setIfInBounds_toArray, List.set_cons_zero, List.set_cons_succ])
              refine wpAnyH_take (i := 2) (v := ?_) rfl (by kernel_rfl) (by kernel_rfl) (by kernel_rfl) (fun _ _ _ h => h) (Or.inl ⟨by rfl, ?_⟩) (by assumption) ?_
              rotate_left
              · intro w' hSw
                obtain ⟨c0, c1, c2, e0, e1, e2, e3, e4, e5⟩ := CC.out _ hSw
                go_simp
                try with_reducible rfl
              (try simp only [Act.put, List.getElem_toArray, List.getElem_cons_succ, List.getElem_cons_zero, List.setIfInBounds_toArray, List.set_cons_zero, List.set_cons_succ])
              refine wpAnyH_take (i := 3) (v := ?_) rfl (by kernel_rfl) (by kernel_rfl) (by kernel_rfl) (fun _ _ _ h => h) (Or.inl ⟨by rfl, ?_⟩) (by assumption) ?_
              rotate_left
              · intro w' hSw
                obtain ⟨c0, c1, c2, e0, e1, e2, e3, e4, e5⟩ := CC.out _ hSw
                go_simp
                try with_reducible rfl
              (try simp only [Act.put, List.getElem_toArray, List.getElem_cons_succ, List.getElem_cons_zero, List.setIfInBounds_toArray, List.set_cons_zero, List.set_cons_succ])
              refine wpAnyH_take (i := 4) (v := ?_) rfl (by kernel_rfl) (by kernel_rfl) (by kernel_rfl) (fun _ _ _ h => h) (Or.inl ⟨by rfl, ?_⟩) (by assumption) ?_
              rotate_left
              · intro w' hSw
                obtain ⟨c0, c1, c2, e0, e1, e2, e3, e4, e5⟩ := CC.out _ hSw
                go_simp
                try with_reducible rfl
              (try simp only [Act.put, List.getElem_toArray, List.getElem_cons_succ, List.getElem_cons_zero, List.setIfInBounds_toArray, List.set_cons_zero, List.set_cons_succ])
              refine wpAnyH_take (i := 5) (v := ?_) rfl (by kernel_rfl) (by kernel_rfl) (by kernel_rfl) (fun _ _ _ h => h) (Or.inl ⟨by rfl, ?_⟩) (by assumption) ?_
              rotate_left
              · intro w' hSw
                obtain ⟨c0, c1, c2, e0, e1, e2, e3, e4, e5⟩ := CC.out _ hSw
                go_simp
                try with_reducible rfl
              (try simp only [Act.put, List.getElem_toArray, List.getElem_cons_succ, List.getElem_cons_zero, List.setIfInBounds_toArray, List.set_cons_zero, List.set_cons_succ])
              refine wpAnyH_take (i := 6) (v := ?_) rfl (by kernel_rfl) (by kernel_rfl) (by kernel_rfl) (fun _ _ _ h => h) (Or.inl ⟨by rfl, ?_⟩) (by assumption) ?_
              rotate_left
              · intro w' hSw
                obtain ⟨c0, c1, c2, e0, e1, e2, e3, e4, e5⟩ := CC.out _ hSw
                go_simp
                try with_reducible rfl
              (try simp only [Act.put, List.getElem_toArray, List.getElem_cons_succ, List.getElem_cons_zero, List.setIfInBounds_toArray, List.set_cons_zero, List.set_cons_succ])
              refine wpAnyH_take (i := 7) (v := ?_) rfl (by kernel_rfl) (by kernel_rfl) (by kernel_rfl) (fun _ _ _ h => h) (Or.inl ⟨by rfl, ?_⟩) (by assumption) ?_
              rotate_left
              · intro w' hSw
                obtain ⟨c0, c1, c2, e0, e1, e2, e3, e4, e5⟩ := CC.out _ hSw
                go_simp
                try with_reducible rfl
              (try simp only [Act.put, List.getElem_toArray, List.getElem_cons_succ, List.getElem_cons_zero, List.setIfInBounds_toArray, List.set_cons_zero, List.set_cons_succ])
              refine wpAnyH_take (i := 8) (v := ?_) rfl (by kernel_rfl) (by kernel_rfl) (by kernel_rfl) (fun _ _ _ h => h) (Or.inl ⟨by rfl, ?_⟩) (by assumption) ?_
              rotate_left
              · intro w' hSw
                obtain ⟨c0, c1, c2, e0, e1, e2, e3, e4, e5⟩ := CC.out _ hSw
                go_simp
                try with_reducible rfl
              (try simp only [Act.put, List.getElem_toArray, List.getElem_cons_succ, List.getElem_cons_zero, List.setIfInBounds_toArray, List.set_cons_zero, List.set_cons_succ])
              refine wpAnyH_take (i := 9) (v := ?_) rfl (by kernel_rfl) (by kernel_rfl) (by kernel_rfl) (fun _ _ _ h => h) (Or.inl ⟨by rfl, ?_⟩) (by assumption) ?_
              rotate_left
              · intro w' hSw
                obtain ⟨c0, c1, c2, e0, e1, e2, e3, e4, e5⟩ := CC.out _ hSw
                go_simp
                try with_reducible rfl
              (try simp only [Act.put, List.getElem_toArray, List.getElem_cons_succ, List.getElem_cons_zero, List.setIfInBounds_toArray, List.set_cons_zero, List.set_cons_succ])
              refine wpAnyH_take (i := 10) (v := ?_) rfl (by kernel_rfl) (by kernel_rfl) (by kernel_rfl) (fun _ _ _ h => h) (Or.inl ⟨by rfl, ?_⟩) (by assumption) ?_
              rotate_left
              · intro w' hSw
                obtain ⟨c0, c1, c2, e0, e1, e2, e3, e4, e5⟩ := CC.out _ hSw
                go_simp
                try with_reducible rfl
              (try simp only [Act.put, List.getElem_toArray, List.getElem_cons_succ, List.getElem_cons_zero, List.setIfInBounds_toArray, List.set_cons_zero, List.set_cons_succ])
              refine wpAnyH_take (i := 11) (v := ?_) rfl (by kernel_rfl) (by kernel_rfl) (by kernel_rfl) (fun _ _ _ h => h) (Or.inl ⟨by rfl, ?_⟩) (by assumption) ?_
              rotate_left
              · intro w' hSw
                obtain ⟨c0, c1, c2, e0, e1, e2, e3, e4, e5⟩ := CC.out _ hSw
                go_simp
                try with_reducible rfl
              (try simp only [Act.put, List.getElem_toArray, List.getElem_cons_succ, List.getElem_cons_zero, List.setIfInBounds_toArray, List.set_cons_zero, List.set_cons_succ])
              obtain ⟨W_0, hW_0⟩ : ∃ W, W0.drew = W := ⟨_, rfl⟩
              rw [hW_0] at hs hHeld ⊢
              clear hW_0
              refine wpAnyH_ready (rs := [12]) (by kernel_rfl) (by simp) ?_
              refine AllReadyH.cons rfl (fun K hK => ?_) AllReadyH.nil
              go_simp
              go_wp2_with (go_at_call 73; (with_reducible refine (isRest_any ⟨yb, yv, yd, yt, yi, yL⟩ sa sc _).mono ?_); rintro e W_1 ⟨rfl, hst⟩)
              replace hs := bt hs hst
              refine hK.out _ _ ⟨HSB.out.below hs, HTB.out.below hs⟩ (fun hHeld => ?_)
              clear hK K
              (try simp only [List.setIfInBounds_toArray, List.set_cons_zero, List.set_cons_succ])
              clear hst
              refine wpAnyH_take (i := 13) (v := ?_) rfl (by kernel_rfl) (by kernel_rfl) (by kernel_rfl) (fun _ _ _ h => h) (Or.inl ⟨by rfl, ?_⟩) (by assumption) ?_
              rotate_left
              · intro w' hSw
                skip
                go_simp
                try with_reducible rfl
              (try simp only [Act.put, List.getElem_toArray, List.getElem_cons_succ, List.getElem_cons_zero, List.setIfInBounds_toArray, List.set_cons_zero, List.set_cons_succ])
              refine wpAnyH_take (i := 14) (v := ?_) rfl (by kernel_rfl) (by kernel_rfl) (by kernel_rfl) (fun _ _ _ h => h) (Or.inl ⟨by rfl, ?_⟩) (by assumption) ?_
              rotate_left
              · intro w' hSw
                skip
                go_simp
                try with_reducible rfl
              (try simp only [Act.put, List.getElem_toArray, List.getElem_cons_succ, List.getElem_cons_zero, List.setIfInBounds_toArray, List.set_cons_zero, List.set_cons_succ])
              refine wpAnyH_ready (rs := [15]) (by kernel_rfl) (by simp) ?_
              refine AllReadyH.cons rfl (fun K hK => ?_) AllReadyH.nil
              go_simp
              have hs2 := bt hs (ba W_1 (.cells #[.bool true, .int .i64 zv, .bool zd, .bool zt, .bool (!restB ⟨yb, yv, yd, yt, yi, yL⟩), .slice none 0 0] 51))
              refine hK.out _ _ ⟨HSB.out.below hs2, HTB.out.below hs2⟩ (fun hHeld2 => ?_)
              clear hK K hHeld
              (try simp only [List.setIfInBounds_toArray, List.set_cons_zero, List.set_cons_succ])
              refine wpAnyH_ready (rs := [16]) (by kernel_rfl) (by simp) ?_
              refine AllReadyH.cons rfl (fun K hK => ?_) AllReadyH.nil
              have hrow := (HOW.out.below hs2).own
              refine step_append_lies _ rfl (.tmp 42) (.tmp 57) 26 rfl W1.heap.size 51 i0 _ 6 56 Tryd.underlying26 ii1 ii2 ii3 ii4 rfl (by decide) (.slice A (S.length + k) c) (S.length + k) _ (by rfl) hrow ⟨W_1.heap.size, 0, none⟩ 1 1 [.bool true, .int .i64 zv, .bool zd, .bool zt, .bool (!restB ⟨yb, yv, yd, yt, yi, yL⟩), .slice none 0 0] (by rfl) rfl (World.news_of_block (heap_alloc_new W_1 (.cells #[.bool true, .int .i64 zv, .bool zd, .bool zt, .bool (!restB ⟨yb, yv, yd, yt, yi, yL⟩), .slice none 0 0] 51))) (by intro u hu; simp at hu; rcases hu with rfl | rfl | rfl | rfl | rfl | rfl <;> rfl) (by decide) (by unfold maxLen; omega) (by omega) (by have := (HOW.out.below hs2).low.size; omega) _ rfl ?_
              intro g2 cap2 w6 hown6 hgrow6 hat6 hlt6
              have hS6 : Blk w6 sbx 48 #[.int .i64 zv, .bool zd, .bool zt] ∧ Blk w6 w.heap.size 75 #[.int .i64 pn, .bool yb, .int .i64 yv, .bool yd, .bool yt, .bool yi, .slice sa yL.length sc, .int .i64 sv, .bool sd, .bool st, .int .i64 fm, .int .i64 to] := ⟨(HSB.out.below hs2).grown hgrow6 (blk_apart (HSB.out.below hs2) hrow (by decide)), (HTB.out.below hs2).grown hgrow6 (blk_apart (HTB.out.below hs2) hrow (by decide))⟩
              obtain ⟨A6, c6, hAc, hO6⟩ := Own1.stepN HOW.out (bt hs (Below.refl _ W_1)) rfl hown6 hgrow6
              injection hAc with e1 e2 e3
              subst e1 e3
              have HO6 := Lib.hid hO6
              have HS6 := Lib.hid hS6
              refine hK.out _ _ hS6 (fun hHeld => ?_)
              have hrow9 := hrow
              have hgrow9 := hgrow6
              have hs9 := hs2
              clear hK K hHeld2 hHeld hS6 hO6 hown6 hgrow6 hat6 hrow hs hs2
              (try simp only [List.setIfInBounds_toArray, List.set_cons_zero, List.set_cons_succ])
              refine wpAnyH_take (i := 17) (v := ?_) rfl (by kernel_rfl) (by kernel_rfl) (by kernel_rfl) (fun _ _ _ h => h) (Or.inl ⟨by rfl, ?_⟩) (by assumption) ?_
              rotate_left
              · intro w' hSw
                skip
                go_simp
                try with_reducible rfl
              (try simp only [Act.put, List.getElem_toArray, List.getElem_cons_succ, List.getElem_cons_zero, List.setIfInBounds_toArray, List.set_cons_zero, List.set_cons_succ])
              refine wpAnyH_done (by kernel_rfl) ?_ _
              have HS7 := Lib.hid (And.intro HO6.out ((HOS.out.blk (fun g3 cs h => h.below hs9)).blk (fun g3 cs h => h.grown hgrow9 (blk_apart h hrow9 (by decide)))))
              clear hgrow9 hrow9 hs9
              obtain ⟨c0, c1, c2, e0, e1, e2, e3, e4, e5⟩ := CC.out _ HS6.out
              go_wp2_with (go_at_call 62; (with_reducible refine (ticks_any _ _ _ _).mono ?_); rintro e w7 ⟨rfl, hb7⟩; rw [HTZ.out])
              go_roundw
              case rel =>
                refine ⟨k + 1, g + tz, _, _, by omega, by first | rfl | go_num, by first | rfl | go_num, by first | rfl | go_num, HGR.out, hgt', ?_⟩
                unfold Hid
                rw [HBAR.out]
                exact ⟨HS7.out.1.below hb7, HS7.out.2.blk (fun _ _ h => h.below hb7)⟩
              case measure => simp [intOf]; omega
            · have hrb : ((r2 : Int) == 0) = false := beq_eq_false_iff_ne.2 (by omega)
              have hrbN : (r2 == 0) = false := beq_eq_false_iff_ne.2 (by omega)
              have HBAR := Lib.hid (HBN.out false (by rw [hgd, HRM2.out, decide_eq_false (by omega : ¬ (r2 : Int) = 0)]; rfl))
              clear hg0 hrz
              have hs : Below W0.heap.size W0 W0.drew := (Below.refl _ _).drew
              refine wp_region_held_drew (S := fun w' => Blk w' sbx 48 #[.int .i64 zv, .bool zd, .bool zt] ∧ Blk w' w.heap.size 75 #[.int .i64 pn, .bool yb, .int .i64 yv, .bool yd, .bool yt, .bool yi, .slice sa yL.length sc, .int .i64 sv, .bool sd, .bool st, .int .i64 fm, .int .i64 to]) (by kernel_rfl) ⟨HSB.out.below hs, HTB.out.below hs⟩ (fun hHeld => ?_)
              change wpAnyH _ _ _ _ _ 18 #[false, false, false, false, false, false, false, false, false, false, false, false, false, false, false, false, false, false] _ _
              refine wpAnyH_take (i := 0) (v := ?_) rfl (by kernel_rfl) (by kernel_rfl) (by kernel_rfl) (fun _ _ _ h => h) (Or.inl ⟨by rfl, ?_⟩) (by assumption) ?_
              rotate_left
              · intro w' hSw
                obtain ⟨c0, c1, c2, e0, e1, e2, e3, e4, e5⟩ := CC.out _ hSw
                go_simp
                try with_reducible rfl
              (try simp only [Act.put, List.getElem_toArray, List.getElem_cons_zero, List.setIfInBounds_toArray, List.set_cons_zero, List.set_cons_succ])
              refine wpAnyH_take (i := 1) (v := ?_) rfl (by kernel_rfl) (by kernel_rfl) (by kernel_rfl) (fun _ _ _ h => h) (Or.inl ⟨by rfl, ?_⟩) (by assumption) ?_
              rotate_left
              · intro w' hSw
                obtain ⟨c0, c1, c2, e0, e1, e2, e3, e4, e5⟩ := CC.out _ hSw
                go_simp
                try with_reducible rfl
              (try simp only [Act.put, List.getElem_toArray, List.getElem_cons_succ, List.getElem_cons_zero, List.setIfInBounds_toArray, List.set_cons_zero, List.set_cons_succ])
              refine wpAnyH_take (i := 2) (v := ?_) rfl (by kernel_rfl) (by kernel_rfl) (by kernel_rfl) (fun _ _ _ h => h) (Or.inl ⟨by rfl, ?_⟩) (by assumption) ?_
              rotate_left
              · intro w' hSw
                obtain ⟨c0, c1, c2, e0, e1, e2, e3, e4, e5⟩ := CC.out _ hSw
                go_simp
                try with_reducible rfl
              (try simp only [Act.put, List.getElem_toArray, List.getElem_cons_succ, List.getElem_cons_zero, List.setIfInBounds_toArray, List.set_cons_zero, List.set_cons_succ])
              refine wpAnyH_take (i := 3) (v := ?_) rfl (by kernel_rfl) (by kernel_rfl) (by kernel_rfl) (fun _ _ _ h => h) (Or.inl ⟨by rfl, ?_⟩) (by assumption) ?_
              rotate_left
              · intro w' hSw
                obtain ⟨c0, c1, c2, e0, e1, e2, e3, e4, e5⟩ := CC.out _ hSw
                go_simp
                try with_reducible rfl
              (try simp only [Act.put, List.getElem_toArray, List.getElem_cons_succ, List.getElem_cons_zero, List.setIfInBounds_toArray, List.set_cons_zero, List.set_cons_succ])
              refine wpAnyH_take (i := 4) (v := ?_) rfl (by kernel_rfl) (by kernel_rfl) (by kernel_rfl) (fun _ _ _ h => h) (Or.inl ⟨by rfl, ?_⟩) (by assumption) ?_
              rotate_left
              · intro w' hSw
                obtain ⟨c0, c1, c2, e0, e1, e2, e3, e4, e5⟩ := CC.out _ hSw
                go_simp
                try with_reducible rfl
              (try simp only [Act.put, List.getElem_toArray, List.getElem_cons_succ, List.getElem_cons_zero, List.setIfInBounds_toArray, List.set_cons_zero, List.set_cons_succ])
              refine wpAnyH_take (i := 5) (v := ?_) rfl (by kernel_rfl) (by kernel_rfl) (by kernel_rfl) (fun _ _ _ h => h) (Or.inl ⟨by rfl, ?_⟩) (by assumption) ?_
              rotate_left
              · intro w' hSw
                obtain ⟨c0, c1, c2, e0, e1, e2, e3, e4, e5⟩ := CC.out _ hSw
                go_simp
                try with_reducible rfl
              (try simp only [Act.put, List.getElem_toArray, List.getElem_cons_succ, List.getElem_cons_zero, List.setIfInBounds_toArray, List.set_cons_zero, List.set_cons_succ])
              refine wpAnyH_take (i := 6) (v := ?_) rfl (by kernel_rfl) (by kernel_rfl) (by kernel_rfl) (fun _ _ _ h => h) (Or.inl ⟨by rfl, ?_⟩) (by assumption) ?_
              rotate_left
              · intro w' hSw
                obtain ⟨c0, c1, c2, e0, e1, e2, e3, e4, e5⟩ := CC.out _ hSw
                go_simp
                try with_reducible rfl
              (try simp only [Act.put, List.getElem_toArray, List.getElem_cons_succ, List.getElem_cons_zero, List.setIfInBounds_toArray, List.set_cons_zero, List.set_cons_succ])
              refine wpAnyH_take (i := 7) (v := ?_) rfl (by kernel_rfl) (by kernel_rfl) (by kernel_rfl) (fun _ _ _ h => h) (Or.inl ⟨by rfl, ?_⟩) (by assumption) ?_
              rotate_left
              · intro w' hSw
                obtain ⟨c0, c1, c2, e0, e1, e2, e3, e4, e5⟩ := CC.out _ hSw
                go_simp
                try with_reducible rfl
              (try simp only [Act.put, List.getElem_toArray, List.getElem_cons_succ, List.getElem_cons_zero, List.setIfInBounds_toArray, List.set_cons_zero, List.set_cons_succ])
              refine wpAnyH_take (i := 8) (v := ?_) rfl (by kernel_rfl) (by kernel_rfl) (by kernel_rfl) (fun _ _ _ h => h) (Or.inl ⟨by rfl, ?_⟩) (by assumption) ?_
              rotate_left
              · intro w' hSw
                obtain ⟨c0, c1, c2, e0, e1, e2, e3, e4, e5⟩ := CC.out _ hSw
                go_simp
                try with_reducible rfl
              (try simp only [Act.put, List.getElem_toArray, List.getElem_cons_succ, List.getElem_cons_zero, List.setIfInBounds_toArray, List.set_cons_zero, List.set_cons_succ])
              refine wpAnyH_take (i := 9) (v := ?_) rfl (by kernel_rfl) (by kernel_rfl) (by kernel_rfl) (fun _ _ _ h => h) (Or.inl ⟨by rfl, ?_⟩) (by assumption) ?_
              rotate_left
              · intro w' hSw
                obtain ⟨c0, c1, c2, e0, e1, e2, e3, e4, e5⟩ := CC.out _ hSw
                go_simp
                try with_reducible rfl
              (try simp only [Act.put, List.getElem_toArray, List.getElem_cons_succ, List.getElem_cons_zero, List.setIfInBounds_toArray, List.set_cons_zero, List.set_cons_succ])
              refine wpAnyH_take (i := 10) (v := ?_) rfl (by kernel_rfl) (by kernel_rfl) (by kernel_rfl) (fun _ _ _ h => h) (Or.inl ⟨by rfl, ?_⟩) (by assumption) ?_
              rotate_left
              · intro w' hSw
                obtain ⟨c0, c1, c2, e0, e1, e2, e3, e4, e5⟩ := CC.out _ hSw
                go_simp
                try with_reducible rfl
              (try simp only [Act.put, List.getElem_toArray, List.getElem_cons_succ, List.getElem_cons_zero, List.setIfInBounds_toArray, List.set_cons_zero, List.set_cons_succ])
              refine wpAnyH_take (i := 11) (v := ?_) rfl (by kernel_rfl) (by kernel_rfl) (by kernel_rfl) (fun _ _ _ h => h) (Or.inl ⟨by rfl, ?_⟩) (by assumption) ?_
              rotate_left
              · intro w' hSw
                obtain ⟨c0, c1, c2, e0, e1, e2, e3, e4, e5⟩ := CC.out _ hSw
                go_simp
                try with_reducible rfl
              (try simp only [Act.put, List.getElem_toArray, List.getElem_cons_succ, List.getElem_cons_zero, List.setIfInBounds_toArray, List.set_cons_zero, List.set_cons_succ])
              obtain ⟨W_0, hW_0⟩ : ∃ W, W0.drew = W := ⟨_, rfl⟩
              rw [hW_0] at hs hHeld ⊢
              clear hW_0
              refine wpAnyH_ready (rs := [12]) (by kernel_rfl) (by simp) ?_
              refine AllReadyH.cons rfl (fun K hK => ?_) AllReadyH.nil
              go_simp
              go_wp2_with (go_at_call 73; (with_reducible refine (isRest_any ⟨yb, yv, yd, yt, yi, yL⟩ sa sc _).mono ?_); rintro e W_1 ⟨rfl, hst⟩)
              replace hs := bt hs hst
              refine hK.out _ _ ⟨HSB.out.below hs, HTB.out.below hs⟩ (fun hHeld => ?_)
              clear hK K
              (try simp only [List.setIfInBounds_toArray, List.set_cons_zero, List.set_cons_succ])
              clear hst
              refine wpAnyH_take (i := 13) (v := ?_) rfl (by kernel_rfl) (by kernel_rfl) (by kernel_rfl) (fun _ _ _ h => h) (Or.inl ⟨by rfl, ?_⟩) (by assumption) ?_
              rotate_left
              · intro w' hSw
                skip
                go_simp
                try with_reducible rfl
              (try simp only [Act.put, List.getElem_toArray, List.getElem_cons_succ, List.getElem_cons_zero, List.setIfInBounds_toArray, List.set_cons_zero, List.set_cons_succ])
              refine wpAnyH_take (i := 14) (v := ?_) rfl (by kernel_rfl) (by kernel_rfl) (by kernel_rfl) (fun _ _ _ h => h) (Or.inl ⟨by rfl, ?_⟩) (by assumption) ?_
              rotate_left
              · intro w' hSw
                skip
                go_simp
                try with_reducible rfl
              (try simp only [Act.put, List.getElem_toArray, List.getElem_cons_succ, List.getElem_cons_zero, List.setIfInBounds_toArray, List.set_cons_zero, List.set_cons_succ])
              refine wpAnyH_ready (rs := [15]) (by kernel_rfl) (by simp) ?_
              refine AllReadyH.cons rfl (fun K hK => ?_) AllReadyH.nil
              go_simp
              have hs2 := bt hs (ba W_1 (.cells #[.bool false, .int .i64 zv, .bool zd, .bool zt, .bool (!restB ⟨yb, yv, yd, yt, yi, yL⟩), .slice none 0 0] 51))
              refine hK.out _ _ ⟨HSB.out.below hs2, HTB.out.below hs2⟩ (fun hHeld2 => ?_)
              clear hK K hHeld
              (try simp only [List.setIfInBounds_toArray, List.set_cons_zero, List.set_cons_succ])
              refine wpAnyH_ready (rs := [16]) (by kernel_rfl) (by simp) ?_
              refine AllReadyH.cons rfl (fun K hK => ?_) AllReadyH.nil
              have hrow := (HOW.out.below hs2).own
              refine step_append_lies _ rfl (.tmp 42) (.tmp 57) 26 rfl W1.heap.size 51 i0 _ 6 56 Tryd.underlying26 ii1 ii2 ii3 ii4 rfl (by decide) (.slice A (S.length + k) c) (S.length + k) _ (by rfl) hrow ⟨W_1.heap.size, 0, none⟩ 1 1 [.bool false, .int .i64 zv, .bool zd, .bool zt, .bool (!restB ⟨yb, yv, yd, yt, yi, yL⟩), .slice none 0 0] (by rfl) rfl (World.news_of_block (heap_alloc_new W_1 (.cells #[.bool false, .int .i64 zv, .bool zd, .bool zt, .bool (!restB ⟨yb, yv, yd, yt, yi, yL⟩), .slice none 0 0] 51))) (by intro u hu; simp at hu; rcases hu with rfl | rfl | rfl | rfl | rfl | rfl <;> rfl) (by decide) (by unfold maxLen; omega) (by omega) (by have := (HOW.out.below hs2).low.size; omega) _ rfl ?_
              intro g2 cap2 w6 hown6 hgrow6 hat6 hlt6
              have hS6 : Blk w6 sbx 48 #[.int .i64 zv, .bool zd, .bool zt] ∧ Blk w6 w.heap.size 75 #[.int .i64 pn, .bool yb, .int .i64 yv, .bool yd, .bool yt, .bool yi, .slice sa yL.length sc, .int .i64 sv, .bool sd, .bool st, .int .i64 fm, .int .i64 to] := ⟨(HSB.out.below hs2).grown hgrow6 (blk_apart (HSB.out.below hs2) hrow (by decide)), (HTB.out.below hs2).grown hgrow6 (blk_apart (HTB.out.below hs2) hrow (by decide))⟩
              obtain ⟨A6, c6, hAc, hO6⟩ := Own1.stepN HOW.out (bt hs (Below.refl _ W_1)) rfl hown6 hgrow6
              injection hAc with e1 e2 e3
              subst e1 e3
              have HO6 := Lib.hid hO6
              have HS6 := Lib.hid hS6
              refine hK.out _ _ hS6 (fun hHeld => ?_)
              have hrow9 := hrow
              have hgrow9 := hgrow6
              have hs9 := hs2
              clear hK K hHeld2 hHeld hS6 hO6 hown6 hgrow6 hat6 hrow hs hs2
              (try simp only [List.setIfInBounds_toArray, List.set_cons_zero, List.set_cons_succ])
              refine wpAnyH_take (i := 17) (v := ?_) rfl (by kernel_rfl) (by kernel_rfl) (by kernel_rfl) (fun _ _ _ h => h) (Or.inl ⟨by rfl, ?_⟩) (by assumption) ?_
              rotate_left
              · intro w' hSw
                skip
                go_simp
                try with_reducible rfl
              (try simp only [Act.put, List.getElem_toArray, List.getElem_cons_succ, List.getElem_cons_zero, List.setIfInBounds_toArray, List.set_cons_zero, List.set_cons_succ])
              refine wpAnyH_done (by kernel_rfl) ?_ _
              have HS7 := Lib.hid (And.intro HO6.out ((HOS.out.blk (fun g3 cs h => h.below hs9)).blk (fun g3 cs h => h.grown hgrow9 (blk_apart h hrow9 (by decide)))))
              clear hgrow9 hrow9 hs9
              obtain ⟨c0, c1, c2, e0, e1, e2, e3, e4, e5⟩ := CC.out _ HS6.out
              go_wp2_with (go_at_call 62; (with_reducible refine (ticks_any _ _ _ _).mono ?_); rintro e w7 ⟨rfl, hb7⟩; rw [HTZ.out])
              go_roundw
              case rel =>
                refine ⟨k + 1, g + tz, _, _, by omega, by first | rfl | go_num, by first | rfl | go_num, by first | rfl | go_num, HGR.out, hgt', ?_⟩
                unfold Hid
                rw [HBAR.out]
                exact ⟨HS7.out.1.below hb7, HS7.out.2.blk (fun _ _ h => h.below hb7)⟩
              case measure => simp [intOf]; omega
        · obtain rfl : k = n5 := by omega
          have hTt : T.take k = T := List.take_of_length_le (by rw [HN5.out]; exact Nat.le_refl _)
          have hG := HG.out
          have hOx := HOW0.out.1
          rw [hTt] at hG hOx
          rw [HTS.out] at hG
          have HGF := Lib.hid hG
          have HOX := Lib.hid hOx
          clear hTt hG hOx
          go_wp2_with (fail)
          go_roundw
          case rel =>
            refine ⟨S ++ T, g, A, c, by rw [List.length_append, HN5.out], rfl, ?_, hgl, ?_, ?_, ?_⟩
            · unfold Hid
              rw [tkSum_app, HTS.out]
              have h1 := HF.out
              have h2 := HGF.out
              omega
            · unfold Hid
              rw [HRS.out, HGF.out]
            · unfold Hid
              rw [List.length_append, HN5.out]
              exact HOX.out
            · have h2 := HGF.out
              rw [List.length_append, HN5.out]
              push_cast
              omega
          case measure =>
            have h2 := HGF.out
            simp [intOf]
            omega
    · have hfe : (f : Int) = to := by omega
      have hRS : R = some S := by
        rw [HS.out, hfe, ptA_end (Int.le_refl _)]
        simp [sgAll]
      have hSp : 0 < S.length := by
        rcases Nat.eq_zero_or_pos S.length with h | h
        · rw [List.length_eq_zero_iff] at h
          have := HF.out
          rw [h] at this
          simp [tkSum] at this
          omega
        · exact h
      have hOw := Ow.of_own HO.out.own
      obtain ⟨ge, cur, e1, e2, hB, e4, e5⟩ := hOw.2.2 hSp
      subst e1
      obtain ⟨y0, Sr, hSr⟩ : ∃ y0 Sr, brS (!restB ⟨yb, yv, yd, yt, yi, yL⟩) b fm S = y0 :: Sr := by
        cases S with
        | nil => simp at hSp
        | cons s r => exact ⟨_, _, rfl⟩
      rw [hSr] at hOw e5
      have hc4 := hB.cellOf e5 (show (evC ((y0 :: Sr).map zT))[4]? = some (.bool y0.tie) from rfl)
      have hf4 := hB.frozen 4
      have hgl := hB.lt
      have q5 := hBr.cell 5
      simp at q5
      have hsi : (0 : Int) < (S.length : Int) := by omega
      have hne : w.heap.size ≠ ge := by omega
      have HOW := Lib.hid (hOw.set_ 4 (.bool yi))
      have HRS := Lib.hid hRS
      have HSR := Lib.hid hSr
      have HLB := Lib.hid (And.intro (bt HBA.out HO.out.low) e2)
      have hSb : S.length ≤ 1000000 := by omega
      clear hfe hRS hSr hOw e5 e4 hB e2
      go_wp2_with (fail)
      go_ret2
      have hlen : S.length = (tie1 yi (brS (!restB ⟨yb, yv, yd, yt, yi, yL⟩) b fm S)).length := by rw [tie1_len, brS_len]
      refine ⟨some ⟨ge, 0, none⟩, c, tie1 yi (brS (!restB ⟨yb, yv, yd, yt, yi, yL⟩) b fm S), 0, by rw [← hlen]; rfl, fun S' h => ?_, fun h => ?_, ?_, HLB.out.1.setCell (p := ⟨ge, 4, none⟩) (show w.heap.size ≤ ge by have := HLB.out.2; omega) _⟩
      · rw [HRS.out] at h
        injection h with h
        rw [h]
        exact ⟨rfl, rfl⟩
      · rw [HRS.out] at h
        cases h
      · rw [← hlen, HSR.out]
        exact (HOW.out : Ow _ _ _ _ _ _ _ _).more (by have := HLB.out.2; omega)

end Go.Proofs.YtdhjigaocamglaaDoor
