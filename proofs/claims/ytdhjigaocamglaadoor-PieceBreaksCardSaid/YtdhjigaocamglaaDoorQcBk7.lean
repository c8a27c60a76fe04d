/- Pieces: the reference's pieces of an event. -/
import Derived.Test.YtdhjigaocamglaaDoorQcRsO
import Derived.Deep.CutRange
namespace Go.Proofs.YtdhjigaocamglaaDoor
open Go Go.RowKit

/-- The first of the pieces has the event's tie and stops. -/
def hdT (yi : Bool) (sa : Option Addr) (n c : Nat) : List EvT → List EvT
  | [] => []
  | e :: r => { e with tie := yi, sa := sa, sn := n, sc := c } :: r
theorem hdT_len (yi : Bool) (sa : Option Addr) (n c : Nat) (X : List EvT) : (hdT yi sa n c X).length = X.length := by cases X <;> rfl
theorem hdT_snoc {yi : Bool} {sa : Option Addr} {n c : Nat} {X : List EvT} (h : X ≠ []) (x : EvT) : hdT yi sa n c (X ++ [x]) = hdT yi sa n c X ++ [x] := by
  cases X with
  | nil => exact absurd rfl h
  | cons e r => rfl
theorem drop_head {α : Type} {P : List α} {i : Nat} {x : α} {r : List α} (h : P.drop i = x :: r) : i < P.length ∧ P[i]? = some x ∧ P.drop (i + 1) = r := by
  have hl : i < P.length := by
    rcases Nat.lt_or_ge i P.length with h1 | h1
    · exact h1
    · rw [List.drop_of_length_le h1] at h
      cases h
  rw [List.drop_eq_getElem_cons hl] at h
  injection h with h1 h2
  exact ⟨hl, by rw [List.getElem?_eq_getElem hl, h1], h2⟩
theorem ptL_len (bar te : Int) : ∀ (n : Nat) (fm : Int), (ptL bar te n fm).length ≤ n
  | 0, _ => by simp [ptL]
  | n + 1, fm => by
    unfold ptL
    split
    · have := ptL_len bar te n (fm + ptM bar fm te)
      simp
      omega
    · simp
theorem ptA_lenB (bar fm te : Int) : (ptA bar fm te).length ≤ (te - fm).toNat := ptL_len _ _ _ _

set_option maxRecDepth 100000 in
set_option maxHeartbeats 6400000 in
theorem pieces_any (yb : Bool) (yv : Int) (yd yt yi : Bool) (yL : List St) (sa : Option Addr) (sc : Nat) (fm te : Int) (b : Nat) (w : World) (hb1 : 1 ≤ b) (hb2 : b ≤ 4608) (hf0 : 0 ≤ fm) (hft : fm < te) (hto : te ≤ 1000000) (hok : okB yv yd yt = true) (htk : tkV yv yd yt = te - fm) (R : Option (List Sg)) (hR : sgAll (ptA b fm te) = R) :
    Calls Tryd.prog 54 #[evV yb yv yd yt yi sa yL.length sc, .int .i64 fm, .int .i64 te, .int .i64 b] w fun e w' => ∃ A c L E, e = .returned (.tuple #[.slice A (List.length L) c, .int .i64 E]) ∧ (∀ S, R = some S → L = hdT yi sa yL.length sc ((brS (!restB ⟨yb, yv, yd, yt, yi, yL⟩) b fm S).map zT) ∧ E = 0) ∧ (R = none → L = [] ∧ E = 25) ∧ Ow w' w.heap.size 51 6 A L.length c (evC L) ∧ Below w.heap.size w w' := by
  obtain ⟨i0, ii1, ii2, ii3, ii4⟩ := info_parts Tryd.infoEv
  have RS0 : ∀ w', Calls Tryd.prog 79 #[evV yb yv yd yt yi sa yL.length sc] w' fun e w2 => e = .returned (.bool (restB ⟨yb, yv, yd, yt, yi, yL⟩)) ∧ Below w'.heap.size w' w2 := fun w' => rRest_any ⟨yb, yv, yd, yt, yi, yL⟩ sa sc w'
  obtain ⟨r0, hr0⟩ : ∃ r, restB ⟨yb, yv, yd, yt, yi, yL⟩ = r := ⟨_, rfl⟩
  rw [hr0] at RS0 ⊢
  clear hr0
  have RS := Lib.hid RS0
  clear RS0
  have HBX : Hid (Blk (w.alloc (.cells #[.bool yb, .int .i64 yv, .bool yd, .bool yt, .bool yi, .slice sa yL.length sc] 51)) w.heap.size 51 #[.bool yb, .int .i64 yv, .bool yd, .bool yt, .bool yi, .slice sa yL.length sc]) := heap_alloc_new w _
  have HBA := Lib.hid (ba w (.cells #[.bool yb, .int .i64 yv, .bool yd, .bool yt, .bool yi, .slice sa yL.length sc] 51))
  have HONE : Hid (sgE (tkV yv yd yt) = 0 ∧ sgS (tkV yv yd yt) = [⟨yv, yd, yt⟩]) := sgS_one hok
  have HOK := Lib.hid hok
  have HTK := Lib.hid htk
  have PT0 : ∀ w', Calls Tryd.prog 77 #[.int .i64 fm, .int .i64 te, .int .i64 b] w' fun e w2 => ∃ A c, e = .returned (.slice A (ptA b fm te).length c) ∧ Own1 w' w2 3 1 A (ptA b fm te).length c (intC (ptA b fm te)) := fun w' => parts_any fm te b w' hb1 hb2 hf0 hto (by omega)
  obtain ⟨P, hP⟩ : ∃ P, ptA b fm te = P := ⟨_, rfl⟩
  obtain ⟨q, hq⟩ : ∃ q, P.length = q := ⟨_, rfl⟩
  rw [hP] at PT0 hR
  rw [hq] at PT0
  have PT := Lib.hid PT0
  have HP := Lib.hid hP
  have HQ := Lib.hid hq
  have HR := Lib.hid hR
  have hqb : q ≤ 1000000 := by
    have h1 := ptA_lenB (b : Int) fm te
    rw [hP, hq] at h1
    omega
  clear PT0 hP hq hR hok htk
  go_enter Tryd.func54, Tryd.ntmps54
  go_wp2_with (go_at_call 77; (with_reducible refine (PT.out _).mono ?_); rintro e w2 ⟨Ap, cp, rfl, hPO⟩)
  obtain ⟨W1, hW1⟩ : ∃ W, w.alloc (.cells #[.bool yb, .int .i64 yv, .bool yd, .bool yt, .bool yi, .slice sa yL.length sc] 51) = W := ⟨_, rfl⟩
  rw [hW1] at HBX HBA hPO
  have hz1 : W1.heap.size = w.heap.size + 1 := by rw [← hW1]; simp
  have HZ1 := Lib.hid hz1
  have hlz : w.heap.size < W1.heap.size := by omega
  have HPO := Lib.hid hPO
  clear hW1 hz1 hPO PT
  go_loopw [11, 12, 13] (fun ev fr kv wr => ∃ (i : Nat) (S : List Sg) (f : Nat) (A : Option Addr) (c : Nat), i ≤ q ∧ ev = .slice A S.length c ∧ fr = .int .i64 (f : Int) ∧ kv = .int .i64 (i : Int) ∧ Hid ((f : Int) = fm + tkSum S) ∧ (f : Int) ≤ te ∧ Hid (P.drop i = ptA b f te) ∧ Hid (R = (sgAll (P.drop i)).map (S ++ ·)) ∧ Hid (Own1 W1 wr 51 6 A S.length c (evC (hdT yi sa yL.length sc ((brS (!r0) b fm S).map zT))) ∧ Ow wr W1.heap.size 3 1 Ap q cp (intC P)) ∧ 4 * (S.length : Int) ≤ f ∧ Hid (i = 0 → (f : Int) = fm)) (fun _ _ kv _ => q - (intOf kv).toNat)
  case atStart =>
    obtain ⟨f, rfl⟩ := Int.eq_ofNat_of_zero_le hf0
    refine ⟨0, [], f, none, 0, by omega, rfl, rfl, rfl, by simp [Hid, tkSum], by omega, ?_, ?_, ?_, by simp, fun _ => rfl⟩
    · unfold Hid
      rw [HP.out]
      rfl
    · unfold Hid
      rw [← HR.out]
      simp
    · exact ⟨Own1.start HPO.out.low _ _, Ow.of_own HPO.out.own⟩
  case round =>
    obtain ⟨i, S, f, A, c, hi, rfl, rfl, rfl, HF, hfl, HD, HS, HO, hsl, HI0⟩ := hrel
    by_cases hiq : i < q
    · have hii : (i : Int) < (q : Int) := by omega
      have hlt : (f : Int) < te := by
        rcases Int.lt_or_le (f : Int) te with h | h
        · exact h
        · have h1 := HD.out
          rw [ptA_end h] at h1
          have h2 := congrArg List.length h1
          rw [List.length_drop, HQ.out] at h2
          simp at h2
          omega
      obtain ⟨m1, m2⟩ := ptM_pos (bar := b) (by omega) hlt
      have hst1 := ptA_step (bar := b) (by omega) hlt
      obtain ⟨x, hx⟩ : ∃ x, ptM b f te = x := ⟨_, rfl⟩
      rw [hx] at m1 m2 hst1
      clear hx
      obtain ⟨_, hPi, hdr⟩ := drop_head (HD.out.trans hst1)
      have HST := Lib.hid hst1
      have HPI := Lib.hid hPi
      have HDR := Lib.hid hdr
      clear hst1 hPi hdr
      by_cases hq1 : 1 < q
      · have hq1i : (1 : Int) < (q : Int) := by omega
        obtain ⟨gp, cur, hAp, hgB, hBk, hcs, hTT⟩ := HO.out.2.2.2 (by omega)
        have hcp := hBk.cellOf hTT (show (intC P)[i]? = some (.int .i64 x) by simp [intC, HPI.out])
        have hgl := hBk.lt
        have hbr := HBX.out.below HO.out.1.low
        have q1 := hbr.cell 1
        have q2 := hbr.cell 2
        have q3 := hbr.cell 3
        have ql := hbr.lt
        simp at q1 q2 q3
        have hba := ba wr (.cells #[.int .i64 yv, .bool yd, .bool yt] 48)
        clear hBk hcs hTT
        obtain ⟨T, hT⟩ : ∃ T, sgS x = T := ⟨_, rfl⟩
        obtain ⟨n5, hn5⟩ : ∃ n, sgN x = n := ⟨_, rfl⟩
        obtain ⟨E0, hE0⟩ : ∃ E, sgE x = E := ⟨_, rfl⟩
        have HN5 : Hid (T.length = n5) := by unfold Hid; rw [← hT, ← hn5]; exact sgS_len x
        have SG : Hid (∀ w', Calls Tryd.prog 78 #[.int .i64 x] w' fun e w2 => ∃ A c, e = .returned (.tuple #[.slice A n5 c, .int .i64 E0]) ∧ Ow w2 w'.heap.size 48 3 A n5 c (sfC T) ∧ Below w'.heap.size w' w2) := fun w' => by
          refine (rsignsO_any x w').mono ?_
          rintro e w2 ⟨A, c, rfl, ho, hb⟩
          have hO := Ow.of_own ho
          rw [hn5, ← sgS_cells, hT] at hO
          rw [hn5, hE0]
          exact ⟨A, c, rfl, hO, hb⟩
        subst hAp
        go_wp2_with (fail)
        refine (SG.out _).mono ?_
        rintro e w3 ⟨A5, c5, rfl, hsl5, hb3⟩
        have hB3 := bt hba hb3
        have HO3 := Lib.hid (And.intro (HO.out.1.below hB3) (HO.out.2.blk (fun _ _ h => h.below hB3)))
        have HBW := Lib.hid (bt HBA.out (bt HO.out.1.low hB3))
        obtain ⟨B5, hB5⟩ : ∃ B, (wr.alloc (.cells #[.int .i64 yv, .bool yd, .bool yt] 48)).heap.size = B := ⟨_, rfl⟩
        rw [hB5] at hsl5
        have HSL := Lib.hid hsl5
        clear hcp hgl hbr q1 q2 q3 ql hba hb3 hB3 hB5 hsl5 SG
        by_cases he : E0 = 0
        case neg =>
          have heb : (E0 != 0) = true := by simpa using he
          have HRN : Hid (R = none) := by
            unfold Hid
            rw [HS.out, HD.out, HST.out, sgAll_bad (by rw [hE0]; exact he)]
            rfl
          clear he
          go_wp2_with (fail)
          go_ret2
          refine ⟨none, 0, [], 25, rfl, fun S h => ?_, fun _ => ⟨rfl, rfl⟩, ⟨Nat.le_refl _, rfl, fun h => absurd h (by simp)⟩, HBW.out⟩
          rw [HRN.out] at h
          cases h
        subst he
        have HRS : Hid (R = (sgAll (ptA b (f + x) te)).map ((S ++ T) ++ ·)) := by
          unfold Hid
          rw [HS.out, HD.out, HST.out, sgAll_good hE0, hT]
          cases sgAll (ptA b (f + x) te) <;> simp
        have HTS : Hid (tkSum T = x) := by unfold Hid; rw [← hT]; exact sgS_sum hE0
        have HTO : Hid (∀ s ∈ T, okB s.v s.d s.t = true ∧ 4 ≤ tkS s ∧ tkS s ≤ 576) := by unfold Hid; rw [← hT]; exact sgS_ok hE0
        have hT4 := tkSum_len (S := T) (fun s hs => (HTO.out s hs).2.1)
        rw [HTS.out, HN5.out] at hT4
        clear hT hn5 hE0
        go_wp2_with (fail)
        go_loopw [11, 12, 16] (fun ev fr kv wx => ∃ (k g : Nat) (A : Option Addr) (c : Nat), k ≤ n5 ∧ ev = .slice A (S.length + k) c ∧ fr = .int .i64 (g : Int) ∧ kv = .int .i64 (k : Int) ∧ Hid ((g : Int) = f + tkSum (T.take k)) ∧ (g : Int) ≤ te ∧ Hid (Own1 W1 wx 51 6 A (S.length + k) c (evC (hdT yi sa yL.length sc ((brS (!r0) b fm (S ++ T.take k)).map zT))) ∧ Ow wx B5 48 3 A5 n5 c5 (sfC T) ∧ Ow wx W1.heap.size 3 1 (some ⟨gp, 0, none⟩) q cp (intC P))) (fun _ _ kv _ => n5 - (intOf kv).toNat)
        case atStart => exact ⟨0, f, A, c, by omega, rfl, rfl, rfl, by simp [Hid, tkSum], by omega, by simpa using HO3.out.1, HSL.out, HO3.out.2⟩
        case round =>
          obtain ⟨k, g, A, c, hk, rfl, rfl, rfl, HG, hgl, HOW0⟩ := hrel
          by_cases hkl : k < n5
          · have hki : (k : Int) < (n5 : Int) := by omega
            obtain ⟨bb, hA5, hbb, hTk, d0, d1, d2⟩ := sg_at HOW0.out.2.1 hkl HN5.out
            subst hA5
            obtain ⟨z, hz⟩ : ∃ z, T.getD k s0g = z := ⟨_, rfl⟩
            rw [hz] at d0 d1 d2 hTk
            clear hz
            obtain ⟨hzo, hz4, hz5⟩ := HTO.out z (List.mem_of_getElem? hTk)
            obtain ⟨zv, zd, zt⟩ := z
            obtain ⟨tz, htz⟩ := Int.eq_ofNat_of_zero_le (show 0 ≤ tkS ⟨zv, zd, zt⟩ by omega)
            have hgn : ((g + tz : Nat) : Int) = f + tkSum (T.take (k + 1)) := by
              rw [tkSum_take hTk, htz]
              have := HG.out
              push_cast
              omega
            have hgt' : ((g + tz : Nat) : Int) ≤ te := by
              rw [hgn]
              have := (tkSum_nn (S := T) (fun s hs => (HTO.out s hs).2.1) (k + 1)).2
              rw [HTS.out] at this
              omega
            obtain ⟨m, hm⟩ : ∃ m, S.length + k = m := ⟨_, rfl⟩
            have hLm : ((brS (!r0) b fm (S ++ T.take k)).map zT).length = m := by
              rw [List.length_map, brS_len, List.length_append, List.length_take, ← hm]
              have := HN5.out
              omega
            have HBN : Hid (∀ bar : Bool, bar = (decide ((0 : Int) < (g : Int)) && decide ((g : Int) % (b : Int) = 0)) → (m = 0 → evC (hdT yi sa yL.length sc ((brS (!r0) b fm (S ++ T.take (k + 1))).map zT)) = evC (hdT yi sa yL.length sc ((brS (!r0) b fm (S ++ T.take k)).map zT)) ++ [.bool bar, .int .i64 zv, .bool zd, .bool zt, .bool yi, .slice sa yL.length sc]) ∧ (m ≠ 0 → evC (hdT yi sa yL.length sc ((brS (!r0) b fm (S ++ T.take (k + 1))).map zT)) = evC (hdT yi sa yL.length sc ((brS (!r0) b fm (S ++ T.take k)).map zT)) ++ [.bool bar, .int .i64 zv, .bool zd, .bool zt, .bool (!r0), .slice none 0 0])) := fun bar hbar => by
              have hg0 : fm + tkSum (S ++ T.take k) = g := by
                rw [tkSum_app]
                have h1 := HF.out
                have h2 := HG.out
                omega
              have e : (brS (!r0) b fm (S ++ T.take (k + 1))).map zT = (brS (!r0) b fm (S ++ T.take k)).map zT ++ [⟨bar, zv, zd, zt, !r0, none, 0, 0⟩] := by
                rw [List.take_add_one, hTk, ← List.append_assoc]
                show (brS _ b fm ((S ++ T.take k) ++ [⟨zv, zd, zt⟩])).map zT = _
                rw [brS_snoc, List.map_append, hg0, hbar]
                rfl
              rw [e]
              refine ⟨fun h => ?_, fun h => ?_⟩
              · rw [List.length_eq_zero_iff.1 (hLm.trans h)]
                rfl
              · rw [hdT_snoc (fun h2 => h (by rw [← hLm, h2]; rfl)), evC_append]
                rfl
            rw [hm] at HOW0 ⊢
            have HM := Lib.hid hm
            have HTZ : Hid (tkV zv zd zt = (tz : Int)) := htz
            have HGR := Lib.hid hgn
            have htz5 : tz ≤ 576 := by omega
            have hgb : g ≤ 1000000 := by omega
            have hmb : m ≤ 1000000 := by omega
            obtain ⟨r2, hr2⟩ : ∃ r, g % b = r := ⟨_, rfl⟩
            have hr2b : r2 < b := by rw [← hr2]; exact Nat.mod_lt _ (by omega)
            have hgmod : (g : Int) % (b : Int) = (r2 : Int) := by rw [← hr2]; exact (Int.natCast_emod g b).symm
            have hrem : Int.tmod (g : Int) (b : Int) = (r2 : Int) := by rw [← hr2]; rfl
            have HRM2 := Lib.hid hgmod
            have HHT := Lib.hid hTk
            dsimp only at d0 d1 d2
            clear hTk htz hgn hz4 hz5 hzo hr2 hgmod hm hLm
            have hbz : ((b : Int) == 0) = false := beq_eq_false_iff_ne.2 (by omega)
            have hbn : ¬ b = 0 := by omega
            have HBr := Lib.hid (HBX.out.below HOW0.out.1.low)
            go_wp2_with (fail)
            have CC : Hid (∀ w', Below wr.heap.size wr w' → (w'.cell? ⟨bb, k * 3, none⟩ = some (.int .i64 zv)) ∧ (w'.cell? ⟨bb, k * 3 + 1, none⟩ = some (.bool zd)) ∧ (w'.cell? ⟨bb, k * 3 + 2, none⟩ = some (.bool zt)) ∧ (w'.cell? ⟨w.heap.size, 0, none⟩ = some (.bool yb)) ∧ (w'.cell? ⟨w.heap.size, 1, none⟩ = some (.int .i64 yv)) ∧ (w'.cell? ⟨w.heap.size, 2, none⟩ = some (.bool yd)) ∧ (w'.cell? ⟨w.heap.size, 3, none⟩ = some (.bool yt)) ∧ (w'.cell? ⟨w.heap.size, 4, none⟩ = some (.bool yi)) ∧ (w'.cell? ⟨w.heap.size, 5, none⟩ = some (.slice sa yL.length sc))) := fun w' h => by
              have hg := h.block bb hbb
              have h2 := HBr.out.below h
              have b0 := h2.cell 0
              have b1 := h2.cell 1
              have b2 := h2.cell 2
              have b3 := h2.cell 3
              have b4 := h2.cell 4
              have b5 := h2.cell 5
              simp at b0 b1 b2 b3 b4 b5
              exact ⟨cell_same hg d0, cell_same hg d1, cell_same hg d2, b0, b1, b2, b3, b4, b5⟩
            clear d0 d1 d2
            by_cases hg0 : g = 0
            · have hgd : decide ((0 : Int) < (g : Int)) = false := decide_eq_false (by omega)
              have hgn0 : ¬ (0 : Int) < (g : Int) := by omega
              have hgdN : decide (0 < g) = false := decide_eq_false (by omega)
              have hgnN : ¬ 0 < g := by omega
              have HBAR := Lib.hid (HBN.out false (by rw [hgd]; rfl))
              clear hg0
              go_cut [17] from 51 to 66 (fun s17 wy => ∃ g2 : Nat, s17 = .pointer (some ⟨g2, 0, none⟩) ∧ Hid (wr.heap.size ≤ g2 ∧ Blk wy g2 51 #[.bool false, .int .i64 zv, .bool zd, .bool zt, .bool (!r0), .slice none 0 0] ∧ Below wr.heap.size wr wy))
              case first =>
                have hs : Below wr.heap.size wr wr.drew := (Below.refl _ _).drew
                refine wp_region_held_drew (S := fun w' => Below wr.heap.size wr w') (by kernel_rfl) hs (fun hHeld => ?_)
                change wpAnyH _ _ _ _ _ 18 #[false, false, false, false, false, false, false, false, false, false, false, false, false, false, false, false, false, false] _ _
                refine wpAnyH_take (i := 0) (v := ?_) rfl (by kernel_rfl) (by kernel_rfl) (by kernel_rfl) (fun _ _ _ h => h) (Or.inl ⟨by rfl, ?_⟩) (by assumption) ?_
                rotate_left
                · intro w' hSw
                  obtain ⟨c0, c1, c2, e0, e1, e2, e3, e4, e5⟩ := CC.out _ hSw
                  go_simp
                  try with_reducible rfl
                (try simp only [Act.put, List.getElem_toArray, List.getElem_cons_zero, List.setIfInBounds_toArray, List.set_cons_zero, List.set_cons_succ])
                refine wpAnyH_take (i := 1) (v := ?_) rfl (by kernel_rfl) (by kernel_rfl) (by kernel_rfl) (fun _ _ _ h => h) (Or.inl ⟨by rfl, ?_⟩) (by assumption) ?_
                rotate_left
                · intro w' hSw
                  obtain ⟨c0, c1, c2, e0, e1, e2, e3, e4, e5⟩ := CC.out _ hSw
                  go_simp
                  try with_reducible rfl
                (try simp only [Act.put, List.getElem_toArray, List.getElem_cons_succ, List.getElem_cons_zero, List.setIfInBounds_toArray, List.set_cons_zero, List.set_cons_succ])
                refine wpAnyH_take (i := 2) (v := ?_) rfl (by kernel_rfl) (by kernel_rfl) (by kernel_rfl) (fun _ _ _ h => h) (Or.inl ⟨by rfl, ?_⟩) (by assumption) ?_
                rotate_left
                · intro w' hSw
                  obtain ⟨c0, c1, c2, e0, e1, e2, e3, e4, e5⟩ := CC.out _ hSw
                  go_simp
                  try with_reducible rfl
                (try simp only [Act.put, List.getElem_toArray, List.getElem_cons_succ, List.getElem_cons_zero, List.setIfInBounds_toArray, List.set_cons_zero, List.set_cons_succ])
                refine wpAnyH_take (i := 3) (v := ?_) rfl (by kernel_rfl) (by kernel_rfl) (by kernel_rfl) (fun _ _ _ h => h) (Or.inl ⟨by rfl, ?_⟩) (by assumption) ?_
                rotate_left
                · intro w' hSw
                  obtain ⟨c0, c1, c2, e0, e1, e2, e3, e4, e5⟩ := CC.out _ hSw
                  go_simp
                  try with_reducible rfl
                (try simp only [Act.put, List.getElem_toArray, List.getElem_cons_succ, List.getElem_cons_zero, List.setIfInBounds_toArray, List.set_cons_zero, List.set_cons_succ])
                refine wpAnyH_take (i := 4) (v := ?_) rfl (by kernel_rfl) (by kernel_rfl) (by kernel_rfl) (fun _ _ _ h => h) (Or.inl ⟨by rfl, ?_⟩) (by assumption) ?_
                rotate_left
                · intro w' hSw
                  obtain ⟨c0, c1, c2, e0, e1, e2, e3, e4, e5⟩ := CC.out _ hSw
                  go_simp
                  try with_reducible rfl
                (try simp only [Act.put, List.getElem_toArray, List.getElem_cons_succ, List.getElem_cons_zero, List.setIfInBounds_toArray, List.set_cons_zero, List.set_cons_succ])
                refine wpAnyH_take (i := 7) (v := ?_) rfl (by kernel_rfl) (by kernel_rfl) (by kernel_rfl) (fun _ _ _ h => h) (Or.inl ⟨by rfl, ?_⟩) (by assumption) ?_
                rotate_left
                · intro w' hSw
                  obtain ⟨c0, c1, c2, e0, e1, e2, e3, e4, e5⟩ := CC.out _ hSw
                  go_simp
                  try with_reducible rfl
                (try simp only [Act.put, List.getElem_toArray, List.getElem_cons_succ, List.getElem_cons_zero, List.setIfInBounds_toArray, List.set_cons_zero, List.set_cons_succ])
                refine wpAnyH_take (i := 8) (v := ?_) rfl (by kernel_rfl) (by kernel_rfl) (by kernel_rfl) (fun _ _ _ h => h) (Or.inl ⟨by rfl, ?_⟩) (by assumption) ?_
                rotate_left
                · intro w' hSw
                  obtain ⟨c0, c1, c2, e0, e1, e2, e3, e4, e5⟩ := CC.out _ hSw
                  go_simp
                  try with_reducible rfl
                (try simp only [Act.put, List.getElem_toArray, List.getElem_cons_succ, List.getElem_cons_zero, List.setIfInBounds_toArray, List.set_cons_zero, List.set_cons_succ])
                clear hHeld
                obtain ⟨W_0, hW_0⟩ : ∃ W, wr.drew = W := ⟨_, rfl⟩
                rw [hW_0] at hs ⊢
                clear hW_0
                refine wpAnyH_ready (rs := [5, 16]) (by kernel_rfl) (by simp) ?_
                refine AllReadyH.cons rfl (fun K hK => ?_) ?_
                · go_simp
                  go_wp2_with (go_at_call 79; (with_reducible refine (RS.out _).mono ?_); rintro e W_1 ⟨rfl, hst⟩)
                  refine hK.out _ _ (bt hs hst) (fun hHeld => ?_)
                  clear hK K
                  (try simp only [List.setIfInBounds_toArray, List.set_cons_zero, List.set_cons_succ])
                  have hsn := bt hs hst
                  clear hs hHeld
                  have hs := hsn
                  clear hsn hst
                  refine wpAnyH_take (i := 6) (v := ?_) rfl (by kernel_rfl) (by kernel_rfl) (by kernel_rfl) (fun _ _ _ h => h) (Or.inl ⟨by rfl, ?_⟩) (by assumption) ?_
                  rotate_left
                  · intro w' hSw
                    skip
                    go_simp
                    try with_reducible rfl
                  (try simp only [Act.put, List.getElem_toArray, List.getElem_cons_succ, List.getElem_cons_zero, List.setIfInBounds_toArray, List.set_cons_zero, List.set_cons_succ])
                  refine wpAnyH_take (i := 9) (v := ?_) rfl (by kernel_rfl) (by kernel_rfl) (by kernel_rfl) (fun _ _ _ h => h) (Or.inl ⟨by rfl, ?_⟩) (by assumption) ?_
                  rotate_left
                  · intro w' hSw
                    skip
                    go_simp
                    try with_reducible rfl
                  (try simp only [Act.put, List.getElem_toArray, List.getElem_cons_succ, List.getElem_cons_zero, List.setIfInBounds_toArray, List.set_cons_zero, List.set_cons_succ])
                  refine wpAnyH_take (i := 10) (v := undef) rfl (by kernel_rfl) (by kernel_rfl) (by kernel_rfl) (fun _ _ _ h => h) (Or.inr ⟨by rfl, rfl⟩) (by assumption) ?_
                  (try simp only [Act.put, List.getElem_toArray, List.getElem_cons_succ, List.getElem_cons_zero, List.setIfInBounds_toArray, List.set_cons_zero, List.set_cons_succ])
                  refine wpAnyH_take (i := 11) (v := undef) rfl (by kernel_rfl) (by kernel_rfl) (by kernel_rfl) (fun _ _ _ h => h) (Or.inr ⟨by rfl, rfl⟩) (by assumption) ?_
                  (try simp only [Act.put, List.getElem_toArray, List.getElem_cons_succ, List.getElem_cons_zero, List.setIfInBounds_toArray, List.set_cons_zero, List.set_cons_succ])
                  refine wpAnyH_take (i := 12) (v := undef) rfl (by kernel_rfl) (by kernel_rfl) (by kernel_rfl) (fun _ _ _ h => h) (Or.inr ⟨by rfl, rfl⟩) (by assumption) ?_
                  (try simp only [Act.put, List.getElem_toArray, List.getElem_cons_succ, List.getElem_cons_zero, List.setIfInBounds_toArray, List.set_cons_zero, List.set_cons_succ])
                  refine wpAnyH_take (i := 13) (v := undef) rfl (by kernel_rfl) (by kernel_rfl) (by kernel_rfl) (fun _ _ _ h => h) (Or.inr ⟨by rfl, rfl⟩) (by assumption) ?_
                  (try simp only [Act.put, List.getElem_toArray, List.getElem_cons_succ, List.getElem_cons_zero, List.setIfInBounds_toArray, List.set_cons_zero, List.set_cons_succ])
                  refine wpAnyH_take (i := 14) (v := ?_) rfl (by kernel_rfl) (by kernel_rfl) (by kernel_rfl) (fun _ _ _ h => h) (Or.inl ⟨by rfl, ?_⟩) (by assumption) ?_
                  rotate_left
                  · intro w' hSw
                    skip
                    go_simp
                    try with_reducible rfl
                  (try simp only [Act.put, List.getElem_toArray, List.getElem_cons_succ, List.getElem_cons_zero, List.setIfInBounds_toArray, List.set_cons_zero, List.set_cons_succ])
                  refine wpAnyH_take (i := 15) (v := ?_) rfl (by kernel_rfl) (by kernel_rfl) (by kernel_rfl) (fun _ _ _ h => h) (Or.inl ⟨by rfl, ?_⟩) (by assumption) ?_
                  rotate_left
                  · intro w' hSw
                    skip
                    go_simp
                    try with_reducible rfl
                  (try simp only [Act.put, List.getElem_toArray, List.getElem_cons_succ, List.getElem_cons_zero, List.setIfInBounds_toArray, List.set_cons_zero, List.set_cons_succ])
                  refine wpAnyH_ready (rs := [16]) (by kernel_rfl) (by simp) ?_
                  refine AllReadyH.cons rfl (fun K hK => ?_) ?_
                  · go_simp
                    refine hK.out _ _ (bt hs (ba _ _)) (fun hHeld => ?_)
                    clear hK K
                    (try simp only [List.setIfInBounds_toArray, List.set_cons_zero, List.set_cons_succ])
                    have nb := heap_alloc_new W_1 (.cells #[.bool false, .int .i64 0, .bool false, .bool false, .bool false, .slice none 0 0] 51)
                    have hlo := hs.size
                    have hsn := bt hs (ba W_1 (.cells #[.bool false, .int .i64 0, .bool false, .bool false, .bool false, .slice none 0 0] 51))
                    obtain ⟨g2, hg2'⟩ : ∃ g, W_1.heap.size = g := ⟨_, rfl⟩
                    obtain ⟨W_2, hW⟩ : ∃ W, W_1.alloc (.cells #[.bool false, .int .i64 0, .bool false, .bool false, .bool false, .slice none 0 0] 51) = W := ⟨_, rfl⟩
                    rw [hW] at nb hsn ⊢
                    rw [hg2'] at nb hlo ⊢
                    have bk : Blk W_2 g2 51 #[.bool false, .int .i64 0, .bool false, .bool false, .bool false, .slice none 0 0] := nb
                    clear nb hs hHeld
                    have hs := hsn
                    clear hsn hW hg2'
                    refine wpAnyH_ready (rs := [17]) (by kernel_rfl) (by simp) ?_
                    refine AllReadyH.cons rfl (fun K hK => ?_) ?_
                    · have b0 := bk.cell 0
                      have b1 := bk.cell 1
                      have b2 := bk.cell 2
                      have b3 := bk.cell 3
                      have b4 := bk.cell 4
                      have b5 := bk.cell 5
                      have e0 := bk.frozen 0
                      have e1 := bk.frozen 1
                      have e2 := bk.frozen 2
                      have e3 := bk.frozen 3
                      have e4 := bk.frozen 4
                      have e5 := bk.frozen 5
                      have el := bk.lt
                      simp at b0 b1 b2 b3 b4 b5
                      have bk1 := ((((((bk.set_ 0 (.bool false)).set_ 1 (.int .i64 zv)).set_ 2 (.bool zd)).set_ 3 (.bool zt)).set_ 4 (.bool (!r0))).set_ 5 (.slice none 0 0))
                      have hsn := ((((((hs.setCell (p := ⟨g2, 0, none⟩) hlo (.bool false)).setCell (p := ⟨g2, 1, none⟩) hlo (.int .i64 zv)).setCell (p := ⟨g2, 2, none⟩) hlo (.bool zd)).setCell (p := ⟨g2, 3, none⟩) hlo (.bool zt)).setCell (p := ⟨g2, 4, none⟩) hlo (.bool (!r0))).setCell (p := ⟨g2, 5, none⟩) hlo (.slice none 0 0))
                      go_simp
                      refine hK.out _ _ hsn (fun hHeld => ?_)
                      clear hK K
                      (try simp only [List.setIfInBounds_toArray, List.set_cons_zero, List.set_cons_succ])
                      obtain ⟨W_3, hW⟩ : ∃ W, ((((((W_2.setCell ⟨g2, 0, none⟩ (.bool false)).setCell ⟨g2, 1, none⟩ (.int .i64 zv)).setCell ⟨g2, 2, none⟩ (.bool zd)).setCell ⟨g2, 3, none⟩ (.bool zt)).setCell ⟨g2, 4, none⟩ (.bool (!r0))).setCell ⟨g2, 5, none⟩ (.slice none 0 0)) = W := ⟨_, rfl⟩
                      rw [hW] at hsn bk1 hHeld ⊢
                      clear hs bk b0 b1 b2 b3 b4 b5 e0 e1 e2 e3 e4 e5 el hW
                      have bk : Blk W_3 g2 51 #[.bool false, .int .i64 zv, .bool zd, .bool zt, .bool (!r0), .slice none 0 0] := by simpa using bk1
                      have hs := hsn
                      clear hsn bk1
                      refine wpAnyH_done (by kernel_rfl) ?_ _
                      go_wp2_with (fail)
                      go_meet
                      exact ⟨g2, rfl, hlo, bk, hs⟩
                    exact AllReadyH.nil
                  exact AllReadyH.nil
                refine AllReadyH.cons rfl (fun K hK => ?_) ?_
                · go_simp
                  refine hK.out _ _ (bt hs (ba _ _)) (fun hHeld => ?_)
                  clear hK K
                  (try simp only [List.setIfInBounds_toArray, List.set_cons_zero, List.set_cons_succ])
                  have nb := heap_alloc_new W_0 (.cells #[.bool false, .int .i64 0, .bool false, .bool false, .bool false, .slice none 0 0] 51)
                  have hlo := hs.size
                  have hsn := bt hs (ba W_0 (.cells #[.bool false, .int .i64 0, .bool false, .bool false, .bool false, .slice none 0 0] 51))
                  obtain ⟨g2, hg2'⟩ : ∃ g, W_0.heap.size = g := ⟨_, rfl⟩
                  obtain ⟨W_1, hW⟩ : ∃ W, W_0.alloc (.cells #[.bool false, .int .i64 0, .bool false, .bool false, .bool false, .slice none 0 0] 51) = W := ⟨_, rfl⟩
                  rw [hW] at nb hsn ⊢
                  rw [hg2'] at nb hlo ⊢
                  have bk : Blk W_1 g2 51 #[.bool false, .int .i64 0, .bool false, .bool false, .bool false, .slice none 0 0] := nb
                  clear nb hs hHeld
                  have hs := hsn
                  clear hsn hW hg2'
                  refine wpAnyH_ready (rs := [5]) (by kernel_rfl) (by simp) ?_
                  refine AllReadyH.cons rfl (fun K hK => ?_) ?_
                  · go_simp
                    go_wp2_with (go_at_call 79; (with_reducible refine (RS.out _).mono ?_); rintro e W_2 ⟨rfl, hst⟩)
                    refine hK.out _ _ (bt hs hst) (fun hHeld => ?_)
                    clear hK K
                    (try simp only [List.setIfInBounds_toArray, List.set_cons_zero, List.set_cons_succ])
                    replace bk := Blk.below bk hst
                    have hsn := bt hs hst
                    clear hs hHeld
                    have hs := hsn
                    clear hsn hst
                    refine wpAnyH_take (i := 6) (v := ?_) rfl (by kernel_rfl) (by kernel_rfl) (by kernel_rfl) (fun _ _ _ h => h) (Or.inl ⟨by rfl, ?_⟩) (by assumption) ?_
                    rotate_left
                    · intro w' hSw
                      skip
                      go_simp
                      try with_reducible rfl
                    (try simp only [Act.put, List.getElem_toArray, List.getElem_cons_succ, List.getElem_cons_zero, List.setIfInBounds_toArray, List.set_cons_zero, List.set_cons_succ])
                    refine wpAnyH_take (i := 9) (v := ?_) rfl (by kernel_rfl) (by kernel_rfl) (by kernel_rfl) (fun _ _ _ h => h) (Or.inl ⟨by rfl, ?_⟩) (by assumption) ?_
                    rotate_left
                    · intro w' hSw
                      skip
                      go_simp
                      try with_reducible rfl
                    (try simp only [Act.put, List.getElem_toArray, List.getElem_cons_succ, List.getElem_cons_zero, List.setIfInBounds_toArray, List.set_cons_zero, List.set_cons_succ])
                    refine wpAnyH_take (i := 10) (v := undef) rfl (by kernel_rfl) (by kernel_rfl) (by kernel_rfl) (fun _ _ _ h => h) (Or.inr ⟨by rfl, rfl⟩) (by assumption) ?_
                    (try simp only [Act.put, List.getElem_toArray, List.getElem_cons_succ, List.getElem_cons_zero, List.setIfInBounds_toArray, List.set_cons_zero, List.set_cons_succ])
                    refine wpAnyH_take (i := 11) (v := undef) rfl (by kernel_rfl) (by kernel_rfl) (by kernel_rfl) (fun _ _ _ h => h) (Or.inr ⟨by rfl, rfl⟩) (by assumption) ?_
                    (try simp only [Act.put, List.getElem_toArray, List.getElem_cons_succ, List.getElem_cons_zero, List.setIfInBounds_toArray, List.set_cons_zero, List.set_cons_succ])
                    refine wpAnyH_take (i := 12) (v := undef) rfl (by kernel_rfl) (by kernel_rfl) (by kernel_rfl) (fun _ _ _ h => h) (Or.inr ⟨by rfl, rfl⟩) (by assumption) ?_
                    (try simp only [Act.put, List.getElem_toArray, List.getElem_cons_succ, List.getElem_cons_zero, List.setIfInBounds_toArray, List.set_cons_zero, List.set_cons_succ])
                    refine wpAnyH_take (i := 13) (v := undef) rfl (by kernel_rfl) (by kernel_rfl) (by kernel_rfl) (fun _ _ _ h => h) (Or.inr ⟨by rfl, rfl⟩) (by assumption) ?_
                    (try simp only [Act.put, List.getElem_toArray, List.getElem_cons_succ, List.getElem_cons_zero, List.setIfInBounds_toArray, List.set_cons_zero, List.set_cons_succ])
                    refine wpAnyH_take (i := 14) (v := ?_) rfl (by kernel_rfl) (by kernel_rfl) (by kernel_rfl) (fun _ _ _ h => h) (Or.inl ⟨by rfl, ?_⟩) (by assumption) ?_
                    rotate_left
                    · intro w' hSw
                      skip
                      go_simp
                      try with_reducible rfl
                    (try simp only [Act.put, List.getElem_toArray, List.getElem_cons_succ, List.getElem_cons_zero, List.setIfInBounds_toArray, List.set_cons_zero, List.set_cons_succ])
                    refine wpAnyH_take (i := 15) (v := ?_) rfl (by kernel_rfl) (by kernel_rfl) (by kernel_rfl) (fun _ _ _ h => h) (Or.inl ⟨by rfl, ?_⟩) (by assumption) ?_
                    rotate_left
                    · intro w' hSw
                      skip
                      go_simp
                      try with_reducible rfl
                    (try simp only [Act.put, List.getElem_toArray, List.getElem_cons_succ, List.getElem_cons_zero, List.setIfInBounds_toArray, List.set_cons_zero, List.set_cons_succ])
                    refine wpAnyH_ready (rs := [17]) (by kernel_rfl) (by simp) ?_
                    refine AllReadyH.cons rfl (fun K hK => ?_) ?_
                    · have b0 := bk.cell 0
                      have b1 := bk.cell 1
                      have b2 := bk.cell 2
                      have b3 := bk.cell 3
                      have b4 := bk.cell 4
                      have b5 := bk.cell 5
                      have e0 := bk.frozen 0
                      have e1 := bk.frozen 1
                      have e2 := bk.frozen 2
                      have e3 := bk.frozen 3
                      have e4 := bk.frozen 4
                      have e5 := bk.frozen 5
                      have el := bk.lt
                      simp at b0 b1 b2 b3 b4 b5
                      have bk1 := ((((((bk.set_ 0 (.bool false)).set_ 1 (.int .i64 zv)).set_ 2 (.bool zd)).set_ 3 (.bool zt)).set_ 4 (.bool (!r0))).set_ 5 (.slice none 0 0))
                      have hsn := ((((((hs.setCell (p := ⟨g2, 0, none⟩) hlo (.bool false)).setCell (p := ⟨g2, 1, none⟩) hlo (.int .i64 zv)).setCell (p := ⟨g2, 2, none⟩) hlo (.bool zd)).setCell (p := ⟨g2, 3, none⟩) hlo (.bool zt)).setCell (p := ⟨g2, 4, none⟩) hlo (.bool (!r0))).setCell (p := ⟨g2, 5, none⟩) hlo (.slice none 0 0))
                      go_simp
                      refine hK.out _ _ hsn (fun hHeld => ?_)
                      clear hK K
                      (try simp only [List.setIfInBounds_toArray, List.set_cons_zero, List.set_cons_succ])
                      obtain ⟨W_3, hW⟩ : ∃ W, ((((((W_2.setCell ⟨g2, 0, none⟩ (.bool false)).setCell ⟨g2, 1, none⟩ (.int .i64 zv)).setCell ⟨g2, 2, none⟩ (.bool zd)).setCell ⟨g2, 3, none⟩ (.bool zt)).setCell ⟨g2, 4, none⟩ (.bool (!r0))).setCell ⟨g2, 5, none⟩ (.slice none 0 0)) = W := ⟨_, rfl⟩
                      rw [hW] at hsn bk1 hHeld ⊢
                      clear hs bk b0 b1 b2 b3 b4 b5 e0 e1 e2 e3 e4 e5 el hW
                      have bk : Blk W_3 g2 51 #[.bool false, .int .i64 zv, .bool zd, .bool zt, .bool (!r0), .slice none 0 0] := by simpa using bk1
                      have hs := hsn
                      clear hsn bk1
                      refine wpAnyH_done (by kernel_rfl) ?_ _
                      go_wp2_with (fail)
                      go_meet
                      exact ⟨g2, rfl, hlo, bk, hs⟩
                    exact AllReadyH.nil
                  exact AllReadyH.nil
                exact AllReadyH.nil
              case rest =>
                obtain ⟨g2, rfl, HG2⟩ := hcut
                have hbr := HBr.out.below HG2.out.2.2
                have hxc := HG2.out.2.1
                by_cases hm0 : m = 0
                · subst hm0
                  have x4 := hxc.cell 4
                  have x5 := hxc.cell 5
                  have y4 := hxc.frozen 4
                  have y5 := hxc.frozen 5
                  have r4 := hbr.cell 4
                  have r5 := hbr.cell 5
                  have rlt := hbr.lt
                  simp at x4 x5 r4 r5
                  have hne2 : w.heap.size ≠ g2 := by have := HG2.out.1; have := HOW0.out.1.low.size; omega
                  have hs2 := (HG2.out.2.2.setCell (p := ⟨g2, 4, none⟩) HG2.out.1 (.bool yi)).setCell (p := ⟨g2, 5, none⟩) HG2.out.1 (.slice sa yL.length sc)
                  have x0 := hxc.cell 0
                  have x1 := hxc.cell 1
                  have x2 := hxc.cell 2
                  have x3 := hxc.cell 3


                  have xlt := hxc.lt
                  simp at x0 x1 x2 x3
                  have hs3 := bt hs2 (ba ((wc.setCell ⟨g2, 4, none⟩ (.bool yi)).setCell ⟨g2, 5, none⟩ (.slice sa yL.length sc)) (.cells #[.bool false, .int .i64 zv, .bool zd, .bool zt, .bool yi, .slice sa yL.length sc] 51))
                  have hrow := (HOW0.out.1.below hs3).own
                  have HROW := Lib.hid hrow
                  have HS3 := Lib.hid hs3
                  have HS2 := Lib.hid hs2
                  obtain ⟨gN, hgN⟩ : ∃ g, (((wc.setCell ⟨g2, 4, none⟩ (.bool yi)).setCell ⟨g2, 5, none⟩ (.slice sa yL.length sc))).heap.size = g := ⟨_, rfl⟩
                  have hd1 := World.news_of_block (heap_alloc_new ((wc.setCell ⟨g2, 4, none⟩ (.bool yi)).setCell ⟨g2, 5, none⟩ (.slice sa yL.length sc)) (.cells #[.bool false, .int .i64 zv, .bool zd, .bool zt, .bool yi, .slice sa yL.length sc] 51))
                  have hgN2 : wc.heap.size = gN := by rw [← hgN]; simp
                  rw [hgN] at hd1
                  obtain rfl := hgN2
                  have HD1 := Lib.hid hd1
                  clear hrow hs3 hs2 hxc hbr hd1 hgN
                  go_wp2_with (at_builtin; go_loud (refine wpList_append_own _ rfl _ _ 26 rfl W1.heap.size 51 i0 _ 6 56 Tryd.underlying26 ii1 ii2 ii3 ii4 rfl (by decide) (.slice A 0 c) 0 _ rfl HROW.out ⟨wc.heap.size, 0, none⟩ 1 1 [.bool false, .int .i64 zv, .bool zd, .bool zt, .bool yi, .slice sa yL.length sc] rfl rfl HD1.out ?d2 (by unfold maxLen; omega) (by omega) (by have := HS3.out.size; have := HOW0.out.1.low.size; omega) ?_))
                  case d2 => exact ⟨rfl, rfl, rfl, rfl, rfl, rfl⟩
                  intro v' w6 hown' hgrow _
                  obtain ⟨A6, c6, rfl, hO6⟩ := Own1.stepN (HOW0.out.1.below HS2.out) (Below.refl _ _) rfl hown' hgrow
                  have hS7 := And.intro hO6 (And.intro ((HOW0.out.2.1.blk (fun _ _ h => h.below HS3.out)).blk (fun _ _ h => h.grown hgrow (blk_apart h HROW.out (by decide)))) ((HOW0.out.2.2.blk (fun _ _ h => h.below HS3.out)).blk (fun _ _ h => h.grown hgrow (blk_apart h HROW.out (by decide)))))
                  obtain ⟨bb', hbe, hbb', _, d0, d1, d2⟩ := sg_at hS7.2.1 hkl HN5.out
                  have hzD : T.getD k s0g = ⟨zv, zd, zt⟩ := by rw [List.getD_eq_getElem?_getD, HHT.out]; rfl
                  rw [hzD] at d0 d1 d2
                  dsimp only at d0 d1 d2
                  injection hbe with hbe
                  injection hbe with hbe
                  subst hbe
                  have HS7 := Lib.hid hS7
                  clear hS7 hown' hgrow hO6 hzD
                  go_wp2_with (go_at_call 49; (with_reducible refine (rticks_any _ _ _ _).mono ?_); rintro e w7 ⟨rfl, hb7⟩; rw [HTZ.out])
                  go_roundw
                  case rel =>
                    refine ⟨k + 1, g + tz, A6, c6, by omega, by rw [show S.length + (k + 1) = 0 + 1 by have := HM.out; omega], by first | rfl | go_num, by first | rfl | go_num, HGR.out, hgt', ?_⟩
                    unfold Hid
                    rw [show S.length + (k + 1) = 0 + 1 by have := HM.out; omega, HBAR.out.1 (by first | trivial | rfl)]
                    exact ⟨HS7.out.1.below hb7, HS7.out.2.1.blk (fun _ _ h => h.below hb7), HS7.out.2.2.blk (fun _ _ h => h.below hb7)⟩
                  case measure => simp [intOf]; omega
                · have hmz : ((m : Int) == 0) = false := beq_eq_false_iff_ne.2 (by omega)
                  have hmzN : (m == 0) = false := beq_eq_false_iff_ne.2 (by omega)
                  have hs2 := HG2.out.2.2
                  have x0 := hxc.cell 0
                  have x1 := hxc.cell 1
                  have x2 := hxc.cell 2
                  have x3 := hxc.cell 3
                  have x4 := hxc.cell 4
                  have x5 := hxc.cell 5
                  have xlt := hxc.lt
                  simp at x0 x1 x2 x3 x4 x5
                  have hs3 := bt hs2 (ba wc (.cells #[.bool false, .int .i64 zv, .bool zd, .bool zt, .bool (!r0), .slice none 0 0] 51))
                  have hrow := (HOW0.out.1.below hs3).own
                  have HROW := Lib.hid hrow
                  have HS3 := Lib.hid hs3
                  have HS2 := Lib.hid hs2
                  obtain ⟨gN, hgN⟩ : ∃ g, (wc).heap.size = g := ⟨_, rfl⟩
                  have hd1 := World.news_of_block (heap_alloc_new wc (.cells #[.bool false, .int .i64 zv, .bool zd, .bool zt, .bool (!r0), .slice none 0 0] 51))
                  --have hgN2 : wc.heap.size = gN := by rw [← hgN]; simp
                  rw [hgN] at hd1
                  subst hgN
                  have HD1 := Lib.hid hd1
                  clear hrow hs3 hs2 hxc hbr hd1 
                  go_wp2_with (at_builtin; go_loud (refine wpList_append_own _ rfl _ _ 26 rfl W1.heap.size 51 i0 _ 6 56 Tryd.underlying26 ii1 ii2 ii3 ii4 rfl (by decide) (.slice A m c) m _ rfl HROW.out ⟨wc.heap.size, 0, none⟩ 1 1 [.bool false, .int .i64 zv, .bool zd, .bool zt, .bool (!r0), .slice none 0 0] rfl rfl HD1.out ?d2 (by unfold maxLen; omega) (by omega) (by have := HS3.out.size; have := HOW0.out.1.low.size; omega) ?_))
                  case d2 => exact ⟨rfl, rfl, rfl, rfl, rfl, rfl⟩
                  intro v' w6 hown' hgrow _
                  obtain ⟨A6, c6, rfl, hO6⟩ := Own1.stepN (HOW0.out.1.below HS2.out) (Below.refl _ _) rfl hown' hgrow
                  have hS7 := And.intro hO6 (And.intro ((HOW0.out.2.1.blk (fun _ _ h => h.below HS3.out)).blk (fun _ _ h => h.grown hgrow (blk_apart h HROW.out (by decide)))) ((HOW0.out.2.2.blk (fun _ _ h => h.below HS3.out)).blk (fun _ _ h => h.grown hgrow (blk_apart h HROW.out (by decide)))))
                  obtain ⟨bb', hbe, hbb', _, d0, d1, d2⟩ := sg_at hS7.2.1 hkl HN5.out
                  have hzD : T.getD k s0g = ⟨zv, zd, zt⟩ := by rw [List.getD_eq_getElem?_getD, HHT.out]; rfl
                  rw [hzD] at d0 d1 d2
                  dsimp only at d0 d1 d2
                  injection hbe with hbe
                  injection hbe with hbe
                  subst hbe
                  have HS7 := Lib.hid hS7
                  clear hS7 hown' hgrow hO6 hzD
                  go_wp2_with (go_at_call 49; (with_reducible refine (rticks_any _ _ _ _).mono ?_); rintro e w7 ⟨rfl, hb7⟩; rw [HTZ.out])
                  go_roundw
                  case rel =>
                    refine ⟨k + 1, g + tz, A6, c6, by omega, by rw [show S.length + (k + 1) = m + 1 by have := HM.out; omega], by first | rfl | go_num, by first | rfl | go_num, HGR.out, hgt', ?_⟩
                    unfold Hid
                    rw [show S.length + (k + 1) = m + 1 by have := HM.out; omega, HBAR.out.2 hm0]
                    exact ⟨HS7.out.1.below hb7, HS7.out.2.1.blk (fun _ _ h => h.below hb7), HS7.out.2.2.blk (fun _ _ h => h.below hb7)⟩
                  case measure => simp [intOf]; omega
            · have hgd : decide ((0 : Int) < (g : Int)) = true := decide_eq_true (by omega)
              have hgp : (0 : Int) < (g : Int) := by omega
              have hgdN : decide (0 < g) = true := decide_eq_true (by omega)
              have hgpN : 0 < g := by omega
              by_cases hrz : r2 = 0
              · have hrb : ((r2 : Int) == 0) = true := beq_iff_eq.2 (by omega)
                have hrbN : (r2 == 0) = true := beq_iff_eq.2 (by omega)
                have HBAR := Lib.hid (HBN.out true (by rw [hgd, HRM2.out, hrz]; rfl))
                clear hg0 hrz
                go_cut [17] from 51 to 66 (fun s17 wy => ∃ g2 : Nat, s17 = .pointer (some ⟨g2, 0, none⟩) ∧ Hid (wr.heap.size ≤ g2 ∧ Blk wy g2 51 #[.bool true, .int .i64 zv, .bool zd, .bool zt, .bool (!r0), .slice none 0 0] ∧ Below wr.heap.size wr wy))
                case first =>
                  have hs : Below wr.heap.size wr wr.drew := (Below.refl _ _).drew
                  refine wp_region_held_drew (S := fun w' => Below wr.heap.size wr w') (by kernel_rfl) hs (fun hHeld => ?_)
                  change wpAnyH _ _ _ _ _ 18 #[false, false, false, false, false, false, false, false, false, false, false, false, false, false, false, false, false, false] _ _
                  refine wpAnyH_take (i := 0) (v := ?_) rfl (by kernel_rfl) (by kernel_rfl) (by kernel_rfl) (fun _ _ _ h => h) (Or.inl ⟨by rfl, ?_⟩) (by assumption) ?_
                  rotate_left
                  · intro w' hSw
                    obtain ⟨c0, c1, c2, e0, e1, e2, e3, e4, e5⟩ := CC.out _ hSw
                    go_simp
                    try with_reducible rfl
                  (try simp only [Act.put, List.getElem_toArray, List.getElem_cons_zero, List.setIfInBounds_toArray, List.set_cons_zero, List.set_cons_succ])
                  refine wpAnyH_take (i := 1) (v := ?_) rfl (by kernel_rfl) (by kernel_rfl) (by kernel_rfl) (fun _ _ _ h => h) (Or.inl ⟨by rfl, ?_⟩) (by assumption) ?_
                  rotate_left
                  · intro w' hSw
                    obtain ⟨c0, c1, c2, e0, e1, e2, e3, e4, e5⟩ := CC.out _ hSw
                    go_simp
                    try with_reducible rfl
                  (try simp only [Act.put, List.getElem_toArray, List.getElem_cons_succ, List.getElem_cons_zero, List.setIfInBounds_toArray, List.set_cons_zero, List.set_cons_succ])
                  refine wpAnyH_take (i := 2) (v := ?_) rfl (by kernel_rfl) (by kernel_rfl) (by kernel_rfl) (fun _ _ _ h => h) (Or.inl ⟨by rfl, ?_⟩) (by assumption) ?_
                  rotate_left
                  · intro w' hSw
                    obtain ⟨c0, c1, c2, e0, e1, e2, e3, e4, e5⟩ := CC.out _ hSw
                    go_simp
                    try with_reducible rfl
                  (try simp only [Act.put, List.getElem_toArray, List.getElem_cons_succ, List.getElem_cons_zero, List.setIfInBounds_toArray, List.set_cons_zero, List.set_cons_succ])
                  refine wpAnyH_take (i := 3) (v := ?_) rfl (by kernel_rfl) (by kernel_rfl) (by kernel_rfl) (fun _ _ _ h => h) (Or.inl ⟨by rfl, ?_⟩) (by assumption) ?_
                  rotate_left
                  · intro w' hSw
                    obtain ⟨c0, c1, c2, e0, e1, e2, e3, e4, e5⟩ := CC.out _ hSw
                    go_simp
                    try with_reducible rfl
                  (try simp only [Act.put, List.getElem_toArray, List.getElem_cons_succ, List.getElem_cons_zero, List.setIfInBounds_toArray, List.set_cons_zero, List.set_cons_succ])
                  refine wpAnyH_take (i := 4) (v := ?_) rfl (by kernel_rfl) (by kernel_rfl) (by kernel_rfl) (fun _ _ _ h => h) (Or.inl ⟨by rfl, ?_⟩) (by assumption) ?_
                  rotate_left
                  · intro w' hSw
                    obtain ⟨c0, c1, c2, e0, e1, e2, e3, e4, e5⟩ := CC.out _ hSw
                    go_simp
                    try with_reducible rfl
                  (try simp only [Act.put, List.getElem_toArray, List.getElem_cons_succ, List.getElem_cons_zero, List.setIfInBounds_toArray, List.set_cons_zero, List.set_cons_succ])
                  refine wpAnyH_take (i := 7) (v := ?_) rfl (by kernel_rfl) (by kernel_rfl) (by kernel_rfl) (fun _ _ _ h => h) (Or.inl ⟨by rfl, ?_⟩) (by assumption) ?_
                  rotate_left
                  · intro w' hSw
                    obtain ⟨c0, c1, c2, e0, e1, e2, e3, e4, e5⟩ := CC.out _ hSw
                    go_simp
                    try with_reducible rfl
                  (try simp only [Act.put, List.getElem_toArray, List.getElem_cons_succ, List.getElem_cons_zero, List.setIfInBounds_toArray, List.set_cons_zero, List.set_cons_succ])
                  refine wpAnyH_take (i := 8) (v := ?_) rfl (by kernel_rfl) (by kernel_rfl) (by kernel_rfl) (fun _ _ _ h => h) (Or.inl ⟨by rfl, ?_⟩) (by assumption) ?_
                  rotate_left
                  · intro w' hSw
                    obtain ⟨c0, c1, c2, e0, e1, e2, e3, e4, e5⟩ := CC.out _ hSw
                    go_simp
                    try with_reducible rfl
                  (try simp only [Act.put, List.getElem_toArray, List.getElem_cons_succ, List.getElem_cons_zero, List.setIfInBounds_toArray, List.set_cons_zero, List.set_cons_succ])
                  clear hHeld
                  obtain ⟨W_0, hW_0⟩ : ∃ W, wr.drew = W := ⟨_, rfl⟩
                  rw [hW_0] at hs ⊢
                  clear hW_0
                  refine wpAnyH_ready (rs := [5, 16]) (by kernel_rfl) (by simp) ?_
                  refine AllReadyH.cons rfl (fun K hK => ?_) ?_
                  · go_simp
                    go_wp2_with (go_at_call 79; (with_reducible refine (RS.out _).mono ?_); rintro e W_1 ⟨rfl, hst⟩)
                    refine hK.out _ _ (bt hs hst) (fun hHeld => ?_)
                    clear hK K
                    (try simp only [List.setIfInBounds_toArray, List.set_cons_zero, List.set_cons_succ])
                    have hsn := bt hs hst
                    clear hs hHeld
                    have hs := hsn
                    clear hsn hst
                    refine wpAnyH_take (i := 6) (v := ?_) rfl (by kernel_rfl) (by kernel_rfl) (by kernel_rfl) (fun _ _ _ h => h) (Or.inl ⟨by rfl, ?_⟩) (by assumption) ?_
                    rotate_left
                    · intro w' hSw
                      skip
                      go_simp
                      try with_reducible rfl
                    (try simp only [Act.put, List.getElem_toArray, List.getElem_cons_succ, List.getElem_cons_zero, List.setIfInBounds_toArray, List.set_cons_zero, List.set_cons_succ])
                    refine wpAnyH_take (i := 9) (v := ?_) rfl (by kernel_rfl) (by kernel_rfl) (by kernel_rfl) (fun _ _ _ h => h) (Or.inl ⟨by rfl, ?_⟩) (by assumption) ?_
                    rotate_left
                    · intro w' hSw
                      skip
                      go_simp
                      try with_reducible rfl
                    (try simp only [Act.put, List.getElem_toArray, List.getElem_cons_succ, List.getElem_cons_zero, List.setIfInBounds_toArray, List.set_cons_zero, List.set_cons_succ])
                    refine wpAnyH_take (i := 10) (v := ?_) rfl (by kernel_rfl) (by kernel_rfl) (by kernel_rfl) (fun _ _ _ h => h) (Or.inl ⟨by rfl, ?_⟩) (by assumption) ?_
                    rotate_left
                    · intro w' hSw
                      skip
                      go_simp
                      try with_reducible rfl
                    (try simp only [Act.put, List.getElem_toArray, List.getElem_cons_succ, List.getElem_cons_zero, List.setIfInBounds_toArray, List.set_cons_zero, List.set_cons_succ])
                    refine wpAnyH_take (i := 11) (v := ?_) rfl (by kernel_rfl) (by kernel_rfl) (by kernel_rfl) (fun _ _ _ h => h) (Or.inl ⟨by rfl, ?_⟩) (by assumption) ?_
                    rotate_left
                    · intro w' hSw
                      skip
                      go_simp
                      try with_reducible rfl
                    (try simp only [Act.put, List.getElem_toArray, List.getElem_cons_succ, List.getElem_cons_zero, List.setIfInBounds_toArray, List.set_cons_zero, List.set_cons_succ])
                    refine wpAnyH_take (i := 12) (v := ?_) rfl (by kernel_rfl) (by kernel_rfl) (by kernel_rfl) (fun _ _ _ h => h) (Or.inl ⟨by rfl, ?_⟩) (by assumption) ?_
                    rotate_left
                    · intro w' hSw
                      skip
                      go_simp
                      try with_reducible rfl
                    (try simp only [Act.put, List.getElem_toArray, List.getElem_cons_succ, List.getElem_cons_zero, List.setIfInBounds_toArray, List.set_cons_zero, List.set_cons_succ])
                    refine wpAnyH_take (i := 13) (v := ?_) rfl (by kernel_rfl) (by kernel_rfl) (by kernel_rfl) (fun _ _ _ h => h) (Or.inl ⟨by rfl, ?_⟩) (by assumption) ?_
                    rotate_left
                    · intro w' hSw
                      skip
                      go_simp
                      try with_reducible rfl
                    (try simp only [Act.put, List.getElem_toArray, List.getElem_cons_succ, List.getElem_cons_zero, List.setIfInBounds_toArray, List.set_cons_zero, List.set_cons_succ])
                    refine wpAnyH_take (i := 14) (v := ?_) rfl (by kernel_rfl) (by kernel_rfl) (by kernel_rfl) (fun _ _ _ h => h) (Or.inl ⟨by rfl, ?_⟩) (by assumption) ?_
                    rotate_left
                    · intro w' hSw
                      skip
                      go_simp
                      try with_reducible rfl
                    (try simp only [Act.put, List.getElem_toArray, List.getElem_cons_succ, List.getElem_cons_zero, List.setIfInBounds_toArray, List.set_cons_zero, List.set_cons_succ])
                    refine wpAnyH_take (i := 15) (v := ?_) rfl (by kernel_rfl) (by kernel_rfl) (by kernel_rfl) (fun _ _ _ h => h) (Or.inl ⟨by rfl, ?_⟩) (by assumption) ?_
                    rotate_left
                    · intro w' hSw
                      skip
                      go_simp
                      try with_reducible rfl
                    (try simp only [Act.put, List.getElem_toArray, List.getElem_cons_succ, List.getElem_cons_zero, List.setIfInBounds_toArray, List.set_cons_zero, List.set_cons_succ])
                    refine wpAnyH_ready (rs := [16]) (by kernel_rfl) (by simp) ?_
                    refine AllReadyH.cons rfl (fun K hK => ?_) ?_
                    · go_simp
                      refine hK.out _ _ (bt hs (ba _ _)) (fun hHeld => ?_)
                      clear hK K
                      (try simp only [List.setIfInBounds_toArray, List.set_cons_zero, List.set_cons_succ])
                      have nb := heap_alloc_new W_1 (.cells #[.bool false, .int .i64 0, .bool false, .bool false, .bool false, .slice none 0 0] 51)
                      have hlo := hs.size
                      have hsn := bt hs (ba W_1 (.cells #[.bool false, .int .i64 0, .bool false, .bool false, .bool false, .slice none 0 0] 51))
                      obtain ⟨g2, hg2'⟩ : ∃ g, W_1.heap.size = g := ⟨_, rfl⟩
                      obtain ⟨W_2, hW⟩ : ∃ W, W_1.alloc (.cells #[.bool false, .int .i64 0, .bool false, .bool false, .bool false, .slice none 0 0] 51) = W := ⟨_, rfl⟩
                      rw [hW] at nb hsn ⊢
                      rw [hg2'] at nb hlo ⊢
                      have bk : Blk W_2 g2 51 #[.bool false, .int .i64 0, .bool false, .bool false, .bool false, .slice none 0 0] := nb
                      clear nb hs hHeld
                      have hs := hsn
                      clear hsn hW hg2'
                      refine wpAnyH_ready (rs := [17]) (by kernel_rfl) (by simp) ?_
                      refine AllReadyH.cons rfl (fun K hK => ?_) ?_
                      · have b0 := bk.cell 0
                        have b1 := bk.cell 1
                        have b2 := bk.cell 2
                        have b3 := bk.cell 3
                        have b4 := bk.cell 4
                        have b5 := bk.cell 5
                        have e0 := bk.frozen 0
                        have e1 := bk.frozen 1
                        have e2 := bk.frozen 2
                        have e3 := bk.frozen 3
                        have e4 := bk.frozen 4
                        have e5 := bk.frozen 5
                        have el := bk.lt
                        simp at b0 b1 b2 b3 b4 b5
                        have bk1 := ((((((bk.set_ 0 (.bool true)).set_ 1 (.int .i64 zv)).set_ 2 (.bool zd)).set_ 3 (.bool zt)).set_ 4 (.bool (!r0))).set_ 5 (.slice none 0 0))
                        have hsn := ((((((hs.setCell (p := ⟨g2, 0, none⟩) hlo (.bool true)).setCell (p := ⟨g2, 1, none⟩) hlo (.int .i64 zv)).setCell (p := ⟨g2, 2, none⟩) hlo (.bool zd)).setCell (p := ⟨g2, 3, none⟩) hlo (.bool zt)).setCell (p := ⟨g2, 4, none⟩) hlo (.bool (!r0))).setCell (p := ⟨g2, 5, none⟩) hlo (.slice none 0 0))
                        go_simp
                        refine hK.out _ _ hsn (fun hHeld => ?_)
                        clear hK K
                        (try simp only [List.setIfInBounds_toArray, List.set_cons_zero, List.set_cons_succ])
                        obtain ⟨W_3, hW⟩ : ∃ W, ((((((W_2.setCell ⟨g2, 0, none⟩ (.bool true)).setCell ⟨g2, 1, none⟩ (.int .i64 zv)).setCell ⟨g2, 2, none⟩ (.bool zd)).setCell ⟨g2, 3, none⟩ (.bool zt)).setCell ⟨g2, 4, none⟩ (.bool (!r0))).setCell ⟨g2, 5, none⟩ (.slice none 0 0)) = W := ⟨_, rfl⟩
                        rw [hW] at hsn bk1 hHeld ⊢
                        clear hs bk b0 b1 b2 b3 b4 b5 e0 e1 e2 e3 e4 e5 el hW
                        have bk : Blk W_3 g2 51 #[.bool true, .int .i64 zv, .bool zd, .bool zt, .bool (!r0), .slice none 0 0] := by simpa using bk1
                        have hs := hsn
                        clear hsn bk1
                        refine wpAnyH_done (by kernel_rfl) ?_ _
                        go_wp2_with (fail)
                        go_meet
                        exact ⟨g2, rfl, hlo, bk, hs⟩
                      exact AllReadyH.nil
                    exact AllReadyH.nil
                  refine AllReadyH.cons rfl (fun K hK => ?_) ?_
                  · go_simp
                    refine hK.out _ _ (bt hs (ba _ _)) (fun hHeld => ?_)
                    clear hK K
                    (try simp only [List.setIfInBounds_toArray, List.set_cons_zero, List.set_cons_succ])
                    have nb := heap_alloc_new W_0 (.cells #[.bool false, .int .i64 0, .bool false, .bool false, .bool false, .slice none 0 0] 51)
                    have hlo := hs.size
                    have hsn := bt hs (ba W_0 (.cells #[.bool false, .int .i64 0, .bool false, .bool false, .bool false, .slice none 0 0] 51))
                    obtain ⟨g2, hg2'⟩ : ∃ g, W_0.heap.size = g := ⟨_, rfl⟩
                    obtain ⟨W_1, hW⟩ : ∃ W, W_0.alloc (.cells #[.bool false, .int .i64 0, .bool false, .bool false, .bool false, .slice none 0 0] 51) = W := ⟨_, rfl⟩
                    rw [hW] at nb hsn ⊢
                    rw [hg2'] at nb hlo ⊢
                    have bk : Blk W_1 g2 51 #[.bool false, .int .i64 0, .bool false, .bool false, .bool false, .slice none 0 0] := nb
                    clear nb hs hHeld
                    have hs := hsn
                    clear hsn hW hg2'
                    refine wpAnyH_ready (rs := [5]) (by kernel_rfl) (by simp) ?_
                    refine AllReadyH.cons rfl (fun K hK => ?_) ?_
                    · go_simp
                      go_wp2_with (go_at_call 79; (with_reducible refine (RS.out _).mono ?_); rintro e W_2 ⟨rfl, hst⟩)
                      refine hK.out _ _ (bt hs hst) (fun hHeld => ?_)
                      clear hK K
                      (try simp only [List.setIfInBounds_toArray, List.set_cons_zero, List.set_cons_succ])
                      replace bk := Blk.below bk hst
                      have hsn := bt hs hst
                      clear hs hHeld
                      have hs := hsn
                      clear hsn hst
                      refine wpAnyH_take (i := 6) (v := ?_) rfl (by kernel_rfl) (by kernel_rfl) (by kernel_rfl) (fun _ _ _ h => h) (Or.inl ⟨by rfl, ?_⟩) (by assumption) ?_
                      rotate_left
                      · intro w' hSw
                        skip
                        go_simp
                        try with_reducible rfl
                      (try simp only [Act.put, List.getElem_toArray, List.getElem_cons_succ, List.getElem_cons_zero, List.setIfInBounds_toArray, List.set_cons_zero, List.set_cons_succ])
                      refine wpAnyH_take (i := 9) (v := ?_) rfl (by kernel_rfl) (by kernel_rfl) (by kernel_rfl) (fun _ _ _ h => h) (Or.inl ⟨by rfl, ?_⟩) (by assumption) ?_
                      rotate_left
                      · intro w' hSw
                        skip
                        go_simp
                        try with_reducible rfl
                      (try simp only [Act.put, List.getElem_toArray, List.getElem_cons_succ, List.getElem_cons_zero, List.setIfInBounds_toArray, List.set_cons_zero, List.set_cons_succ])
                      refine wpAnyH_take (i := 10) (v := ?_) rfl (by kernel_rfl) (by kernel_rfl) (by kernel_rfl) (fun _ _ _ h => h) (Or.inl ⟨by rfl, ?_⟩) (by assumption) ?_
                      rotate_left
                      · intro w' hSw
                        skip
                        go_simp
                        try with_reducible rfl
                      (try simp only [Act.put, List.getElem_toArray, List.getElem_cons_succ, List.getElem_cons_zero, List.setIfInBounds_toArray, List.set_cons_zero, List.set_cons_succ])
                      refine wpAnyH_take (i := 11) (v := ?_) rfl (by kernel_rfl) (by kernel_rfl) (by kernel_rfl) (fun _ _ _ h => h) (Or.inl ⟨by rfl, ?_⟩) (by assumption) ?_
                      rotate_left
                      · intro w' hSw
                        skip
                        go_simp
                        try with_reducible rfl
                      (try simp only [Act.put, List.getElem_toArray, List.getElem_cons_succ, List.getElem_cons_zero, List.setIfInBounds_toArray, List.set_cons_zero, List.set_cons_succ])
                      refine wpAnyH_take (i := 12) (v := ?_) rfl (by kernel_rfl) (by kernel_rfl) (by kernel_rfl) (fun _ _ _ h => h) (Or.inl ⟨by rfl, ?_⟩) (by assumption) ?_
                      rotate_left
                      · intro w' hSw
                        skip
                        go_simp
                        try with_reducible rfl
                      (try simp only [Act.put, List.getElem_toArray, List.getElem_cons_succ, List.getElem_cons_zero, List.setIfInBounds_toArray, List.set_cons_zero, List.set_cons_succ])
                      refine wpAnyH_take (i := 13) (v := ?_) rfl (by kernel_rfl) (by kernel_rfl) (by kernel_rfl) (fun _ _ _ h => h) (Or.inl ⟨by rfl, ?_⟩) (by assumption) ?_
                      rotate_left
                      · intro w' hSw
                        skip
                        go_simp
                        try with_reducible rfl
                      (try simp only [Act.put, List.getElem_toArray, List.getElem_cons_succ, List.getElem_cons_zero, List.setIfInBounds_toArray, List.set_cons_zero, List.set_cons_succ])
                      refine wpAnyH_take (i := 14) (v := ?_) rfl (by kernel_rfl) (by kernel_rfl) (by kernel_rfl) (fun _ _ _ h => h) (Or.inl ⟨by rfl, ?_⟩) (by assumption) ?_
                      rotate_left
                      · intro w' hSw
                        skip
                        go_simp
                        try with_reducible rfl
                      (try simp only [Act.put, List.getElem_toArray, List.getElem_cons_succ, List.getElem_cons_zero, List.setIfInBounds_toArray, List.set_cons_zero, List.set_cons_succ])
                      refine wpAnyH_take (i := 15) (v := ?_) rfl (by kernel_rfl) (by kernel_rfl) (by kernel_rfl) (fun _ _ _ h => h) (Or.inl ⟨by rfl, ?_⟩) (by assumption) ?_
                      rotate_left
                      · intro w' hSw
                        skip
                        go_simp
                        try with_reducible rfl
                      (try simp only [Act.put, List.getElem_toArray, List.getElem_cons_succ, List.getElem_cons_zero, List.setIfInBounds_toArray, List.set_cons_zero, List.set_cons_succ])
                      refine wpAnyH_ready (rs := [17]) (by kernel_rfl) (by simp) ?_
                      refine AllReadyH.cons rfl (fun K hK => ?_) ?_
                      · have b0 := bk.cell 0
                        have b1 := bk.cell 1
                        have b2 := bk.cell 2
                        have b3 := bk.cell 3
                        have b4 := bk.cell 4
                        have b5 := bk.cell 5
                        have e0 := bk.frozen 0
                        have e1 := bk.frozen 1
                        have e2 := bk.frozen 2
                        have e3 := bk.frozen 3
                        have e4 := bk.frozen 4
                        have e5 := bk.frozen 5
                        have el := bk.lt
                        simp at b0 b1 b2 b3 b4 b5
                        have bk1 := ((((((bk.set_ 0 (.bool true)).set_ 1 (.int .i64 zv)).set_ 2 (.bool zd)).set_ 3 (.bool zt)).set_ 4 (.bool (!r0))).set_ 5 (.slice none 0 0))
                        have hsn := ((((((hs.setCell (p := ⟨g2, 0, none⟩) hlo (.bool true)).setCell (p := ⟨g2, 1, none⟩) hlo (.int .i64 zv)).setCell (p := ⟨g2, 2, none⟩) hlo (.bool zd)).setCell (p := ⟨g2, 3, none⟩) hlo (.bool zt)).setCell (p := ⟨g2, 4, none⟩) hlo (.bool (!r0))).setCell (p := ⟨g2, 5, none⟩) hlo (.slice none 0 0))
                        go_simp
                        refine hK.out _ _ hsn (fun hHeld => ?_)
                        clear hK K
                        (try simp only [List.setIfInBounds_toArray, List.set_cons_zero, List.set_cons_succ])
                        obtain ⟨W_3, hW⟩ : ∃ W, ((((((W_2.setCell ⟨g2, 0, none⟩ (.bool true)).setCell ⟨g2, 1, none⟩ (.int .i64 zv)).setCell ⟨g2, 2, none⟩ (.bool zd)).setCell ⟨g2, 3, none⟩ (.bool zt)).setCell ⟨g2, 4, none⟩ (.bool (!r0))).setCell ⟨g2, 5, none⟩ (.slice none 0 0)) = W := ⟨_, rfl⟩
                        rw [hW] at hsn bk1 hHeld ⊢
                        clear hs bk b0 b1 b2 b3 b4 b5 e0 e1 e2 e3 e4 e5 el hW
                        have bk : Blk W_3 g2 51 #[.bool true, .int .i64 zv, .bool zd, .bool zt, .bool (!r0), .slice none 0 0] := by simpa using bk1
                        have hs := hsn
                        clear hsn bk1
                        refine wpAnyH_done (by kernel_rfl) ?_ _
                        go_wp2_with (fail)
                        go_meet
                        exact ⟨g2, rfl, hlo, bk, hs⟩
                      exact AllReadyH.nil
                    exact AllReadyH.nil
                  exact AllReadyH.nil
                case rest =>
                  obtain ⟨g2, rfl, HG2⟩ := hcut
                  have hbr := HBr.out.below HG2.out.2.2
                  have hxc := HG2.out.2.1
                  by_cases hm0 : m = 0
                  · subst hm0
                    have x4 := hxc.cell 4
                    have x5 := hxc.cell 5
                    have y4 := hxc.frozen 4
                    have y5 := hxc.frozen 5
                    have r4 := hbr.cell 4
                    have r5 := hbr.cell 5
                    have rlt := hbr.lt
                    simp at x4 x5 r4 r5
                    have hne2 : w.heap.size ≠ g2 := by have := HG2.out.1; have := HOW0.out.1.low.size; omega
                    have hs2 := (HG2.out.2.2.setCell (p := ⟨g2, 4, none⟩) HG2.out.1 (.bool yi)).setCell (p := ⟨g2, 5, none⟩) HG2.out.1 (.slice sa yL.length sc)
                    have x0 := hxc.cell 0
                    have x1 := hxc.cell 1
                    have x2 := hxc.cell 2
                    have x3 := hxc.cell 3


                    have xlt := hxc.lt
                    simp at x0 x1 x2 x3
                    have hs3 := bt hs2 (ba ((wc.setCell ⟨g2, 4, none⟩ (.bool yi)).setCell ⟨g2, 5, none⟩ (.slice sa yL.length sc)) (.cells #[.bool true, .int .i64 zv, .bool zd, .bool zt, .bool yi, .slice sa yL.length sc] 51))
                    have hrow := (HOW0.out.1.below hs3).own
                    have HROW := Lib.hid hrow
                    have HS3 := Lib.hid hs3
                    have HS2 := Lib.hid hs2
                    obtain ⟨gN, hgN⟩ : ∃ g, (((wc.setCell ⟨g2, 4, none⟩ (.bool yi)).setCell ⟨g2, 5, none⟩ (.slice sa yL.length sc))).heap.size = g := ⟨_, rfl⟩
                    have hd1 := World.news_of_block (heap_alloc_new ((wc.setCell ⟨g2, 4, none⟩ (.bool yi)).setCell ⟨g2, 5, none⟩ (.slice sa yL.length sc)) (.cells #[.bool true, .int .i64 zv, .bool zd, .bool zt, .bool yi, .slice sa yL.length sc] 51))
                    have hgN2 : wc.heap.size = gN := by rw [← hgN]; simp
                    rw [hgN] at hd1
                    obtain rfl := hgN2
                    have HD1 := Lib.hid hd1
                    clear hrow hs3 hs2 hxc hbr hd1 hgN
                    go_wp2_with (at_builtin; go_loud (refine wpList_append_own _ rfl _ _ 26 rfl W1.heap.size 51 i0 _ 6 56 Tryd.underlying26 ii1 ii2 ii3 ii4 rfl (by decide) (.slice A 0 c) 0 _ rfl HROW.out ⟨wc.heap.size, 0, none⟩ 1 1 [.bool true, .int .i64 zv, .bool zd, .bool zt, .bool yi, .slice sa yL.length sc] rfl rfl HD1.out ?d2 (by unfold maxLen; omega) (by omega) (by have := HS3.out.size; have := HOW0.out.1.low.size; omega) ?_))
                    case d2 => exact ⟨rfl, rfl, rfl, rfl, rfl, rfl⟩
                    intro v' w6 hown' hgrow _
                    obtain ⟨A6, c6, rfl, hO6⟩ := Own1.stepN (HOW0.out.1.below HS2.out) (Below.refl _ _) rfl hown' hgrow
                    have hS7 := And.intro hO6 (And.intro ((HOW0.out.2.1.blk (fun _ _ h => h.below HS3.out)).blk (fun _ _ h => h.grown hgrow (blk_apart h HROW.out (by decide)))) ((HOW0.out.2.2.blk (fun _ _ h => h.below HS3.out)).blk (fun _ _ h => h.grown hgrow (blk_apart h HROW.out (by decide)))))
                    obtain ⟨bb', hbe, hbb', _, d0, d1, d2⟩ := sg_at hS7.2.1 hkl HN5.out
                    have hzD : T.getD k s0g = ⟨zv, zd, zt⟩ := by rw [List.getD_eq_getElem?_getD, HHT.out]; rfl
                    rw [hzD] at d0 d1 d2
                    dsimp only at d0 d1 d2
                    injection hbe with hbe
                    injection hbe with hbe
                    subst hbe
                    have HS7 := Lib.hid hS7
                    clear hS7 hown' hgrow hO6 hzD
                    go_wp2_with (go_at_call 49; (with_reducible refine (rticks_any _ _ _ _).mono ?_); rintro e w7 ⟨rfl, hb7⟩; rw [HTZ.out])
                    go_roundw
                    case rel =>
                      refine ⟨k + 1, g + tz, A6, c6, by omega, by rw [show S.length + (k + 1) = 0 + 1 by have := HM.out; omega], by first | rfl | go_num, by first | rfl | go_num, HGR.out, hgt', ?_⟩
                      unfold Hid
                      rw [show S.length + (k + 1) = 0 + 1 by have := HM.out; omega, HBAR.out.1 (by first | trivial | rfl)]
                      exact ⟨HS7.out.1.below hb7, HS7.out.2.1.blk (fun _ _ h => h.below hb7), HS7.out.2.2.blk (fun _ _ h => h.below hb7)⟩
                    case measure => simp [intOf]; omega
                  · have hmz : ((m : Int) == 0) = false := beq_eq_false_iff_ne.2 (by omega)
                    have hmzN : (m == 0) = false := beq_eq_false_iff_ne.2 (by omega)
                    have hs2 := HG2.out.2.2
                    have x0 := hxc.cell 0
                    have x1 := hxc.cell 1
                    have x2 := hxc.cell 2
                    have x3 := hxc.cell 3
                    have x4 := hxc.cell 4
                    have x5 := hxc.cell 5
                    have xlt := hxc.lt
                    simp at x0 x1 x2 x3 x4 x5
                    have hs3 := bt hs2 (ba wc (.cells #[.bool true, .int .i64 zv, .bool zd, .bool zt, .bool (!r0), .slice none 0 0] 51))
                    have hrow := (HOW0.out.1.below hs3).own
                    have HROW := Lib.hid hrow
                    have HS3 := Lib.hid hs3
                    have HS2 := Lib.hid hs2
                    obtain ⟨gN, hgN⟩ : ∃ g, (wc).heap.size = g := ⟨_, rfl⟩
                    have hd1 := World.news_of_block (heap_alloc_new wc (.cells #[.bool true, .int .i64 zv, .bool zd, .bool zt, .bool (!r0), .slice none 0 0] 51))
                    --have hgN2 : wc.heap.size = gN := by rw [← hgN]; simp
                    rw [hgN] at hd1
                    subst hgN
                    have HD1 := Lib.hid hd1
                    clear hrow hs3 hs2 hxc hbr hd1 
                    go_wp2_with (at_builtin; go_loud (refine wpList_append_own _ rfl _ _ 26 rfl W1.heap.size 51 i0 _ 6 56 Tryd.underlying26 ii1 ii2 ii3 ii4 rfl (by decide) (.slice A m c) m _ rfl HROW.out ⟨wc.heap.size, 0, none⟩ 1 1 [.bool true, .int .i64 zv, .bool zd, .bool zt, .bool (!r0), .slice none 0 0] rfl rfl HD1.out ?d2 (by unfold maxLen; omega) (by omega) (by have := HS3.out.size; have := HOW0.out.1.low.size; omega) ?_))
                    case d2 => exact ⟨rfl, rfl, rfl, rfl, rfl, rfl⟩
                    intro v' w6 hown' hgrow _
                    obtain ⟨A6, c6, rfl, hO6⟩ := Own1.stepN (HOW0.out.1.below HS2.out) (Below.refl _ _) rfl hown' hgrow
                    have hS7 := And.intro hO6 (And.intro ((HOW0.out.2.1.blk (fun _ _ h => h.below HS3.out)).blk (fun _ _ h => h.grown hgrow (blk_apart h HROW.out (by decide)))) ((HOW0.out.2.2.blk (fun _ _ h => h.below HS3.out)).blk (fun _ _ h => h.grown hgrow (blk_apart h HROW.out (by decide)))))
                    obtain ⟨bb', hbe, hbb', _, d0, d1, d2⟩ := sg_at hS7.2.1 hkl HN5.out
                    have hzD : T.getD k s0g = ⟨zv, zd, zt⟩ := by rw [List.getD_eq_getElem?_getD, HHT.out]; rfl
                    rw [hzD] at d0 d1 d2
                    dsimp only at d0 d1 d2
                    injection hbe with hbe
                    injection hbe with hbe
                    subst hbe
                    have HS7 := Lib.hid hS7
                    clear hS7 hown' hgrow hO6 hzD
                    go_wp2_with (go_at_call 49; (with_reducible refine (rticks_any _ _ _ _).mono ?_); rintro e w7 ⟨rfl, hb7⟩; rw [HTZ.out])
                    go_roundw
                    case rel =>
                      refine ⟨k + 1, g + tz, A6, c6, by omega, by rw [show S.length + (k + 1) = m + 1 by have := HM.out; omega], by first | rfl | go_num, by first | rfl | go_num, HGR.out, hgt', ?_⟩
                      unfold Hid
                      rw [show S.length + (k + 1) = m + 1 by have := HM.out; omega, HBAR.out.2 hm0]
                      exact ⟨HS7.out.1.below hb7, HS7.out.2.1.blk (fun _ _ h => h.below hb7), HS7.out.2.2.blk (fun _ _ h => h.below hb7)⟩
                    case measure => simp [intOf]; omega
              · have hrb : ((r2 : Int) == 0) = false := beq_eq_false_iff_ne.2 (by omega)
                have hrbN : (r2 == 0) = false := beq_eq_false_iff_ne.2 (by omega)
                have HBAR := Lib.hid (HBN.out false (by rw [hgd, HRM2.out, decide_eq_false (by omega : ¬ (r2 : Int) = 0)]; rfl))
                clear hg0 hrz
                go_cut [17] from 51 to 66 (fun s17 wy => ∃ g2 : Nat, s17 = .pointer (some ⟨g2, 0, none⟩) ∧ Hid (wr.heap.size ≤ g2 ∧ Blk wy g2 51 #[.bool false, .int .i64 zv, .bool zd, .bool zt, .bool (!r0), .slice none 0 0] ∧ Below wr.heap.size wr wy))
                case first =>
                  have hs : Below wr.heap.size wr wr.drew := (Below.refl _ _).drew
                  refine wp_region_held_drew (S := fun w' => Below wr.heap.size wr w') (by kernel_rfl) hs (fun hHeld => ?_)
                  change wpAnyH _ _ _ _ _ 18 #[false, false, false, false, false, false, false, false, false, false, false, false, false, false, false, false, false, false] _ _
                  refine wpAnyH_take (i := 0) (v := ?_) rfl (by kernel_rfl) (by kernel_rfl) (by kernel_rfl) (fun _ _ _ h => h) (Or.inl ⟨by rfl, ?_⟩) (by assumption) ?_
                  rotate_left
                  · intro w' hSw
                    obtain ⟨c0, c1, c2, e0, e1, e2, e3, e4, e5⟩ := CC.out _ hSw
                    go_simp
                    try with_reducible rfl
                  (try simp only [Act.put, List.getElem_toArray, List.getElem_cons_zero, List.setIfInBounds_toArray, List.set_cons_zero, List.set_cons_succ])
                  refine wpAnyH_take (i := 1) (v := ?_) rfl (by kernel_rfl) (by kernel_rfl) (by kernel_rfl) (fun _ _ _ h => h) (Or.inl ⟨by rfl, ?_⟩) (by assumption) ?_
                  rotate_left
                  · intro w' hSw
                    obtain ⟨c0, c1, c2, e0, e1, e2, e3, e4, e5⟩ := CC.out _ hSw
                    go_simp
                    try with_reducible rfl
                  (try simp only [Act.put, List.getElem_toArray, List.getElem_cons_succ, List.getElem_cons_zero, List.setIfInBounds_toArray, List.set_cons_zero, List.set_cons_succ])
                  refine wpAnyH_take (i := 2) (v := ?_) rfl (by kernel_rfl) (by kernel_rfl) (by kernel_rfl) (fun _ _ _ h => h) (Or.inl ⟨by rfl, ?_⟩) (by assumption) ?_
                  rotate_left
                  · intro w' hSw
                    obtain ⟨c0, c1, c2, e0, e1, e2, e3, e4, e5⟩ := CC.out _ hSw
                    go_simp
                    try with_reducible rfl
                  (try simp only [Act.put, List.getElem_toArray, List.getElem_cons_succ, List.getElem_cons_zero, List.setIfInBounds_toArray, List.set_cons_zero, List.set_cons_succ])
                  refine wpAnyH_take (i := 3) (v := ?_) rfl (by kernel_rfl) (by kernel_rfl) (by kernel_rfl) (fun _ _ _ h => h) (Or.inl ⟨by rfl, ?_⟩) (by assumption) ?_
                  rotate_left
                  · intro w' hSw
                    obtain ⟨c0, c1, c2, e0, e1, e2, e3, e4, e5⟩ := CC.out _ hSw
                    go_simp
                    try with_reducible rfl
                  (try simp only [Act.put, List.getElem_toArray, List.getElem_cons_succ, List.getElem_cons_zero, List.setIfInBounds_toArray, List.set_cons_zero, List.set_cons_succ])
                  refine wpAnyH_take (i := 4) (v := ?_) rfl (by kernel_rfl) (by kernel_rfl) (by kernel_rfl) (fun _ _ _ h => h) (Or.inl ⟨by rfl, ?_⟩) (by assumption) ?_
                  rotate_left
                  · intro w' hSw
                    obtain ⟨c0, c1, c2, e0, e1, e2, e3, e4, e5⟩ := CC.out _ hSw
                    go_simp
                    try with_reducible rfl
                  (try simp only [Act.put, List.getElem_toArray, List.getElem_cons_succ, List.getElem_cons_zero, List.setIfInBounds_toArray, List.set_cons_zero, List.set_cons_succ])
                  refine wpAnyH_take (i := 7) (v := ?_) rfl (by kernel_rfl) (by kernel_rfl) (by kernel_rfl) (fun _ _ _ h => h) (Or.inl ⟨by rfl, ?_⟩) (by assumption) ?_
                  rotate_left
                  · intro w' hSw
                    obtain ⟨c0, c1, c2, e0, e1, e2, e3, e4, e5⟩ := CC.out _ hSw
                    go_simp
                    try with_reducible rfl
                  (try simp only [Act.put, List.getElem_toArray, List.getElem_cons_succ, List.getElem_cons_zero, List.setIfInBounds_toArray, List.set_cons_zero, List.set_cons_succ])
                  refine wpAnyH_take (i := 8) (v := ?_) rfl (by kernel_rfl) (by kernel_rfl) (by kernel_rfl) (fun _ _ _ h => h) (Or.inl ⟨by rfl, ?_⟩) (by assumption) ?_
                  rotate_left
                  · intro w' hSw
                    obtain ⟨c0, c1, c2, e0, e1, e2, e3, e4, e5⟩ := CC.out _ hSw
                    go_simp
                    try with_reducible rfl
                  (try simp only [Act.put, List.getElem_toArray, List.getElem_cons_succ, List.getElem_cons_zero, List.setIfInBounds_toArray, List.set_cons_zero, List.set_cons_succ])
                  clear hHeld
                  obtain ⟨W_0, hW_0⟩ : ∃ W, wr.drew = W := ⟨_, rfl⟩
                  rw [hW_0] at hs ⊢
                  clear hW_0
                  refine wpAnyH_ready (rs := [5, 16]) (by kernel_rfl) (by simp) ?_
                  refine AllReadyH.cons rfl (fun K hK => ?_) ?_
                  · go_simp
                    go_wp2_with (go_at_call 79; (with_reducible refine (RS.out _).mono ?_); rintro e W_1 ⟨rfl, hst⟩)
                    refine hK.out _ _ (bt hs hst) (fun hHeld => ?_)
                    clear hK K
                    (try simp only [List.setIfInBounds_toArray, List.set_cons_zero, List.set_cons_succ])
                    have hsn := bt hs hst
                    clear hs hHeld
                    have hs := hsn
                    clear hsn hst
                    refine wpAnyH_take (i := 6) (v := ?_) rfl (by kernel_rfl) (by kernel_rfl) (by kernel_rfl) (fun _ _ _ h => h) (Or.inl ⟨by rfl, ?_⟩) (by assumption) ?_
                    rotate_left
                    · intro w' hSw
                      skip
                      go_simp
                      try with_reducible rfl
                    (try simp only [Act.put, List.getElem_toArray, List.getElem_cons_succ, List.getElem_cons_zero, List.setIfInBounds_toArray, List.set_cons_zero, List.set_cons_succ])
                    refine wpAnyH_take (i := 9) (v := ?_) rfl (by kernel_rfl) (by kernel_rfl) (by kernel_rfl) (fun _ _ _ h => h) (Or.inl ⟨by rfl, ?_⟩) (by assumption) ?_
                    rotate_left
                    · intro w' hSw
                      skip
                      go_simp
                      try with_reducible rfl
                    (try simp only [Act.put, List.getElem_toArray, List.getElem_cons_succ, List.getElem_cons_zero, List.setIfInBounds_toArray, List.set_cons_zero, List.set_cons_succ])
                    refine wpAnyH_take (i := 10) (v := ?_) rfl (by kernel_rfl) (by kernel_rfl) (by kernel_rfl) (fun _ _ _ h => h) (Or.inl ⟨by rfl, ?_⟩) (by assumption) ?_
                    rotate_left
                    · intro w' hSw
                      skip
                      go_simp
                      try with_reducible rfl
                    (try simp only [Act.put, List.getElem_toArray, List.getElem_cons_succ, List.getElem_cons_zero, List.setIfInBounds_toArray, List.set_cons_zero, List.set_cons_succ])
                    refine wpAnyH_take (i := 11) (v := ?_) rfl (by kernel_rfl) (by kernel_rfl) (by kernel_rfl) (fun _ _ _ h => h) (Or.inl ⟨by rfl, ?_⟩) (by assumption) ?_
                    rotate_left
                    · intro w' hSw
                      skip
                      go_simp
                      try with_reducible rfl
                    (try simp only [Act.put, List.getElem_toArray, List.getElem_cons_succ, List.getElem_cons_zero, List.setIfInBounds_toArray, List.set_cons_zero, List.set_cons_succ])
                    refine wpAnyH_take (i := 12) (v := ?_) rfl (by kernel_rfl) (by kernel_rfl) (by kernel_rfl) (fun _ _ _ h => h) (Or.inl ⟨by rfl, ?_⟩) (by assumption) ?_
                    rotate_left
                    · intro w' hSw
                      skip
                      go_simp
                      try with_reducible rfl
                    (try simp only [Act.put, List.getElem_toArray, List.getElem_cons_succ, List.getElem_cons_zero, List.setIfInBounds_toArray, List.set_cons_zero, List.set_cons_succ])
                    refine wpAnyH_take (i := 13) (v := ?_) rfl (by kernel_rfl) (by kernel_rfl) (by kernel_rfl) (fun _ _ _ h => h) (Or.inl ⟨by rfl, ?_⟩) (by assumption) ?_
                    rotate_left
                    · intro w' hSw
                      skip
                      go_simp
                      try with_reducible rfl
                    (try simp only [Act.put, List.getElem_toArray, List.getElem_cons_succ, List.getElem_cons_zero, List.setIfInBounds_toArray, List.set_cons_zero, List.set_cons_succ])
                    refine wpAnyH_take (i := 14) (v := ?_) rfl (by kernel_rfl) (by kernel_rfl) (by kernel_rfl) (fun _ _ _ h => h) (Or.inl ⟨by rfl, ?_⟩) (by assumption) ?_
                    rotate_left
                    · intro w' hSw
                      skip
                      go_simp
                      try with_reducible rfl
                    (try simp only [Act.put, List.getElem_toArray, List.getElem_cons_succ, List.getElem_cons_zero, List.setIfInBounds_toArray, List.set_cons_zero, List.set_cons_succ])
                    refine wpAnyH_take (i := 15) (v := ?_) rfl (by kernel_rfl) (by kernel_rfl) (by kernel_rfl) (fun _ _ _ h => h) (Or.inl ⟨by rfl, ?_⟩) (by assumption) ?_
                    rotate_left
                    · intro w' hSw
                      skip
                      go_simp
                      try with_reducible rfl
                    (try simp only [Act.put, List.getElem_toArray, List.getElem_cons_succ, List.getElem_cons_zero, List.setIfInBounds_toArray, List.set_cons_zero, List.set_cons_succ])
                    refine wpAnyH_ready (rs := [16]) (by kernel_rfl) (by simp) ?_
                    refine AllReadyH.cons rfl (fun K hK => ?_) ?_
                    · go_simp
                      refine hK.out _ _ (bt hs (ba _ _)) (fun hHeld => ?_)
                      clear hK K
                      (try simp only [List.setIfInBounds_toArray, List.set_cons_zero, List.set_cons_succ])
                      have nb := heap_alloc_new W_1 (.cells #[.bool false, .int .i64 0, .bool false, .bool false, .bool false, .slice none 0 0] 51)
                      have hlo := hs.size
                      have hsn := bt hs (ba W_1 (.cells #[.bool false, .int .i64 0, .bool false, .bool false, .bool false, .slice none 0 0] 51))
                      obtain ⟨g2, hg2'⟩ : ∃ g, W_1.heap.size = g := ⟨_, rfl⟩
                      obtain ⟨W_2, hW⟩ : ∃ W, W_1.alloc (.cells #[.bool false, .int .i64 0, .bool false, .bool false, .bool false, .slice none 0 0] 51) = W := ⟨_, rfl⟩
                      rw [hW] at nb hsn ⊢
                      rw [hg2'] at nb hlo ⊢
                      have bk : Blk W_2 g2 51 #[.bool false, .int .i64 0, .bool false, .bool false, .bool false, .slice none 0 0] := nb
                      clear nb hs hHeld
                      have hs := hsn
                      clear hsn hW hg2'
                      refine wpAnyH_ready (rs := [17]) (by kernel_rfl) (by simp) ?_
                      refine AllReadyH.cons rfl (fun K hK => ?_) ?_
                      · have b0 := bk.cell 0
                        have b1 := bk.cell 1
                        have b2 := bk.cell 2
                        have b3 := bk.cell 3
                        have b4 := bk.cell 4
                        have b5 := bk.cell 5
                        have e0 := bk.frozen 0
                        have e1 := bk.frozen 1
                        have e2 := bk.frozen 2
                        have e3 := bk.frozen 3
                        have e4 := bk.frozen 4
                        have e5 := bk.frozen 5
                        have el := bk.lt
                        simp at b0 b1 b2 b3 b4 b5
                        have bk1 := ((((((bk.set_ 0 (.bool false)).set_ 1 (.int .i64 zv)).set_ 2 (.bool zd)).set_ 3 (.bool zt)).set_ 4 (.bool (!r0))).set_ 5 (.slice none 0 0))
                        have hsn := ((((((hs.setCell (p := ⟨g2, 0, none⟩) hlo (.bool false)).setCell (p := ⟨g2, 1, none⟩) hlo (.int .i64 zv)).setCell (p := ⟨g2, 2, none⟩) hlo (.bool zd)).setCell (p := ⟨g2, 3, none⟩) hlo (.bool zt)).setCell (p := ⟨g2, 4, none⟩) hlo (.bool (!r0))).setCell (p := ⟨g2, 5, none⟩) hlo (.slice none 0 0))
                        go_simp
                        refine hK.out _ _ hsn (fun hHeld => ?_)
                        clear hK K
                        (try simp only [List.setIfInBounds_toArray, List.set_cons_zero, List.set_cons_succ])
                        obtain ⟨W_3, hW⟩ : ∃ W, ((((((W_2.setCell ⟨g2, 0, none⟩ (.bool false)).setCell ⟨g2, 1, none⟩ (.int .i64 zv)).setCell ⟨g2, 2, none⟩ (.bool zd)).setCell ⟨g2, 3, none⟩ (.bool zt)).setCell ⟨g2, 4, none⟩ (.bool (!r0))).setCell ⟨g2, 5, none⟩ (.slice none 0 0)) = W := ⟨_, rfl⟩
                        rw [hW] at hsn bk1 hHeld ⊢
                        clear hs bk b0 b1 b2 b3 b4 b5 e0 e1 e2 e3 e4 e5 el hW
                        have bk : Blk W_3 g2 51 #[.bool false, .int .i64 zv, .bool zd, .bool zt, .bool (!r0), .slice none 0 0] := by simpa using bk1
                        have hs := hsn
                        clear hsn bk1
                        refine wpAnyH_done (by kernel_rfl) ?_ _
                        go_wp2_with (fail)
                        go_meet
                        exact ⟨g2, rfl, hlo, bk, hs⟩
                      exact AllReadyH.nil
                    exact AllReadyH.nil
                  refine AllReadyH.cons rfl (fun K hK => ?_) ?_
                  · go_simp
                    refine hK.out _ _ (bt hs (ba _ _)) (fun hHeld => ?_)
                    clear hK K
                    (try simp only [List.setIfInBounds_toArray, List.set_cons_zero, List.set_cons_succ])
                    have nb := heap_alloc_new W_0 (.cells #[.bool false, .int .i64 0, .bool false, .bool false, .bool false, .slice none 0 0] 51)
                    have hlo := hs.size
                    have hsn := bt hs (ba W_0 (.cells #[.bool false, .int .i64 0, .bool false, .bool false, .bool false, .slice none 0 0] 51))
                    obtain ⟨g2, hg2'⟩ : ∃ g, W_0.heap.size = g := ⟨_, rfl⟩
                    obtain ⟨W_1, hW⟩ : ∃ W, W_0.alloc (.cells #[.bool false, .int .i64 0, .bool false, .bool false, .bool false, .slice none 0 0] 51) = W := ⟨_, rfl⟩
                    rw [hW] at nb hsn ⊢
                    rw [hg2'] at nb hlo ⊢
                    have bk : Blk W_1 g2 51 #[.bool false, .int .i64 0, .bool false, .bool false, .bool false, .slice none 0 0] := nb
                    clear nb hs hHeld
                    have hs := hsn
                    clear hsn hW hg2'
                    refine wpAnyH_ready (rs := [5]) (by kernel_rfl) (by simp) ?_
                    refine AllReadyH.cons rfl (fun K hK => ?_) ?_
                    · go_simp
                      go_wp2_with (go_at_call 79; (with_reducible refine (RS.out _).mono ?_); rintro e W_2 ⟨rfl, hst⟩)
                      refine hK.out _ _ (bt hs hst) (fun hHeld => ?_)
                      clear hK K
                      (try simp only [List.setIfInBounds_toArray, List.set_cons_zero, List.set_cons_succ])
                      replace bk := Blk.below bk hst
                      have hsn := bt hs hst
                      clear hs hHeld
                      have hs := hsn
                      clear hsn hst
                      refine wpAnyH_take (i := 6) (v := ?_) rfl (by kernel_rfl) (by kernel_rfl) (by kernel_rfl) (fun _ _ _ h => h) (Or.inl ⟨by rfl, ?_⟩) (by assumption) ?_
                      rotate_left
                      · intro w' hSw
                        skip
                        go_simp
                        try with_reducible rfl
                      (try simp only [Act.put, List.getElem_toArray, List.getElem_cons_succ, List.getElem_cons_zero, List.setIfInBounds_toArray, List.set_cons_zero, List.set_cons_succ])
                      refine wpAnyH_take (i := 9) (v := ?_) rfl (by kernel_rfl) (by kernel_rfl) (by kernel_rfl) (fun _ _ _ h => h) (Or.inl ⟨by rfl, ?_⟩) (by assumption) ?_
                      rotate_left
                      · intro w' hSw
                        skip
                        go_simp
                        try with_reducible rfl
                      (try simp only [Act.put, List.getElem_toArray, List.getElem_cons_succ, List.getElem_cons_zero, List.setIfInBounds_toArray, List.set_cons_zero, List.set_cons_succ])
                      refine wpAnyH_take (i := 10) (v := ?_) rfl (by kernel_rfl) (by kernel_rfl) (by kernel_rfl) (fun _ _ _ h => h) (Or.inl ⟨by rfl, ?_⟩) (by assumption) ?_
                      rotate_left
                      · intro w' hSw
                        skip
                        go_simp
                        try with_reducible rfl
                      (try simp only [Act.put, List.getElem_toArray, List.getElem_cons_succ, List.getElem_cons_zero, List.setIfInBounds_toArray, List.set_cons_zero, List.set_cons_succ])
                      refine wpAnyH_take (i := 11) (v := ?_) rfl (by kernel_rfl) (by kernel_rfl) (by kernel_rfl) (fun _ _ _ h => h) (Or.inl ⟨by rfl, ?_⟩) (by assumption) ?_
                      rotate_left
                      · intro w' hSw
                        skip
                        go_simp
                        try with_reducible rfl
                      (try simp only [Act.put, List.getElem_toArray, List.getElem_cons_succ, List.getElem_cons_zero, List.setIfInBounds_toArray, List.set_cons_zero, List.set_cons_succ])
                      refine wpAnyH_take (i := 12) (v := ?_) rfl (by kernel_rfl) (by kernel_rfl) (by kernel_rfl) (fun _ _ _ h => h) (Or.inl ⟨by rfl, ?_⟩) (by assumption) ?_
                      rotate_left
                      · intro w' hSw
                        skip
                        go_simp
                        try with_reducible rfl
                      (try simp only [Act.put, List.getElem_toArray, List.getElem_cons_succ, List.getElem_cons_zero, List.setIfInBounds_toArray, List.set_cons_zero, List.set_cons_succ])
                      refine wpAnyH_take (i := 13) (v := ?_) rfl (by kernel_rfl) (by kernel_rfl) (by kernel_rfl) (fun _ _ _ h => h) (Or.inl ⟨by rfl, ?_⟩) (by assumption) ?_
                      rotate_left
                      · intro w' hSw
                        skip
                        go_simp
                        try with_reducible rfl
                      (try simp only [Act.put, List.getElem_toArray, List.getElem_cons_succ, List.getElem_cons_zero, List.setIfInBounds_toArray, List.set_cons_zero, List.set_cons_succ])
                      refine wpAnyH_take (i := 14) (v := ?_) rfl (by kernel_rfl) (by kernel_rfl) (by kernel_rfl) (fun _ _ _ h => h) (Or.inl ⟨by rfl, ?_⟩) (by assumption) ?_
                      rotate_left
                      · intro w' hSw
                        skip
                        go_simp
                        try with_reducible rfl
                      (try simp only [Act.put, List.getElem_toArray, List.getElem_cons_succ, List.getElem_cons_zero, List.setIfInBounds_toArray, List.set_cons_zero, List.set_cons_succ])
                      refine wpAnyH_take (i := 15) (v := ?_) rfl (by kernel_rfl) (by kernel_rfl) (by kernel_rfl) (fun _ _ _ h => h) (Or.inl ⟨by rfl, ?_⟩) (by assumption) ?_
                      rotate_left
                      · intro w' hSw
                        skip
                        go_simp
                        try with_reducible rfl
                      (try simp only [Act.put, List.getElem_toArray, List.getElem_cons_succ, List.getElem_cons_zero, List.setIfInBounds_toArray, List.set_cons_zero, List.set_cons_succ])
                      refine wpAnyH_ready (rs := [17]) (by kernel_rfl) (by simp) ?_
                      refine AllReadyH.cons rfl (fun K hK => ?_) ?_
                      · have b0 := bk.cell 0
                        have b1 := bk.cell 1
                        have b2 := bk.cell 2
                        have b3 := bk.cell 3
                        have b4 := bk.cell 4
                        have b5 := bk.cell 5
                        have e0 := bk.frozen 0
                        have e1 := bk.frozen 1
                        have e2 := bk.frozen 2
                        have e3 := bk.frozen 3
                        have e4 := bk.frozen 4
                        have e5 := bk.frozen 5
                        have el := bk.lt
                        simp at b0 b1 b2 b3 b4 b5
                        have bk1 := ((((((bk.set_ 0 (.bool false)).set_ 1 (.int .i64 zv)).set_ 2 (.bool zd)).set_ 3 (.bool zt)).set_ 4 (.bool (!r0))).set_ 5 (.slice none 0 0))
                        have hsn := ((((((hs.setCell (p := ⟨g2, 0, none⟩) hlo (.bool false)).setCell (p := ⟨g2, 1, none⟩) hlo (.int .i64 zv)).setCell (p := ⟨g2, 2, none⟩) hlo (.bool zd)).setCell (p := ⟨g2, 3, none⟩) hlo (.bool zt)).setCell (p := ⟨g2, 4, none⟩) hlo (.bool (!r0))).setCell (p := ⟨g2, 5, none⟩) hlo (.slice none 0 0))
                        go_simp
                        refine hK.out _ _ hsn (fun hHeld => ?_)
                        clear hK K
                        (try simp only [List.setIfInBounds_toArray, List.set_cons_zero, List.set_cons_succ])
                        obtain ⟨W_3, hW⟩ : ∃ W, ((((((W_2.setCell ⟨g2, 0, none⟩ (.bool false)).setCell ⟨g2, 1, none⟩ (.int .i64 zv)).setCell ⟨g2, 2, none⟩ (.bool zd)).setCell ⟨g2, 3, none⟩ (.bool zt)).setCell ⟨g2, 4, none⟩ (.bool (!r0))).setCell ⟨g2, 5, none⟩ (.slice none 0 0)) = W := ⟨_, rfl⟩
                        rw [hW] at hsn bk1 hHeld ⊢
                        clear hs bk b0 b1 b2 b3 b4 b5 e0 e1 e2 e3 e4 e5 el hW
                        have bk : Blk W_3 g2 51 #[.bool false, .int .i64 zv, .bool zd, .bool zt, .bool (!r0), .slice none 0 0] := by simpa using bk1
                        have hs := hsn
                        clear hsn bk1
                        refine wpAnyH_done (by kernel_rfl) ?_ _
                        go_wp2_with (fail)
                        go_meet
                        exact ⟨g2, rfl, hlo, bk, hs⟩
                      exact AllReadyH.nil
                    exact AllReadyH.nil
                  exact AllReadyH.nil
                case rest =>
                  obtain ⟨g2, rfl, HG2⟩ := hcut
                  have hbr := HBr.out.below HG2.out.2.2
                  have hxc := HG2.out.2.1
                  by_cases hm0 : m = 0
                  · subst hm0
                    have x4 := hxc.cell 4
                    have x5 := hxc.cell 5
                    have y4 := hxc.frozen 4
                    have y5 := hxc.frozen 5
                    have r4 := hbr.cell 4
                    have r5 := hbr.cell 5
                    have rlt := hbr.lt
                    simp at x4 x5 r4 r5
                    have hne2 : w.heap.size ≠ g2 := by have := HG2.out.1; have := HOW0.out.1.low.size; omega
                    have hs2 := (HG2.out.2.2.setCell (p := ⟨g2, 4, none⟩) HG2.out.1 (.bool yi)).setCell (p := ⟨g2, 5, none⟩) HG2.out.1 (.slice sa yL.length sc)
                    have x0 := hxc.cell 0
                    have x1 := hxc.cell 1
                    have x2 := hxc.cell 2
                    have x3 := hxc.cell 3


                    have xlt := hxc.lt
                    simp at x0 x1 x2 x3
                    have hs3 := bt hs2 (ba ((wc.setCell ⟨g2, 4, none⟩ (.bool yi)).setCell ⟨g2, 5, none⟩ (.slice sa yL.length sc)) (.cells #[.bool false, .int .i64 zv, .bool zd, .bool zt, .bool yi, .slice sa yL.length sc] 51))
                    have hrow := (HOW0.out.1.below hs3).own
                    have HROW := Lib.hid hrow
                    have HS3 := Lib.hid hs3
                    have HS2 := Lib.hid hs2
                    obtain ⟨gN, hgN⟩ : ∃ g, (((wc.setCell ⟨g2, 4, none⟩ (.bool yi)).setCell ⟨g2, 5, none⟩ (.slice sa yL.length sc))).heap.size = g := ⟨_, rfl⟩
                    have hd1 := World.news_of_block (heap_alloc_new ((wc.setCell ⟨g2, 4, none⟩ (.bool yi)).setCell ⟨g2, 5, none⟩ (.slice sa yL.length sc)) (.cells #[.bool false, .int .i64 zv, .bool zd, .bool zt, .bool yi, .slice sa yL.length sc] 51))
                    have hgN2 : wc.heap.size = gN := by rw [← hgN]; simp
                    rw [hgN] at hd1
                    obtain rfl := hgN2
                    have HD1 := Lib.hid hd1
                    clear hrow hs3 hs2 hxc hbr hd1 hgN
                    go_wp2_with (at_builtin; go_loud (refine wpList_append_own _ rfl _ _ 26 rfl W1.heap.size 51 i0 _ 6 56 Tryd.underlying26 ii1 ii2 ii3 ii4 rfl (by decide) (.slice A 0 c) 0 _ rfl HROW.out ⟨wc.heap.size, 0, none⟩ 1 1 [.bool false, .int .i64 zv, .bool zd, .bool zt, .bool yi, .slice sa yL.length sc] rfl rfl HD1.out ?d2 (by unfold maxLen; omega) (by omega) (by have := HS3.out.size; have := HOW0.out.1.low.size; omega) ?_))
                    case d2 => exact ⟨rfl, rfl, rfl, rfl, rfl, rfl⟩
                    intro v' w6 hown' hgrow _
                    obtain ⟨A6, c6, rfl, hO6⟩ := Own1.stepN (HOW0.out.1.below HS2.out) (Below.refl _ _) rfl hown' hgrow
                    have hS7 := And.intro hO6 (And.intro ((HOW0.out.2.1.blk (fun _ _ h => h.below HS3.out)).blk (fun _ _ h => h.grown hgrow (blk_apart h HROW.out (by decide)))) ((HOW0.out.2.2.blk (fun _ _ h => h.below HS3.out)).blk (fun _ _ h => h.grown hgrow (blk_apart h HROW.out (by decide)))))
                    obtain ⟨bb', hbe, hbb', _, d0, d1, d2⟩ := sg_at hS7.2.1 hkl HN5.out
                    have hzD : T.getD k s0g = ⟨zv, zd, zt⟩ := by rw [List.getD_eq_getElem?_getD, HHT.out]; rfl
                    rw [hzD] at d0 d1 d2
                    dsimp only at d0 d1 d2
                    injection hbe with hbe
                    injection hbe with hbe
                    subst hbe
                    have HS7 := Lib.hid hS7
                    clear hS7 hown' hgrow hO6 hzD
                    go_wp2_with (go_at_call 49; (with_reducible refine (rticks_any _ _ _ _).mono ?_); rintro e w7 ⟨rfl, hb7⟩; rw [HTZ.out])
                    go_roundw
                    case rel =>
                      refine ⟨k + 1, g + tz, A6, c6, by omega, by rw [show S.length + (k + 1) = 0 + 1 by have := HM.out; omega], by first | rfl | go_num, by first | rfl | go_num, HGR.out, hgt', ?_⟩
                      unfold Hid
                      rw [show S.length + (k + 1) = 0 + 1 by have := HM.out; omega, HBAR.out.1 (by first | trivial | rfl)]
                      exact ⟨HS7.out.1.below hb7, HS7.out.2.1.blk (fun _ _ h => h.below hb7), HS7.out.2.2.blk (fun _ _ h => h.below hb7)⟩
                    case measure => simp [intOf]; omega
                  · have hmz : ((m : Int) == 0) = false := beq_eq_false_iff_ne.2 (by omega)
                    have hmzN : (m == 0) = false := beq_eq_false_iff_ne.2 (by omega)
                    have hs2 := HG2.out.2.2
                    have x0 := hxc.cell 0
                    have x1 := hxc.cell 1
                    have x2 := hxc.cell 2
                    have x3 := hxc.cell 3
                    have x4 := hxc.cell 4
                    have x5 := hxc.cell 5
                    have xlt := hxc.lt
                    simp at x0 x1 x2 x3 x4 x5
                    have hs3 := bt hs2 (ba wc (.cells #[.bool false, .int .i64 zv, .bool zd, .bool zt, .bool (!r0), .slice none 0 0] 51))
                    have hrow := (HOW0.out.1.below hs3).own
                    have HROW := Lib.hid hrow
                    have HS3 := Lib.hid hs3
                    have HS2 := Lib.hid hs2
                    obtain ⟨gN, hgN⟩ : ∃ g, (wc).heap.size = g := ⟨_, rfl⟩
                    have hd1 := World.news_of_block (heap_alloc_new wc (.cells #[.bool false, .int .i64 zv, .bool zd, .bool zt, .bool (!r0), .slice none 0 0] 51))
                    --have hgN2 : wc.heap.size = gN := by rw [← hgN]; simp
                    rw [hgN] at hd1
                    subst hgN
                    have HD1 := Lib.hid hd1
                    clear hrow hs3 hs2 hxc hbr hd1 
                    go_wp2_with (at_builtin; go_loud (refine wpList_append_own _ rfl _ _ 26 rfl W1.heap.size 51 i0 _ 6 56 Tryd.underlying26 ii1 ii2 ii3 ii4 rfl (by decide) (.slice A m c) m _ rfl HROW.out ⟨wc.heap.size, 0, none⟩ 1 1 [.bool false, .int .i64 zv, .bool zd, .bool zt, .bool (!r0), .slice none 0 0] rfl rfl HD1.out ?d2 (by unfold maxLen; omega) (by omega) (by have := HS3.out.size; have := HOW0.out.1.low.size; omega) ?_))
                    case d2 => exact ⟨rfl, rfl, rfl, rfl, rfl, rfl⟩
                    intro v' w6 hown' hgrow _
                    obtain ⟨A6, c6, rfl, hO6⟩ := Own1.stepN (HOW0.out.1.below HS2.out) (Below.refl _ _) rfl hown' hgrow
                    have hS7 := And.intro hO6 (And.intro ((HOW0.out.2.1.blk (fun _ _ h => h.below HS3.out)).blk (fun _ _ h => h.grown hgrow (blk_apart h HROW.out (by decide)))) ((HOW0.out.2.2.blk (fun _ _ h => h.below HS3.out)).blk (fun _ _ h => h.grown hgrow (blk_apart h HROW.out (by decide)))))
                    obtain ⟨bb', hbe, hbb', _, d0, d1, d2⟩ := sg_at hS7.2.1 hkl HN5.out
                    have hzD : T.getD k s0g = ⟨zv, zd, zt⟩ := by rw [List.getD_eq_getElem?_getD, HHT.out]; rfl
                    rw [hzD] at d0 d1 d2
                    dsimp only at d0 d1 d2
                    injection hbe with hbe
                    injection hbe with hbe
                    subst hbe
                    have HS7 := Lib.hid hS7
                    clear hS7 hown' hgrow hO6 hzD
                    go_wp2_with (go_at_call 49; (with_reducible refine (rticks_any _ _ _ _).mono ?_); rintro e w7 ⟨rfl, hb7⟩; rw [HTZ.out])
                    go_roundw
                    case rel =>
                      refine ⟨k + 1, g + tz, A6, c6, by omega, by rw [show S.length + (k + 1) = m + 1 by have := HM.out; omega], by first | rfl | go_num, by first | rfl | go_num, HGR.out, hgt', ?_⟩
                      unfold Hid
                      rw [show S.length + (k + 1) = m + 1 by have := HM.out; omega, HBAR.out.2 hm0]
                      exact ⟨HS7.out.1.below hb7, HS7.out.2.1.blk (fun _ _ h => h.below hb7), HS7.out.2.2.blk (fun _ _ h => h.below hb7)⟩
                    case measure => simp [intOf]; omega
          · obtain rfl : k = n5 := by omega
            have hTt : T.take k = T := List.take_of_length_le (by rw [HN5.out]; exact Nat.le_refl _)
            have hG := HG.out
            have hOx := HOW0.out.1
            rw [hTt] at hG hOx
            rw [HTS.out] at hG
            have HGF := Lib.hid hG
            have HOX := Lib.hid hOx
            clear hTt hG hOx
            go_wp2_with (fail)
            go_roundw
            case rel =>
              refine ⟨i + 1, S ++ T, g, A, c, by omega, by rw [List.length_append, HN5.out], rfl, by first | rfl | go_num, ?_, hgl, ?_, ?_, ?_, ?_, ?_⟩
              · unfold Hid
                rw [tkSum_app, HTS.out]
                have h1 := HF.out
                have h2 := HGF.out
                omega
              · unfold Hid
                rw [HDR.out, HGF.out]
              · unfold Hid
                rw [HDR.out]
                exact HRS.out
              · unfold Hid
                rw [List.length_append, HN5.out]
                exact ⟨HOX.out, HOW0.out.2.2⟩
              · have h2 := HGF.out
                rw [List.length_append, HN5.out]
                push_cast
                omega
              · exact fun h => absurd h (by omega)
            case measure => simp [intOf] <;> omega
      · obtain rfl : q = 1 := by omega
        obtain rfl : i = 0 := by omega
        have hbr := HBX.out.below HO.out.1.low
        have q1 := hbr.cell 1
        have q2 := hbr.cell 2
        have q3 := hbr.cell 3
        have ql := hbr.lt
        simp at q1 q2 q3
        have hba := ba wr (.cells #[.int .i64 yv, .bool yd, .bool yt] 48)
        have hnb := heap_alloc_new wr (.cells #[.int .i64 yv, .bool yd, .bool yt] 48)
        have hxe : x = tkV yv yd yt := by
          have h1 := HDR.out
          rw [List.drop_of_length_le (by rw [HQ.out]; exact Nat.le_refl _)] at h1
          have h2 : ¬ (f : Int) + x < te := fun h => by
            rw [ptA_step (bar := b) (by omega) h] at h1
            cases h1
          have h3 := HI0.out rfl
          have h4 := HTK.out
          omega
        obtain ⟨T, hT⟩ : ∃ T, sgS x = T := ⟨_, rfl⟩
        have hE0 : sgE x = 0 := by rw [hxe]; exact HONE.out.1
        have hT1 : T = [⟨yv, yd, yt⟩] := by rw [← hT, hxe]; exact HONE.out.2
        have HN5 : Hid (T.length = 1) := by unfold Hid; rw [hT1]; rfl
        have HRS : Hid (R = (sgAll (ptA b (f + x) te)).map ((S ++ T) ++ ·)) := by
          unfold Hid
          rw [HS.out, HD.out, HST.out, sgAll_good hE0, hT]
          cases sgAll (ptA b (f + x) te) <;> simp
        have HTS : Hid (tkSum T = x) := by unfold Hid; rw [← hT]; exact sgS_sum hE0
        have HTO : Hid (∀ s ∈ T, okB s.v s.d s.t = true ∧ 4 ≤ tkS s ∧ tkS s ≤ 576) := by unfold Hid; rw [← hT]; exact sgS_ok hE0
        have hT4 := tkSum_len (S := T) (fun s hs => (HTO.out s hs).2.1)
        rw [HTS.out, HN5.out] at hT4
        clear hxe
        obtain ⟨A5, hA5⟩ : ∃ A, (some ⟨wr.heap.size, 0, none⟩ : Option Addr) = A := ⟨_, rfl⟩
        obtain ⟨B5, hB5⟩ : ∃ B, wr.heap.size = B := ⟨_, rfl⟩
        obtain ⟨w3, hw3⟩ : ∃ W, wr.alloc (.cells #[.int .i64 yv, .bool yd, .bool yt] 48) = W := ⟨_, rfl⟩
        have hsl : Ow w3 B5 48 3 A5 1 1 (sfC T) := by
          rw [← hw3, hT1]
          exact ⟨Nat.le_refl _, rfl, fun _ => ⟨wr.heap.size, _, hA5.symm, by omega, hnb, rfl, rfl⟩⟩
        have HO3 : Hid (Own1 W1 w3 51 6 A S.length c (evC (hdT yi sa yL.length sc ((brS (!r0) b fm S).map zT))) ∧ Ow w3 W1.heap.size 3 1 Ap 1 cp (intC P)) := by
          unfold Hid
          rw [← hw3]
          exact ⟨HO.out.1.below hba, HO.out.2.blk (fun _ _ h => h.below hba)⟩
        have HSL := Lib.hid hsl
        have HWA := Lib.hid (And.intro hA5 hw3)
        clear hT hT1 hE0 hsl hnb hba hB5 hA5 hw3
        go_wp2_with (fail)
        rw [HWA.out.1, HWA.out.2]
        clear hbr q1 q2 q3 ql
        go_loopw [11, 12, 16] (fun ev fr kv wx => ∃ (k g : Nat) (A : Option Addr) (c : Nat), k ≤ 1 ∧ ev = .slice A (S.length + k) c ∧ fr = .int .i64 (g : Int) ∧ kv = .int .i64 (k : Int) ∧ Hid ((g : Int) = f + tkSum (T.take k)) ∧ (g : Int) ≤ te ∧ Hid (Own1 W1 wx 51 6 A (S.length + k) c (evC (hdT yi sa yL.length sc ((brS (!r0) b fm (S ++ T.take k)).map zT))) ∧ Ow wx B5 48 3 A5 1 1 (sfC T) ∧ Ow wx W1.heap.size 3 1 Ap 1 cp (intC P))) (fun _ _ kv _ => 1 - (intOf kv).toNat)
        case atStart => exact ⟨0, f, A, c, by omega, rfl, rfl, rfl, by simp [Hid, tkSum], by omega, by simpa using HO3.out.1, HSL.out, HO3.out.2⟩
        case round =>
          obtain ⟨k, g, A, c, hk, rfl, rfl, rfl, HG, hgl, HOW0⟩ := hrel
          by_cases hkl : k < 1
          · have hki : (k : Int) < 1 := by omega
            obtain ⟨bb, hA5, hbb, hTk, d0, d1, d2⟩ := sg_at HOW0.out.2.1 hkl HN5.out
            subst hA5
            obtain ⟨z, hz⟩ : ∃ z, T.getD k s0g = z := ⟨_, rfl⟩
            rw [hz] at d0 d1 d2 hTk
            clear hz
            obtain ⟨hzo, hz4, hz5⟩ := HTO.out z (List.mem_of_getElem? hTk)
            obtain ⟨zv, zd, zt⟩ := z
            obtain ⟨tz, htz⟩ := Int.eq_ofNat_of_zero_le (show 0 ≤ tkS ⟨zv, zd, zt⟩ by omega)
            have hgn : ((g + tz : Nat) : Int) = f + tkSum (T.take (k + 1)) := by
              rw [tkSum_take hTk, htz]
              have := HG.out
              push_cast
              omega
            have hgt' : ((g + tz : Nat) : Int) ≤ te := by
              rw [hgn]
              have := (tkSum_nn (S := T) (fun s hs => (HTO.out s hs).2.1) (k + 1)).2
              rw [HTS.out] at this
              omega
            obtain ⟨m, hm⟩ : ∃ m, S.length + k = m := ⟨_, rfl⟩
            have hLm : ((brS (!r0) b fm (S ++ T.take k)).map zT).length = m := by
              rw [List.length_map, brS_len, List.length_append, List.length_take, ← hm]
              have := HN5.out
              omega
            have HBN : Hid (∀ bar : Bool, bar = (decide ((0 : Int) < (g : Int)) && decide ((g : Int) % (b : Int) = 0)) → (m = 0 → evC (hdT yi sa yL.length sc ((brS (!r0) b fm (S ++ T.take (k + 1))).map zT)) = evC (hdT yi sa yL.length sc ((brS (!r0) b fm (S ++ T.take k)).map zT)) ++ [.bool bar, .int .i64 zv, .bool zd, .bool zt, .bool yi, .slice sa yL.length sc]) ∧ (m ≠ 0 → evC (hdT yi sa yL.length sc ((brS (!r0) b fm (S ++ T.take (k + 1))).map zT)) = evC (hdT yi sa yL.length sc ((brS (!r0) b fm (S ++ T.take k)).map zT)) ++ [.bool bar, .int .i64 zv, .bool zd, .bool zt, .bool (!r0), .slice none 0 0])) := fun bar hbar => by
              have hg0 : fm + tkSum (S ++ T.take k) = g := by
                rw [tkSum_app]
                have h1 := HF.out
                have h2 := HG.out
                omega
              have e : (brS (!r0) b fm (S ++ T.take (k + 1))).map zT = (brS (!r0) b fm (S ++ T.take k)).map zT ++ [⟨bar, zv, zd, zt, !r0, none, 0, 0⟩] := by
                rw [List.take_add_one, hTk, ← List.append_assoc]
                show (brS _ b fm ((S ++ T.take k) ++ [⟨zv, zd, zt⟩])).map zT = _
                rw [brS_snoc, List.map_append, hg0, hbar]
                rfl
              rw [e]
              refine ⟨fun h => ?_, fun h => ?_⟩
              · rw [List.length_eq_zero_iff.1 (hLm.trans h)]
                rfl
              · rw [hdT_snoc (fun h2 => h (by rw [← hLm, h2]; rfl)), evC_append]
                rfl
            rw [hm] at HOW0 ⊢
            have HM := Lib.hid hm
            have HTZ : Hid (tkV zv zd zt = (tz : Int)) := htz
            have HGR := Lib.hid hgn
            have htz5 : tz ≤ 576 := by omega
            have hgb : g ≤ 1000000 := by omega
            have hmb : m ≤ 1000000 := by omega
            obtain ⟨r2, hr2⟩ : ∃ r, g % b = r := ⟨_, rfl⟩
            have hr2b : r2 < b := by rw [← hr2]; exact Nat.mod_lt _ (by omega)
            have hgmod : (g : Int) % (b : Int) = (r2 : Int) := by rw [← hr2]; exact (Int.natCast_emod g b).symm
            have hrem : Int.tmod (g : Int) (b : Int) = (r2 : Int) := by rw [← hr2]; rfl
            have HRM2 := Lib.hid hgmod
            have HHT := Lib.hid hTk
            dsimp only at d0 d1 d2
            clear hTk htz hgn hz4 hz5 hzo hr2 hgmod hm hLm
            have hbz : ((b : Int) == 0) = false := beq_eq_false_iff_ne.2 (by omega)
            have hbn : ¬ b = 0 := by omega
            have HBr := Lib.hid (HBX.out.below HOW0.out.1.low)
            go_wp2_with (fail)
            have CC : Hid (∀ w', Below wr.heap.size wr w' → (w'.cell? ⟨bb, k * 3, none⟩ = some (.int .i64 zv)) ∧ (w'.cell? ⟨bb, k * 3 + 1, none⟩ = some (.bool zd)) ∧ (w'.cell? ⟨bb, k * 3 + 2, none⟩ = some (.bool zt)) ∧ (w'.cell? ⟨w.heap.size, 0, none⟩ = some (.bool yb)) ∧ (w'.cell? ⟨w.heap.size, 1, none⟩ = some (.int .i64 yv)) ∧ (w'.cell? ⟨w.heap.size, 2, none⟩ = some (.bool yd)) ∧ (w'.cell? ⟨w.heap.size, 3, none⟩ = some (.bool yt)) ∧ (w'.cell? ⟨w.heap.size, 4, none⟩ = some (.bool yi)) ∧ (w'.cell? ⟨w.heap.size, 5, none⟩ = some (.slice sa yL.length sc))) := fun w' h => by
              have hg := h.block bb hbb
              have h2 := HBr.out.below h
              have b0 := h2.cell 0
              have b1 := h2.cell 1
              have b2 := h2.cell 2
              have b3 := h2.cell 3
              have b4 := h2.cell 4
              have b5 := h2.cell 5
              simp at b0 b1 b2 b3 b4 b5
              exact ⟨cell_same hg d0, cell_same hg d1, cell_same hg d2, b0, b1, b2, b3, b4, b5⟩
            clear d0 d1 d2
            by_cases hg0 : g = 0
            · have hgd : decide ((0 : Int) < (g : Int)) = false := decide_eq_false (by omega)
              have hgn0 : ¬ (0 : Int) < (g : Int) := by omega
              have hgdN : decide (0 < g) = false := decide_eq_false (by omega)
              have hgnN : ¬ 0 < g := by omega
              have HBAR := Lib.hid (HBN.out false (by rw [hgd]; rfl))
              clear hg0
              go_cut [17] from 51 to 66 (fun s17 wy => ∃ g2 : Nat, s17 = .pointer (some ⟨g2, 0, none⟩) ∧ Hid (wr.heap.size ≤ g2 ∧ Blk wy g2 51 #[.bool false, .int .i64 zv, .bool zd, .bool zt, .bool (!r0), .slice none 0 0] ∧ Below wr.heap.size wr wy))
              case first =>
                have hs : Below wr.heap.size wr wr.drew := (Below.refl _ _).drew
                refine wp_region_held_drew (S := fun w' => Below wr.heap.size wr w') (by kernel_rfl) hs (fun hHeld => ?_)
                change wpAnyH _ _ _ _ _ 18 #[false, false, false, false, false, false, false, false, false, false, false, false, false, false, false, false, false, false] _ _
                refine wpAnyH_take (i := 0) (v := ?_) rfl (by kernel_rfl) (by kernel_rfl) (by kernel_rfl) (fun _ _ _ h => h) (Or.inl ⟨by rfl, ?_⟩) (by assumption) ?_
                rotate_left
                · intro w' hSw
                  obtain ⟨c0, c1, c2, e0, e1, e2, e3, e4, e5⟩ := CC.out _ hSw
                  go_simp
                  try with_reducible rfl
                (try simp only [Act.put, List.getElem_toArray, List.getElem_cons_zero, List.setIfInBounds_toArray, List.set_cons_zero, List.set_cons_succ])
                refine wpAnyH_take (i := 1) (v := ?_) rfl (by kernel_rfl) (by kernel_rfl) (by kernel_rfl) (fun _ _ _ h => h) (Or.inl ⟨by rfl, ?_⟩) (by assumption) ?_
                rotate_left
                · intro w' hSw
                  obtain ⟨c0, c1, c2, e0, e1, e2, e3, e4, e5⟩ := CC.out _ hSw
                  go_simp
                  try with_reducible rfl
                (try simp only [Act.put, List.getElem_toArray, List.getElem_cons_succ, List.getElem_cons_zero, List.setIfInBounds_toArray, List.set_cons_zero, List.set_cons_succ])
                refine wpAnyH_take (i := 2) (v := ?_) rfl (by kernel_rfl) (by kernel_rfl) (by kernel_rfl) (fun _ _ _ h => h) (Or.inl ⟨by rfl, ?_⟩) (by assumption) ?_
                rotate_left
                · intro w' hSw
                  obtain ⟨c0, c1, c2, e0, e1, e2, e3, e4, e5⟩ := CC.out _ hSw
                  go_simp
                  try with_reducible rfl
                (try simp only [Act.put, List.getElem_toArray, List.getElem_cons_succ, List.getElem_cons_zero, List.setIfInBounds_toArray, List.set_cons_zero, List.set_cons_succ])
                refine wpAnyH_take (i := 3) (v := ?_) rfl (by kernel_rfl) (by kernel_rfl) (by kernel_rfl) (fun _ _ _ h => h) (Or.inl ⟨by rfl, ?_⟩) (by assumption) ?_
                rotate_left
                · intro w' hSw
                  obtain ⟨c0, c1, c2, e0, e1, e2, e3, e4, e5⟩ := CC.out _ hSw
                  go_simp
                  try with_reducible rfl
                (try simp only [Act.put, List.getElem_toArray, List.getElem_cons_succ, List.getElem_cons_zero, List.setIfInBounds_toArray, List.set_cons_zero, List.set_cons_succ])
                refine wpAnyH_take (i := 4) (v := ?_) rfl (by kernel_rfl) (by kernel_rfl) (by kernel_rfl) (fun _ _ _ h => h) (Or.inl ⟨by rfl, ?_⟩) (by assumption) ?_
                rotate_left
                · intro w' hSw
                  obtain ⟨c0, c1, c2, e0, e1, e2, e3, e4, e5⟩ := CC.out _ hSw
                  go_simp
                  try with_reducible rfl
                (try simp only [Act.put, List.getElem_toArray, List.getElem_cons_succ, List.getElem_cons_zero, List.setIfInBounds_toArray, List.set_cons_zero, List.set_cons_succ])
                refine wpAnyH_take (i := 7) (v := ?_) rfl (by kernel_rfl) (by kernel_rfl) (by kernel_rfl) (fun _ _ _ h => h) (Or.inl ⟨by rfl, ?_⟩) (by assumption) ?_
                rotate_left
                · intro w' hSw
                  obtain ⟨c0, c1, c2, e0, e1, e2, e3, e4, e5⟩ := CC.out _ hSw
                  go_simp
                  try with_reducible rfl
                (try simp only [Act.put, List.getElem_toArray, List.getElem_cons_succ, List.getElem_cons_zero, List.setIfInBounds_toArray, List.set_cons_zero, List.set_cons_succ])
                refine wpAnyH_take (i := 8) (v := ?_) rfl (by kernel_rfl) (by kernel_rfl) (by kernel_rfl) (fun _ _ _ h => h) (Or.inl ⟨by rfl, ?_⟩) (by assumption) ?_
                rotate_left
                · intro w' hSw
                  obtain ⟨c0, c1, c2, e0, e1, e2, e3, e4, e5⟩ := CC.out _ hSw
                  go_simp
                  try with_reducible rfl
                (try simp only [Act.put, List.getElem_toArray, List.getElem_cons_succ, List.getElem_cons_zero, List.setIfInBounds_toArray, List.set_cons_zero, List.set_cons_succ])
                clear hHeld
                obtain ⟨W_0, hW_0⟩ : ∃ W, wr.drew = W := ⟨_, rfl⟩
                rw [hW_0] at hs ⊢
                clear hW_0
                refine wpAnyH_ready (rs := [5, 16]) (by kernel_rfl) (by simp) ?_
                refine AllReadyH.cons rfl (fun K hK => ?_) ?_
                · go_simp
                  go_wp2_with (go_at_call 79; (with_reducible refine (RS.out _).mono ?_); rintro e W_1 ⟨rfl, hst⟩)
                  refine hK.out _ _ (bt hs hst) (fun hHeld => ?_)
                  clear hK K
                  (try simp only [List.setIfInBounds_toArray, List.set_cons_zero, List.set_cons_succ])
                  have hsn := bt hs hst
                  clear hs hHeld
                  have hs := hsn
                  clear hsn hst
                  refine wpAnyH_take (i := 6) (v := ?_) rfl (by kernel_rfl) (by kernel_rfl) (by kernel_rfl) (fun _ _ _ h => h) (Or.inl ⟨by rfl, ?_⟩) (by assumption) ?_
                  rotate_left
                  · intro w' hSw
                    skip
                    go_simp
                    try with_reducible rfl
                  (try simp only [Act.put, List.getElem_toArray, List.getElem_cons_succ, List.getElem_cons_zero, List.setIfInBounds_toArray, List.set_cons_zero, List.set_cons_succ])
                  refine wpAnyH_take (i := 9) (v := ?_) rfl (by kernel_rfl) (by kernel_rfl) (by kernel_rfl) (fun _ _ _ h => h) (Or.inl ⟨by rfl, ?_⟩) (by assumption) ?_
                  rotate_left
                  · intro w' hSw
                    skip
                    go_simp
                    try with_reducible rfl
                  (try simp only [Act.put, List.getElem_toArray, List.getElem_cons_succ, List.getElem_cons_zero, List.setIfInBounds_toArray, List.set_cons_zero, List.set_cons_succ])
                  refine wpAnyH_take (i := 10) (v := undef) rfl (by kernel_rfl) (by kernel_rfl) (by kernel_rfl) (fun _ _ _ h => h) (Or.inr ⟨by rfl, rfl⟩) (by assumption) ?_
                  (try simp only [Act.put, List.getElem_toArray, List.getElem_cons_succ, List.getElem_cons_zero, List.setIfInBounds_toArray, List.set_cons_zero, List.set_cons_succ])
                  refine wpAnyH_take (i := 11) (v := undef) rfl (by kernel_rfl) (by kernel_rfl) (by kernel_rfl) (fun _ _ _ h => h) (Or.inr ⟨by rfl, rfl⟩) (by assumption) ?_
                  (try simp only [Act.put, List.getElem_toArray, List.getElem_cons_succ, List.getElem_cons_zero, List.setIfInBounds_toArray, List.set_cons_zero, List.set_cons_succ])
                  refine wpAnyH_take (i := 12) (v := undef) rfl (by kernel_rfl) (by kernel_rfl) (by kernel_rfl) (fun _ _ _ h => h) (Or.inr ⟨by rfl, rfl⟩) (by assumption) ?_
                  (try simp only [Act.put, List.getElem_toArray, List.getElem_cons_succ, List.getElem_cons_zero, List.setIfInBounds_toArray, List.set_cons_zero, List.set_cons_succ])
                  refine wpAnyH_take (i := 13) (v := undef) rfl (by kernel_rfl) (by kernel_rfl) (by kernel_rfl) (fun _ _ _ h => h) (Or.inr ⟨by rfl, rfl⟩) (by assumption) ?_
                  (try simp only [Act.put, List.getElem_toArray, List.getElem_cons_succ, List.getElem_cons_zero, List.setIfInBounds_toArray, List.set_cons_zero, List.set_cons_succ])
                  refine wpAnyH_take (i := 14) (v := ?_) rfl (by kernel_rfl) (by kernel_rfl) (by kernel_rfl) (fun _ _ _ h => h) (Or.inl ⟨by rfl, ?_⟩) (by assumption) ?_
                  rotate_left
                  · intro w' hSw
                    skip
                    go_simp
                    try with_reducible rfl
                  (try simp only [Act.put, List.getElem_toArray, List.getElem_cons_succ, List.getElem_cons_zero, List.setIfInBounds_toArray, List.set_cons_zero, List.set_cons_succ])
                  refine wpAnyH_take (i := 15) (v := ?_) rfl (by kernel_rfl) (by kernel_rfl) (by kernel_rfl) (fun _ _ _ h => h) (Or.inl ⟨by rfl, ?_⟩) (by assumption) ?_
                  rotate_left
                  · intro w' hSw
                    skip
                    go_simp
                    try with_reducible rfl
                  (try simp only [Act.put, List.getElem_toArray, List.getElem_cons_succ, List.getElem_cons_zero, List.setIfInBounds_toArray, List.set_cons_zero, List.set_cons_succ])
                  refine wpAnyH_ready (rs := [16]) (by kernel_rfl) (by simp) ?_
                  refine AllReadyH.cons rfl (fun K hK => ?_) ?_
                  · go_simp
                    refine hK.out _ _ (bt hs (ba _ _)) (fun hHeld => ?_)
                    clear hK K
                    (try simp only [List.setIfInBounds_toArray, List.set_cons_zero, List.set_cons_succ])
                    have nb := heap_alloc_new W_1 (.cells #[.bool false, .int .i64 0, .bool false, .bool false, .bool false, .slice none 0 0] 51)
                    have hlo := hs.size
                    have hsn := bt hs (ba W_1 (.cells #[.bool false, .int .i64 0, .bool false, .bool false, .bool false, .slice none 0 0] 51))
                    obtain ⟨g2, hg2'⟩ : ∃ g, W_1.heap.size = g := ⟨_, rfl⟩
                    obtain ⟨W_2, hW⟩ : ∃ W, W_1.alloc (.cells #[.bool false, .int .i64 0, .bool false, .bool false, .bool false, .slice none 0 0] 51) = W := ⟨_, rfl⟩
                    rw [hW] at nb hsn ⊢
                    rw [hg2'] at nb hlo ⊢
                    have bk : Blk W_2 g2 51 #[.bool false, .int .i64 0, .bool false, .bool false, .bool false, .slice none 0 0] := nb
                    clear nb hs hHeld
                    have hs := hsn
                    clear hsn hW hg2'
                    refine wpAnyH_ready (rs := [17]) (by kernel_rfl) (by simp) ?_
                    refine AllReadyH.cons rfl (fun K hK => ?_) ?_
                    · have b0 := bk.cell 0
                      have b1 := bk.cell 1
                      have b2 := bk.cell 2
                      have b3 := bk.cell 3
                      have b4 := bk.cell 4
                      have b5 := bk.cell 5
                      have e0 := bk.frozen 0
                      have e1 := bk.frozen 1
                      have e2 := bk.frozen 2
                      have e3 := bk.frozen 3
                      have e4 := bk.frozen 4
                      have e5 := bk.frozen 5
                      have el := bk.lt
                      simp at b0 b1 b2 b3 b4 b5
                      have bk1 := ((((((bk.set_ 0 (.bool false)).set_ 1 (.int .i64 zv)).set_ 2 (.bool zd)).set_ 3 (.bool zt)).set_ 4 (.bool (!r0))).set_ 5 (.slice none 0 0))
                      have hsn := ((((((hs.setCell (p := ⟨g2, 0, none⟩) hlo (.bool false)).setCell (p := ⟨g2, 1, none⟩) hlo (.int .i64 zv)).setCell (p := ⟨g2, 2, none⟩) hlo (.bool zd)).setCell (p := ⟨g2, 3, none⟩) hlo (.bool zt)).setCell (p := ⟨g2, 4, none⟩) hlo (.bool (!r0))).setCell (p := ⟨g2, 5, none⟩) hlo (.slice none 0 0))
                      go_simp
                      refine hK.out _ _ hsn (fun hHeld => ?_)
                      clear hK K
                      (try simp only [List.setIfInBounds_toArray, List.set_cons_zero, List.set_cons_succ])
                      obtain ⟨W_3, hW⟩ : ∃ W, ((((((W_2.setCell ⟨g2, 0, none⟩ (.bool false)).setCell ⟨g2, 1, none⟩ (.int .i64 zv)).setCell ⟨g2, 2, none⟩ (.bool zd)).setCell ⟨g2, 3, none⟩ (.bool zt)).setCell ⟨g2, 4, none⟩ (.bool (!r0))).setCell ⟨g2, 5, none⟩ (.slice none 0 0)) = W := ⟨_, rfl⟩
                      rw [hW] at hsn bk1 hHeld ⊢
                      clear hs bk b0 b1 b2 b3 b4 b5 e0 e1 e2 e3 e4 e5 el hW
                      have bk : Blk W_3 g2 51 #[.bool false, .int .i64 zv, .bool zd, .bool zt, .bool (!r0), .slice none 0 0] := by simpa using bk1
                      have hs := hsn
                      clear hsn bk1
                      refine wpAnyH_done (by kernel_rfl) ?_ _
                      go_wp2_with (fail)
                      go_meet
                      exact ⟨g2, rfl, hlo, bk, hs⟩
                    exact AllReadyH.nil
                  exact AllReadyH.nil
                refine AllReadyH.cons rfl (fun K hK => ?_) ?_
                · go_simp
                  refine hK.out _ _ (bt hs (ba _ _)) (fun hHeld => ?_)
                  clear hK K
                  (try simp only [List.setIfInBounds_toArray, List.set_cons_zero, List.set_cons_succ])
                  have nb := heap_alloc_new W_0 (.cells #[.bool false, .int .i64 0, .bool false, .bool false, .bool false, .slice none 0 0] 51)
                  have hlo := hs.size
                  have hsn := bt hs (ba W_0 (.cells #[.bool false, .int .i64 0, .bool false, .bool false, .bool false, .slice none 0 0] 51))
                  obtain ⟨g2, hg2'⟩ : ∃ g, W_0.heap.size = g := ⟨_, rfl⟩
                  obtain ⟨W_1, hW⟩ : ∃ W, W_0.alloc (.cells #[.bool false, .int .i64 0, .bool false, .bool false, .bool false, .slice none 0 0] 51) = W := ⟨_, rfl⟩
                  rw [hW] at nb hsn ⊢
                  rw [hg2'] at nb hlo ⊢
                  have bk : Blk W_1 g2 51 #[.bool false, .int .i64 0, .bool false, .bool false, .bool false, .slice none 0 0] := nb
                  clear nb hs hHeld
                  have hs := hsn
                  clear hsn hW hg2'
                  refine wpAnyH_ready (rs := [5]) (by kernel_rfl) (by simp) ?_
                  refine AllReadyH.cons rfl (fun K hK => ?_) ?_
                  · go_simp
                    go_wp2_with (go_at_call 79; (with_reducible refine (RS.out _).mono ?_); rintro e W_2 ⟨rfl, hst⟩)
                    refine hK.out _ _ (bt hs hst) (fun hHeld => ?_)
                    clear hK K
                    (try simp only [List.setIfInBounds_toArray, List.set_cons_zero, List.set_cons_succ])
                    replace bk := Blk.below bk hst
                    have hsn := bt hs hst
                    clear hs hHeld
                    have hs := hsn
                    clear hsn hst
                    refine wpAnyH_take (i := 6) (v := ?_) rfl (by kernel_rfl) (by kernel_rfl) (by kernel_rfl) (fun _ _ _ h => h) (Or.inl ⟨by rfl, ?_⟩) (by assumption) ?_
                    rotate_left
                    · intro w' hSw
                      skip
                      go_simp
                      try with_reducible rfl
                    (try simp only [Act.put, List.getElem_toArray, List.getElem_cons_succ, List.getElem_cons_zero, List.setIfInBounds_toArray, List.set_cons_zero, List.set_cons_succ])
                    refine wpAnyH_take (i := 9) (v := ?_) rfl (by kernel_rfl) (by kernel_rfl) (by kernel_rfl) (fun _ _ _ h => h) (Or.inl ⟨by rfl, ?_⟩) (by assumption) ?_
                    rotate_left
                    · intro w' hSw
                      skip
                      go_simp
                      try with_reducible rfl
                    (try simp only [Act.put, List.getElem_toArray, List.getElem_cons_succ, List.getElem_cons_zero, List.setIfInBounds_toArray, List.set_cons_zero, List.set_cons_succ])
                    refine wpAnyH_take (i := 10) (v := undef) rfl (by kernel_rfl) (by kernel_rfl) (by kernel_rfl) (fun _ _ _ h => h) (Or.inr ⟨by rfl, rfl⟩) (by assumption) ?_
                    (try simp only [Act.put, List.getElem_toArray, List.getElem_cons_succ, List.getElem_cons_zero, List.setIfInBounds_toArray, List.set_cons_zero, List.set_cons_succ])
                    refine wpAnyH_take (i := 11) (v := undef) rfl (by kernel_rfl) (by kernel_rfl) (by kernel_rfl) (fun _ _ _ h => h) (Or.inr ⟨by rfl, rfl⟩) (by assumption) ?_
                    (try simp only [Act.put, List.getElem_toArray, List.getElem_cons_succ, List.getElem_cons_zero, List.setIfInBounds_toArray, List.set_cons_zero, List.set_cons_succ])
                    refine wpAnyH_take (i := 12) (v := undef) rfl (by kernel_rfl) (by kernel_rfl) (by kernel_rfl) (fun _ _ _ h => h) (Or.inr ⟨by rfl, rfl⟩) (by assumption) ?_
                    (try simp only [Act.put, List.getElem_toArray, List.getElem_cons_succ, List.getElem_cons_zero, List.setIfInBounds_toArray, List.set_cons_zero, List.set_cons_succ])
                    refine wpAnyH_take (i := 13) (v := undef) rfl (by kernel_rfl) (by kernel_rfl) (by kernel_rfl) (fun _ _ _ h => h) (Or.inr ⟨by rfl, rfl⟩) (by assumption) ?_
                    (try simp only [Act.put, List.getElem_toArray, List.getElem_cons_succ, List.getElem_cons_zero, List.setIfInBounds_toArray, List.set_cons_zero, List.set_cons_succ])
                    refine wpAnyH_take (i := 14) (v := ?_) rfl (by kernel_rfl) (by kernel_rfl) (by kernel_rfl) (fun _ _ _ h => h) (Or.inl ⟨by rfl, ?_⟩) (by assumption) ?_
                    rotate_left
                    · intro w' hSw
                      skip
                      go_simp
                      try with_reducible rfl
                    (try simp only [Act.put, List.getElem_toArray, List.getElem_cons_succ, List.getElem_cons_zero, List.setIfInBounds_toArray, List.set_cons_zero, List.set_cons_succ])
                    refine wpAnyH_take (i := 15) (v := ?_) rfl (by kernel_rfl) (by kernel_rfl) (by kernel_rfl) (fun _ _ _ h => h) (Or.inl ⟨by rfl, ?_⟩) (by assumption) ?_
                    rotate_left
                    · intro w' hSw
                      skip
                      go_simp
                      try with_reducible rfl
                    (try simp only [Act.put, List.getElem_toArray, List.getElem_cons_succ, List.getElem_cons_zero, List.setIfInBounds_toArray, List.set_cons_zero, List.set_cons_succ])
                    refine wpAnyH_ready (rs := [17]) (by kernel_rfl) (by simp) ?_
                    refine AllReadyH.cons rfl (fun K hK => ?_) ?_
                    · have b0 := bk.cell 0
                      have b1 := bk.cell 1
                      have b2 := bk.cell 2
                      have b3 := bk.cell 3
                      have b4 := bk.cell 4
                      have b5 := bk.cell 5
                      have e0 := bk.frozen 0
                      have e1 := bk.frozen 1
                      have e2 := bk.frozen 2
                      have e3 := bk.frozen 3
                      have e4 := bk.frozen 4
                      have e5 := bk.frozen 5
                      have el := bk.lt
                      simp at b0 b1 b2 b3 b4 b5
                      have bk1 := ((((((bk.set_ 0 (.bool false)).set_ 1 (.int .i64 zv)).set_ 2 (.bool zd)).set_ 3 (.bool zt)).set_ 4 (.bool (!r0))).set_ 5 (.slice none 0 0))
                      have hsn := ((((((hs.setCell (p := ⟨g2, 0, none⟩) hlo (.bool false)).setCell (p := ⟨g2, 1, none⟩) hlo (.int .i64 zv)).setCell (p := ⟨g2, 2, none⟩) hlo (.bool zd)).setCell (p := ⟨g2, 3, none⟩) hlo (.bool zt)).setCell (p := ⟨g2, 4, none⟩) hlo (.bool (!r0))).setCell (p := ⟨g2, 5, none⟩) hlo (.slice none 0 0))
                      go_simp
                      refine hK.out _ _ hsn (fun hHeld => ?_)
                      clear hK K
                      (try simp only [List.setIfInBounds_toArray, List.set_cons_zero, List.set_cons_succ])
                      obtain ⟨W_3, hW⟩ : ∃ W, ((((((W_2.setCell ⟨g2, 0, none⟩ (.bool false)).setCell ⟨g2, 1, none⟩ (.int .i64 zv)).setCell ⟨g2, 2, none⟩ (.bool zd)).setCell ⟨g2, 3, none⟩ (.bool zt)).setCell ⟨g2, 4, none⟩ (.bool (!r0))).setCell ⟨g2, 5, none⟩ (.slice none 0 0)) = W := ⟨_, rfl⟩
                      rw [hW] at hsn bk1 hHeld ⊢
                      clear hs bk b0 b1 b2 b3 b4 b5 e0 e1 e2 e3 e4 e5 el hW
                      have bk : Blk W_3 g2 51 #[.bool false, .int .i64 zv, .bool zd, .bool zt, .bool (!r0), .slice none 0 0] := by simpa using bk1
                      have hs := hsn
                      clear hsn bk1
                      refine wpAnyH_done (by kernel_rfl) ?_ _
                      go_wp2_with (fail)
                      go_meet
                      exact ⟨g2, rfl, hlo, bk, hs⟩
                    exact AllReadyH.nil
                  exact AllReadyH.nil
                exact AllReadyH.nil
              case rest =>
                obtain ⟨g2, rfl, HG2⟩ := hcut
                have hbr := HBr.out.below HG2.out.2.2
                have hxc := HG2.out.2.1
                by_cases hm0 : m = 0
                · subst hm0
                  have x4 := hxc.cell 4
                  have x5 := hxc.cell 5
                  have y4 := hxc.frozen 4
                  have y5 := hxc.frozen 5
                  have r4 := hbr.cell 4
                  have r5 := hbr.cell 5
                  have rlt := hbr.lt
                  simp at x4 x5 r4 r5
                  have hne2 : w.heap.size ≠ g2 := by have := HG2.out.1; have := HOW0.out.1.low.size; omega
                  have hs2 := (HG2.out.2.2.setCell (p := ⟨g2, 4, none⟩) HG2.out.1 (.bool yi)).setCell (p := ⟨g2, 5, none⟩) HG2.out.1 (.slice sa yL.length sc)
                  have x0 := hxc.cell 0
                  have x1 := hxc.cell 1
                  have x2 := hxc.cell 2
                  have x3 := hxc.cell 3


                  have xlt := hxc.lt
                  simp at x0 x1 x2 x3
                  have hs3 := bt hs2 (ba ((wc.setCell ⟨g2, 4, none⟩ (.bool yi)).setCell ⟨g2, 5, none⟩ (.slice sa yL.length sc)) (.cells #[.bool false, .int .i64 zv, .bool zd, .bool zt, .bool yi, .slice sa yL.length sc] 51))
                  have hrow := (HOW0.out.1.below hs3).own
                  have HROW := Lib.hid hrow
                  have HS3 := Lib.hid hs3
                  have HS2 := Lib.hid hs2
                  obtain ⟨gN, hgN⟩ : ∃ g, (((wc.setCell ⟨g2, 4, none⟩ (.bool yi)).setCell ⟨g2, 5, none⟩ (.slice sa yL.length sc))).heap.size = g := ⟨_, rfl⟩
                  have hd1 := World.news_of_block (heap_alloc_new ((wc.setCell ⟨g2, 4, none⟩ (.bool yi)).setCell ⟨g2, 5, none⟩ (.slice sa yL.length sc)) (.cells #[.bool false, .int .i64 zv, .bool zd, .bool zt, .bool yi, .slice sa yL.length sc] 51))
                  have hgN2 : wc.heap.size = gN := by rw [← hgN]; simp
                  rw [hgN] at hd1
                  obtain rfl := hgN2
                  have HD1 := Lib.hid hd1
                  clear hrow hs3 hs2 hxc hbr hd1 hgN
                  go_wp2_with (at_builtin; go_loud (refine wpList_append_own _ rfl _ _ 26 rfl W1.heap.size 51 i0 _ 6 56 Tryd.underlying26 ii1 ii2 ii3 ii4 rfl (by decide) (.slice A 0 c) 0 _ rfl HROW.out ⟨wc.heap.size, 0, none⟩ 1 1 [.bool false, .int .i64 zv, .bool zd, .bool zt, .bool yi, .slice sa yL.length sc] rfl rfl HD1.out ?d2 (by unfold maxLen; omega) (by omega) (by have := HS3.out.size; have := HOW0.out.1.low.size; omega) ?_))
                  case d2 => exact ⟨rfl, rfl, rfl, rfl, rfl, rfl⟩
                  intro v' w6 hown' hgrow _
                  obtain ⟨A6, c6, rfl, hO6⟩ := Own1.stepN (HOW0.out.1.below HS2.out) (Below.refl _ _) rfl hown' hgrow
                  have hS7 := And.intro hO6 (And.intro ((HOW0.out.2.1.blk (fun _ _ h => h.below HS3.out)).blk (fun _ _ h => h.grown hgrow (blk_apart h HROW.out (by decide)))) ((HOW0.out.2.2.blk (fun _ _ h => h.below HS3.out)).blk (fun _ _ h => h.grown hgrow (blk_apart h HROW.out (by decide)))))
                  obtain ⟨bb', hbe, hbb', _, d0, d1, d2⟩ := sg_at hS7.2.1 hkl HN5.out
                  have hzD : T.getD k s0g = ⟨zv, zd, zt⟩ := by rw [List.getD_eq_getElem?_getD, HHT.out]; rfl
                  rw [hzD] at d0 d1 d2
                  dsimp only at d0 d1 d2
                  injection hbe with hbe
                  injection hbe with hbe
                  subst hbe
                  have HS7 := Lib.hid hS7
                  clear hS7 hown' hgrow hO6 hzD
                  go_wp2_with (go_at_call 49; (with_reducible refine (rticks_any _ _ _ _).mono ?_); rintro e w7 ⟨rfl, hb7⟩; rw [HTZ.out])
                  go_roundw
                  case rel =>
                    refine ⟨k + 1, g + tz, A6, c6, by omega, by rw [show S.length + (k + 1) = 0 + 1 by have := HM.out; omega], by first | rfl | go_num, by first | rfl | go_num, HGR.out, hgt', ?_⟩
                    unfold Hid
                    rw [show S.length + (k + 1) = 0 + 1 by have := HM.out; omega, HBAR.out.1 (by first | trivial | rfl)]
                    exact ⟨HS7.out.1.below hb7, HS7.out.2.1.blk (fun _ _ h => h.below hb7), HS7.out.2.2.blk (fun _ _ h => h.below hb7)⟩
                  case measure => simp [intOf]; omega
                · have hmz : ((m : Int) == 0) = false := beq_eq_false_iff_ne.2 (by omega)
                  have hmzN : (m == 0) = false := beq_eq_false_iff_ne.2 (by omega)
                  have hs2 := HG2.out.2.2
                  have x0 := hxc.cell 0
                  have x1 := hxc.cell 1
                  have x2 := hxc.cell 2
                  have x3 := hxc.cell 3
                  have x4 := hxc.cell 4
                  have x5 := hxc.cell 5
                  have xlt := hxc.lt
                  simp at x0 x1 x2 x3 x4 x5
                  have hs3 := bt hs2 (ba wc (.cells #[.bool false, .int .i64 zv, .bool zd, .bool zt, .bool (!r0), .slice none 0 0] 51))
                  have hrow := (HOW0.out.1.below hs3).own
                  have HROW := Lib.hid hrow
                  have HS3 := Lib.hid hs3
                  have HS2 := Lib.hid hs2
                  obtain ⟨gN, hgN⟩ : ∃ g, (wc).heap.size = g := ⟨_, rfl⟩
                  have hd1 := World.news_of_block (heap_alloc_new wc (.cells #[.bool false, .int .i64 zv, .bool zd, .bool zt, .bool (!r0), .slice none 0 0] 51))
                  --have hgN2 : wc.heap.size = gN := by rw [← hgN]; simp
                  rw [hgN] at hd1
                  subst hgN
                  have HD1 := Lib.hid hd1
                  clear hrow hs3 hs2 hxc hbr hd1 
                  go_wp2_with (at_builtin; go_loud (refine wpList_append_own _ rfl _ _ 26 rfl W1.heap.size 51 i0 _ 6 56 Tryd.underlying26 ii1 ii2 ii3 ii4 rfl (by decide) (.slice A m c) m _ rfl HROW.out ⟨wc.heap.size, 0, none⟩ 1 1 [.bool false, .int .i64 zv, .bool zd, .bool zt, .bool (!r0), .slice none 0 0] rfl rfl HD1.out ?d2 (by unfold maxLen; omega) (by omega) (by have := HS3.out.size; have := HOW0.out.1.low.size; omega) ?_))
                  case d2 => exact ⟨rfl, rfl, rfl, rfl, rfl, rfl⟩
                  intro v' w6 hown' hgrow _
                  obtain ⟨A6, c6, rfl, hO6⟩ := Own1.stepN (HOW0.out.1.below HS2.out) (Below.refl _ _) rfl hown' hgrow
                  have hS7 := And.intro hO6 (And.intro ((HOW0.out.2.1.blk (fun _ _ h => h.below HS3.out)).blk (fun _ _ h => h.grown hgrow (blk_apart h HROW.out (by decide)))) ((HOW0.out.2.2.blk (fun _ _ h => h.below HS3.out)).blk (fun _ _ h => h.grown hgrow (blk_apart h HROW.out (by decide)))))
                  obtain ⟨bb', hbe, hbb', _, d0, d1, d2⟩ := sg_at hS7.2.1 hkl HN5.out
                  have hzD : T.getD k s0g = ⟨zv, zd, zt⟩ := by rw [List.getD_eq_getElem?_getD, HHT.out]; rfl
                  rw [hzD] at d0 d1 d2
                  dsimp only at d0 d1 d2
                  injection hbe with hbe
                  injection hbe with hbe
                  subst hbe
                  have HS7 := Lib.hid hS7
                  clear hS7 hown' hgrow hO6 hzD
                  go_wp2_with (go_at_call 49; (with_reducible refine (rticks_any _ _ _ _).mono ?_); rintro e w7 ⟨rfl, hb7⟩; rw [HTZ.out])
                  go_roundw
                  case rel =>
                    refine ⟨k + 1, g + tz, A6, c6, by omega, by rw [show S.length + (k + 1) = m + 1 by have := HM.out; omega], by first | rfl | go_num, by first | rfl | go_num, HGR.out, hgt', ?_⟩
                    unfold Hid
                    rw [show S.length + (k + 1) = m + 1 by have := HM.out; omega, HBAR.out.2 hm0]
                    exact ⟨HS7.out.1.below hb7, HS7.out.2.1.blk (fun _ _ h => h.below hb7), HS7.out.2.2.blk (fun _ _ h => h.below hb7)⟩
                  case measure => simp [intOf]; omega
            · have hgd : decide ((0 : Int) < (g : Int)) = true := decide_eq_true (by omega)
              have hgp : (0 : Int) < (g : Int) := by omega
              have hgdN : decide (0 < g) = true := decide_eq_true (by omega)
              have hgpN : 0 < g := by omega
              by_cases hrz : r2 = 0
              · have hrb : ((r2 : Int) == 0) = true := beq_iff_eq.2 (by omega)
                have hrbN : (r2 == 0) = true := beq_iff_eq.2 (by omega)
                have HBAR := Lib.hid (HBN.out true (by rw [hgd, HRM2.out, hrz]; rfl))
                clear hg0 hrz
                go_cut [17] from 51 to 66 (fun s17 wy => ∃ g2 : Nat, s17 = .pointer (some ⟨g2, 0, none⟩) ∧ Hid (wr.heap.size ≤ g2 ∧ Blk wy g2 51 #[.bool true, .int .i64 zv, .bool zd, .bool zt, .bool (!r0), .slice none 0 0] ∧ Below wr.heap.size wr wy))
                case first =>
                  have hs : Below wr.heap.size wr wr.drew := (Below.refl _ _).drew
                  refine wp_region_held_drew (S := fun w' => Below wr.heap.size wr w') (by kernel_rfl) hs (fun hHeld => ?_)
                  change wpAnyH _ _ _ _ _ 18 #[false, false, false, false, false, false, false, false, false, false, false, false, false, false, false, false, false, false] _ _
                  refine wpAnyH_take (i := 0) (v := ?_) rfl (by kernel_rfl) (by kernel_rfl) (by kernel_rfl) (fun _ _ _ h => h) (Or.inl ⟨by rfl, ?_⟩) (by assumption) ?_
                  rotate_left
                  · intro w' hSw
                    obtain ⟨c0, c1, c2, e0, e1, e2, e3, e4, e5⟩ := CC.out _ hSw
                    go_simp
                    try with_reducible rfl
                  (try simp only [Act.put, List.getElem_toArray, List.getElem_cons_zero, List.setIfInBounds_toArray, List.set_cons_zero, List.set_cons_succ])
                  refine wpAnyH_take (i := 1) (v := ?_) rfl (by kernel_rfl) (by kernel_rfl) (by kernel_rfl) (fun _ _ _ h => h) (Or.inl ⟨by rfl, ?_⟩) (by assumption) ?_
                  rotate_left
                  · intro w' hSw
                    obtain ⟨c0, c1, c2, e0, e1, e2, e3, e4, e5⟩ := CC.out _ hSw
                    go_simp
                    try with_reducible rfl
                  (try simp only [Act.put, List.getElem_toArray, List.getElem_cons_succ, List.getElem_cons_zero, List.setIfInBounds_toArray, List.set_cons_zero, List.set_cons_succ])
                  refine wpAnyH_take (i := 2) (v := ?_) rfl (by kernel_rfl) (by kernel_rfl) (by kernel_rfl) (fun _ _ _ h => h) (Or.inl ⟨by rfl, ?_⟩) (by assumption) ?_
                  rotate_left
                  · intro w' hSw
                    obtain ⟨c0, c1, c2, e0, e1, e2, e3, e4, e5⟩ := CC.out _ hSw
                    go_simp
                    try with_reducible rfl
                  (try simp only [Act.put, List.getElem_toArray, List.getElem_cons_succ, List.getElem_cons_zero, List.setIfInBounds_toArray, List.set_cons_zero, List.set_cons_succ])
                  refine wpAnyH_take (i := 3) (v := ?_) rfl (by kernel_rfl) (by kernel_rfl) (by kernel_rfl) (fun _ _ _ h => h) (Or.inl ⟨by rfl, ?_⟩) (by assumption) ?_
                  rotate_left
                  · intro w' hSw
                    obtain ⟨c0, c1, c2, e0, e1, e2, e3, e4, e5⟩ := CC.out _ hSw
                    go_simp
                    try with_reducible rfl
                  (try simp only [Act.put, List.getElem_toArray, List.getElem_cons_succ, List.getElem_cons_zero, List.setIfInBounds_toArray, List.set_cons_zero, List.set_cons_succ])
                  refine wpAnyH_take (i := 4) (v := ?_) rfl (by kernel_rfl) (by kernel_rfl) (by kernel_rfl) (fun _ _ _ h => h) (Or.inl ⟨by rfl, ?_⟩) (by assumption) ?_
                  rotate_left
                  · intro w' hSw
                    obtain ⟨c0, c1, c2, e0, e1, e2, e3, e4, e5⟩ := CC.out _ hSw
                    go_simp
                    try with_reducible rfl
                  (try simp only [Act.put, List.getElem_toArray, List.getElem_cons_succ, List.getElem_cons_zero, List.setIfInBounds_toArray, List.set_cons_zero, List.set_cons_succ])
                  refine wpAnyH_take (i := 7) (v := ?_) rfl (by kernel_rfl) (by kernel_rfl) (by kernel_rfl) (fun _ _ _ h => h) (Or.inl ⟨by rfl, ?_⟩) (by assumption) ?_
                  rotate_left
                  · intro w' hSw
                    obtain ⟨c0, c1, c2, e0, e1, e2, e3, e4, e5⟩ := CC.out _ hSw
                    go_simp
                    try with_reducible rfl
                  (try simp only [Act.put, List.getElem_toArray, List.getElem_cons_succ, List.getElem_cons_zero, List.setIfInBounds_toArray, List.set_cons_zero, List.set_cons_succ])
                  refine wpAnyH_take (i := 8) (v := ?_) rfl (by kernel_rfl) (by kernel_rfl) (by kernel_rfl) (fun _ _ _ h => h) (Or.inl ⟨by rfl, ?_⟩) (by assumption) ?_
                  rotate_left
                  · intro w' hSw
                    obtain ⟨c0, c1, c2, e0, e1, e2, e3, e4, e5⟩ := CC.out _ hSw
                    go_simp
                    try with_reducible rfl
                  (try simp only [Act.put, List.getElem_toArray, List.getElem_cons_succ, List.getElem_cons_zero, List.setIfInBounds_toArray, List.set_cons_zero, List.set_cons_succ])
                  clear hHeld
                  obtain ⟨W_0, hW_0⟩ : ∃ W, wr.drew = W := ⟨_, rfl⟩
                  rw [hW_0] at hs ⊢
                  clear hW_0
                  refine wpAnyH_ready (rs := [5, 16]) (by kernel_rfl) (by simp) ?_
                  refine AllReadyH.cons rfl (fun K hK => ?_) ?_
                  · go_simp
                    go_wp2_with (go_at_call 79; (with_reducible refine (RS.out _).mono ?_); rintro e W_1 ⟨rfl, hst⟩)
                    refine hK.out _ _ (bt hs hst) (fun hHeld => ?_)
                    clear hK K
                    (try simp only [List.setIfInBounds_toArray, List.set_cons_zero, List.set_cons_succ])
                    have hsn := bt hs hst
                    clear hs hHeld
                    have hs := hsn
                    clear hsn hst
                    refine wpAnyH_take (i := 6) (v := ?_) rfl (by kernel_rfl) (by kernel_rfl) (by kernel_rfl) (fun _ _ _ h => h) (Or.inl ⟨by rfl, ?_⟩) (by assumption) ?_
                    rotate_left
                    · intro w' hSw
                      skip
                      go_simp
                      try with_reducible rfl
                    (try simp only [Act.put, List.getElem_toArray, List.getElem_cons_succ, List.getElem_cons_zero, List.setIfInBounds_toArray, List.set_cons_zero, List.set_cons_succ])
                    refine wpAnyH_take (i := 9) (v := ?_) rfl (by kernel_rfl) (by kernel_rfl) (by kernel_rfl) (fun _ _ _ h => h) (Or.inl ⟨by rfl, ?_⟩) (by assumption) ?_
                    rotate_left
                    · intro w' hSw
                      skip
                      go_simp
                      try with_reducible rfl
                    (try simp only [Act.put, List.getElem_toArray, List.getElem_cons_succ, List.getElem_cons_zero, List.setIfInBounds_toArray, List.set_cons_zero, List.set_cons_succ])
                    refine wpAnyH_take (i := 10) (v := ?_) rfl (by kernel_rfl) (by kernel_rfl) (by kernel_rfl) (fun _ _ _ h => h) (Or.inl ⟨by rfl, ?_⟩) (by assumption) ?_
                    rotate_left
                    · intro w' hSw
                      skip
                      go_simp
                      try with_reducible rfl
                    (try simp only [Act.put, List.getElem_toArray, List.getElem_cons_succ, List.getElem_cons_zero, List.setIfInBounds_toArray, List.set_cons_zero, List.set_cons_succ])
                    refine wpAnyH_take (i := 11) (v := ?_) rfl (by kernel_rfl) (by kernel_rfl) (by kernel_rfl) (fun _ _ _ h => h) (Or.inl ⟨by rfl, ?_⟩) (by assumption) ?_
                    rotate_left
                    · intro w' hSw
                      skip
                      go_simp
                      try with_reducible rfl
                    (try simp only [Act.put, List.getElem_toArray, List.getElem_cons_succ, List.getElem_cons_zero, List.setIfInBounds_toArray, List.set_cons_zero, List.set_cons_succ])
                    refine wpAnyH_take (i := 12) (v := ?_) rfl (by kernel_rfl) (by kernel_rfl) (by kernel_rfl) (fun _ _ _ h => h) (Or.inl ⟨by rfl, ?_⟩) (by assumption) ?_
                    rotate_left
                    · intro w' hSw
                      skip
                      go_simp
                      try with_reducible rfl
                    (try simp only [Act.put, List.getElem_toArray, List.getElem_cons_succ, List.getElem_cons_zero, List.setIfInBounds_toArray, List.set_cons_zero, List.set_cons_succ])
                    refine wpAnyH_take (i := 13) (v := ?_) rfl (by kernel_rfl) (by kernel_rfl) (by kernel_rfl) (fun _ _ _ h => h) (Or.inl ⟨by rfl, ?_⟩) (by assumption) ?_
                    rotate_left
                    · intro w' hSw
                      skip
                      go_simp
                      try with_reducible rfl
                    (try simp only [Act.put, List.getElem_toArray, List.getElem_cons_succ, List.getElem_cons_zero, List.setIfInBounds_toArray, List.set_cons_zero, List.set_cons_succ])
                    refine wpAnyH_take (i := 14) (v := ?_) rfl (by kernel_rfl) (by kernel_rfl) (by kernel_rfl) (fun _ _ _ h => h) (Or.inl ⟨by rfl, ?_⟩) (by assumption) ?_
                    rotate_left
                    · intro w' hSw
                      skip
                      go_simp
                      try with_reducible rfl
                    (try simp only [Act.put, List.getElem_toArray, List.getElem_cons_succ, List.getElem_cons_zero, List.setIfInBounds_toArray, List.set_cons_zero, List.set_cons_succ])
                    refine wpAnyH_take (i := 15) (v := ?_) rfl (by kernel_rfl) (by kernel_rfl) (by kernel_rfl) (fun _ _ _ h => h) (Or.inl ⟨by rfl, ?_⟩) (by assumption) ?_
                    rotate_left
                    · intro w' hSw
                      skip
                      go_simp
                      try with_reducible rfl
                    (try simp only [Act.put, List.getElem_toArray, List.getElem_cons_succ, List.getElem_cons_zero, List.setIfInBounds_toArray, List.set_cons_zero, List.set_cons_succ])
                    refine wpAnyH_ready (rs := [16]) (by kernel_rfl) (by simp) ?_
                    refine AllReadyH.cons rfl (fun K hK => ?_) ?_
                    · go_simp
                      refine hK.out _ _ (bt hs (ba _ _)) (fun hHeld => ?_)
                      clear hK K
                      (try simp only [List.setIfInBounds_toArray, List.set_cons_zero, List.set_cons_succ])
                      have nb := heap_alloc_new W_1 (.cells #[.bool false, .int .i64 0, .bool false, .bool false, .bool false, .slice none 0 0] 51)
                      have hlo := hs.size
                      have hsn := bt hs (ba W_1 (.cells #[.bool false, .int .i64 0, .bool false, .bool false, .bool false, .slice none 0 0] 51))
                      obtain ⟨g2, hg2'⟩ : ∃ g, W_1.heap.size = g := ⟨_, rfl⟩
                      obtain ⟨W_2, hW⟩ : ∃ W, W_1.alloc (.cells #[.bool false, .int .i64 0, .bool false, .bool false, .bool false, .slice none 0 0] 51) = W := ⟨_, rfl⟩
                      rw [hW] at nb hsn ⊢
                      rw [hg2'] at nb hlo ⊢
                      have bk : Blk W_2 g2 51 #[.bool false, .int .i64 0, .bool false, .bool false, .bool false, .slice none 0 0] := nb
                      clear nb hs hHeld
                      have hs := hsn
                      clear hsn hW hg2'
                      refine wpAnyH_ready (rs := [17]) (by kernel_rfl) (by simp) ?_
                      refine AllReadyH.cons rfl (fun K hK => ?_) ?_
                      · have b0 := bk.cell 0
                        have b1 := bk.cell 1
                        have b2 := bk.cell 2
                        have b3 := bk.cell 3
                        have b4 := bk.cell 4
                        have b5 := bk.cell 5
                        have e0 := bk.frozen 0
                        have e1 := bk.frozen 1
                        have e2 := bk.frozen 2
                        have e3 := bk.frozen 3
                        have e4 := bk.frozen 4
                        have e5 := bk.frozen 5
                        have el := bk.lt
                        simp at b0 b1 b2 b3 b4 b5
                        have bk1 := ((((((bk.set_ 0 (.bool true)).set_ 1 (.int .i64 zv)).set_ 2 (.bool zd)).set_ 3 (.bool zt)).set_ 4 (.bool (!r0))).set_ 5 (.slice none 0 0))
                        have hsn := ((((((hs.setCell (p := ⟨g2, 0, none⟩) hlo (.bool true)).setCell (p := ⟨g2, 1, none⟩) hlo (.int .i64 zv)).setCell (p := ⟨g2, 2, none⟩) hlo (.bool zd)).setCell (p := ⟨g2, 3, none⟩) hlo (.bool zt)).setCell (p := ⟨g2, 4, none⟩) hlo (.bool (!r0))).setCell (p := ⟨g2, 5, none⟩) hlo (.slice none 0 0))
                        go_simp
                        refine hK.out _ _ hsn (fun hHeld => ?_)
                        clear hK K
                        (try simp only [List.setIfInBounds_toArray, List.set_cons_zero, List.set_cons_succ])
                        obtain ⟨W_3, hW⟩ : ∃ W, ((((((W_2.setCell ⟨g2, 0, none⟩ (.bool true)).setCell ⟨g2, 1, none⟩ (.int .i64 zv)).setCell ⟨g2, 2, none⟩ (.bool zd)).setCell ⟨g2, 3, none⟩ (.bool zt)).setCell ⟨g2, 4, none⟩ (.bool (!r0))).setCell ⟨g2, 5, none⟩ (.slice none 0 0)) = W := ⟨_, rfl⟩
                        rw [hW] at hsn bk1 hHeld ⊢
                        clear hs bk b0 b1 b2 b3 b4 b5 e0 e1 e2 e3 e4 e5 el hW
                        have bk : Blk W_3 g2 51 #[.bool true, .int .i64 zv, .bool zd, .bool zt, .bool (!r0), .slice none 0 0] := by simpa using bk1
                        have hs := hsn
                        clear hsn bk1
                        refine wpAnyH_done (by kernel_rfl) ?_ _
                        go_wp2_with (fail)
                        go_meet
                        exact ⟨g2, rfl, hlo, bk, hs⟩
                      exact AllReadyH.nil
                    exact AllReadyH.nil
                  refine AllReadyH.cons rfl (fun K hK => ?_) ?_
                  · go_simp
                    refine hK.out _ _ (bt hs (ba _ _)) (fun hHeld => ?_)
                    clear hK K
                    (try simp only [List.setIfInBounds_toArray, List.set_cons_zero, List.set_cons_succ])
                    have nb := heap_alloc_new W_0 (.cells #[.bool false, .int .i64 0, .bool false, .bool false, .bool false, .slice none 0 0] 51)
                    have hlo := hs.size
                    have hsn := bt hs (ba W_0 (.cells #[.bool false, .int .i64 0, .bool false, .bool false, .bool false, .slice none 0 0] 51))
                    obtain ⟨g2, hg2'⟩ : ∃ g, W_0.heap.size = g := ⟨_, rfl⟩
                    obtain ⟨W_1, hW⟩ : ∃ W, W_0.alloc (.cells #[.bool false, .int .i64 0, .bool false, .bool false, .bool false, .slice none 0 0] 51) = W := ⟨_, rfl⟩
                    rw [hW] at nb hsn ⊢
                    rw [hg2'] at nb hlo ⊢
                    have bk : Blk W_1 g2 51 #[.bool false, .int .i64 0, .bool false, .bool false, .bool false, .slice none 0 0] := nb
                    clear nb hs hHeld
                    have hs := hsn
                    clear hsn hW hg2'
                    refine wpAnyH_ready (rs := [5]) (by kernel_rfl) (by simp) ?_
                    refine AllReadyH.cons rfl (fun K hK => ?_) ?_
                    · go_simp
                      go_wp2_with (go_at_call 79; (with_reducible refine (RS.out _).mono ?_); rintro e W_2 ⟨rfl, hst⟩)
                      refine hK.out _ _ (bt hs hst) (fun hHeld => ?_)
                      clear hK K
                      (try simp only [List.setIfInBounds_toArray, List.set_cons_zero, List.set_cons_succ])
                      replace bk := Blk.below bk hst
                      have hsn := bt hs hst
                      clear hs hHeld
                      have hs := hsn
                      clear hsn hst
                      refine wpAnyH_take (i := 6) (v := ?_) rfl (by kernel_rfl) (by kernel_rfl) (by kernel_rfl) (fun _ _ _ h => h) (Or.inl ⟨by rfl, ?_⟩) (by assumption) ?_
                      rotate_left
                      · intro w' hSw
                        skip
                        go_simp
                        try with_reducible rfl
                      (try simp only [Act.put, List.getElem_toArray, List.getElem_cons_succ, List.getElem_cons_zero, List.setIfInBounds_toArray, List.set_cons_zero, List.set_cons_succ])
                      refine wpAnyH_take (i := 9) (v := ?_) rfl (by kernel_rfl) (by kernel_rfl) (by kernel_rfl) (fun _ _ _ h => h) (Or.inl ⟨by rfl, ?_⟩) (by assumption) ?_
                      rotate_left
                      · intro w' hSw
                        skip
                        go_simp
                        try with_reducible rfl
                      (try simp only [Act.put, List.getElem_toArray, List.getElem_cons_succ, List.getElem_cons_zero, List.setIfInBounds_toArray, List.set_cons_zero, List.set_cons_succ])
                      refine wpAnyH_take (i := 10) (v := ?_) rfl (by kernel_rfl) (by kernel_rfl) (by kernel_rfl) (fun _ _ _ h => h) (Or.inl ⟨by rfl, ?_⟩) (by assumption) ?_
                      rotate_left
                      · intro w' hSw
                        skip
                        go_simp
                        try with_reducible rfl
                      (try simp only [Act.put, List.getElem_toArray, List.getElem_cons_succ, List.getElem_cons_zero, List.setIfInBounds_toArray, List.set_cons_zero, List.set_cons_succ])
                      refine wpAnyH_take (i := 11) (v := ?_) rfl (by kernel_rfl) (by kernel_rfl) (by kernel_rfl) (fun _ _ _ h => h) (Or.inl ⟨by rfl, ?_⟩) (by assumption) ?_
                      rotate_left
                      · intro w' hSw
                        skip
                        go_simp
                        try with_reducible rfl
                      (try simp only [Act.put, List.getElem_toArray, List.getElem_cons_succ, List.getElem_cons_zero, List.setIfInBounds_toArray, List.set_cons_zero, List.set_cons_succ])
                      refine wpAnyH_take (i := 12) (v := ?_) rfl (by kernel_rfl) (by kernel_rfl) (by kernel_rfl) (fun _ _ _ h => h) (Or.inl ⟨by rfl, ?_⟩) (by assumption) ?_
                      rotate_left
                      · intro w' hSw
                        skip
                        go_simp
                        try with_reducible rfl
                      (try simp only [Act.put, List.getElem_toArray, List.getElem_cons_succ, List.getElem_cons_zero, List.setIfInBounds_toArray, List.set_cons_zero, List.set_cons_succ])
                      refine wpAnyH_take (i := 13) (v := ?_) rfl (by kernel_rfl) (by kernel_rfl) (by kernel_rfl) (fun _ _ _ h => h) (Or.inl ⟨by rfl, ?_⟩) (by assumption) ?_
                      rotate_left
                      · intro w' hSw
                        skip
                        go_simp
                        try with_reducible rfl
                      (try simp only [Act.put, List.getElem_toArray, List.getElem_cons_succ, List.getElem_cons_zero, List.setIfInBounds_toArray, List.set_cons_zero, List.set_cons_succ])
                      refine wpAnyH_take (i := 14) (v := ?_) rfl (by kernel_rfl) (by kernel_rfl) (by kernel_rfl) (fun _ _ _ h => h) (Or.inl ⟨by rfl, ?_⟩) (by assumption) ?_
                      rotate_left
                      · intro w' hSw
                        skip
                        go_simp
                        try with_reducible rfl
                      (try simp only [Act.put, List.getElem_toArray, List.getElem_cons_succ, List.getElem_cons_zero, List.setIfInBounds_toArray, List.set_cons_zero, List.set_cons_succ])
                      refine wpAnyH_take (i := 15) (v := ?_) rfl (by kernel_rfl) (by kernel_rfl) (by kernel_rfl) (fun _ _ _ h => h) (Or.inl ⟨by rfl, ?_⟩) (by assumption) ?_
                      rotate_left
                      · intro w' hSw
                        skip
                        go_simp
                        try with_reducible rfl
                      (try simp only [Act.put, List.getElem_toArray, List.getElem_cons_succ, List.getElem_cons_zero, List.setIfInBounds_toArray, List.set_cons_zero, List.set_cons_succ])
                      refine wpAnyH_ready (rs := [17]) (by kernel_rfl) (by simp) ?_
                      refine AllReadyH.cons rfl (fun K hK => ?_) ?_
                      · have b0 := bk.cell 0
                        have b1 := bk.cell 1
                        have b2 := bk.cell 2
                        have b3 := bk.cell 3
                        have b4 := bk.cell 4
                        have b5 := bk.cell 5
                        have e0 := bk.frozen 0
                        have e1 := bk.frozen 1
                        have e2 := bk.frozen 2
                        have e3 := bk.frozen 3
                        have e4 := bk.frozen 4
                        have e5 := bk.frozen 5
                        have el := bk.lt
                        simp at b0 b1 b2 b3 b4 b5
                        have bk1 := ((((((bk.set_ 0 (.bool true)).set_ 1 (.int .i64 zv)).set_ 2 (.bool zd)).set_ 3 (.bool zt)).set_ 4 (.bool (!r0))).set_ 5 (.slice none 0 0))
                        have hsn := ((((((hs.setCell (p := ⟨g2, 0, none⟩) hlo (.bool true)).setCell (p := ⟨g2, 1, none⟩) hlo (.int .i64 zv)).setCell (p := ⟨g2, 2, none⟩) hlo (.bool zd)).setCell (p := ⟨g2, 3, none⟩) hlo (.bool zt)).setCell (p := ⟨g2, 4, none⟩) hlo (.bool (!r0))).setCell (p := ⟨g2, 5, none⟩) hlo (.slice none 0 0))
                        go_simp
                        refine hK.out _ _ hsn (fun hHeld => ?_)
                        clear hK K
                        (try simp only [List.setIfInBounds_toArray, List.set_cons_zero, List.set_cons_succ])
                        obtain ⟨W_3, hW⟩ : ∃ W, ((((((W_2.setCell ⟨g2, 0, none⟩ (.bool true)).setCell ⟨g2, 1, none⟩ (.int .i64 zv)).setCell ⟨g2, 2, none⟩ (.bool zd)).setCell ⟨g2, 3, none⟩ (.bool zt)).setCell ⟨g2, 4, none⟩ (.bool (!r0))).setCell ⟨g2, 5, none⟩ (.slice none 0 0)) = W := ⟨_, rfl⟩
                        rw [hW] at hsn bk1 hHeld ⊢
                        clear hs bk b0 b1 b2 b3 b4 b5 e0 e1 e2 e3 e4 e5 el hW
                        have bk : Blk W_3 g2 51 #[.bool true, .int .i64 zv, .bool zd, .bool zt, .bool (!r0), .slice none 0 0] := by simpa using bk1
                        have hs := hsn
                        clear hsn bk1
                        refine wpAnyH_done (by kernel_rfl) ?_ _
                        go_wp2_with (fail)
                        go_meet
                        exact ⟨g2, rfl, hlo, bk, hs⟩
                      exact AllReadyH.nil
                    exact AllReadyH.nil
                  exact AllReadyH.nil
                case rest =>
                  obtain ⟨g2, rfl, HG2⟩ := hcut
                  have hbr := HBr.out.below HG2.out.2.2
                  have hxc := HG2.out.2.1
                  by_cases hm0 : m = 0
                  · subst hm0
                    have x4 := hxc.cell 4
                    have x5 := hxc.cell 5
                    have y4 := hxc.frozen 4
                    have y5 := hxc.frozen 5
                    have r4 := hbr.cell 4
                    have r5 := hbr.cell 5
                    have rlt := hbr.lt
                    simp at x4 x5 r4 r5
                    have hne2 : w.heap.size ≠ g2 := by have := HG2.out.1; have := HOW0.out.1.low.size; omega
                    have hs2 := (HG2.out.2.2.setCell (p := ⟨g2, 4, none⟩) HG2.out.1 (.bool yi)).setCell (p := ⟨g2, 5, none⟩) HG2.out.1 (.slice sa yL.length sc)
                    have x0 := hxc.cell 0
                    have x1 := hxc.cell 1
                    have x2 := hxc.cell 2
                    have x3 := hxc.cell 3


                    have xlt := hxc.lt
                    simp at x0 x1 x2 x3
                    have hs3 := bt hs2 (ba ((wc.setCell ⟨g2, 4, none⟩ (.bool yi)).setCell ⟨g2, 5, none⟩ (.slice sa yL.length sc)) (.cells #[.bool true, .int .i64 zv, .bool zd, .bool zt, .bool yi, .slice sa yL.length sc] 51))
                    have hrow := (HOW0.out.1.below hs3).own
                    have HROW := Lib.hid hrow
                    have HS3 := Lib.hid hs3
                    have HS2 := Lib.hid hs2
                    obtain ⟨gN, hgN⟩ : ∃ g, (((wc.setCell ⟨g2, 4, none⟩ (.bool yi)).setCell ⟨g2, 5, none⟩ (.slice sa yL.length sc))).heap.size = g := ⟨_, rfl⟩
                    have hd1 := World.news_of_block (heap_alloc_new ((wc.setCell ⟨g2, 4, none⟩ (.bool yi)).setCell ⟨g2, 5, none⟩ (.slice sa yL.length sc)) (.cells #[.bool true, .int .i64 zv, .bool zd, .bool zt, .bool yi, .slice sa yL.length sc] 51))
                    have hgN2 : wc.heap.size = gN := by rw [← hgN]; simp
                    rw [hgN] at hd1
                    obtain rfl := hgN2
                    have HD1 := Lib.hid hd1
                    clear hrow hs3 hs2 hxc hbr hd1 hgN
                    go_wp2_with (at_builtin; go_loud (refine wpList_append_own _ rfl _ _ 26 rfl W1.heap.size 51 i0 _ 6 56 Tryd.underlying26 ii1 ii2 ii3 ii4 rfl (by decide) (.slice A 0 c) 0 _ rfl HROW.out ⟨wc.heap.size, 0, none⟩ 1 1 [.bool true, .int .i64 zv, .bool zd, .bool zt, .bool yi, .slice sa yL.length sc] rfl rfl HD1.out ?d2 (by unfold maxLen; omega) (by omega) (by have := HS3.out.size; have := HOW0.out.1.low.size; omega) ?_))
                    case d2 => exact ⟨rfl, rfl, rfl, rfl, rfl, rfl⟩
                    intro v' w6 hown' hgrow _
                    obtain ⟨A6, c6, rfl, hO6⟩ := Own1.stepN (HOW0.out.1.below HS2.out) (Below.refl _ _) rfl hown' hgrow
                    have hS7 := And.intro hO6 (And.intro ((HOW0.out.2.1.blk (fun _ _ h => h.below HS3.out)).blk (fun _ _ h => h.grown hgrow (blk_apart h HROW.out (by decide)))) ((HOW0.out.2.2.blk (fun _ _ h => h.below HS3.out)).blk (fun _ _ h => h.grown hgrow (blk_apart h HROW.out (by decide)))))
                    obtain ⟨bb', hbe, hbb', _, d0, d1, d2⟩ := sg_at hS7.2.1 hkl HN5.out
                    have hzD : T.getD k s0g = ⟨zv, zd, zt⟩ := by rw [List.getD_eq_getElem?_getD, HHT.out]; rfl
                    rw [hzD] at d0 d1 d2
                    dsimp only at d0 d1 d2
                    injection hbe with hbe
                    injection hbe with hbe
                    subst hbe
                    have HS7 := Lib.hid hS7
                    clear hS7 hown' hgrow hO6 hzD
                    go_wp2_with (go_at_call 49; (with_reducible refine (rticks_any _ _ _ _).mono ?_); rintro e w7 ⟨rfl, hb7⟩; rw [HTZ.out])
                    go_roundw
                    case rel =>
                      refine ⟨k + 1, g + tz, A6, c6, by omega, by rw [show S.length + (k + 1) = 0 + 1 by have := HM.out; omega], by first | rfl | go_num, by first | rfl | go_num, HGR.out, hgt', ?_⟩
                      unfold Hid
                      rw [show S.length + (k + 1) = 0 + 1 by have := HM.out; omega, HBAR.out.1 (by first | trivial | rfl)]
                      exact ⟨HS7.out.1.below hb7, HS7.out.2.1.blk (fun _ _ h => h.below hb7), HS7.out.2.2.blk (fun _ _ h => h.below hb7)⟩
                    case measure => simp [intOf]; omega
                  · have hmz : ((m : Int) == 0) = false := beq_eq_false_iff_ne.2 (by omega)
                    have hmzN : (m == 0) = false := beq_eq_false_iff_ne.2 (by omega)
                    have hs2 := HG2.out.2.2
                    have x0 := hxc.cell 0
                    have x1 := hxc.cell 1
                    have x2 := hxc.cell 2
                    have x3 := hxc.cell 3
                    have x4 := hxc.cell 4
                    have x5 := hxc.cell 5
                    have xlt := hxc.lt
                    simp at x0 x1 x2 x3 x4 x5
                    have hs3 := bt hs2 (ba wc (.cells #[.bool true, .int .i64 zv, .bool zd, .bool zt, .bool (!r0), .slice none 0 0] 51))
                    have hrow := (HOW0.out.1.below hs3).own
                    have HROW := Lib.hid hrow
                    have HS3 := Lib.hid hs3
                    have HS2 := Lib.hid hs2
                    obtain ⟨gN, hgN⟩ : ∃ g, (wc).heap.size = g := ⟨_, rfl⟩
                    have hd1 := World.news_of_block (heap_alloc_new wc (.cells #[.bool true, .int .i64 zv, .bool zd, .bool zt, .bool (!r0), .slice none 0 0] 51))
                    --have hgN2 : wc.heap.size = gN := by rw [← hgN]; simp
                    rw [hgN] at hd1
                    subst hgN
                    have HD1 := Lib.hid hd1
                    clear hrow hs3 hs2 hxc hbr hd1 
                    go_wp2_with (at_builtin; go_loud (refine wpList_append_own _ rfl _ _ 26 rfl W1.heap.size 51 i0 _ 6 56 Tryd.underlying26 ii1 ii2 ii3 ii4 rfl (by decide) (.slice A m c) m _ rfl HROW.out ⟨wc.heap.size, 0, none⟩ 1 1 [.bool true, .int .i64 zv, .bool zd, .bool zt, .bool (!r0), .slice none 0 0] rfl rfl HD1.out ?d2 (by unfold maxLen; omega) (by omega) (by have := HS3.out.size; have := HOW0.out.1.low.size; omega) ?_))
                    case d2 => exact ⟨rfl, rfl, rfl, rfl, rfl, rfl⟩
                    intro v' w6 hown' hgrow _
                    obtain ⟨A6, c6, rfl, hO6⟩ := Own1.stepN (HOW0.out.1.below HS2.out) (Below.refl _ _) rfl hown' hgrow
                    have hS7 := And.intro hO6 (And.intro ((HOW0.out.2.1.blk (fun _ _ h => h.below HS3.out)).blk (fun _ _ h => h.grown hgrow (blk_apart h HROW.out (by decide)))) ((HOW0.out.2.2.blk (fun _ _ h => h.below HS3.out)).blk (fun _ _ h => h.grown hgrow (blk_apart h HROW.out (by decide)))))
                    obtain ⟨bb', hbe, hbb', _, d0, d1, d2⟩ := sg_at hS7.2.1 hkl HN5.out
                    have hzD : T.getD k s0g = ⟨zv, zd, zt⟩ := by rw [List.getD_eq_getElem?_getD, HHT.out]; rfl
                    rw [hzD] at d0 d1 d2
                    dsimp only at d0 d1 d2
                    injection hbe with hbe
                    injection hbe with hbe
                    subst hbe
                    have HS7 := Lib.hid hS7
                    clear hS7 hown' hgrow hO6 hzD
                    go_wp2_with (go_at_call 49; (with_reducible refine (rticks_any _ _ _ _).mono ?_); rintro e w7 ⟨rfl, hb7⟩; rw [HTZ.out])
                    go_roundw
                    case rel =>
                      refine ⟨k + 1, g + tz, A6, c6, by omega, by rw [show S.length + (k + 1) = m + 1 by have := HM.out; omega], by first | rfl | go_num, by first | rfl | go_num, HGR.out, hgt', ?_⟩
                      unfold Hid
                      rw [show S.length + (k + 1) = m + 1 by have := HM.out; omega, HBAR.out.2 hm0]
                      exact ⟨HS7.out.1.below hb7, HS7.out.2.1.blk (fun _ _ h => h.below hb7), HS7.out.2.2.blk (fun _ _ h => h.below hb7)⟩
                    case measure => simp [intOf]; omega
              · have hrb : ((r2 : Int) == 0) = false := beq_eq_false_iff_ne.2 (by omega)
                have hrbN : (r2 == 0) = false := beq_eq_false_iff_ne.2 (by omega)
                have HBAR := Lib.hid (HBN.out false (by rw [hgd, HRM2.out, decide_eq_false (by omega : ¬ (r2 : Int) = 0)]; rfl))
                clear hg0 hrz
                go_cut [17] from 51 to 66 (fun s17 wy => ∃ g2 : Nat, s17 = .pointer (some ⟨g2, 0, none⟩) ∧ Hid (wr.heap.size ≤ g2 ∧ Blk wy g2 51 #[.bool false, .int .i64 zv, .bool zd, .bool zt, .bool (!r0), .slice none 0 0] ∧ Below wr.heap.size wr wy))
                case first =>
                  have hs : Below wr.heap.size wr wr.drew := (Below.refl _ _).drew
                  refine wp_region_held_drew (S := fun w' => Below wr.heap.size wr w') (by kernel_rfl) hs (fun hHeld => ?_)
                  change wpAnyH _ _ _ _ _ 18 #[false, false, false, false, false, false, false, false, false, false, false, false, false, false, false, false, false, false] _ _
                  refine wpAnyH_take (i := 0) (v := ?_) rfl (by kernel_rfl) (by kernel_rfl) (by kernel_rfl) (fun _ _ _ h => h) (Or.inl ⟨by rfl, ?_⟩) (by assumption) ?_
                  rotate_left
                  · intro w' hSw
                    obtain ⟨c0, c1, c2, e0, e1, e2, e3, e4, e5⟩ := CC.out _ hSw
                    go_simp
                    try with_reducible rfl
                  (try simp only [Act.put, List.getElem_toArray, List.getElem_cons_zero, List.setIfInBounds_toArray, List.set_cons_zero, List.set_cons_succ])
                  refine wpAnyH_take (i := 1) (v := ?_) rfl (by kernel_rfl) (by kernel_rfl) (by kernel_rfl) (fun _ _ _ h => h) (Or.inl ⟨by rfl, ?_⟩) (by assumption) ?_
                  rotate_left
                  · intro w' hSw
                    obtain ⟨c0, c1, c2, e0, e1, e2, e3, e4, e5⟩ := CC.out _ hSw
                    go_simp
                    try with_reducible rfl
                  (try simp only [Act.put, List.getElem_toArray, List.getElem_cons_succ, List.getElem_cons_zero, List.setIfInBounds_toArray, List.set_cons_zero, List.set_cons_succ])
                  refine wpAnyH_take (i := 2) (v := ?_) rfl (by kernel_rfl) (by kernel_rfl) (by kernel_rfl) (fun _ _ _ h => h) (Or.inl ⟨by rfl, ?_⟩) (by assumption) ?_
                  rotate_left
                  · intro w' hSw
                    obtain ⟨c0, c1, c2, e0, e1, e2, e3, e4, e5⟩ := CC.out _ hSw
                    go_simp
                    try with_reducible rfl
                  (try simp only [Act.put, List.getElem_toArray, List.getElem_cons_succ, List.getElem_cons_zero, List.setIfInBounds_toArray, List.set_cons_zero, List.set_cons_succ])
                  refine wpAnyH_take (i := 3) (v := ?_) rfl (by kernel_rfl) (by kernel_rfl) (by kernel_rfl) (fun _ _ _ h => h) (Or.inl ⟨by rfl, ?_⟩) (by assumption) ?_
                  rotate_left
                  · intro w' hSw
                    obtain ⟨c0, c1, c2, e0, e1, e2, e3, e4, e5⟩ := CC.out _ hSw
                    go_simp
                    try with_reducible rfl
                  (try simp only [Act.put, List.getElem_toArray, List.getElem_cons_succ, List.getElem_cons_zero, List.setIfInBounds_toArray, List.set_cons_zero, List.set_cons_succ])
                  refine wpAnyH_take (i := 4) (v := ?_) rfl (by kernel_rfl) (by kernel_rfl) (by kernel_rfl) (fun _ _ _ h => h) (Or.inl ⟨by rfl, ?_⟩) (by assumption) ?_
                  rotate_left
                  · intro w' hSw
                    obtain ⟨c0, c1, c2, e0, e1, e2, e3, e4, e5⟩ := CC.out _ hSw
                    go_simp
                    try with_reducible rfl
                  (try simp only [Act.put, List.getElem_toArray, List.getElem_cons_succ, List.getElem_cons_zero, List.setIfInBounds_toArray, List.set_cons_zero, List.set_cons_succ])
                  refine wpAnyH_take (i := 7) (v := ?_) rfl (by kernel_rfl) (by kernel_rfl) (by kernel_rfl) (fun _ _ _ h => h) (Or.inl ⟨by rfl, ?_⟩) (by assumption) ?_
                  rotate_left
                  · intro w' hSw
                    obtain ⟨c0, c1, c2, e0, e1, e2, e3, e4, e5⟩ := CC.out _ hSw
                    go_simp
                    try with_reducible rfl
                  (try simp only [Act.put, List.getElem_toArray, List.getElem_cons_succ, List.getElem_cons_zero, List.setIfInBounds_toArray, List.set_cons_zero, List.set_cons_succ])
                  refine wpAnyH_take (i := 8) (v := ?_) rfl (by kernel_rfl) (by kernel_rfl) (by kernel_rfl) (fun _ _ _ h => h) (Or.inl ⟨by rfl, ?_⟩) (by assumption) ?_
                  rotate_left
                  · intro w' hSw
                    obtain ⟨c0, c1, c2, e0, e1, e2, e3, e4, e5⟩ := CC.out _ hSw
                    go_simp
                    try with_reducible rfl
                  (try simp only [Act.put, List.getElem_toArray, List.getElem_cons_succ, List.getElem_cons_zero, List.setIfInBounds_toArray, List.set_cons_zero, List.set_cons_succ])
                  clear hHeld
                  obtain ⟨W_0, hW_0⟩ : ∃ W, wr.drew = W := ⟨_, rfl⟩
                  rw [hW_0] at hs ⊢
                  clear hW_0
                  refine wpAnyH_ready (rs := [5, 16]) (by kernel_rfl) (by simp) ?_
                  refine AllReadyH.cons rfl (fun K hK => ?_) ?_
                  · go_simp
                    go_wp2_with (go_at_call 79; (with_reducible refine (RS.out _).mono ?_); rintro e W_1 ⟨rfl, hst⟩)
                    refine hK.out _ _ (bt hs hst) (fun hHeld => ?_)
                    clear hK K
                    (try simp only [List.setIfInBounds_toArray, List.set_cons_zero, List.set_cons_succ])
                    have hsn := bt hs hst
                    clear hs hHeld
                    have hs := hsn
                    clear hsn hst
                    refine wpAnyH_take (i := 6) (v := ?_) rfl (by kernel_rfl) (by kernel_rfl) (by kernel_rfl) (fun _ _ _ h => h) (Or.inl ⟨by rfl, ?_⟩) (by assumption) ?_
                    rotate_left
                    · intro w' hSw
                      skip
                      go_simp
                      try with_reducible rfl
                    (try simp only [Act.put, List.getElem_toArray, List.getElem_cons_succ, List.getElem_cons_zero, List.setIfInBounds_toArray, List.set_cons_zero, List.set_cons_succ])
                    refine wpAnyH_take (i := 9) (v := ?_) rfl (by kernel_rfl) (by kernel_rfl) (by kernel_rfl) (fun _ _ _ h => h) (Or.inl ⟨by rfl, ?_⟩) (by assumption) ?_
                    rotate_left
                    · intro w' hSw
                      skip
                      go_simp
                      try with_reducible rfl
                    (try simp only [Act.put, List.getElem_toArray, List.getElem_cons_succ, List.getElem_cons_zero, List.setIfInBounds_toArray, List.set_cons_zero, List.set_cons_succ])
                    refine wpAnyH_take (i := 10) (v := ?_) rfl (by kernel_rfl) (by kernel_rfl) (by kernel_rfl) (fun _ _ _ h => h) (Or.inl ⟨by rfl, ?_⟩) (by assumption) ?_
                    rotate_left
                    · intro w' hSw
                      skip
                      go_simp
                      try with_reducible rfl
                    (try simp only [Act.put, List.getElem_toArray, List.getElem_cons_succ, List.getElem_cons_zero, List.setIfInBounds_toArray, List.set_cons_zero, List.set_cons_succ])
                    refine wpAnyH_take (i := 11) (v := ?_) rfl (by kernel_rfl) (by kernel_rfl) (by kernel_rfl) (fun _ _ _ h => h) (Or.inl ⟨by rfl, ?_⟩) (by assumption) ?_
                    rotate_left
                    · intro w' hSw
                      skip
                      go_simp
                      try with_reducible rfl
                    (try simp only [Act.put, List.getElem_toArray, List.getElem_cons_succ, List.getElem_cons_zero, List.setIfInBounds_toArray, List.set_cons_zero, List.set_cons_succ])
                    refine wpAnyH_take (i := 12) (v := ?_) rfl (by kernel_rfl) (by kernel_rfl) (by kernel_rfl) (fun _ _ _ h => h) (Or.inl ⟨by rfl, ?_⟩) (by assumption) ?_
                    rotate_left
                    · intro w' hSw
                      skip
                      go_simp
                      try with_reducible rfl
                    (try simp only [Act.put, List.getElem_toArray, List.getElem_cons_succ, List.getElem_cons_zero, List.setIfInBounds_toArray, List.set_cons_zero, List.set_cons_succ])
                    refine wpAnyH_take (i := 13) (v := ?_) rfl (by kernel_rfl) (by kernel_rfl) (by kernel_rfl) (fun _ _ _ h => h) (Or.inl ⟨by rfl, ?_⟩) (by assumption) ?_
                    rotate_left
                    · intro w' hSw
                      skip
                      go_simp
                      try with_reducible rfl
                    (try simp only [Act.put, List.getElem_toArray, List.getElem_cons_succ, List.getElem_cons_zero, List.setIfInBounds_toArray, List.set_cons_zero, List.set_cons_succ])
                    refine wpAnyH_take (i := 14) (v := ?_) rfl (by kernel_rfl) (by kernel_rfl) (by kernel_rfl) (fun _ _ _ h => h) (Or.inl ⟨by rfl, ?_⟩) (by assumption) ?_
                    rotate_left
                    · intro w' hSw
                      skip
                      go_simp
                      try with_reducible rfl
                    (try simp only [Act.put, List.getElem_toArray, List.getElem_cons_succ, List.getElem_cons_zero, List.setIfInBounds_toArray, List.set_cons_zero, List.set_cons_succ])
                    refine wpAnyH_take (i := 15) (v := ?_) rfl (by kernel_rfl) (by kernel_rfl) (by kernel_rfl) (fun _ _ _ h => h) (Or.inl ⟨by rfl, ?_⟩) (by assumption) ?_
                    rotate_left
                    · intro w' hSw
                      skip
                      go_simp
                      try with_reducible rfl
                    (try simp only [Act.put, List.getElem_toArray, List.getElem_cons_succ, List.getElem_cons_zero, List.setIfInBounds_toArray, List.set_cons_zero, List.set_cons_succ])
                    refine wpAnyH_ready (rs := [16]) (by kernel_rfl) (by simp) ?_
                    refine AllReadyH.cons rfl (fun K hK => ?_) ?_
                    · go_simp
                      refine hK.out _ _ (bt hs (ba _ _)) (fun hHeld => ?_)
                      clear hK K
                      (try simp only [List.setIfInBounds_toArray, List.set_cons_zero, List.set_cons_succ])
                      have nb := heap_alloc_new W_1 (.cells #[.bool false, .int .i64 0, .bool false, .bool false, .bool false, .slice none 0 0] 51)
                      have hlo := hs.size
                      have hsn := bt hs (ba W_1 (.cells #[.bool false, .int .i64 0, .bool false, .bool false, .bool false, .slice none 0 0] 51))
                      obtain ⟨g2, hg2'⟩ : ∃ g, W_1.heap.size = g := ⟨_, rfl⟩
                      obtain ⟨W_2, hW⟩ : ∃ W, W_1.alloc (.cells #[.bool false, .int .i64 0, .bool false, .bool false, .bool false, .slice none 0 0] 51) = W := ⟨_, rfl⟩
                      rw [hW] at nb hsn ⊢
                      rw [hg2'] at nb hlo ⊢
                      have bk : Blk W_2 g2 51 #[.bool false, .int .i64 0, .bool false, .bool false, .bool false, .slice none 0 0] := nb
                      clear nb hs hHeld
                      have hs := hsn
                      clear hsn hW hg2'
                      refine wpAnyH_ready (rs := [17]) (by kernel_rfl) (by simp) ?_
                      refine AllReadyH.cons rfl (fun K hK => ?_) ?_
                      · have b0 := bk.cell 0
                        have b1 := bk.cell 1
                        have b2 := bk.cell 2
                        have b3 := bk.cell 3
                        have b4 := bk.cell 4
                        have b5 := bk.cell 5
                        have e0 := bk.frozen 0
                        have e1 := bk.frozen 1
                        have e2 := bk.frozen 2
                        have e3 := bk.frozen 3
                        have e4 := bk.frozen 4
                        have e5 := bk.frozen 5
                        have el := bk.lt
                        simp at b0 b1 b2 b3 b4 b5
                        have bk1 := ((((((bk.set_ 0 (.bool false)).set_ 1 (.int .i64 zv)).set_ 2 (.bool zd)).set_ 3 (.bool zt)).set_ 4 (.bool (!r0))).set_ 5 (.slice none 0 0))
                        have hsn := ((((((hs.setCell (p := ⟨g2, 0, none⟩) hlo (.bool false)).setCell (p := ⟨g2, 1, none⟩) hlo (.int .i64 zv)).setCell (p := ⟨g2, 2, none⟩) hlo (.bool zd)).setCell (p := ⟨g2, 3, none⟩) hlo (.bool zt)).setCell (p := ⟨g2, 4, none⟩) hlo (.bool (!r0))).setCell (p := ⟨g2, 5, none⟩) hlo (.slice none 0 0))
                        go_simp
                        refine hK.out _ _ hsn (fun hHeld => ?_)
                        clear hK K
                        (try simp only [List.setIfInBounds_toArray, List.set_cons_zero, List.set_cons_succ])
                        obtain ⟨W_3, hW⟩ : ∃ W, ((((((W_2.setCell ⟨g2, 0, none⟩ (.bool false)).setCell ⟨g2, 1, none⟩ (.int .i64 zv)).setCell ⟨g2, 2, none⟩ (.bool zd)).setCell ⟨g2, 3, none⟩ (.bool zt)).setCell ⟨g2, 4, none⟩ (.bool (!r0))).setCell ⟨g2, 5, none⟩ (.slice none 0 0)) = W := ⟨_, rfl⟩
                        rw [hW] at hsn bk1 hHeld ⊢
                        clear hs bk b0 b1 b2 b3 b4 b5 e0 e1 e2 e3 e4 e5 el hW
                        have bk : Blk W_3 g2 51 #[.bool false, .int .i64 zv, .bool zd, .bool zt, .bool (!r0), .slice none 0 0] := by simpa using bk1
                        have hs := hsn
                        clear hsn bk1
                        refine wpAnyH_done (by kernel_rfl) ?_ _
                        go_wp2_with (fail)
                        go_meet
                        exact ⟨g2, rfl, hlo, bk, hs⟩
                      exact AllReadyH.nil
                    exact AllReadyH.nil
                  refine AllReadyH.cons rfl (fun K hK => ?_) ?_
                  · go_simp
                    refine hK.out _ _ (bt hs (ba _ _)) (fun hHeld => ?_)
                    clear hK K
                    (try simp only [List.setIfInBounds_toArray, List.set_cons_zero, List.set_cons_succ])
                    have nb := heap_alloc_new W_0 (.cells #[.bool false, .int .i64 0, .bool false, .bool false, .bool false, .slice none 0 0] 51)
                    have hlo := hs.size
                    have hsn := bt hs (ba W_0 (.cells #[.bool false, .int .i64 0, .bool false, .bool false, .bool false, .slice none 0 0] 51))
                    obtain ⟨g2, hg2'⟩ : ∃ g, W_0.heap.size = g := ⟨_, rfl⟩
                    obtain ⟨W_1, hW⟩ : ∃ W, W_0.alloc (.cells #[.bool false, .int .i64 0, .bool false, .bool false, .bool false, .slice none 0 0] 51) = W := ⟨_, rfl⟩
                    rw [hW] at nb hsn ⊢
                    rw [hg2'] at nb hlo ⊢
                    have bk : Blk W_1 g2 51 #[.bool false, .int .i64 0, .bool false, .bool false, .bool false, .slice none 0 0] := nb
                    clear nb hs hHeld
                    have hs := hsn
                    clear hsn hW hg2'
                    refine wpAnyH_ready (rs := [5]) (by kernel_rfl) (by simp) ?_
                    refine AllReadyH.cons rfl (fun K hK => ?_) ?_
                    · go_simp
                      go_wp2_with (go_at_call 79; (with_reducible refine (RS.out _).mono ?_); rintro e W_2 ⟨rfl, hst⟩)
                      refine hK.out _ _ (bt hs hst) (fun hHeld => ?_)
                      clear hK K
                      (try simp only [List.setIfInBounds_toArray, List.set_cons_zero, List.set_cons_succ])
                      replace bk := Blk.below bk hst
                      have hsn := bt hs hst
                      clear hs hHeld
                      have hs := hsn
                      clear hsn hst
                      refine wpAnyH_take (i := 6) (v := ?_) rfl (by kernel_rfl) (by kernel_rfl) (by kernel_rfl) (fun _ _ _ h => h) (Or.inl ⟨by rfl, ?_⟩) (by assumption) ?_
                      rotate_left
                      · intro w' hSw
                        skip
                        go_simp
                        try with_reducible rfl
                      (try simp only [Act.put, List.getElem_toArray, List.getElem_cons_succ, List.getElem_cons_zero, List.setIfInBounds_toArray, List.set_cons_zero, List.set_cons_succ])
                      refine wpAnyH_take (i := 9) (v := ?_) rfl (by kernel_rfl) (by kernel_rfl) (by kernel_rfl) (fun _ _ _ h => h) (Or.inl ⟨by rfl, ?_⟩) (by assumption) ?_
                      rotate_left
                      · intro w' hSw
                        skip
                        go_simp
                        try with_reducible rfl
                      (try simp only [Act.put, List.getElem_toArray, List.getElem_cons_succ, List.getElem_cons_zero, List.setIfInBounds_toArray, List.set_cons_zero, List.set_cons_succ])
                      refine wpAnyH_take (i := 10) (v := ?_) rfl (by kernel_rfl) (by kernel_rfl) (by kernel_rfl) (fun _ _ _ h => h) (Or.inl ⟨by rfl, ?_⟩) (by assumption) ?_
                      rotate_left
                      · intro w' hSw
                        skip
                        go_simp
                        try with_reducible rfl
                      (try simp only [Act.put, List.getElem_toArray, List.getElem_cons_succ, List.getElem_cons_zero, List.setIfInBounds_toArray, List.set_cons_zero, List.set_cons_succ])
                      refine wpAnyH_take (i := 11) (v := ?_) rfl (by kernel_rfl) (by kernel_rfl) (by kernel_rfl) (fun _ _ _ h => h) (Or.inl ⟨by rfl, ?_⟩) (by assumption) ?_
                      rotate_left
                      · intro w' hSw
                        skip
                        go_simp
                        try with_reducible rfl
                      (try simp only [Act.put, List.getElem_toArray, List.getElem_cons_succ, List.getElem_cons_zero, List.setIfInBounds_toArray, List.set_cons_zero, List.set_cons_succ])
                      refine wpAnyH_take (i := 12) (v := ?_) rfl (by kernel_rfl) (by kernel_rfl) (by kernel_rfl) (fun _ _ _ h => h) (Or.inl ⟨by rfl, ?_⟩) (by assumption) ?_
                      rotate_left
                      · intro w' hSw
                        skip
                        go_simp
                        try with_reducible rfl
                      (try simp only [Act.put, List.getElem_toArray, List.getElem_cons_succ, List.getElem_cons_zero, List.setIfInBounds_toArray, List.set_cons_zero, List.set_cons_succ])
                      refine wpAnyH_take (i := 13) (v := ?_) rfl (by kernel_rfl) (by kernel_rfl) (by kernel_rfl) (fun _ _ _ h => h) (Or.inl ⟨by rfl, ?_⟩) (by assumption) ?_
                      rotate_left
                      · intro w' hSw
                        skip
                        go_simp
                        try with_reducible rfl
                      (try simp only [Act.put, List.getElem_toArray, List.getElem_cons_succ, List.getElem_cons_zero, List.setIfInBounds_toArray, List.set_cons_zero, List.set_cons_succ])
                      refine wpAnyH_take (i := 14) (v := ?_) rfl (by kernel_rfl) (by kernel_rfl) (by kernel_rfl) (fun _ _ _ h => h) (Or.inl ⟨by rfl, ?_⟩) (by assumption) ?_
                      rotate_left
                      · intro w' hSw
                        skip
                        go_simp
                        try with_reducible rfl
                      (try simp only [Act.put, List.getElem_toArray, List.getElem_cons_succ, List.getElem_cons_zero, List.setIfInBounds_toArray, List.set_cons_zero, List.set_cons_succ])
                      refine wpAnyH_take (i := 15) (v := ?_) rfl (by kernel_rfl) (by kernel_rfl) (by kernel_rfl) (fun _ _ _ h => h) (Or.inl ⟨by rfl, ?_⟩) (by assumption) ?_
                      rotate_left
                      · intro w' hSw
                        skip
                        go_simp
                        try with_reducible rfl
                      (try simp only [Act.put, List.getElem_toArray, List.getElem_cons_succ, List.getElem_cons_zero, List.setIfInBounds_toArray, List.set_cons_zero, List.set_cons_succ])
                      refine wpAnyH_ready (rs := [17]) (by kernel_rfl) (by simp) ?_
                      refine AllReadyH.cons rfl (fun K hK => ?_) ?_
                      · have b0 := bk.cell 0
                        have b1 := bk.cell 1
                        have b2 := bk.cell 2
                        have b3 := bk.cell 3
                        have b4 := bk.cell 4
                        have b5 := bk.cell 5
                        have e0 := bk.frozen 0
                        have e1 := bk.frozen 1
                        have e2 := bk.frozen 2
                        have e3 := bk.frozen 3
                        have e4 := bk.frozen 4
                        have e5 := bk.frozen 5
                        have el := bk.lt
                        simp at b0 b1 b2 b3 b4 b5
                        have bk1 := ((((((bk.set_ 0 (.bool false)).set_ 1 (.int .i64 zv)).set_ 2 (.bool zd)).set_ 3 (.bool zt)).set_ 4 (.bool (!r0))).set_ 5 (.slice none 0 0))
                        have hsn := ((((((hs.setCell (p := ⟨g2, 0, none⟩) hlo (.bool false)).setCell (p := ⟨g2, 1, none⟩) hlo (.int .i64 zv)).setCell (p := ⟨g2, 2, none⟩) hlo (.bool zd)).setCell (p := ⟨g2, 3, none⟩) hlo (.bool zt)).setCell (p := ⟨g2, 4, none⟩) hlo (.bool (!r0))).setCell (p := ⟨g2, 5, none⟩) hlo (.slice none 0 0))
                        go_simp
                        refine hK.out _ _ hsn (fun hHeld => ?_)
                        clear hK K
                        (try simp only [List.setIfInBounds_toArray, List.set_cons_zero, List.set_cons_succ])
                        obtain ⟨W_3, hW⟩ : ∃ W, ((((((W_2.setCell ⟨g2, 0, none⟩ (.bool false)).setCell ⟨g2, 1, none⟩ (.int .i64 zv)).setCell ⟨g2, 2, none⟩ (.bool zd)).setCell ⟨g2, 3, none⟩ (.bool zt)).setCell ⟨g2, 4, none⟩ (.bool (!r0))).setCell ⟨g2, 5, none⟩ (.slice none 0 0)) = W := ⟨_, rfl⟩
                        rw [hW] at hsn bk1 hHeld ⊢
                        clear hs bk b0 b1 b2 b3 b4 b5 e0 e1 e2 e3 e4 e5 el hW
                        have bk : Blk W_3 g2 51 #[.bool false, .int .i64 zv, .bool zd, .bool zt, .bool (!r0), .slice none 0 0] := by simpa using bk1
                        have hs := hsn
                        clear hsn bk1
                        refine wpAnyH_done (by kernel_rfl) ?_ _
                        go_wp2_with (fail)
                        go_meet
                        exact ⟨g2, rfl, hlo, bk, hs⟩
                      exact AllReadyH.nil
                    exact AllReadyH.nil
                  exact AllReadyH.nil
                case rest =>
                  obtain ⟨g2, rfl, HG2⟩ := hcut
                  have hbr := HBr.out.below HG2.out.2.2
                  have hxc := HG2.out.2.1
                  by_cases hm0 : m = 0
                  · subst hm0
                    have x4 := hxc.cell 4
                    have x5 := hxc.cell 5
                    have y4 := hxc.frozen 4
                    have y5 := hxc.frozen 5
                    have r4 := hbr.cell 4
                    have r5 := hbr.cell 5
                    have rlt := hbr.lt
                    simp at x4 x5 r4 r5
                    have hne2 : w.heap.size ≠ g2 := by have := HG2.out.1; have := HOW0.out.1.low.size; omega
                    have hs2 := (HG2.out.2.2.setCell (p := ⟨g2, 4, none⟩) HG2.out.1 (.bool yi)).setCell (p := ⟨g2, 5, none⟩) HG2.out.1 (.slice sa yL.length sc)
                    have x0 := hxc.cell 0
                    have x1 := hxc.cell 1
                    have x2 := hxc.cell 2
                    have x3 := hxc.cell 3


                    have xlt := hxc.lt
                    simp at x0 x1 x2 x3
                    have hs3 := bt hs2 (ba ((wc.setCell ⟨g2, 4, none⟩ (.bool yi)).setCell ⟨g2, 5, none⟩ (.slice sa yL.length sc)) (.cells #[.bool false, .int .i64 zv, .bool zd, .bool zt, .bool yi, .slice sa yL.length sc] 51))
                    have hrow := (HOW0.out.1.below hs3).own
                    have HROW := Lib.hid hrow
                    have HS3 := Lib.hid hs3
                    have HS2 := Lib.hid hs2
                    obtain ⟨gN, hgN⟩ : ∃ g, (((wc.setCell ⟨g2, 4, none⟩ (.bool yi)).setCell ⟨g2, 5, none⟩ (.slice sa yL.length sc))).heap.size = g := ⟨_, rfl⟩
                    have hd1 := World.news_of_block (heap_alloc_new ((wc.setCell ⟨g2, 4, none⟩ (.bool yi)).setCell ⟨g2, 5, none⟩ (.slice sa yL.length sc)) (.cells #[.bool false, .int .i64 zv, .bool zd, .bool zt, .bool yi, .slice sa yL.length sc] 51))
                    have hgN2 : wc.heap.size = gN := by rw [← hgN]; simp
                    rw [hgN] at hd1
                    obtain rfl := hgN2
                    have HD1 := Lib.hid hd1
                    clear hrow hs3 hs2 hxc hbr hd1 hgN
                    go_wp2_with (at_builtin; go_loud (refine wpList_append_own _ rfl _ _ 26 rfl W1.heap.size 51 i0 _ 6 56 Tryd.underlying26 ii1 ii2 ii3 ii4 rfl (by decide) (.slice A 0 c) 0 _ rfl HROW.out ⟨wc.heap.size, 0, none⟩ 1 1 [.bool false, .int .i64 zv, .bool zd, .bool zt, .bool yi, .slice sa yL.length sc] rfl rfl HD1.out ?d2 (by unfold maxLen; omega) (by omega) (by have := HS3.out.size; have := HOW0.out.1.low.size; omega) ?_))
                    case d2 => exact ⟨rfl, rfl, rfl, rfl, rfl, rfl⟩
                    intro v' w6 hown' hgrow _
                    obtain ⟨A6, c6, rfl, hO6⟩ := Own1.stepN (HOW0.out.1.below HS2.out) (Below.refl _ _) rfl hown' hgrow
                    have hS7 := And.intro hO6 (And.intro ((HOW0.out.2.1.blk (fun _ _ h => h.below HS3.out)).blk (fun _ _ h => h.grown hgrow (blk_apart h HROW.out (by decide)))) ((HOW0.out.2.2.blk (fun _ _ h => h.below HS3.out)).blk (fun _ _ h => h.grown hgrow (blk_apart h HROW.out (by decide)))))
                    obtain ⟨bb', hbe, hbb', _, d0, d1, d2⟩ := sg_at hS7.2.1 hkl HN5.out
                    have hzD : T.getD k s0g = ⟨zv, zd, zt⟩ := by rw [List.getD_eq_getElem?_getD, HHT.out]; rfl
                    rw [hzD] at d0 d1 d2
                    dsimp only at d0 d1 d2
                    injection hbe with hbe
                    injection hbe with hbe
                    subst hbe
                    have HS7 := Lib.hid hS7
                    clear hS7 hown' hgrow hO6 hzD
                    go_wp2_with (go_at_call 49; (with_reducible refine (rticks_any _ _ _ _).mono ?_); rintro e w7 ⟨rfl, hb7⟩; rw [HTZ.out])
                    go_roundw
                    case rel =>
                      refine ⟨k + 1, g + tz, A6, c6, by omega, by rw [show S.length + (k + 1) = 0 + 1 by have := HM.out; omega], by first | rfl | go_num, by first | rfl | go_num, HGR.out, hgt', ?_⟩
                      unfold Hid
                      rw [show S.length + (k + 1) = 0 + 1 by have := HM.out; omega, HBAR.out.1 (by first | trivial | rfl)]
                      exact ⟨HS7.out.1.below hb7, HS7.out.2.1.blk (fun _ _ h => h.below hb7), HS7.out.2.2.blk (fun _ _ h => h.below hb7)⟩
                    case measure => simp [intOf]; omega
                  · have hmz : ((m : Int) == 0) = false := beq_eq_false_iff_ne.2 (by omega)
                    have hmzN : (m == 0) = false := beq_eq_false_iff_ne.2 (by omega)
                    have hs2 := HG2.out.2.2
                    have x0 := hxc.cell 0
                    have x1 := hxc.cell 1
                    have x2 := hxc.cell 2
                    have x3 := hxc.cell 3
                    have x4 := hxc.cell 4
                    have x5 := hxc.cell 5
                    have xlt := hxc.lt
                    simp at x0 x1 x2 x3 x4 x5
                    have hs3 := bt hs2 (ba wc (.cells #[.bool false, .int .i64 zv, .bool zd, .bool zt, .bool (!r0), .slice none 0 0] 51))
                    have hrow := (HOW0.out.1.below hs3).own
                    have HROW := Lib.hid hrow
                    have HS3 := Lib.hid hs3
                    have HS2 := Lib.hid hs2
                    obtain ⟨gN, hgN⟩ : ∃ g, (wc).heap.size = g := ⟨_, rfl⟩
                    have hd1 := World.news_of_block (heap_alloc_new wc (.cells #[.bool false, .int .i64 zv, .bool zd, .bool zt, .bool (!r0), .slice none 0 0] 51))
                    --have hgN2 : wc.heap.size = gN := by rw [← hgN]; simp
                    rw [hgN] at hd1
                    subst hgN
                    have HD1 := Lib.hid hd1
                    clear hrow hs3 hs2 hxc hbr hd1 
                    go_wp2_with (at_builtin; go_loud (refine wpList_append_own _ rfl _ _ 26 rfl W1.heap.size 51 i0 _ 6 56 Tryd.underlying26 ii1 ii2 ii3 ii4 rfl (by decide) (.slice A m c) m _ rfl HROW.out ⟨wc.heap.size, 0, none⟩ 1 1 [.bool false, .int .i64 zv, .bool zd, .bool zt, .bool (!r0), .slice none 0 0] rfl rfl HD1.out ?d2 (by unfold maxLen; omega) (by omega) (by have := HS3.out.size; have := HOW0.out.1.low.size; omega) ?_))
                    case d2 => exact ⟨rfl, rfl, rfl, rfl, rfl, rfl⟩
                    intro v' w6 hown' hgrow _
                    obtain ⟨A6, c6, rfl, hO6⟩ := Own1.stepN (HOW0.out.1.below HS2.out) (Below.refl _ _) rfl hown' hgrow
                    have hS7 := And.intro hO6 (And.intro ((HOW0.out.2.1.blk (fun _ _ h => h.below HS3.out)).blk (fun _ _ h => h.grown hgrow (blk_apart h HROW.out (by decide)))) ((HOW0.out.2.2.blk (fun _ _ h => h.below HS3.out)).blk (fun _ _ h => h.grown hgrow (blk_apart h HROW.out (by decide)))))
                    obtain ⟨bb', hbe, hbb', _, d0, d1, d2⟩ := sg_at hS7.2.1 hkl HN5.out
                    have hzD : T.getD k s0g = ⟨zv, zd, zt⟩ := by rw [List.getD_eq_getElem?_getD, HHT.out]; rfl
                    rw [hzD] at d0 d1 d2
                    dsimp only at d0 d1 d2
                    injection hbe with hbe
                    injection hbe with hbe
                    subst hbe
                    have HS7 := Lib.hid hS7
                    clear hS7 hown' hgrow hO6 hzD
                    go_wp2_with (go_at_call 49; (with_reducible refine (rticks_any _ _ _ _).mono ?_); rintro e w7 ⟨rfl, hb7⟩; rw [HTZ.out])
                    go_roundw
                    case rel =>
                      refine ⟨k + 1, g + tz, A6, c6, by omega, by rw [show S.length + (k + 1) = m + 1 by have := HM.out; omega], by first | rfl | go_num, by first | rfl | go_num, HGR.out, hgt', ?_⟩
                      unfold Hid
                      rw [show S.length + (k + 1) = m + 1 by have := HM.out; omega, HBAR.out.2 hm0]
                      exact ⟨HS7.out.1.below hb7, HS7.out.2.1.blk (fun _ _ h => h.below hb7), HS7.out.2.2.blk (fun _ _ h => h.below hb7)⟩
                    case measure => simp [intOf]; omega
          · obtain rfl : k = 1 := by omega
            have hTt : T.take 1 = T := List.take_of_length_le (by rw [HN5.out]; exact Nat.le_refl _)
            have hG := HG.out
            have hOx := HOW0.out.1
            rw [hTt] at hG hOx
            rw [HTS.out] at hG
            have HGF := Lib.hid hG
            have HOX := Lib.hid hOx
            clear hTt hG hOx
            go_wp2_with (fail)
            go_roundw
            case rel =>
              refine ⟨0 + 1, S ++ T, g, A, c, by omega, by rw [List.length_append, HN5.out], rfl, by first | rfl | go_num, ?_, hgl, ?_, ?_, ?_, ?_, ?_⟩
              · unfold Hid
                rw [tkSum_app, HTS.out]
                have h1 := HF.out
                have h2 := HGF.out
                omega
              · unfold Hid
                rw [HDR.out, HGF.out]
              · unfold Hid
                rw [HDR.out]
                exact HRS.out
              · unfold Hid
                rw [List.length_append, HN5.out]
                exact ⟨HOX.out, HOW0.out.2.2⟩
              · have h2 := HGF.out
                rw [List.length_append, HN5.out]
                push_cast
                omega
              · exact fun h => absurd h (by omega)
            case measure => simp [intOf] <;> omega
    · obtain rfl : i = q := by omega
      have hRS : R = some S := by
        rw [HS.out, List.drop_of_length_le (by rw [HQ.out]; exact Nat.le_refl _)]
        simp [sgAll]
      have HRS := Lib.hid hRS
      clear hRS
      have hl : S.length = (hdT yi sa yL.length sc ((brS (!r0) b fm S).map zT)).length := by rw [hdT_len, List.length_map, brS_len]
      have HL := Lib.hid hl
      have HOO := Lib.hid (Ow.of_own HO.out.1.own)
      clear hl
      go_wp2_with (fail)
      go_ret2
      refine ⟨A, c, _, 0, by rw [← HL.out]; rfl, fun S' h => ?_, fun h => ?_, ?_, bt HBA.out HO.out.1.low⟩
      · rw [HRS.out] at h
        injection h with h
        rw [h]
        exact ⟨rfl, rfl⟩
      · rw [HRS.out] at h
        cases h
      · rw [← HL.out]
        exact HOO.out.more (by omega)

end Go.Proofs.YtdhjigaocamglaaDoor
