/- The law SoundCourses returns true for every piece. -/
import Derived.Test.YtpcehgifpajmbaaCrRf
import Derived.Test.YtpcehgifpajmbaaWorks5
import Derived.Test.YtpcehgifpajmbaaPcBig
import Derived.Test.YtpcehgifpajmbaaSameI2
import Derived.Test.YtpcehgifpajmbaaLiftN
import Derived.Test.YtpcehgifpajmbaaPcOpenM
import Derived.SevenTiedAt
import Derived.ChangeMaps5
import Derived.Lib.SmallJoins
namespace Go.Proofs.Ytpcehgifpajmbaa
open Go Go.RowKit

set_option maxRecDepth 100000 in
set_option maxHeartbeats 16000000 in
theorem law_scourses (A : Option Addr) (n c : Nat) (A' : Option Addr) (m c' : Nat) (A2 : Option Addr) (q cq : Nat) (C : List Cr) (S : List Int) (P : List EvP) (w : World) (hP : PcIn w A n c A' m c' A2 q cq C S P) :
    Calls Try.prog 3 #[pcV A n c A' m c' A2 q cq] w fun e w' => e = .returned (.bool true) ∧ Below w.heap.size w w' := by
  have HE : Hid (∀ w', Below (w.alloc (pcO A n c A' m c' A2 q cq)).heap.size (w.alloc (pcO A n c A' m c' A2 q cq)) w' → PcIn w' A n c A' m c' A2 q cq C S P) :=
    fun w' h => (hP.below (ba _ _)).below h
  have hql := hP.es.hq
  have HI := Lib.hid (HE.out _ (Below.refl _ _))
  clear hP
  cases hbg : plongB n m P with
  | true =>
    have HB := Lib.hid hbg
    clear hbg hql
    go_enter Try.func3, Try.ntmps3
    go_wp2_with (first | (go_at_call 6; refine (plong_any A n c A' m c' A2 q cq P _ HI.out.es).mono ?_; rintro e w1 ⟨rfl, hb1⟩; rw [HB.out]) | (go_at_call 7; refine (works5 _).mono ?_; rintro e w2 ⟨rfl, hb2⟩))
    go_ret
    exact ⟨rfl, bx (bt hb1 hb2)⟩
  | false =>
    have HB := Lib.hid hbg
    obtain ⟨l1, l2, l3, l4⟩ := pbigB_no (plongB_no hbg).1
    have b1 : n ≤ 65536 := by omega
    have b2 : m ≤ 65536 := by omega
    have b3 : q ≤ 65536 := by omega
    have HST : Hid (∀ y ∈ P, y.L.length ≤ 65536) := fun y hy => Nat.le_trans (l4 y hy) (by omega)
    have HSU : Hid (∀ y ∈ P, y.L.length ≤ 1000000) := fun y hy => Nat.le_trans (l4 y hy) (by omega)
    have d1 : n ≤ 1000000 := by omega
    have d2 : m ≤ 1000000 := by omega
    have HNL : Hid ((crsL C S P).length ≤ 65536 ∧ ∀ k, ((crsL C S P).getD k []).length ≤ 65536) := by
      refine ⟨?_, fun k => ?_⟩
      · by_cases h : pcErr C S P = 0
        · rw [crsL_len h]; omega
        · rw [crsL_none h]; simp
      · by_cases h : pcErr C S P = 0
        · by_cases hk : k < P.length
          · unfold crsL
            rw [if_pos h, List.getD_eq_getElem?_getD, List.getElem?_map, List.getElem?_range hk]
            have := (chk_ok (pcErr_ok h).1).1
            simp only [Option.map_some, Option.getD_some, crsRow_len]
            omega
          · rw [List.getD_eq_getElem?_getD, List.getElem?_eq_none (by rw [crsL_len h]; omega)]
            simp
        · rw [crsL_none h]; simp
    clear hbg hql l1 l2 l3 l4
    have CN := Lib.hid (fun w' (h : PcIn w' A n c A' m c' A2 q cq C S P) => rcourses_any A n c A' m c' A2 q cq C S P w' h d1 d2 b3 HSU.out)
    have DN : Hid (∀ (B : Option Addr) (e : Nat) (B' : Option Addr) (e' : Nat) (B2 : Option Addr) (e2 : Nat) w' (_ : PcIn w' B n e B' m e' B2 q e2 C S P), Calls Try.prog 8 #[pcV B n e B' m e' B2 q e2] w' (RwPost (crsL C S P) (pcErr C S P) w')) := fun B e B' e' B2 e2 w' h => courses_any B n e B' m e' B2 q e2 C S P w' h d1 d2 b3 HSU.out
    unfold RwPost at CN DN
    generalize pcErr C S P = X at *
    generalize crsL C S P = U at *
    go_enter Try.func3, Try.ntmps3
    go_wp2_with (first
      | (go_at_call 6; refine (plong_any A n c A' m c' A2 q cq P _ HI.out.es).mono ?_; rintro e w1 ⟨rfl, hb1⟩; rw [HB.out]; have T := hb1; clear hb1; obtain ⟨x0, x1, x2⟩ := cell3 T)
      | (go_at_call 9; refine (pcopy_any A n c A' m c' A2 q cq C S P _ (HE.out _ T) b1 b2 b3 HST.out).mono ?_; rintro e wc ⟨B, d, B', d', B2, d2', rfl, hPc, hbc⟩; replace T := bt T hbc; have HPc := Lib.hid hPc; clear hPc hbc x0 x1 x2; obtain ⟨x0, x1, x2⟩ := cell3 T)
      | (go_at_call 8; refine (DN.out _ _ _ _ _ _ _ HPc.out).mono ?_; rintro e wk ⟨Ba, na, da, rfl, hsa, hbk⟩; replace T := bt T hbk; have HSA := Lib.hid hsa; clear hsa hbk x0 x1 x2; obtain ⟨x0, x1, x2⟩ := cell3 T)
      | (go_at_call 10; refine (CN.out _ (HE.out _ T)).mono ?_; rintro e wb ⟨Bb, nb, db, rfl, hsb, hbr⟩; replace T := bt T hbr; obtain rfl : na = nb := HSA.out.1.trans hsb.1.symm; have HSB := Lib.hid hsb; have HSA := Lib.hid (HSA.out.below hbr); have hnab : na ≤ 65536 := (by have := HSA.out.1; have := HNL.out.1; omega); clear hsb hbr x0 x1 x2; obtain ⟨x0, x1, x2⟩ := cell3 T))
    have TT := Lib.hid T
    clear T x0 x1 x2
    go_loopw [7] (fun i wr => ∃ j : Nat, j ≤ na ∧ i = .int .i64 j ∧ Below wb.heap.size wb wr) (fun i _ => na - (intOf i).toNat)
    case atStart => exact ⟨0, by omega, rfl, Below.refl _ _⟩
    case round =>
      obtain ⟨j, hj, rfl, hbw⟩ := hrel
      have HW := Lib.hid hbw
      clear hbw
      by_cases hlt : j < na
      · have hjn : (j : Int) < (na : Int) := by omega
        obtain ⟨b1', o1, pa, pc, rfl, hbb, _, a0, hpa⟩ := (HSA.out.below HW.out).at hlt
        obtain ⟨b2', o2, pb, pd, rfl, hbb2, _, b0, hpb⟩ := (HSB.out.below HW.out).at hlt
        have hl : (U.getD j []).length ≤ 65536 := HNL.out.2 j
        have HPA := Lib.hid (And.intro hpa hpb)
        clear hpa hpb
        generalize U.getD j [] = R at *
        have HA0 : Hid (∀ w', Below wr.heap.size wr w' → w'.cell? ⟨b1', o1 + j, none⟩ = some (.slice pa R.length pc) ∧ w'.cell? ⟨b2', o2 + j, none⟩ = some (.slice pb R.length pd)) := fun w' hb => ⟨cell_same (hb.block b1' hbb) a0, cell_same (hb.block b2' hbb2) b0⟩
        have HSS := Lib.hid (sameInts5_eq _ _ _ _ _ R _ (HPA.out.1.below (Below.refl _ _).drew) (HPA.out.2.below (Below.refl _ _).drew) rfl (by omega))
        clear hbb hbb2
        go_wp2_with (fail)
        go_region_held_law (fun w' => w'.cell? ⟨b1', o1 + j, none⟩ = some (.slice pa R.length pc) ∧ w'.cell? ⟨b2', o2 + j, none⟩ = some (.slice pb R.length pd))
          (first | exact HA0.out _ (bt (Below.refl _ _).drew hbl) | exact HA0.out _ (Below.refl _ _).drew)
          ((go_at_call 11; refine HSS.out.mono ?_; rintro e wl ⟨rfl, hbl⟩))
        all_goals (
          have HBL := Lib.hid (bt HW.out (bt (Below.refl _ _).drew hbl))
          clear hbl
          go_wp2_with (fail)
          go_roundw
          case rel => exact ⟨j + 1, by omega, by first | rfl | go_num, HBL.out⟩
          case measure => simp [intOf]; omega)
      · have hjn : ¬ ((j : Int) < (na : Int)) := by omega
        go_wp2_with (go_at_call 7; refine (works5 _).mono ?_; rintro e wz ⟨rfl, hbz⟩)
        go_ret
        exact ⟨rfl, bx (bt (bt TT.out HW.out) hbz)⟩

end Go.Proofs.Ytpcehgifpajmbaa

/- SoundCourses: for every input the law returns true, and its arguments read behind the call as they read before. -/
namespace Go.Proofs.Ytpcehgifpajmbaa
open Go.ChangeShapes Go.WideShapes Go.ChangeAt Go.RowKit Go.Deep

set_option maxRecDepth 100000 in
theorem scourses_lifted (os : Os) (started : os.Started) (H : Type) (enc : TypeId × Value → H) :
    ReturnsInHanded {} Try.checked os 3 .any (fun w args => Rows.soundCoursesSpec.pre enc Try.prog Try.f3 Rows.soundCoursesRow.domain false w args ∧ sizedMet enc Try.prog Try.f3 (OpenSpec.ofChange Rows.soundCoursesSpec) false w args)
      (Rows.soundCoursesSpec.post enc Try.prog Try.f3 false true false false) := by
  refine liftN (C := Try.checked) ownN started Try.func3 (by kernel_rfl)
    (ChangeSpec.witness_shaped (enc := enc) (C := Try.checked) (os := os) (X := fun _ _ => True) false (World.laidAll Try.prog os Rows.soundCoursesRow.laid) #[.agg #[.slice none 0 0, .slice none 0 0, .slice none 0 0]] 8 (World.laidAll_os _ _ _)
      (World.shaped_of_ZipB (by kernel_rfl) (by kernel_rfl)) (by kernel_rfl) (by kernel_rfl) (by kernel_rfl)
      trivial) ?_
  intro W base args ds gs before hval0 hW
  have hval : ∀ (j : Nat) t v, Try.f3.params[j]? = some t → args[j]? = some v → Value.okWide Try.prog W .any base t v := hval0
  have hW' := hW
  obtain ⟨p, q, hA0, hV, rfl, hfz, hnd⟩ := hW
  have hA : DataW.TrodAll enc Try.prog W 0 (fun _ => true) true Try.f3.params.toList args.toList ds p := hA0
  rw [Try.params3] at hA hval
  obtain ⟨v0, d0, rfl, rfl, h0⟩ := trodAll_one hA
  obtain ⟨rfl, rfl⟩ := trodVars_none hV
  obtain ⟨A0, n0, c0, B0, m0, k0, D0, q0, e0, C0, S0, P0, rfl, hP0, _, _, _⟩ := open_piece (hval 0 28 v0 rfl rfl) h0
  refine (law_scourses A0 n0 c0 B0 m0 k0 D0 q0 e0 C0 S0 P0 W hP0).mono fun e W' ⟨he, hb⟩ => ?_
  subst he
  exact ⟨_, rfl, post_lawN Try.laidOutN rfl hW' ⟨rfl, rfl, rfl⟩ rfl Try.underlying4 (by rw [Try.params3]; intro t ht; simp at ht; subst ht; exact ⟨by kernel_rfl, of_decide_eq_true (by kernel_rfl)⟩) hb⟩

theorem scourses_holds : Rows.SoundCoursesSaid :=
  OpenClaim.holds_of_wide 3 Try.f3 rfl rfl rfl rfl rfl rfl rfl ⟨rfl, rfl, rfl, rfl, rfl⟩ rfl rfl rfl rfl rfl (by kernel_rfl) Try.func3 (by kernel_rfl)
    (of_decide_eq_true (by kernel_rfl)) (by unfold Func.isWrapper; rw [if_neg (of_decide_eq_false (by kernel_rfl))]; exact ⟨rfl, rfl⟩)
    (fun os started H enc _ => scourses_lifted os started H enc)
#print axioms scourses_holds

end Go.Proofs.Ytpcehgifpajmbaa
