/- TopRewrites: for every input the law returns true, and its arguments read behind the call as they read before; the card ties the tables that it reads to the program's text. -/
import Derived.Test.YtdhjigaocamglaaDoorQdEnvS
import Derived.Test.YtdhjigaocamglaaDoorQdLawTop
import Derived.Test.YtdhjigaocamglaaDoorQdAp2
import Derived.Test.YtdhjigaocamglaaDoorTie
import Derived.Test.YtdhjigaocamglaaDoorCards
import Derived.SevenTiedAt
import Derived.ChangeMaps5
import Derived.Lib.SmallJoins
namespace Go.Proofs.YtdhjigaocamglaaDoor
open Go.ChangeShapes Go.WideShapes Go.ChangeAt Go.RowKit Go.Deep

set_option maxRecDepth 100000 in
theorem toprw_lifted (os : Os) (started : os.Started) (H : Type) (enc : TypeId × Value → H) :
    ReturnsInHanded {} Tryd.checked os 7 .any (fun w args => (Rows.topRewritesSpec.pre enc Tryd.prog Tryd.f7 Rows.topRewritesRow.domain false w args ∧ laidMetH Tryd.prog Rows.topRewritesRow.laid w) ∧ sizedMet enc Tryd.prog Tryd.f7 (OpenSpec.ofChange Rows.topRewritesSpec) false w args)
      (Rows.topRewritesSpec.post enc Tryd.prog Tryd.f7 false true false false) := by
  refine lift (C := Tryd.checked) own started Tryd.func7 (by kernel_rfl) (fun w h => by rwa [MakeChecks.laidMetH_plain _ _ _ (by kernel_rfl)] at h)
    (ChangeSpec.witness_shaped (enc := enc) (C := Tryd.checked) (os := os) (X := fun w _ => laidMetH Tryd.prog Rows.topRewritesRow.laid w) false (World.laidAll Tryd.prog os Rows.topRewritesRow.laid) #[.agg #[.slice none 0 0, .slice none 0 0, .slice none 0 0], .slice none 0 0] 8 (World.laidAll_os _ _ _)
      (World.shaped_of_ZipB (by kernel_rfl) (by kernel_rfl)) (by kernel_rfl) (by kernel_rfl) (by kernel_rfl)
      (by rw [MakeChecks.laidMetH_plain _ _ _ (by kernel_rfl)]; exact laidMet_laidAll _ (by kernel_rfl) (by kernel_rfl))) ?_
  intro W base args ds gs before hval0 hW hL hsh
  have hval : ∀ (j : Nat) t v, Tryd.f7.params[j]? = some t → args[j]? = some v → Value.okWide Tryd.prog W .any base t v := hval0
  have hW' := hW
  obtain ⟨p, q, hA0, hV, rfl, hfz, hnd⟩ := hW
  have hA : DataW.TrodAll enc Tryd.prog W 0 (fun _ => true) true Tryd.f7.params.toList args.toList ds p := hA0
  rw [Tryd.params7] at hA hval
  obtain ⟨v0, v1, d0, d1, p0, p1, rfl, rfl, rfl, h0, h1⟩ := trodAll_two hA
  obtain ⟨rfl, rfl⟩ := trodVars_none hV
  obtain ⟨A0, n0, c0, B0, m0, k0, D0, q0, e0, C0, S0, P0, rfl, hP0, _, _, _, hL0⟩ := open_pieceL (hval 0 28 v0 rfl rfl) h0
  obtain ⟨sA1, sn1, sc1, Z1, rfl, hZ1, hz1, hk1⟩ := open_script (hval 1 58 v1 rfl rfl) h1
  have E := sgt_of hL (by simp [Rows.topRewritesRow])
  refine (law_top A0 n0 c0 B0 m0 k0 D0 q0 e0 C0 S0 P0 sA1 sn1 sc1 Z1 W E hP0 hL0 hZ1 hz1 hk1).mono fun e W' ⟨he, hb⟩ => ?_
  subst he
  exact ⟨_, rfl, post_law Tryd.laidOut rfl hW' ⟨rfl, rfl, rfl⟩ rfl Tryd.underlying4 (by rw [Tryd.params7]; intro t ht; simp at ht; rcases ht with rfl | rfl <;> exact ⟨by kernel_rfl, of_decide_eq_true (by kernel_rfl)⟩) hb⟩

theorem toprw_holds : Rows.TopRewritesSaid :=
  OpenClaim.holds_of_wide 7 Tryd.f7 rfl rfl rfl rfl rfl rfl rfl ⟨rfl, rfl, rfl, rfl, rfl⟩ rfl rfl rfl rfl rfl (by kernel_rfl) Tryd.func7 (by kernel_rfl)
    (of_decide_eq_true (by kernel_rfl)) (by unfold Func.isWrapper; rw [if_neg (of_decide_eq_false (by kernel_rfl))]; exact ⟨rfl, rfl⟩)
    (fun os started H enc _ => toprw_lifted os started H enc)

theorem toprw_card : Rows.TopRewritesCardSaid :=
  Claim7.holds_tied_plain_at .later [] [.data] true Rows.topRewritesCard.stood.harness false
    toprw_holds (fun _ h => by cases h) (by kernel_rfl) (fun _ h => by cases h) topRewrites_row_tie rfl ⟨rfl, rfl⟩ (by kernel_rfl) rfl
    (fun f fn hf hfn => by
      obtain rfl : f = 7 := Option.some.inj ((show Tryd.prog.funcNamed "theorbo/theorbotop.TopRewrites" = some 7 by kernel_rfl).symm.trans hf) |>.symm
      obtain rfl : fn = Tryd.f7 := (Option.some.inj (Tryd.func7.symm.trans hfn)).symm
      exact ⟨by kernel_rfl, fun j t ht => by
        rw [Tryd.params7] at ht
        have hm : t ∈ [28, 58] := by simpa using Array.mem_of_getElem? ht
        have hall : ([28, 58].all fun u => !Tryd.prog.wantsStandIn u) = true := by kernel_rfl
        exact (show Tryd.prog.wantsStandIn t = false by simpa using List.all_eq_true.1 hall t hm)⟩)
    (by kernel_rfl)
#print axioms toprw_card

end Go.Proofs.YtdhjigaocamglaaDoor
