/- PieceTicks: for every input the law returns true, and its arguments read behind the call as they read before; the card ties the tables that it reads to the program's text. -/
import Derived.Test.YtdaeanjjmbibmaaDoorLift
import Derived.Test.YtdaeanjjmbibmaaDoorEnvS
import Derived.Test.YtdaeanjjmbibmaaDoorLawTicks
import Derived.Test.YtdaeanjjmbibmaaDoorOpenIn
import Derived.Test.YtdaeanjjmbibmaaDoorTie
import Derived.Test.YtdaeanjjmbibmaaDoorCards
import Derived.SevenTiedAt
import Derived.ChangeMaps5
import Derived.Lib.SmallJoins
namespace Go.Proofs.YtdaeanjjmbibmaaDoor
open Go.ChangeShapes Go.WideShapes Go.ChangeAt Go.RowKit Go.Deep

set_option maxRecDepth 100000 in
theorem ticks_lifted (os : Os) (started : os.Started) (H : Type) (enc : TypeId × Value → H) :
    ReturnsInHanded {} Tryd.checked os 7 .any (fun w args => (Rows.pieceTicksSpec.pre enc Tryd.prog Tryd.f7 Rows.pieceTicksRow.domain false w args ∧ laidMetH Tryd.prog Rows.pieceTicksRow.laid w) ∧ sizedMet enc Tryd.prog Tryd.f7 (OpenSpec.ofChange Rows.pieceTicksSpec) false w args)
      (Rows.pieceTicksSpec.post enc Tryd.prog Tryd.f7 false true false false) := by
  refine lift (C := Tryd.checked) own started Tryd.func7 (by kernel_rfl) (fun w h => by rwa [MakeChecks.laidMetH_plain _ _ _ (by kernel_rfl)] at h)
    (ChangeSpec.witness_shaped (enc := enc) (C := Tryd.checked) (os := os) (X := fun w _ => laidMetH Tryd.prog Rows.pieceTicksRow.laid w) false (World.laidAll Tryd.prog os Rows.pieceTicksRow.laid) #[.agg #[.int .i64 0, .bool false, .bool false]] 8 (World.laidAll_os _ _ _)
      (World.shaped_of_ZipB (by kernel_rfl) (by kernel_rfl)) (by kernel_rfl) (by kernel_rfl) (by kernel_rfl)
      (by rw [MakeChecks.laidMetH_plain _ _ _ (by kernel_rfl)]; exact laidMet_laidAll _ (by kernel_rfl) (by kernel_rfl))) ?_
  intro W base args ds gs before hval0 hW hL hsh
  have hval : ∀ (j : Nat) t v, Tryd.f7.params[j]? = some t → args[j]? = some v → Value.okWide Tryd.prog W .any base t v := hval0
  have hW' := hW
  obtain ⟨p, q, hA0, hV, rfl, hfz, hnd⟩ := hW
  have hA : DataW.TrodAll enc Tryd.prog W 0 (fun _ => true) true Tryd.f7.params.toList args.toList ds p := hA0
  rw [Tryd.params7] at hA hval
  obtain ⟨v0, d0, rfl, rfl, h0⟩ := trodAll_one hA
  obtain ⟨rfl, rfl⟩ := trodVars_none hV
  obtain ⟨u0, w0, r0, y0, z0, k0, f0, rfl, rfl, rfl, hy0, hz0, hk0⟩ := Joins.open_agg3 Tryd.underlying44 (by kernel_rfl) (by kernel_rfl) (hval 0 44 v0 rfl rfl) h0
  obtain ⟨sv0, e0, _, _⟩ := DataW.trod_int Tryd.underlying3 hy0
  obtain ⟨sd0, g0, _⟩ := DataW.trod_bool Tryd.underlying4 hz0
  obtain ⟨st0, j0, _⟩ := DataW.trod_bool Tryd.underlying4 hk0
  obtain rfl : u0 = .int .i64 sv0 := by simpa using e0
  obtain rfl : w0 = .bool sd0 := by simpa using g0
  obtain rfl : r0 = .bool st0 := by simpa using j0
  have E := sgt_of hL (by simp [Rows.pieceTicksRow])
  refine (law_ticks sv0 sd0 st0 W E ).mono fun e W' ⟨he, hb⟩ => ?_
  subst he
  exact ⟨_, rfl, post_law Tryd.laidOut rfl hW' ⟨rfl, rfl, rfl⟩ rfl Tryd.underlying4 (by rw [Tryd.params7]; intro t ht; simp at ht; subst ht; exact ⟨by kernel_rfl, of_decide_eq_true (by kernel_rfl)⟩) hb⟩

theorem ticks_holds : Rows.PieceTicksSaid :=
  OpenClaim.holds_of_wide 7 Tryd.f7 rfl rfl rfl rfl rfl rfl rfl ⟨rfl, rfl, rfl, rfl, rfl⟩ rfl rfl rfl rfl rfl (by kernel_rfl) Tryd.func7 (by kernel_rfl)
    (of_decide_eq_true (by kernel_rfl)) (by unfold Func.isWrapper; rw [if_neg (of_decide_eq_false (by kernel_rfl))]; exact ⟨rfl, rfl⟩)
    (fun os started H enc _ => ticks_lifted os started H enc)

theorem ticks_card : Rows.PieceTicksCardSaid :=
  Claim7.holds_tied_plain_at .later [] [.data] true Rows.pieceTicksCard.stood.harness false
    ticks_holds (fun _ h => by cases h) (by kernel_rfl) (fun _ h => by cases h) pieceTicks_row_tie rfl ⟨rfl, rfl⟩ (by kernel_rfl) rfl
    (fun f fn hf hfn => by
      obtain rfl : f = 7 := Option.some.inj ((show Tryd.prog.funcNamed "theorbo/theorbolaw02.PieceTicks" = some 7 by kernel_rfl).symm.trans hf) |>.symm
      obtain rfl : fn = Tryd.f7 := (Option.some.inj (Tryd.func7.symm.trans hfn)).symm
      exact ⟨by kernel_rfl, fun j t ht => by
        rw [Tryd.params7] at ht
        have hm : t ∈ [44] := by simpa using Array.mem_of_getElem? ht
        have hall : ([44].all fun u => !Tryd.prog.wantsStandIn u) = true := by kernel_rfl
        exact (show Tryd.prog.wantsStandIn t = false by simpa using List.all_eq_true.1 hall t hm)⟩)
    (by kernel_rfl)
#print axioms ticks_card

end Go.Proofs.YtdaeanjjmbibmaaDoor
