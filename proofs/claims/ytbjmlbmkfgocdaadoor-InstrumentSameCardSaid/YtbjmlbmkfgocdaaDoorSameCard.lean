/- InstrumentSame: for every input the law returns true, and its arguments read behind the call as they read before; the card ties the tables that it reads to the program's text. -/
import Derived.Test.YtbjmlbmkfgocdaaDoorLift
import Derived.Test.YtbjmlbmkfgocdaaDoorLawSame
import Derived.Test.YtbjmlbmkfgocdaaDoorOpenIn
import Derived.Test.YtbjmlbmkfgocdaaDoorTie
import Derived.Test.YtbjmlbmkfgocdaaDoorCards
import Derived.SevenTiedAt
import Derived.Lib.SmallJoins
namespace Go.Proofs.YtbjmlbmkfgocdaaDoor
open Go.ChangeShapes Go.WideShapes Go.ChangeAt Go.RowKit Go.Deep

set_option maxRecDepth 100000 in
theorem same_lifted (os : Os) (started : os.Started) (H : Type) (enc : TypeId × Value → H) :
    ReturnsInHanded {} Tryd.checked os 13 .any (fun w args => (Rows.instrumentSameSpec.pre enc Tryd.prog Tryd.f13 Rows.instrumentSameRow.domain false w args ∧ laidMetH Tryd.prog Rows.instrumentSameRow.laid w) ∧ sizedMet enc Tryd.prog Tryd.f13 (OpenSpec.ofChange Rows.instrumentSameSpec) false w args)
      (Rows.instrumentSameSpec.post enc Tryd.prog Tryd.f13 false true false false) := by
  refine lift (C := Tryd.checked) own started Tryd.func13 (by kernel_rfl) (fun w h => by rwa [MakeChecks.laidMetH_plain _ _ _ (by kernel_rfl)] at h)
    (ChangeSpec.witness_shaped (enc := enc) (C := Tryd.checked) (os := os) (X := fun w _ => laidMetH Tryd.prog Rows.instrumentSameRow.laid w) false (World.laidAll Tryd.prog os Rows.instrumentSameRow.laid) #[.agg #[.slice none 0 0, .slice none 0 0], .agg #[.slice none 0 0, .slice none 0 0]] 8 (World.laidAll_os _ _ _)
      (World.shaped_of_ZipB (by kernel_rfl) (by kernel_rfl)) (by kernel_rfl) (by kernel_rfl) (by kernel_rfl)
      (by rw [MakeChecks.laidMetH_plain _ _ _ (by kernel_rfl)]; exact laidMet_laidAll _ (by kernel_rfl) (by kernel_rfl))) ?_
  intro W base args ds gs before hval0 hW hL hsh
  have hval : ∀ (j : Nat) t v, Tryd.f13.params[j]? = some t → args[j]? = some v → Value.okWide Tryd.prog W .any base t v := hval0
  have hW' := hW
  obtain ⟨p, q, hA0, hV, rfl, hfz, hnd⟩ := hW
  have hA : DataW.TrodAll enc Tryd.prog W 0 (fun _ => true) true Tryd.f13.params.toList args.toList ds p := hA0
  rw [Tryd.params13] at hA hval
  obtain ⟨v0, v1, d0, d1, p0, p1, rfl, rfl, rfl, h0, h1⟩ := trodAll_two hA
  obtain ⟨rfl, rfl⟩ := trodVars_none hV
  obtain ⟨A0, n0, c0, B0, m0, k0, C0, S0, rfl, hC0, hS0, hn0, hm0, _, _⟩ := open_inst (hval 0 36 v0 rfl rfl) h0
  obtain ⟨A1, n1, c1, B1, m1, k1, C1, S1, rfl, hC1, hS1, hn1, hm1, _, _⟩ := open_inst (hval 1 36 v1 rfl rfl) h1
  have E := env_of hL (by simp [Rows.instrumentSameRow]) (by simp [Rows.instrumentSameRow]) hsh
  refine (law_same A0 B0 n0 c0 m0 k0 C0 S0 A1 B1 n1 c1 m1 k1 C1 S1 W E hC0 hS0 hn0 hm0 hC1 hS1 hn1 hm1).mono fun e W' ⟨he, hb⟩ => ?_
  subst he
  exact ⟨_, rfl, post_law Tryd.laidOut rfl hW' ⟨rfl, rfl, rfl⟩ rfl Tryd.underlying4 (by rw [Tryd.params13]; intro t ht; simp at ht; subst ht; exact ⟨by kernel_rfl, of_decide_eq_true (by kernel_rfl)⟩) hb⟩

theorem same_holds : Rows.InstrumentSameSaid :=
  OpenClaim.holds_of_wide 13 Tryd.f13 rfl rfl rfl rfl rfl rfl rfl ⟨rfl, rfl, rfl, rfl, rfl⟩ rfl rfl rfl rfl rfl (by kernel_rfl) Tryd.func13 (by kernel_rfl)
    (of_decide_eq_true (by kernel_rfl)) (by unfold Func.isWrapper; rw [if_neg (of_decide_eq_false (by kernel_rfl))]; exact ⟨rfl, rfl⟩)
    (fun os started H enc _ => same_lifted os started H enc)

theorem same_card : Rows.InstrumentSameCardSaid :=
  Claim7.holds_tied_plain_at .later [] [.data, .data, .data, .pinned] true Rows.instrumentSameCard.stood.harness false
    same_holds (fun _ h => by cases h) (by kernel_rfl) (fun _ h => by cases h) instrumentSame_row_tie rfl ⟨rfl, rfl⟩ (by kernel_rfl) rfl
    (fun f fn hf hfn => by
      obtain rfl : f = 13 := Option.some.inj ((show Tryd.prog.funcNamed "theorbo/theorbolaw01.InstrumentSame" = some 13 by kernel_rfl).symm.trans hf) |>.symm
      obtain rfl : fn = Tryd.f13 := (Option.some.inj (Tryd.func13.symm.trans hfn)).symm
      exact ⟨by kernel_rfl, fun j t ht => by
        rw [Tryd.params13] at ht
        have hm : t ∈ [36, 36] := by simpa using Array.mem_of_getElem? ht
        have hall : ([36, 36].all fun u => !Tryd.prog.wantsStandIn u) = true := by kernel_rfl
        exact (show Tryd.prog.wantsStandIn t = false by simpa using List.all_eq_true.1 hall t hm)⟩)
    (by kernel_rfl)
#print axioms same_card

end Go.Proofs.YtbjmlbmkfgocdaaDoor
