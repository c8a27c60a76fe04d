/- InstrumentFinds: for every input the law returns true, and its arguments read behind the call as they read before; the card ties the tables that it reads to the program's text. -/
import Derived.Test.YtbjmlbmkfgocdaaDoorLift
import Derived.Test.YtbjmlbmkfgocdaaDoorLawFinds
import Derived.Test.YtbjmlbmkfgocdaaDoorOpenIn
import Derived.Test.YtbjmlbmkfgocdaaDoorTie
import Derived.Test.YtbjmlbmkfgocdaaDoorCards
import Derived.SevenTiedAt
import Derived.Lib.SmallJoins
namespace Go.Proofs.YtbjmlbmkfgocdaaDoor
open Go.ChangeShapes Go.WideShapes Go.ChangeAt Go.RowKit Go.Deep

set_option maxRecDepth 100000 in
theorem finds_lifted (os : Os) (started : os.Started) (H : Type) (enc : TypeId × Value → H) :
    ReturnsInHanded {} Tryd.checked os 6 .any (fun w args => (Rows.instrumentFindsSpec.pre enc Tryd.prog Tryd.f6 Rows.instrumentFindsRow.domain false w args ∧ laidMetH Tryd.prog Rows.instrumentFindsRow.laid w) ∧ sizedMet enc Tryd.prog Tryd.f6 (OpenSpec.ofChange Rows.instrumentFindsSpec) false w args)
      (Rows.instrumentFindsSpec.post enc Tryd.prog Tryd.f6 false true false false) := by
  refine lift (C := Tryd.checked) own started Tryd.func6 (by kernel_rfl) (fun w h => by rwa [MakeChecks.laidMetH_plain _ _ _ (by kernel_rfl)] at h)
    (ChangeSpec.witness_shaped (enc := enc) (C := Tryd.checked) (os := os) (X := fun w _ => laidMetH Tryd.prog Rows.instrumentFindsRow.laid w) false (World.laidAll Tryd.prog os Rows.instrumentFindsRow.laid) #[.agg #[.slice none 0 0, .slice none 0 0], .agg #[.int .i64 0, .int .i64 0]] 8 (World.laidAll_os _ _ _)
      (World.shaped_of_ZipB (by kernel_rfl) (by kernel_rfl)) (by kernel_rfl) (by kernel_rfl) (by kernel_rfl)
      (by rw [MakeChecks.laidMetH_plain _ _ _ (by kernel_rfl)]; exact laidMet_laidAll _ (by kernel_rfl) (by kernel_rfl))) ?_
  intro W base args ds gs before hval0 hW hL hsh
  have hval : ∀ (j : Nat) t v, Tryd.f6.params[j]? = some t → args[j]? = some v → Value.okWide Tryd.prog W .any base t v := hval0
  have hW' := hW
  obtain ⟨p, q, hA0, hV, rfl, hfz, hnd⟩ := hW
  have hA : DataW.TrodAll enc Tryd.prog W 0 (fun _ => true) true Tryd.f6.params.toList args.toList ds p := hA0
  rw [Tryd.params6] at hA hval
  obtain ⟨v0, v1, d0, d1, p0, p1, rfl, rfl, rfl, h0, h1⟩ := trodAll_two hA
  obtain ⟨rfl, rfl⟩ := trodVars_none hV
  obtain ⟨A0, n0, c0, B0, m0, k0, C0, S0, rfl, hC0, hS0, hn0, hm0, _, _⟩ := open_inst (hval 0 36 v0 rfl rfl) h0
  obtain ⟨u1, w1, y1, z1, f1, rfl, rfl, rfl, hy1, hz1⟩ := Joins.open_agg2 Tryd.underlying38 (by kernel_rfl) (by kernel_rfl) (hval 1 38 v1 rfl rfl) h1
  obtain ⟨pc1, e1, _, _⟩ := DataW.trod_int Tryd.underlying3 hy1
  obtain ⟨pf1, g1, _, _⟩ := DataW.trod_int Tryd.underlying3 hz1
  obtain rfl : u1 = .int .i64 pc1 := by simpa using e1
  obtain rfl : w1 = .int .i64 pf1 := by simpa using g1
  have E := env_of hL (by simp [Rows.instrumentFindsRow]) (by simp [Rows.instrumentFindsRow]) hsh
  refine (law_finds A0 B0 n0 c0 m0 k0 C0 S0 pc1 pf1 W E hC0 hS0 hn0 hm0).mono fun e W' ⟨he, hb⟩ => ?_
  subst he
  exact ⟨_, rfl, post_law Tryd.laidOut rfl hW' ⟨rfl, rfl, rfl⟩ rfl Tryd.underlying4 (by rw [Tryd.params6]; intro t ht; simp at ht; rcases ht with rfl | rfl <;> exact ⟨by kernel_rfl, of_decide_eq_true (by kernel_rfl)⟩) hb⟩

theorem finds_holds : Rows.InstrumentFindsSaid :=
  OpenClaim.holds_of_wide 6 Tryd.f6 rfl rfl rfl rfl rfl rfl rfl ⟨rfl, rfl, rfl, rfl, rfl⟩ rfl rfl rfl rfl rfl (by kernel_rfl) Tryd.func6 (by kernel_rfl)
    (of_decide_eq_true (by kernel_rfl)) (by unfold Func.isWrapper; rw [if_neg (of_decide_eq_false (by kernel_rfl))]; exact ⟨rfl, rfl⟩)
    (fun os started H enc _ => finds_lifted os started H enc)

theorem finds_card : Rows.InstrumentFindsCardSaid :=
  Claim7.holds_tied_plain_at .later [] [.data, .data, .data, .pinned] true Rows.instrumentFindsCard.stood.harness false
    finds_holds (fun _ h => by cases h) (by kernel_rfl) (fun _ h => by cases h) instrumentFinds_row_tie rfl ⟨rfl, rfl⟩ (by kernel_rfl) rfl
    (fun f fn hf hfn => by
      obtain rfl : f = 6 := Option.some.inj ((show Tryd.prog.funcNamed "theorbo/theorbolaw01.InstrumentFinds" = some 6 by kernel_rfl).symm.trans hf) |>.symm
      obtain rfl : fn = Tryd.f6 := (Option.some.inj (Tryd.func6.symm.trans hfn)).symm
      exact ⟨by kernel_rfl, fun j t ht => by
        rw [Tryd.params6] at ht
        have hm : t ∈ [36, 38] := by simpa using Array.mem_of_getElem? ht
        have hall : ([36, 38].all fun u => !Tryd.prog.wantsStandIn u) = true := by kernel_rfl
        exact (show Tryd.prog.wantsStandIn t = false by simpa using List.all_eq_true.1 hall t hm)⟩)
    (by kernel_rfl)
#print axioms finds_card

end Go.Proofs.YtbjmlbmkfgocdaaDoor
