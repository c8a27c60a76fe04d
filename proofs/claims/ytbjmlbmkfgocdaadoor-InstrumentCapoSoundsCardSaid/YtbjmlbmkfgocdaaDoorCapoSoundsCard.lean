/- InstrumentCapoSounds: for every input the law returns true, and its arguments read behind the call as they read before; the card ties the tables that it reads to the program's text. -/
import Derived.Test.YtbjmlbmkfgocdaaDoorLift
import Derived.Test.YtbjmlbmkfgocdaaDoorLawCapoSounds
import Derived.Test.YtbjmlbmkfgocdaaDoorOpenIn
import Derived.Test.YtbjmlbmkfgocdaaDoorTie
import Derived.Test.YtbjmlbmkfgocdaaDoorCards
import Derived.SevenTiedAt
import Derived.Lib.SmallJoins
namespace Go.Proofs.YtbjmlbmkfgocdaaDoor
open Go.ChangeShapes Go.WideShapes Go.ChangeAt Go.RowKit Go.Deep

set_option maxRecDepth 100000 in
theorem caposounds_lifted (os : Os) (started : os.Started) (H : Type) (enc : TypeId × Value → H) :
    ReturnsInHanded {} Tryd.checked os 11 .any (fun w args => (Rows.instrumentCapoSoundsSpec.pre enc Tryd.prog Tryd.f11 Rows.instrumentCapoSoundsRow.domain false w args ∧ laidMetH Tryd.prog Rows.instrumentCapoSoundsRow.laid w) ∧ sizedMet enc Tryd.prog Tryd.f11 (OpenSpec.ofChange Rows.instrumentCapoSoundsSpec) false w args)
      (Rows.instrumentCapoSoundsSpec.post enc Tryd.prog Tryd.f11 false true false false) := by
  refine lift (C := Tryd.checked) own started Tryd.func11 (by kernel_rfl) (fun w h => by rwa [MakeChecks.laidMetH_plain _ _ _ (by kernel_rfl)] at h)
    (ChangeSpec.witness_shaped (enc := enc) (C := Tryd.checked) (os := os) (X := fun w _ => laidMetH Tryd.prog Rows.instrumentCapoSoundsRow.laid w) false (World.laidAll Tryd.prog os Rows.instrumentCapoSoundsRow.laid) #[.agg #[.slice none 0 0, .slice none 0 0], .int .i64 0, .agg #[.int .i64 0, .int .i64 0]] 8 (World.laidAll_os _ _ _)
      (World.shaped_of_ZipB (by kernel_rfl) (by kernel_rfl)) (by kernel_rfl) (by kernel_rfl) (by kernel_rfl)
      (by rw [MakeChecks.laidMetH_plain _ _ _ (by kernel_rfl)]; exact laidMet_laidAll _ (by kernel_rfl) (by kernel_rfl))) ?_
  intro W base args ds gs before hval0 hW hL hsh
  have hval : ∀ (j : Nat) t v, Tryd.f11.params[j]? = some t → args[j]? = some v → Value.okWide Tryd.prog W .any base t v := hval0
  have hW' := hW
  obtain ⟨p, q, hA0, hV, rfl, hfz, hnd⟩ := hW
  have hA : DataW.TrodAll enc Tryd.prog W 0 (fun _ => true) true Tryd.f11.params.toList args.toList ds p := hA0
  rw [Tryd.params11] at hA hval
  obtain ⟨v0, v1, v2, d0, d1, d2, p0, p1, p2, rfl, rfl, rfl, h0, h1, h2⟩ := trodAll_three hA
  obtain ⟨rfl, rfl⟩ := trodVars_none hV
  obtain ⟨A0, n0, c0, B0, m0, k0, C0, S0, rfl, hC0, hS0, hn0, hm0, _, _⟩ := open_inst (hval 0 36 v0 rfl rfl) h0
  obtain ⟨x1, rfl, _, _, _⟩ := open_int Tryd.underlying3 (hval 1 3 v1 rfl rfl) h1
  obtain ⟨u2, w2, y2, z2, f2, rfl, rfl, rfl, hy2, hz2⟩ := Joins.open_agg2 Tryd.underlying38 (by kernel_rfl) (by kernel_rfl) (hval 2 38 v2 rfl rfl) h2
  obtain ⟨pc2, e2, _, _⟩ := DataW.trod_int Tryd.underlying3 hy2
  obtain ⟨pf2, g2, _, _⟩ := DataW.trod_int Tryd.underlying3 hz2
  obtain rfl : u2 = .int .i64 pc2 := by simpa using e2
  obtain rfl : w2 = .int .i64 pf2 := by simpa using g2
  have E := env_of hL (by simp [Rows.instrumentCapoSoundsRow]) (by simp [Rows.instrumentCapoSoundsRow]) hsh
  refine (law_caposounds A0 B0 n0 c0 m0 k0 C0 S0 x1 pc2 pf2 W E hC0 hS0 hn0 hm0).mono fun e W' ⟨he, hb⟩ => ?_
  subst he
  exact ⟨_, rfl, post_law Tryd.laidOut rfl hW' ⟨rfl, rfl, rfl⟩ rfl Tryd.underlying4 (by rw [Tryd.params11]; intro t ht; simp at ht; rcases ht with rfl | rfl | rfl <;> exact ⟨by kernel_rfl, of_decide_eq_true (by kernel_rfl)⟩) hb⟩

theorem caposounds_holds : Rows.InstrumentCapoSoundsSaid :=
  OpenClaim.holds_of_wide 11 Tryd.f11 rfl rfl rfl rfl rfl rfl rfl ⟨rfl, rfl, rfl, rfl, rfl⟩ rfl rfl rfl rfl rfl (by kernel_rfl) Tryd.func11 (by kernel_rfl)
    (of_decide_eq_true (by kernel_rfl)) (by unfold Func.isWrapper; rw [if_neg (of_decide_eq_false (by kernel_rfl))]; exact ⟨rfl, rfl⟩)
    (fun os started H enc _ => caposounds_lifted os started H enc)

theorem caposounds_card : Rows.InstrumentCapoSoundsCardSaid :=
  Claim7.holds_tied_plain_at .later [] [.data, .data, .data, .pinned] true Rows.instrumentCapoSoundsCard.stood.harness false
    caposounds_holds (fun _ h => by cases h) (by kernel_rfl) (fun _ h => by cases h) instrumentCapoSounds_row_tie rfl ⟨rfl, rfl⟩ (by kernel_rfl) rfl
    (fun f fn hf hfn => by
      obtain rfl : f = 11 := Option.some.inj ((show Tryd.prog.funcNamed "theorbo/theorbolaw01.InstrumentCapoSounds" = some 11 by kernel_rfl).symm.trans hf) |>.symm
      obtain rfl : fn = Tryd.f11 := (Option.some.inj (Tryd.func11.symm.trans hfn)).symm
      exact ⟨by kernel_rfl, fun j t ht => by
        rw [Tryd.params11] at ht
        have hm : t ∈ [36, 3, 38] := by simpa using Array.mem_of_getElem? ht
        have hall : ([36, 3, 38].all fun u => !Tryd.prog.wantsStandIn u) = true := by kernel_rfl
        exact (show Tryd.prog.wantsStandIn t = false by simpa using List.all_eq_true.1 hall t hm)⟩)
    (by kernel_rfl)
#print axioms caposounds_card

end Go.Proofs.YtbjmlbmkfgocdaaDoor
