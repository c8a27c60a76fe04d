/- InstrumentNames: for every text the law returns true, and its argument reads behind the call as it read before; given the reference's ParseName; the card ties the tables that it reads to the program's text. -/
import Derived.Test.YtjigapilplolcaaDoorLift
import Derived.Test.YtjigapilplolcaaDoorLawNames
import Derived.Test.YtjigapilplolcaaDoorTie
import Derived.Test.YtjigapilplolcaaDoorCards
import Derived.SevenTiedAt
import Derived.ChangeMaps5
import Derived.Lib.SmallJoins
namespace Go.Proofs.YtjigapilplolcaaDoor
open Go.ChangeShapes Go.WideShapes Go.ChangeAt Go.RowKit Go.Deep

set_option maxRecDepth 100000 in
theorem names_lifted (RPa : ∀ (l : List UInt8) (w : World), l.length < 4294967200 → Calls Tryd.prog 24 #[.string ⟨l.toArray⟩] w fun e w' => e = .returned (.tuple #[.agg #[.int .i64 (nmL l), .int .i64 (nmA l), .int .i64 (nmO l)], .int .i64 (nmE l)]) ∧ Below w.heap.size w w') (os : Os) (started : os.Started) (H : Type) (enc : TypeId × Value → H) :
    ReturnsInHanded {} Tryd.checked os 5 .any (fun w args => (Rows.instrumentNamesSpec.pre enc Tryd.prog Tryd.f5 Rows.instrumentNamesRow.domain false w args ∧ laidMetH Tryd.prog Rows.instrumentNamesRow.laid w) ∧ sizedMet enc Tryd.prog Tryd.f5 (OpenSpec.ofChange Rows.instrumentNamesSpec) false w args)
      (Rows.instrumentNamesSpec.post enc Tryd.prog Tryd.f5 false true false false) := by
  refine lift (C := Tryd.checked) own started Tryd.func5 (by kernel_rfl) (fun w h => by rwa [MakeChecks.laidMetH_plain _ _ _ (by kernel_rfl)] at h)
    (ChangeSpec.witness_shaped (enc := enc) (C := Tryd.checked) (os := os) (X := fun w _ => laidMetH Tryd.prog Rows.instrumentNamesRow.laid w) false (World.laidAll Tryd.prog os Rows.instrumentNamesRow.laid) #[.string ⟨#[]⟩] 8 (World.laidAll_os _ _ _)
      (World.shaped_of_ZipB (by kernel_rfl) (by kernel_rfl)) (by kernel_rfl) (by kernel_rfl) (by kernel_rfl)
      (by rw [MakeChecks.laidMetH_plain _ _ _ (by kernel_rfl)]; exact laidMet_laidAll _ (by kernel_rfl) (by kernel_rfl))) ?_
  intro W base args ds gs before hval0 hW hL hsh
  have hval : ∀ (j : Nat) t v, Tryd.f5.params[j]? = some t → args[j]? = some v → Value.okWide Tryd.prog W .any base t v := hval0
  have hW' := hW
  obtain ⟨p, q, hA0, hV, rfl, hfz, hnd⟩ := hW
  have hA : DataW.TrodAll enc Tryd.prog W 0 (fun _ => true) true Tryd.f5.params.toList args.toList ds p := hA0
  rw [Tryd.params5] at hA hval
  obtain ⟨v0, d0, rfl, rfl, h0⟩ := trodAll_one hA
  obtain ⟨rfl, rfl⟩ := trodVars_none hV
  obtain ⟨s, rfl, rfl, rfl, _⟩ := Go.ChangeMaps.open_string Tryd.underlying9 (hval 0 9 v0 rfl rfl) h0
  obtain ⟨l, rfl⟩ : ∃ l : List UInt8, s = ⟨l.toArray⟩ := ⟨s.data.toList, str_of_list rfl⟩
  have E := env_of hL (by simp [Rows.instrumentNamesRow]) (by simp [Rows.instrumentNamesRow]) hsh
  refine (law_names_of RPa l W E).mono fun e W' ⟨he, hb⟩ => ?_
  subst he
  exact ⟨_, rfl, post_law Tryd.laidOut rfl hW' ⟨rfl, rfl, rfl⟩ rfl Tryd.underlying4 (by rw [Tryd.params5]; intro t ht; simp at ht; subst ht; exact ⟨by kernel_rfl, of_decide_eq_true (by kernel_rfl)⟩) hb⟩

theorem names_holds (RPa : ∀ (l : List UInt8) (w : World), l.length < 4294967200 → Calls Tryd.prog 24 #[.string ⟨l.toArray⟩] w fun e w' => e = .returned (.tuple #[.agg #[.int .i64 (nmL l), .int .i64 (nmA l), .int .i64 (nmO l)], .int .i64 (nmE l)]) ∧ Below w.heap.size w w') : Rows.InstrumentNamesSaid :=
  OpenClaim.holds_of_wide 5 Tryd.f5 rfl rfl rfl rfl rfl rfl rfl ⟨rfl, rfl, rfl, rfl, rfl⟩ rfl rfl rfl rfl rfl (by kernel_rfl) Tryd.func5 (by kernel_rfl)
    (of_decide_eq_true (by kernel_rfl)) (by unfold Func.isWrapper; rw [if_neg (of_decide_eq_false (by kernel_rfl))]; exact ⟨rfl, rfl⟩)
    (fun os started H enc _ => names_lifted RPa os started H enc)

theorem names_card_of (RPa : ∀ (l : List UInt8) (w : World), l.length < 4294967200 → Calls Tryd.prog 24 #[.string ⟨l.toArray⟩] w fun e w' => e = .returned (.tuple #[.agg #[.int .i64 (nmL l), .int .i64 (nmA l), .int .i64 (nmO l)], .int .i64 (nmE l)]) ∧ Below w.heap.size w w') : Rows.InstrumentNamesCardSaid :=
  Claim7.holds_tied_plain_at .later [] [.data, .data, .data, .pinned] true Rows.instrumentNamesCard.stood.harness false
    (names_holds RPa) (fun _ h => by cases h) (by kernel_rfl) (fun _ h => by cases h) instrumentNames_row_tie rfl ⟨rfl, rfl⟩ (by kernel_rfl) rfl
    (fun f fn hf hfn => by
      obtain rfl : f = 5 := Option.some.inj ((show Tryd.prog.funcNamed "theorbo/theorbolaw01.InstrumentNames" = some 5 by kernel_rfl).symm.trans hf) |>.symm
      obtain rfl : fn = Tryd.f5 := (Option.some.inj (Tryd.func5.symm.trans hfn)).symm
      exact ⟨by kernel_rfl, fun j t ht => by
        rw [Tryd.params5] at ht
        have hm : t ∈ [9] := by simpa using Array.mem_of_getElem? ht
        have hall : ([9].all fun u => !Tryd.prog.wantsStandIn u) = true := by kernel_rfl
        exact (show Tryd.prog.wantsStandIn t = false by simpa using List.all_eq_true.1 hall t hm)⟩)
    (by kernel_rfl)
#print axioms names_card_of

end Go.Proofs.YtjigapilplolcaaDoor
