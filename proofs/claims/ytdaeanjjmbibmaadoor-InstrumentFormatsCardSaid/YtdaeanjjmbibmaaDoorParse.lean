/- What strings.Split and slices.Index give the program's Parse, said of lists of bytes. -/
import Derived.Test.YtdaeanjjmbibmaaDoorCourse
import Derived.Test.YtdaeanjjmbibmaaDoorCheckAll
import Derived.Test.YtdaeanjjmbibmaaDoorWords
namespace Go.Proofs.YtdaeanjjmbibmaaDoor
open Go.RowKit

def strC (l : List (List UInt8)) : List Value := l.map fun x => .string ⟨x.toArray⟩
theorem strC_at (l : List (List UInt8)) (k : Nat) (h : k < l.length) : (strC l)[k]? = some (.string ⟨(l.getD k []).toArray⟩) := by
  simp [strC, List.getElem?_eq_getElem h]

theorem split_any (l : List UInt8) (w : World) (E : Env w) (hs : l.length < 4294967281) :
    Calls Tryd.prog 59 #[.string ⟨l.toArray⟩, .string ⟨#[32]⟩] w fun e w' => e = .returned (.slice (some ⟨w.heap.size, 0, none⟩) (wrd l).length (wrd l).length) ∧ w.alloc (.cells (strC (wrd l)).toArray 9) = w' := by
  obtain ⟨m, hm⟩ := E.mlen
  refine (Tryd.strings_Split ⟨l.toArray⟩ ⟨#[32]⟩ m w hs hm (by decide)).mono fun e w' h => ?_
  have hd := Lib.splitB_data ⟨#[32]⟩ 0 (Lib.countB ⟨l.toArray⟩ ⟨#[32]⟩) ⟨l.toArray⟩
  have hl := Lib.splitB_all ⟨#[32]⟩ (by decide) 0 _ ⟨l.toArray⟩ rfl
  have hk : Lib.countB ⟨l.toArray⟩ ⟨#[32]⟩ = l.count 32 := countF l (l.length + 1) (by omega)
  have hw : Lib.splitK [32] 0 (Lib.countB ⟨l.toArray⟩ ⟨#[32]⟩) l = wrd l := splitK_wrd l _ (by omega)
  have hd2 : (Lib.splitB ⟨#[32]⟩ 0 (Lib.countB ⟨l.toArray⟩ ⟨#[32]⟩) ⟨l.toArray⟩).map (·.data.toList) = wrd l := hd.trans hw
  have hlen : Lib.countB ⟨l.toArray⟩ ⟨#[32]⟩ + 1 = (wrd l).length := by rw [← hl, ← hd2, List.length_map]
  have hcell : ((Lib.splitB ⟨#[32]⟩ 0 (Lib.countB ⟨l.toArray⟩ ⟨#[32]⟩) ⟨l.toArray⟩).map Value.string) = strC (wrd l) := by
    rw [← hd2, strC, List.map_map]
    exact List.map_congr_left fun x _ => rfl
  rw [hlen, hcell] at h
  exact ⟨h.1, h.2.symm⟩

theorem index_any (l : List (List UInt8)) (b c : Nat) (w : World) (hb : l.length ≤ 9223372036854775807) (hc : ∀ j u, (strC l)[j]? = some u → w.cell? ⟨b, 0 + j, none⟩ = some u) :
    Calls Tryd.prog 60 #[.slice (some ⟨b, 0, none⟩) l.length c, .string ⟨#[58]⟩] w fun e w' => e = .returned (.int .i64 (if preOf l < l.length then (preOf l : Int) else -1)) ∧ w = w' := by
  refine (Tryd.slices_Index_string b 0 l.length c (l.map fun x => ⟨x.toArray⟩) ⟨#[58]⟩ w (by simp) hb (fun j hj => ?_)).mono fun e w' h => ⟨h.1.trans ?_, h.2.symm⟩
  · have := hc j _ (strC_at l j (by simpa using hj))
    rw [this]
    simp at hj
    simp [List.getElem?_eq_getElem hj]
  · have e2 : ∀ j, j < l.length → (l.map fun x => (⟨x.toArray⟩ : ByteArray)).getD j ByteArray.empty = ⟨(l.getD j []).toArray⟩ := by
      intro j hj
      simp [List.getElem?_eq_getElem hj]
    have e3 : ∀ x : List UInt8, (⟨x.toArray⟩ : ByteArray) = ⟨#[58]⟩ ↔ x = [58] := by
      intro x
      constructor
      · intro h
        have := congrArg (fun b : ByteArray => b.data.toList) h
        simpa using this
      · rintro rfl; rfl
    congr 1
    congr 1
    by_cases hp : preOf l < l.length
    · rw [if_pos hp]
      refine Lib.idxOfS_hit _ l.length (preOf l) _ hp (by simp) ?_ ?_
      · rw [e2 _ hp, preOf_hit l hp]
      · intro j hj
        rw [e2 j (by omega)]
        intro he
        exact preOf_before l j hj ((e3 _).1 he)
    · rw [if_neg hp]
      refine Lib.idxOfS_miss _ _ _ ?_
      intro j hj
      rw [e2 j hj]
      intro he
      have := preOf_le l
      exact preOf_before l j (by omega) ((e3 _).1 he)

end Go.Proofs.YtdaeanjjmbibmaaDoor
