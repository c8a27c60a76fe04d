/- Concords: in any order, with repeats, transposed. -/
import Derived.Test.YtcebpgcmmdfccaaConcW
namespace Go.Proofs.Ytcebpgcmmdfccaa
open Go Go.RowKit

/-- What a concord is, by membership alone. -/
def ConP (L : List Int) : Prop := ∀ x ∈ L, ∀ y ∈ L, ((∀ z ∈ L, x ≤ z) → badB (iv x y) = false) ∧ (x < y → disB (iv x y) = false)
theorem getD_memI {L : List Int} {k : Nat} (h : k < L.length) : L.getD k 0 ∈ L := by
  have e : L.getD k 0 = L[k] := by simp [List.getElem?_eq_getElem h]
  rw [e]
  exact List.getElem_mem h
theorem mem_getDI {L : List Int} {x : Int} (h : x ∈ L) : ∃ k, k < L.length ∧ L.getD k 0 = x := by
  obtain ⟨k, hk, rfl⟩ := List.getElem_of_mem h
  exact ⟨k, hk, by simp [List.getElem?_eq_getElem hk]⟩
theorem rcon_iff (L : List Int) : rconB L = true ↔ ConP L := by
  have hlw : ∀ i, i < L.length → (lwB L i L.length = true ↔ ∀ z ∈ L, L.getD i 0 ≤ z) := by
    intro i hi
    simp only [lwB, List.all_eq_true, List.mem_range, decide_eq_true_eq]
    constructor
    · intro h z hz
      obtain ⟨k, hk, rfl⟩ := mem_getDI hz
      exact h k hk
    · intro h j hj
      exact h _ (getD_memI hj)
  simp only [rconB, rUpB, rInB, rOne, List.all_eq_true, List.mem_range, Bool.and_eq_true, Bool.not_eq_true', Bool.and_eq_false_iff, decide_eq_false_iff_not]
  constructor
  · intro h x hx y hy
    obtain ⟨i, hi, rfl⟩ := mem_getDI hx
    obtain ⟨k, hk, rfl⟩ := mem_getDI hy
    obtain ⟨h1, h2⟩ := h i hi k hk
    refine ⟨fun hz => ?_, fun hlt => ?_⟩
    · rcases h1 with h | h
      · rw [(hlw i hi).2 hz] at h; cases h
      · exact h
    · rcases h2 with h | h
      · exact absurd hlt h
      · exact h
  · intro h i hi k hk
    obtain ⟨h1, h2⟩ := h _ (getD_memI hi) _ (getD_memI hk)
    refine ⟨?_, ?_⟩
    · cases ha : lwB L i L.length with
      | false => exact .inl rfl
      | true => exact .inr (h1 ((hlw i hi).1 ha))
    · by_cases ha : L.getD i 0 < L.getD k 0
      · exact .inr (h2 ha)
      · exact .inl ha
theorem con_mem {L M : List Int} (h : ∀ x, x ∈ M ↔ x ∈ L) : pconB M = pconB L := by
  rw [conc_eq, conc_eq, Bool.eq_iff_iff, rcon_iff, rcon_iff]
  unfold ConP
  simp only [h]
theorem con_up (L : List Int) (b : Int) : pconB (L.map fun x => x + b) = pconB L := by
  rw [conc_eq, conc_eq, Bool.eq_iff_iff, rcon_iff, rcon_iff]
  unfold ConP
  have hi : ∀ x y : Int, iv (x + b) (y + b) = iv x y := fun x y => by unfold iv; congr 1; omega
  simp only [List.mem_map, forall_exists_index, and_imp, forall_apply_eq_imp_iff₂, hi]
  constructor
  · intro h x hx y hy
    obtain ⟨h1, h2⟩ := h x hx y hy
    exact ⟨fun hz => h1 (fun z hz' => by have := hz z hz'; omega), fun hlt => h2 (by omega)⟩
  · intro h x hx y hy
    obtain ⟨h1, h2⟩ := h x hx y hy
    exact ⟨fun hz => h1 (fun z hz' => by have := hz z hz'; omega), fun hlt => h2 (by omega)⟩
def kL (od : Bool) (L : List Int) : List Int := if od then L.reverse else L
theorem kL_len (od : Bool) (L : List Int) : (kL od L).length = L.length := by unfold kL; split <;> simp
theorem kL_mem (od : Bool) (L : List Int) (x : Int) : x ∈ kL od L ↔ x ∈ L := by unfold kL; split <;> simp
theorem kL_rev (L : List Int) {i : Nat} (h : i < L.length) : (kL true L).getD i 0 = L.getD (L.length - 1 - i) 0 := by
  have h2 : L.length - 1 - i < L.length := by omega
  simp only [kL, if_true, List.getD_eq_getElem?_getD]
  rw [List.getElem?_reverse h]
def othL (K : List Int) (k : Nat) : List Int := (K.take k).flatMap fun x => [x, x]
def upsL (K : List Int) (b : Int) (k : Nat) : List Int := (K.take k).map fun x => x + b
theorem take_sucI {K : List Int} {k : Nat} (h : k < K.length) : K.take (k + 1) = K.take k ++ [K.getD k 0] := by
  rw [List.take_add_one]
  simp [List.getElem?_eq_getElem h]
theorem oth_succ {K : List Int} {k : Nat} (h : k < K.length) : othL K (k + 1) = othL K k ++ [K.getD k 0, K.getD k 0] := by
  unfold othL
  rw [take_sucI h, List.flatMap_append]
  simp
theorem ups_succ {K : List Int} {b : Int} {k : Nat} (h : k < K.length) : upsL K b (k + 1) = upsL K b k ++ [K.getD k 0 + b] := by
  unfold upsL
  rw [take_sucI h, List.map_append]
  rfl
theorem oth_len {K : List Int} : ∀ {k : Nat}, k ≤ K.length → (othL K k).length = 2 * k
  | 0, _ => rfl
  | k + 1, h => by
    rw [oth_succ (by omega), List.length_append, oth_len (by omega)]
    simp
    omega
theorem ups_len {K : List Int} {b : Int} {k : Nat} (h : k ≤ K.length) : (upsL K b k).length = k := by
  unfold upsL
  simp
  omega
/-- At the end: all three are concords, or none is. -/
theorem con_all (od : Bool) (L : List Int) (b : Int) : pconB (othL (kL od L) L.length) = pconB L ∧ pconB (upsL (kL od L) b L.length) = pconB L := by
  have e : (kL od L).take L.length = kL od L := by rw [← kL_len od L]; exact List.take_length
  unfold othL upsL
  rw [e]
  refine ⟨con_mem fun x => ?_, (con_up _ b).trans (con_mem fun x => kL_mem od L x)⟩
  rw [List.mem_flatMap]
  constructor
  · rintro ⟨y, hy, hx⟩
    have : x = y := by simpa using hx
    subst this
    exact (kL_mem od L x).1 hy
  · intro h
    exact ⟨x, (kL_mem od L x).2 h, by simp⟩

end Go.Proofs.Ytcebpgcmmdfccaa
