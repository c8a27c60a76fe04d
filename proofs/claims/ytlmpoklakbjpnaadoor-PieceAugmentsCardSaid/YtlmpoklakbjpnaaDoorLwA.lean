/- Pieces: what the laws share: a call that hands back a piece; the reference's Same at equal pieces. -/
import Derived.Test.YtlmpoklakbjpnaaDoorRw6
import Derived.Test.YtlmpoklakbjpnaaDoorCmp4
namespace Go.Proofs.YtlmpoklakbjpnaaDoor
open Go Go.RowKit

theorem pcEqB_refl (C : List Cr) (S : List Int) (P : List EvP) : pcEqB C S P C S P = true := by
  unfold pcEqB
  rw [sameB_refl, eqL_refl evEqB_refl]; rfl
theorem oC_len {α : Type} (er : Int) (L : List α) : (oC er L).length ≤ L.length := by
  unfold oC
  split <;> simp
theorem oC_mem {α : Type} {er : Int} {L : List α} {x : α} (h : x ∈ oC er L) : x ∈ L := by
  unfold oC at h
  split at h
  · exact h
  · cases h
/-- A call hands back a piece that lies in memory, and an error. -/
def PcUse (er : Int) (C : List Cr) (S : List Int) (P : List EvP) (w : World) (e : Ending) (w' : World) : Prop :=
  ∃ B n d B' m d' B2 q d2, e = .returned (.tuple #[pcV B n d B' m d' B2 q d2, .int .i64 er]) ∧ PcIn w' B n d B' m d' B2 q d2 C S P ∧ (n ≤ 65536 ∧ m ≤ 65536 ∧ q ≤ 65536) ∧ Below w.heap.size w w'
theorem PcRes.use {er : Int} {C : List Cr} {S : List Int} {P : List EvP} {w : World} {e : Ending} {w' : World} (h : PcRes er C S P w e w') (h1 : C.length ≤ 65536) (h2 : S.length ≤ 65536) (h3 : P.length ≤ 65536) : PcUse er (oC er C) (oC er S) (oC er P) w e w' := by
  obtain ⟨B, n, d, B', m, d', B2, q, d2, he, hO, hb⟩ := h
  have l1 := oC_len er C
  have l2 := oC_len er S
  have l3 := oC_len er P
  have e1 := hO.hn
  have e2 := hO.hm
  have e3 := hO.hq
  exact ⟨B, n, d, B', m, d', B2, q, d2, he, hO.pcIn, ⟨by omega, by omega, by omega⟩, hb⟩
theorem same_true {A : Option Addr} {n c : Nat} {A' : Option Addr} {m c' : Nat} {A2 : Option Addr} {q cq : Nat} {B : Option Addr} {n2 d : Nat} {B' : Option Addr} {m2 d' : Nat} {B2 : Option Addr} {q2 dq : Nat} {C : List Cr} {S : List Int} {P : List EvP} {w : World}
    (hP : PcIn w A n c A' m c' A2 q cq C S P) (hQ : PcIn w B n2 d B' m2 d' B2 q2 dq C S P) (hb : n ≤ 65536 ∧ m ≤ 65536 ∧ q ≤ 65536) (hb2 : n2 ≤ 65536 ∧ m2 ≤ 65536 ∧ q2 ≤ 65536) (hsp : ∀ y ∈ P, y.L.length ≤ 1000000) :
    Calls Tryd.prog 19 #[pcV A n c A' m c' A2 q cq, pcV B n2 d B' m2 d' B2 q2 dq] w fun e w' => e = .returned (.bool true) ∧ Below w.heap.size w w' := by
  refine (rSamePc_any A n c A' m c' A2 q cq B n2 d B' m2 d' B2 q2 dq C S P C S P w hP hQ hb.1 hb.2.1 hb.2.2 hb2.1 hb2.2.1 hb2.2.2 hsp hsp).mono ?_
  rintro e w' ⟨rfl, hb⟩
  rw [pcEqB_refl]
  exact ⟨rfl, hb⟩


end Go.Proofs.YtlmpoklakbjpnaaDoor
