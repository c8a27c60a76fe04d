/- What the reference's Words returns for any text: what stands between its spaces. -/
import Derived.Test.YtdaeanjjmbibmaaDoorPure12
import Derived.Test.YtdaeanjjmbibmaaDoorGrow
namespace Go.Proofs.YtdaeanjjmbibmaaDoor
open Go.RowKit

theorem Tryd.infoStr : (Tryd.prog.info? 9).map (fun i => (i.zero, i.size, i.bytes)) = some (some (.string ⟨#[]⟩), 1, 16) := by kernel_rfl

/-- What holds while the words are cut: D are done, the one at hand begins at f, k bytes are looked at. -/
def WS (l : List UInt8) (w wr : World) (k f : Nat) (D : List (List UInt8)) (A1 : Option Addr) (c1 : Nat) : Prop :=
  Own1 w wr 9 1 A1 D.length c1 (strC D) ∧ D.length ≤ k ∧ f ≤ k ∧ ((k ≤ l.length ∧ wrd l = D ++ wrdA ((l.drop f).take (k - f)) (l.drop k)) ∨ (k = l.length + 1 ∧ wrd l = D))
theorem strC_snoc (L : List (List UInt8)) (x : List UInt8) : strC (L ++ [x]) = strC L ++ [.string ⟨x.toArray⟩] := by simp [strC]
theorem cut_bytes (l : List UInt8) (f k : Nat) : (ByteArray.mk l.toArray).extract f k = ⟨((l.drop f).take (k - f)).toArray⟩ := by
  apply ByteArray.ext
  simp [ByteArray.data_extract, List.extract_toArray, List.extract]
theorem byte_at (l : List UInt8) (k : Nat) (h : k < (ByteArray.mk l.toArray).size) (h' : k < l.length) : (ByteArray.mk l.toArray)[k]'h = l[k] := rfl
theorem WS.add {l : List UInt8} {w wr w3 : World} {k f : Nat} {D : List (List UInt8)} {A1 A3 : Option Addr} {c1 c3 : Nat} (h : WS l w wr k f D A1 c1) (hk : k < l.length) (hc : l[k] = 32)
    (hO : Own1 w w3 9 1 A3 (D.length + 1) c3 (strC D ++ [.string ((ByteArray.mk l.toArray).extract f k)])) : WS l w w3 (k + 1) (k + 1) (D ++ [(l.drop f).take (k - f)]) A3 c3 := by
  obtain ⟨_, h2, h3, h4⟩ := h
  refine ⟨by rw [strC_snoc, List.length_append, ← cut_bytes]; exact hO, by simp; omega, Nat.le_refl _, .inl ⟨by omega, ?_⟩⟩
  rcases h4 with ⟨_, h4⟩ | ⟨h4, _⟩
  · rw [wrdA_sep h4 hk hc]; simp
  · omega
theorem WS.last {l : List UInt8} {w wr w3 : World} {k f : Nat} {D : List (List UInt8)} {A1 A3 : Option Addr} {c1 c3 : Nat} (h : WS l w wr k f D A1 c1) (hk : k = l.length)
    (hO : Own1 w w3 9 1 A3 (D.length + 1) c3 (strC D ++ [.string ((ByteArray.mk l.toArray).extract f k)])) : WS l w w3 (k + 1) (k + 1) (D ++ [(l.drop f).take (k - f)]) A3 c3 := by
  obtain ⟨_, h2, h3, h4⟩ := h
  refine ⟨by rw [strC_snoc, List.length_append, ← cut_bytes]; exact hO, by simp; omega, Nat.le_refl _, .inr ⟨by omega, ?_⟩⟩
  rcases h4 with ⟨_, h4⟩ | ⟨h4, _⟩
  · exact wrdA_end h4 (by omega)
  · omega
theorem WS.go {l : List UInt8} {w wr : World} {k f : Nat} {D : List (List UInt8)} {A1 : Option Addr} {c1 : Nat} (h : WS l w wr k f D A1 c1) (hk : k < l.length) (hc : l[k] ≠ 32) : WS l w wr (k + 1) f D A1 c1 := by
  obtain ⟨h1, h2, h3, h4⟩ := h
  refine ⟨h1, by omega, by omega, .inl ⟨by omega, ?_⟩⟩
  rcases h4 with ⟨_, h4⟩ | ⟨h4, _⟩
  · rw [wrdA_go h4 hk hc]
    congr 2
    rw [show k + 1 - f = (k - f) + 1 by omega, List.take_add_one, List.getElem?_drop, show f + (k - f) = k by omega, List.getElem?_eq_getElem hk]
    rfl
  · omega

set_option maxHeartbeats 1600000 in
theorem rwords_any (l : List UInt8) (w : World) (hs : l.length < 4294967200) :
    Calls Tryd.prog 63 #[.string ⟨l.toArray⟩] w fun e w' => ∃ (A : Option Addr) (c : Nat), e = .returned (.slice A (wrd l).length c) ∧ w'.ownsRow w.heap.size 9 1 (.slice A (wrd l).length c) (wrd l).length (strC (wrd l)) ∧ Below w.heap.size w w' := by
  obtain ⟨i0, ii1, ii2, ii3, ii4⟩ := info_parts Tryd.infoStr
  go_enter Tryd.func63, Tryd.ntmps63
  go_wp2_with (fail)
  go_loopw [3, 4, 5] (fun v fr i wr => ∃ (k f : Nat) (D : List (List UInt8)) (A1 : Option Addr) (c1 : Nat), i = .int .i64 k ∧ fr = .int .i64 f ∧ v = .slice A1 D.length c1 ∧ k ≤ l.length + 1 ∧ Hid (WS l w wr k f D A1 c1)) (fun _ _ i _ => l.length + 1 - (intOf i).toNat)
  case atStart => exact ⟨0, 0, [], none, 0, rfl, rfl, rfl, by omega, ⟨Own1.start (Below.refl _ _) _ _, by simp, by simp, .inl ⟨by simp, by simp [wrdA_nil]⟩⟩⟩
  case round =>
    obtain ⟨k, f, D, A1, c1, rfl, rfl, rfl, hk, HW⟩ := hrel
    have hfk : f ≤ k := HW.out.2.2.1
    have hDk : D.length ≤ k := HW.out.2.1
    rcases Nat.lt_trichotomy k l.length with hlt | heq | hgt
    · have h1 : (k : Int) ≤ (l.length : Int) := by omega
      have h2 : ((k : Int) == (l.length : Int)) = false := by simp; omega
      have hsz : k < (ByteArray.mk l.toArray).size := hlt
      cases hc : decide (l[k] = 32) with
      | true =>
        have hc' : l[k] = 32 := of_decide_eq_true hc
        have hb : ((((ByteArray.mk l.toArray)[k]'hsz).toNat : Int) == 32) = true := by rw [byte_at l k hsz hlt, hc']; rfl
        have HC := Lib.hid hc'
        clear hc hc'
        go_wp2_with (at_builtin; refine wpList_append_own _ rfl _ _ 35 rfl w.heap.size 9 i0 _ 1 16 Tryd.underlying35 ii1 ii2 ii3 ii4 rfl (by decide) (.slice A1 D.length c1) D.length _ rfl (HW.out.1.own.alloc _) ⟨wr.heap.size, 0, none⟩ 1 1 [.string ((ByteArray.mk l.toArray).extract f k)] rfl rfl ?d1 ?d2 ?d3 ?d4 ?d5 ?_)
        case d1 => exact cell_one_new _ _ _
        case d2 =>
          intro u hu
          simp at hu
          rcases hu with rfl
          rfl
        case d3 => unfold maxLen; omega
        case d4 => omega
        case d5 => have := HW.out.1.low.size; simp; omega
        intro v' w3 hown' hgrow _
        obtain ⟨A3, c3, rfl, hO3, _⟩ := Own1.step HW.out.1 (Below.refl _ _) rfl hown' hgrow
        have HW' := Lib.hid (WS.add HW.out hlt HC.out hO3)
        clear hown' hgrow hO3
        go_wp2_with (fail)
        go_roundw
        case rel => exact ⟨k + 1, k + 1, _, A3, c3, by go_num, by go_num, by simp, by omega, HW'⟩
        case measure => simp [intOf]; omega
      | false =>
        have hc' : l[k] ≠ 32 := of_decide_eq_false hc
        have hb : ((((ByteArray.mk l.toArray)[k]'hsz).toNat : Int) == 32) = false := by
          rw [byte_at l k hsz hlt]
          have : l[k].toNat ≠ 32 := fun e => hc' (UInt8.toNat_inj.1 e)
          simp; omega
        have HW' := Lib.hid (WS.go HW.out hlt hc')
        clear hc hc'
        go_wp2_with (fail)
        go_roundw
        case rel => exact ⟨k + 1, f, D, A1, c1, by go_num, rfl, rfl, by omega, HW'⟩
        case measure => simp [intOf]; omega
    · have h1 : (k : Int) ≤ (l.length : Int) := by omega
      have h2 : ((k : Int) == (l.length : Int)) = true := by simp; omega
      have HQ := Lib.hid heq
      clear heq
      go_wp2_with (at_builtin; refine wpList_append_own _ rfl _ _ 35 rfl w.heap.size 9 i0 _ 1 16 Tryd.underlying35 ii1 ii2 ii3 ii4 rfl (by decide) (.slice A1 D.length c1) D.length _ rfl (HW.out.1.own.alloc _) ⟨wr.heap.size, 0, none⟩ 1 1 [.string ((ByteArray.mk l.toArray).extract f k)] rfl rfl ?d1 ?d2 ?d3 ?d4 ?d5 ?_)
      case d1 => exact cell_one_new _ _ _
      case d2 =>
        intro u hu
        simp at hu
        rcases hu with rfl
        rfl
      case d3 => unfold maxLen; omega
      case d4 => omega
      case d5 => have := HW.out.1.low.size; simp; omega
      intro v' w3 hown' hgrow _
      obtain ⟨A3, c3, rfl, hO3, _⟩ := Own1.step HW.out.1 (Below.refl _ _) rfl hown' hgrow
      have HW' := Lib.hid (WS.last HW.out HQ.out hO3)
      clear hown' hgrow hO3
      go_wp2_with (fail)
      go_roundw
      case rel => exact ⟨k + 1, k + 1, _, A3, c3, by go_num, by go_num, by simp, by omega, HW'⟩
      case measure => simp [intOf]; omega
    · have h1 : ¬ ((k : Int) ≤ (l.length : Int)) := by omega
      have hD : Hid (wrd l = D) := by
        rcases HW.out.2.2.2 with ⟨h, _⟩ | ⟨_, h⟩
        · omega
        · exact h
      go_wp2_with (fail)
      go_ret
      rw [hD.out]
      exact ⟨A1, c1, rfl, HW.out.1.own, HW.out.1.low⟩

end Go.Proofs.YtdaeanjjmbibmaaDoor
