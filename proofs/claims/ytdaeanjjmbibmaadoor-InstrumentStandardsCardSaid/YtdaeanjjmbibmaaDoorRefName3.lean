/- Plain facts: what the parts of a text, cut as the reference's ParseName cuts them, say of its form. -/
import Derived.Test.YtdaeanjjmbibmaaDoorRefName
namespace Go.Proofs.YtdaeanjjmbibmaaDoor
open Go.RowKit

theorem ex1 {l : List UInt8} {c d : UInt8} {r : List UInt8} (h : l = c :: d :: r) : (ByteArray.mk l.toArray).extract 1 l.length = ⟨(d :: r).toArray⟩ := by
  subst h
  apply ByteArray.ext
  simp [ByteArray.data_extract, List.extract_toArray, List.extract]
theorem ex2 {l : List UInt8} {c d : UInt8} {r : List UInt8} (h : l = c :: d :: r) : ((ByteArray.mk l.toArray).extract 1 l.length).extract 1 (l.length - 1) = ⟨r.toArray⟩ := by
  rw [ex1 h]
  subst h
  apply ByteArray.ext
  simp [ByteArray.data_extract, List.extract_toArray, List.extract]
theorem byte0 {Y : ByteArray} {d : UInt8} {r : List UInt8} (hY : Y = ⟨(d :: r).toArray⟩) (hb : 0 < Y.size) : Y[0]'hb = d := by subst hY; rfl
theorem byte0_is {Y : ByteArray} {d : UInt8} {r : List UInt8} (hY : Y = ⟨(d :: r).toArray⟩) {hb : 0 < Y.size} {k : Int} (h : (((Y[0]'hb).toNat : Int) == k) = true) : (d.toNat : Int) = k := by
  rw [byte0 hY hb] at h; exact eq_of_beq h
theorem byte0_not {Y : ByteArray} {d : UInt8} {r : List UInt8} (hY : Y = ⟨(d :: r).toArray⟩) {hb : 0 < Y.size} {k : Int} (h : (((Y[0]'hb).toNat : Int) == k) = false) : ¬ (d.toNat : Int) = k := by
  rw [byte0 hY hb] at h; intro e; rw [e] at h; simp at h

abbrev CutX (l : List UInt8) : ByteArray := (ByteArray.mk l.toArray).extract 1 l.length
abbrev CutY (l : List UInt8) : ByteArray := ((ByteArray.mk l.toArray).extract 1 l.length).extract 1 (l.length - 1)

theorem altS {l : List UInt8} {c d : UInt8} {r : List UInt8} (h : l = c :: d :: r) {hb : 0 < (CutX l).size} (h35 : ((((CutX l)[0]'hb).toNat : Int) == 35) = true) : pAlt (d :: r) = (1, r) := by
  have hd := byte0_is (ex1 h) h35
  have : d = 35 := UInt8.toNat_inj.1 (by show d.toNat = 35; omega)
  subst this
  rfl
theorem altF {l : List UInt8} {c d : UInt8} {r : List UInt8} (h : l = c :: d :: r) {hb : 0 < (CutX l).size} (h98 : ((((CutX l)[0]'hb).toNat : Int) == 98) = true) : pAlt (d :: r) = (-1, r) := by
  have hd := byte0_is (ex1 h) h98
  have : d = 98 := UInt8.toNat_inj.1 (by show d.toNat = 98; omega)
  subst this
  rfl
theorem altN {l : List UInt8} {c d : UInt8} {r : List UInt8} (h : l = c :: d :: r) {hb hb' : 0 < (CutX l).size} (h35 : ((((CutX l)[0]'hb).toNat : Int) == 35) = false) (h98 : ((((CutX l)[0]'hb').toNat : Int) == 98) = false) : pAlt (d :: r) = (0, d :: r) := by
  have h1 := byte0_not (ex1 h) h35
  have h2 := byte0_not (ex1 h) h98
  have d1 : d ≠ 35 := by rintro rfl; exact h1 rfl
  have d2 : d ≠ 98 := by rintro rfl; exact h2 rfl
  unfold pAlt
  split <;> simp_all

theorem octM {Y : ByteArray} {t : List UInt8} (hY : Y = ⟨t.toArray⟩) (h : (Y.toList == [45, 49]) = true) : pOct t = some (-1) := by
  subst hY
  rw [ByteArray.toList_mk] at h
  have : t = [45, 49] := by simpa using h
  subst this
  rfl
theorem octD {Y : ByteArray} {t : List UInt8} (hY : Y = ⟨t.toArray⟩) (h1 : t.length = 1) {hb : 0 < Y.size} (h2 : 48 ≤ ((Y[0]'hb).toNat : Int)) (h3 : ((Y[0]'hb).toNat : Int) ≤ 57) : pOct t = some (((Y[0]'hb).toNat : Int) - 48) := by
  match t, h1 with
  | [c], _ =>
    rw [byte0 hY hb] at h2 h3 ⊢
    have : isDig c = true := by simp [isDig]; omega
    simp [pOct, this]
theorem octX {Y : ByteArray} {t : List UInt8} (hY : Y = ⟨t.toArray⟩) (h1 : t.length = 1) {hb : 0 < Y.size} (h2 : ((Y[0]'hb).toNat : Int) < 48 ∨ 57 < ((Y[0]'hb).toNat : Int)) : pOct t = none := by
  match t, h1 with
  | [c], _ =>
    rw [byte0 hY hb] at h2
    have : isDig c = false := by simp [isDig]; omega
    simp [pOct, this]
theorem octL {Y : ByteArray} {t : List UInt8} (hY : Y = ⟨t.toArray⟩) (h1 : t.length ≠ 1) (h : (Y.toList == [45, 49]) = false) : pOct t = none := by
  subst hY
  rw [ByteArray.toList_mk] at h
  unfold pOct
  rw [if_neg (by simpa using h)]
  match t, h1 with
  | [], _ => rfl
  | [c], h => exact absurd rfl h
  | _ :: _ :: _, _ => rfl

theorem fin_some {l : List UInt8} {c : UInt8} {r : List UInt8} {n : Nat} {a o : Int} {t : List UInt8} (h : l = c :: r) (hn : ltrOf c = some n) (ha : pAlt r = (a, t)) (ho : pOct t = some o) : pForm l = some (n, a, o) := by
  subst h; simp [pForm, hn, ha, ho]
theorem fin_none {l : List UInt8} {c : UInt8} {r : List UInt8} {n : Nat} {a : Int} {t : List UInt8} (h : l = c :: r) (hn : ltrOf c = some n) (ha : pAlt r = (a, t)) (ho : pOct t = none) : pForm l = none := by
  subst h; simp [pForm, hn, ha, ho]
theorem end_form {l : List UInt8} (h : pForm l = none) : nmL l = 0 ∧ nmA l = 0 ∧ nmO l = 0 ∧ nmE l = 4 := by simp [nmL, nmA, nmO, nmE, h]
theorem end_pitch {l : List UInt8} {n : Nat} {a o : Int} (h : pForm l = some (n, a, o)) (hr : (!rgt n a o) = true) : nmL l = 0 ∧ nmA l = 0 ∧ nmO l = 0 ∧ nmE l = 10 := by
  have hr : rgt n a o = false := by simpa using hr
  simp [nmL, nmA, nmO, nmE, h, hr, sndE]
theorem end_ok {l : List UInt8} {n : Nat} {a o : Int} (h : pForm l = some (n, a, o)) (hr : (!rgt n a o) = false) : nmL l = n ∧ nmA l = a ∧ nmO l = o ∧ nmE l = 0 := by
  have hr : rgt n a o = true := by simpa using hr
  simp [nmL, nmA, nmO, nmE, h, hr, sndE]

end Go.Proofs.YtdaeanjjmbibmaaDoor
