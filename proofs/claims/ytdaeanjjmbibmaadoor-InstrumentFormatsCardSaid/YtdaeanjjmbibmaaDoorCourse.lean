/- What the program's parseCourse returns. -/
import Derived.Test.YtdaeanjjmbibmaaDoorNumber
namespace Go.Proofs.YtdaeanjjmbibmaaDoor
open Go.RowKit

def crsN (l : List UInt8) : List UInt8 := (Lib.cut l [47]).1
def crsR (l : List UInt8) : List UInt8 := (Lib.cut l [47]).2.1
def crsD (l : List UInt8) : List UInt8 := Lib.trimSuffix (crsR l) [43]
def crsW (l : List UInt8) : Bool := (Lib.cut l [47]).2.2 && numB (crsD l)
/-- The error of a course's word; the course. -/
def crsE (l : List UInt8) : Int := if crsW l then nmE (crsN l) else 4
def crsP (l : List UInt8) : Int := if crsE l = 0 then sndP (nmL (crsN l)) (nmA (crsN l)) (nmO (crsN l)) else 0
def crsF (l : List UInt8) : Int := if crsE l = 0 then numV (crsD l) else 0
def crsO (l : List UInt8) : Bool := if crsE l = 0 then Lib.hasSuffix (crsR l) [43] else false

theorem nmE_zero {l : List UInt8} (h : nmE l = 0) : sndE (nmL l) (nmA l) (nmO l) = 0 := by
  unfold nmE at h
  cases hp : pForm l with
  | none => rw [hp] at h; cases h
  | some x =>
    obtain ⟨n, a, o⟩ := x
    rw [hp] at h
    have hr : rgt n a o = true := by
      cases hr : rgt n a o with
      | true => rfl
      | false => simp [sndE, hr] at h
    simp [nmL, nmA, nmO, hp, hr, sndE]

abbrev zCr : Obj := .cells #[.int .i64 0, .int .i64 0, .bool false] 75

theorem cut_len (l s : List UInt8) : (Lib.cut l s).1.length ≤ l.length ∧ (Lib.cut l s).2.1.length ≤ l.length := by
  unfold Lib.cut
  split <;> simp <;> omega

theorem cut_any (l s : List UInt8) (w : World) (E : Env w) (hs : l.length < 4294967281) :
    Calls Tryd.prog 95 #[.string ⟨l.toArray⟩, .string ⟨s.toArray⟩] w fun e w' => e = .returned (.tuple #[.string ⟨(Lib.cut l s).1.toArray⟩, .string ⟨(Lib.cut l s).2.1.toArray⟩, .bool (Lib.cut l s).2.2]) ∧ ∃ n, w.drewN n = w' := by
  obtain ⟨m, hm⟩ := E.mlen
  exact (Tryd.strings_Cut ⟨l.toArray⟩ ⟨s.toArray⟩ m w hs hm).mono fun e w' h => ⟨h.1, by obtain ⟨n, hn⟩ := h.2; exact ⟨n, hn.symm⟩⟩
theorem cutSuffix_any (l s : List UInt8) (w : World) (hs : l.length < 4294967281) :
    Calls Tryd.prog 96 #[.string ⟨l.toArray⟩, .string ⟨s.toArray⟩] w fun e w' => e = .returned (.tuple #[.string ⟨(Lib.trimSuffix l s).toArray⟩, .bool (Lib.hasSuffix l s)]) ∧ w = w' :=
  (Tryd.strings_CutSuffix ⟨l.toArray⟩ ⟨s.toArray⟩ w (by show l.length ≤ _; omega)).mono fun e w' h => ⟨h.1, h.2.symm⟩

theorem parseCourse_cut (l : List UInt8) (w : World) (E : Env w) (hs : l.length < 4294967281) :
    Calls Tryd.prog 95 #[.string ⟨l.toArray⟩, .string ⟨#[47]⟩] w fun e w' => e = .returned (.tuple #[.string ⟨(crsN l).toArray⟩, .string ⟨(crsR l).toArray⟩, .bool (Lib.cut l [47]).2.2]) ∧ ∃ n, w.drewN n = w' := cut_any l [47] w E hs
theorem parseCourse_suf (l : List UInt8) (w : World) (hs : l.length < 4294967281) :
    Calls Tryd.prog 96 #[.string ⟨(crsR l).toArray⟩, .string ⟨#[43]⟩] w fun e w' => e = .returned (.tuple #[.string ⟨(crsD l).toArray⟩, .bool (Lib.hasSuffix (crsR l) [43])]) ∧ w = w' :=
  cutSuffix_any (crsR l) [43] w (by have := (cut_len l [47]).2; unfold crsR; omega)

set_option maxHeartbeats 1600000 in
theorem parseCourse_form (l : List UInt8) (w : World) (E : Env w) (hs : l.length < 4294967281) (h : crsW l = false) :
    Calls Tryd.prog 61 #[.string ⟨l.toArray⟩] w fun e w' => e = .returned (.tuple #[.agg #[.int .i64 (crsP l), .int .i64 (crsF l), .bool (crsO l)], .int .i64 (crsE l)]) ∧ Below w.heap.size w w' := by
  have he : crsE l = 4 := by simp [crsE, h]
  have H : Hid (crsP l = 0 ∧ crsF l = 0 ∧ crsO l = false ∧ crsE l = 4) := by simp [Hid, crsP, crsF, crsO, he]
  have E1 := E.alloc zCr
  have HS := Lib.hid hs
  clear he hs
  cases hf : (Lib.cut l [47]).2.2 with
  | false =>
    clear h
    go_enter Tryd.func61, Tryd.ntmps61
    go_wp2_with (first | (go_at_call 95; refine (parseCourse_cut l _ E1 HS.out).mono ?_; rintro e w1 ⟨rfl, q, rfl⟩) | (go_at_call 96; refine (parseCourse_suf l _ HS.out).mono ?_; rintro e w1 ⟨rfl, rfl⟩) | (go_at_call 62; refine (parseNumber_any _ _).mono ?_; rintro e w1 ⟨rfl, rfl⟩))
    refine bodyPost_ret (v := .tuple #[.agg #[.int .i64 0, .int .i64 0, .bool false], .int .i64 4]) ?_ rfl ?_
    · simp [results, Tryd.results61, go_sem]
      done
    · rw [H.out.1, H.out.2.1, H.out.2.2.1, H.out.2.2.2]
      exact ⟨rfl, bs3 (bd (ba _ _) _) _ _ _⟩
  | true =>
    have hn : numB (crsD l) = false := by simpa [crsW, hf] using h
    clear h
    go_enter Tryd.func61, Tryd.ntmps61
    go_wp2_with (first | (go_at_call 95; refine (parseCourse_cut l _ E1 HS.out).mono ?_; rintro e w1 ⟨rfl, q, rfl⟩) | (go_at_call 96; refine (parseCourse_suf l _ HS.out).mono ?_; rintro e w1 ⟨rfl, rfl⟩) | (go_at_call 62; refine (parseNumber_any _ _).mono ?_; rintro e w1 ⟨rfl, rfl⟩))
    refine bodyPost_ret (v := .tuple #[.agg #[.int .i64 0, .int .i64 0, .bool false], .int .i64 4]) ?_ rfl ?_
    · simp [results, Tryd.results61, go_sem]
      done
    · rw [H.out.1, H.out.2.1, H.out.2.2.1, H.out.2.2.2]
      exact ⟨rfl, bs3 (bd (ba _ _) _) _ _ _⟩

theorem Env.drewN {w : World} (h : Env w) (n : Nat) : Env (w.drewN n) := h.below (bd (Below.refl _ _) n)
theorem nmE_cases (l : List UInt8) : nmE l = 0 ∨ nmE l = 4 ∨ nmE l = 10 := by
  unfold nmE
  split
  · unfold sndE; split <;> simp
  · simp

set_option maxHeartbeats 1600000 in
theorem parseCourse_bad (l : List UInt8) (w : World) (E : Env w) (hs : l.length < 4294967281) (h : crsW l = true) (v : Int) (hv : v = 4 ∨ v = 10) (hne : nmE (crsN l) = v) :
    Calls Tryd.prog 61 #[.string ⟨l.toArray⟩] w fun e w' => e = .returned (.tuple #[.agg #[.int .i64 (crsP l), .int .i64 (crsF l), .bool (crsO l)], .int .i64 (crsE l)]) ∧ Below w.heap.size w w' := by
  have he : crsE l = v := by simp [crsE, h, hne]
  have H : Hid (crsP l = 0 ∧ crsF l = 0 ∧ crsO l = false ∧ crsE l = v) := by
    have : crsE l ≠ 0 := by omega
    exact ⟨by rw [crsP, if_neg this], by rw [crsF, if_neg this], by rw [crsO, if_neg this], he⟩
  have E1 := E.alloc zCr
  have HS := Lib.hid hs
  have HV := Lib.hid hne
  have hf : (Lib.cut l [47]).2.2 = true := by simp [crsW] at h; exact h.1
  have hn : numB (crsD l) = true := by simp [crsW] at h; exact h.2
  clear he hs hne h
  rcases hv with rfl | rfl
  · go_enter Tryd.func61, Tryd.ntmps61
    go_wp2_with (first | (go_at_call 95; refine (parseCourse_cut l _ E1 HS.out).mono ?_; rintro e w1 ⟨rfl, q, rfl⟩) | (go_at_call 96; refine (parseCourse_suf l _ HS.out).mono ?_; rintro e w1 ⟨rfl, rfl⟩) | (go_at_call 62; refine (parseNumber_any _ _).mono ?_; rintro e w1 ⟨rfl, rfl⟩) | (go_at_call 97; refine (parseName_any _ _ (E1.drewN q)).mono ?_; rintro e w2 ⟨rfl, hb⟩; rw [HV.out]; have hbT : Below (w.alloc zCr).heap.size (w.alloc zCr) w2 := bt (bd (Below.refl _ _) q) hb; obtain ⟨q0, q1⟩ := keepc hbT 0; obtain ⟨q2, q3⟩ := keepc hbT 1; obtain ⟨q4, q5⟩ := keepc hbT 2; have hz : w.heap.size < w2.heap.size := (by have := hbT.size; simp at this; omega); simp at q0 q2 q4))
    refine bodyPost_ret (v := .tuple #[.agg #[.int .i64 0, .int .i64 0, .bool false], .int .i64 4]) ?_ rfl ?_
    · simp [results, Tryd.results61, go_sem, q0, q2, q4, hz]
      done
    · rw [H.out.1, H.out.2.1, H.out.2.2.1, H.out.2.2.2]
      exact ⟨rfl, bal (bs3 (bx hbT) _ _ _) _⟩
  · go_enter Tryd.func61, Tryd.ntmps61
    go_wp2_with (first | (go_at_call 95; refine (parseCourse_cut l _ E1 HS.out).mono ?_; rintro e w1 ⟨rfl, q, rfl⟩) | (go_at_call 96; refine (parseCourse_suf l _ HS.out).mono ?_; rintro e w1 ⟨rfl, rfl⟩) | (go_at_call 62; refine (parseNumber_any _ _).mono ?_; rintro e w1 ⟨rfl, rfl⟩) | (go_at_call 97; refine (parseName_any _ _ (E1.drewN q)).mono ?_; rintro e w2 ⟨rfl, hb⟩; rw [HV.out]; have hbT : Below (w.alloc zCr).heap.size (w.alloc zCr) w2 := bt (bd (Below.refl _ _) q) hb; obtain ⟨q0, q1⟩ := keepc hbT 0; obtain ⟨q2, q3⟩ := keepc hbT 1; obtain ⟨q4, q5⟩ := keepc hbT 2; have hz : w.heap.size < w2.heap.size := (by have := hbT.size; simp at this; omega); simp at q0 q2 q4))
    refine bodyPost_ret (v := .tuple #[.agg #[.int .i64 0, .int .i64 0, .bool false], .int .i64 10]) ?_ rfl ?_
    · simp [results, Tryd.results61, go_sem, q0, q2, q4, hz]
      done
    · rw [H.out.1, H.out.2.1, H.out.2.2.1, H.out.2.2.2]
      exact ⟨rfl, bal (bs3 (bx hbT) _ _ _) _⟩

set_option maxHeartbeats 1600000 in
theorem parseCourse_good (l : List UInt8) (w : World) (E : Env w) (hs : l.length < 4294967281) (h : crsW l = true) (hne : nmE (crsN l) = 0) :
    Calls Tryd.prog 61 #[.string ⟨l.toArray⟩] w fun e w' => e = .returned (.tuple #[.agg #[.int .i64 (crsP l), .int .i64 (crsF l), .bool (crsO l)], .int .i64 (crsE l)]) ∧ Below w.heap.size w w' := by
  have he : crsE l = 0 := by simp [crsE, h, hne]
  have H : Hid (crsP l = sndP (nmL (crsN l)) (nmA (crsN l)) (nmO (crsN l)) ∧ crsF l = numV (crsD l) ∧ crsO l = Lib.hasSuffix (crsR l) [43] ∧ crsE l = 0) := by
    simp [Hid, crsP, crsF, crsO, he]
  have E1 := E.alloc zCr
  have HS := Lib.hid hs
  have HV := Lib.hid hne
  have HZ := Lib.hid (nmE_zero hne)
  have hf : (Lib.cut l [47]).2.2 = true := by simp [crsW] at h; exact h.1
  have hn : numB (crsD l) = true := by simp [crsW] at h; exact h.2
  clear he hs hne h
  go_enter Tryd.func61, Tryd.ntmps61
  go_wp2_with (first | (go_at_call 95; refine (parseCourse_cut l _ E1 HS.out).mono ?_; rintro e w1 ⟨rfl, q, rfl⟩) | (go_at_call 96; refine (parseCourse_suf l _ HS.out).mono ?_; rintro e w1 ⟨rfl, rfl⟩) | (go_at_call 62; refine (parseNumber_any _ _).mono ?_; rintro e w1 ⟨rfl, rfl⟩) | (go_at_call 97; refine (parseName_any _ _ (E1.drewN q)).mono ?_; rintro e w2 ⟨rfl, hb⟩; rw [HV.out]; have hbT : Below (w.alloc zCr).heap.size (w.alloc zCr) w2 := bt (bd (Below.refl _ _) q) hb; obtain ⟨q0, q1⟩ := keepc hbT 0; obtain ⟨q2, q3⟩ := keepc hbT 1; obtain ⟨q4, q5⟩ := keepc hbT 2; have hz : w.heap.size < w2.heap.size := (by have := hbT.size; simp at this; omega); simp at q0 q2 q4) | (go_at_call 81; refine (sounding_any _ _ _ _ ((E1.below hbT).alloc _)).mono ?_; rintro e w3 ⟨rfl, hb3⟩; rw [HZ.out]; have hbU := bt hbT (bx hb3); obtain ⟨r0, r1⟩ := keepc hbU 0; obtain ⟨r2, r3⟩ := keepc hbU 1; obtain ⟨r4, r5⟩ := keepc hbU 2; simp at r0 r2 r4))
  refine bodyPost_ret (v := .tuple #[.agg #[.int .i64 (sndP (nmL (crsN l)) (nmA (crsN l)) (nmO (crsN l))), .int .i64 (numV (crsD l)), .bool (Lib.hasSuffix (crsR l) [43])], .int .i64 0]) ?_ rfl ?_
  · simp [results, Tryd.results61, go_sem, r0, r2, r4]
    done
  · rw [H.out.1, H.out.2.1, H.out.2.2.1, H.out.2.2.2]
    exact ⟨rfl, bs3 (bx hbU) _ _ _⟩

theorem parseCourse_any (l : List UInt8) (w : World) (E : Env w) (hs : l.length < 4294967281) :
    Calls Tryd.prog 61 #[.string ⟨l.toArray⟩] w fun e w' => e = .returned (.tuple #[.agg #[.int .i64 (crsP l), .int .i64 (crsF l), .bool (crsO l)], .int .i64 (crsE l)]) ∧ Below w.heap.size w w' := by
  cases h : crsW l with
  | false => exact parseCourse_form l w E hs h
  | true =>
    rcases nmE_cases (crsN l) with h2 | h2 | h2
    · exact parseCourse_good l w E hs h h2
    · exact parseCourse_bad l w E hs h 4 (.inl rfl) h2
    · exact parseCourse_bad l w E hs h 10 (.inr rfl) h2

end Go.Proofs.YtdaeanjjmbibmaaDoor
