/- Plain facts: an instrument as text, and that the text is read as the same instrument. -/
import Derived.Test.YtdaeanjjmbibmaaDoorPure12
import Derived.Test.YtdaeanjjmbibmaaDoorNames0
import Derived.Test.YtdaeanjjmbibmaaDoorSpell
import Derived.Lib.Join
import Derived.Test.YtdaeanjjmbibmaaDoorPlaces
namespace Go.Proofs.YtdaeanjjmbibmaaDoor

def dig (n : Nat) : UInt8 := UInt8.ofNat (48 + n)
/-- A number below 1000 in digits. -/
def dec3 (n : Nat) : List UInt8 := if n < 10 then [dig n] else if n < 100 then [dig (n / 10), dig (n % 10)] else [dig (n / 100), dig (n / 10 % 10), dig (n % 10)]
theorem dec3_eq (n : Nat) (h : n < 1000) : Lib.decDigits n = dec3 n := by
  unfold dec3
  by_cases h1 : n < 10
  · rw [if_pos h1, Lib.decDigits, dif_pos h1]; rfl
  · rw [if_neg h1]
    by_cases h2 : n < 100
    · rw [if_pos h2, Lib.decDigits, dif_neg h1, Lib.decDigits, dif_pos (by omega)]; rfl
    · rw [if_neg h2, Lib.decDigits, dif_neg h1, Lib.decDigits, dif_neg (by omega), Lib.decDigits, dif_pos (by omega), show n / 10 / 10 = n / 100 by omega]; rfl
def ocT (o : Int) : List UInt8 := if o < 0 then 45 :: dec3 o.natAbs else dec3 o.toNat
theorem ocT_eq (o : Int) (h0 : -999 ≤ o) (h1 : o < 1000) : Lib.itoa o = ocT o := by
  unfold ocT Lib.itoa
  split
  · rw [dec3_eq _ (by omega)]
  · rw [dec3_eq _ (by omega)]

/-- The name of a pitch in the key 0. -/
def nmK (p : Int) : List UInt8 := nmB (spL p 0) (spAl p 0) (spOc p 0)
def nmK' (p : Int) : List UInt8 := lnB (spL p 0).toNat ++ altB (spAl p 0) ++ ocT (spOc p 0)
def nmGood (p : Int) : Bool :=
  decide (nmE (nmK' p) = 0) && decide (sndP (nmL (nmK' p)) (nmA (nmK' p)) (nmO (nmK' p)) = p) && decide (slA (nmK' p) = (nmK' p).length) && (nmK' p).all (fun c => !(c == 32)) && decide ((nmK' p).length ≤ 4) && decide (1 ≤ (nmK' p).length) && rgt (spL p 0) (spAl p 0) (spOc p 0) && decide (-1 ≤ spOc p 0) && decide (spOc p 0 ≤ 9)
set_option maxRecDepth 100000 in
theorem nmGood_all : ((List.range 128).all fun p => nmGood ((p : Nat) : Int)) = true := by kernel_rfl
def nuGood (n : Nat) : Bool := numB (dec3 n) && decide (numV (dec3 n) = n) && (dec3 n).all (fun c => !(c == 32)) && decide ((dec3 n).getLast? ≠ some 43) && decide ((dec3 n).length ≤ 3) && !((dec3 n) == [58])
theorem nuGood_all : ((List.range 128).all fun n => nuGood n) = true := by kernel_rfl

structure NmOk (p : Int) : Prop where
  err : nmE (nmK p) = 0
  snd : sndP (nmL (nmK p)) (nmA (nmK p)) (nmO (nmK p)) = p
  bare : slA (nmK p) = (nmK p).length
  solid : (32 : UInt8) ∉ nmK p
  len : (nmK p).length ≤ 4
  pos : 1 ≤ (nmK p).length
  right : rgt (spL p 0) (spAl p 0) (spOc p 0) = true
theorem nm_ok {p : Int} (h0 : 0 ≤ p) (h1 : p ≤ 127) : NmOk p := by
  obtain ⟨n, rfl⟩ := Int.eq_ofNat_of_zero_le h0
  have h := List.all_eq_true.1 nmGood_all n (by simp; omega)
  simp only [nmGood, Bool.and_eq_true, decide_eq_true_eq] at h
  obtain ⟨⟨⟨⟨⟨⟨⟨⟨a1, a2⟩, a3⟩, a4⟩, a5⟩, a6⟩, a7⟩, a8⟩, a9⟩ := h
  have e : nmK' (n : Int) = nmK (n : Int) := by
    unfold nmK nmK' nmB
    rw [ocT_eq _ (by omega) (by omega)]
  rw [e] at a1 a2 a3 a4 a5 a6
  refine ⟨a1, a2, a3, fun hm => ?_, a5, a6, a7⟩
  have := List.all_eq_true.1 a4 32 hm
  simp at this
structure NuOk (n : Nat) : Prop where
  is : numB (Lib.decDigits n) = true
  val : numV (Lib.decDigits n) = n
  solid : (32 : UInt8) ∉ Lib.decDigits n
  last : (Lib.decDigits n).getLast? ≠ some 43
  len : (Lib.decDigits n).length ≤ 3
  colon : Lib.decDigits n ≠ [58]
theorem nu_ok {n : Nat} (h : n ≤ 127) : NuOk n := by
  have h := List.all_eq_true.1 nuGood_all n (by simp; omega)
  simp only [nuGood, Bool.and_eq_true, decide_eq_true_eq] at h
  obtain ⟨⟨⟨⟨⟨a1, a2⟩, a3⟩, a4⟩, a5⟩, a6⟩ := h
  rw [← dec3_eq n (by omega)] at a1 a2 a3 a4 a5 a6
  refine ⟨a1, a2, fun hm => ?_, a4, a5, fun hm => ?_⟩
  · have := List.all_eq_true.1 a3 32 hm
    simp at this
  · rw [hm] at a6; simp at a6

/-- A course as text. -/
def fmC (c : Cr) : List UInt8 := nmK c.p ++ 47 :: Lib.decDigits c.f.toNat ++ if c.o then [43] else []
theorem slA_app : ∀ (a b : List UInt8), slA a = a.length → slA (a ++ 47 :: b) = a.length
  | [], b, _ => by simp [slA]
  | c :: r, b, h => by
    unfold slA at h
    by_cases hc : c = 47
    · rw [if_pos hc] at h; simp at h
    · rw [if_neg hc] at h
      have := slA_app r b (by simpa using h)
      rw [List.cons_append, slA, if_neg hc, this]; simp
theorem fmC_reads {c : Cr} (p0 : 0 ≤ c.p) (p1 : c.p ≤ 127) (f0 : 0 ≤ c.f) (f1 : c.f ≤ 18) :
    crsE (fmC c) = 0 ∧ crsP (fmC c) = c.p ∧ crsF (fmC c) = c.f ∧ crsO (fmC c) = c.o := by
  have hn := nm_ok p0 p1
  obtain ⟨p, f, o⟩ := c
  dsimp only at *
  obtain ⟨n, rfl⟩ := Int.eq_ofNat_of_zero_le f0
  have hu := nu_ok (n := n) (by omega)
  have hs := slA_app (nmK p) (Lib.decDigits n) hn.bare
  have hlt : slA (nmK p ++ 47 :: Lib.decDigits n) < (nmK p ++ 47 :: Lib.decDigits n).length := by rw [hs]; simp
  have e1 : (nmK p ++ 47 :: Lib.decDigits n).take (slA (nmK p ++ 47 :: Lib.decDigits n)) = nmK p := by rw [hs]; simp
  have e2 : (nmK p ++ 47 :: Lib.decDigits n).drop (slA (nmK p ++ 47 :: Lib.decDigits n) + 1) = Lib.decDigits n := by rw [hs]; simp [List.drop_append]
  have hfm : fmC ⟨p, (n : Int), o⟩ = (nmK p ++ 47 :: Lib.decDigits n) ++ if o then [43] else [] := by simp [fmC]
  have key : crsN (fmC ⟨p, (n : Int), o⟩) = nmK p ∧ crsD (fmC ⟨p, (n : Int), o⟩) = Lib.decDigits n ∧ crsW (fmC ⟨p, (n : Int), o⟩) = true ∧ Lib.hasSuffix (crsR (fmC ⟨p, (n : Int), o⟩)) [43] = o := by
    rw [hfm]
    cases o with
    | true =>
      obtain ⟨h1, h2, h3, h4⟩ := crs_plus hlt
      rw [e1] at h1
      rw [e2] at h2 h3
      exact ⟨h1, h2, h3.trans hu.is, h4⟩
    | false =>
      simp only [Bool.false_eq_true, if_false, List.append_nil]
      have hl : (nmK p ++ 47 :: Lib.decDigits n).getLast? ≠ some 43 := by
        rw [List.getLast?_append]
        cases hg : (Lib.decDigits n).getLast? with
        | none => simp [List.getLast?_cons, hg]
        | some x => have := hu.last; rw [hg] at this; simp [List.getLast?_cons, hg]; simpa using this
      obtain ⟨h1, h2, h3, h4⟩ := crs_bare hl hlt
      rw [e1] at h1
      rw [e2] at h2 h3
      exact ⟨h1, h2, h3.trans hu.is, h4⟩
  obtain ⟨k1, k2, k3, k4⟩ := key
  have he : crsE (fmC ⟨p, (n : Int), o⟩) = 0 := by unfold crsE; rw [k3, if_pos rfl, k1]; exact hn.err
  refine ⟨he, ?_, ?_, ?_⟩
  · unfold crsP; rw [if_pos he, k1]; exact hn.snd
  · unfold crsF; rw [if_pos he, k2]; exact hu.val
  · unfold crsO; rw [if_pos he, k4]
theorem fmC_solid {c : Cr} (p0 : 0 ≤ c.p) (p1 : c.p ≤ 127) (f0 : 0 ≤ c.f) (f1 : c.f ≤ 18) : (32 : UInt8) ∉ fmC c ∧ fmC c ≠ [58] ∧ (fmC c).length ≤ 9 := by
  have hn := nm_ok p0 p1
  have hu := nu_ok (n := c.f.toNat) (by omega)
  have hp := hn.pos
  have hl := hn.len
  have hl2 := hu.len
  refine ⟨?_, fun h => ?_, ?_⟩
  · unfold fmC
    have h1 := hn.solid
    have h2 := hu.solid
    cases c.o <;> simp [h1, h2]
  · have := congrArg List.length h
    unfold fmC at this
    simp at this
    omega
  · unfold fmC
    cases c.o <;> simp <;> omega

/-- The words of an instrument's text, and the text. -/
def fmW (C : List Cr) (S : List Int) : List (List UInt8) := C.map fmC ++ [58] :: S.map fun s => Lib.decDigits s.toNat
def fmT (C : List Cr) (S : List Int) : List UInt8 := Lib.join (fmW C S) [32]

theorem wrd_one : ∀ {x : List UInt8}, (32 : UInt8) ∉ x → wrd x = [x]
  | [], _ => rfl
  | c :: r, h => by
    have hc : c ≠ 32 := fun e => h (by simp [e])
    have hr := wrd_one (x := r) (fun hm => h (by simp [hm]))
    rw [wrd, if_neg hc, hr]
theorem wrd_pre : ∀ {x : List UInt8} (t : List UInt8), (32 : UInt8) ∉ x → wrd (x ++ 32 :: t) = x :: wrd t
  | [], t, _ => by simp [wrd]
  | c :: r, t, h => by
    have hc : c ≠ 32 := fun e => h (by simp [e])
    have hr := wrd_pre (x := r) t (fun hm => h (by simp [hm]))
    rw [List.cons_append, wrd, if_neg hc, hr]
theorem wrd_join : ∀ (r : List (List UInt8)) (x : List UInt8), (32 : UInt8) ∉ x → (∀ y ∈ r, (32 : UInt8) ∉ y) → wrd (Lib.join (x :: r) [32]) = x :: r
  | [], x, hx, _ => by rw [Lib.join_one]; exact wrd_one hx
  | y :: r, x, hx, hr => by
    have ih := wrd_join r y (hr y (by simp)) (fun z hz => hr z (by simp [hz]))
    rw [Lib.join_cons] at ih ⊢
    have : Lib.joinTail [32] (y :: r) = 32 :: (y ++ Lib.joinTail [32] r) := by simp [Lib.joinTail]
    rw [this, wrd_pre _ hx, ih]
theorem preOf_app : ∀ (L R : List (List UInt8)), (∀ x ∈ L, x ≠ [58]) → preOf (L ++ [58] :: R) = L.length
  | [], R, _ => by simp [preOf]
  | x :: L, R, h => by
    rw [List.cons_append, preOf, if_neg (h x (by simp)), preOf_app L R (fun y hy => h y (by simp [hy]))]; simp

theorem crsFE_ok : ∀ (L : List (List UInt8)), (∀ x ∈ L, crsE x = 0) → crsFE L = 0
  | [], _ => rfl
  | x :: L, h => by rw [crsFE, if_pos (h x (by simp))]; exact crsFE_ok L fun y hy => h y (by simp [hy])
theorem stpFE_ok : ∀ (L : List (List UInt8)), (∀ x ∈ L, numB x = true) → stpFE L = 0
  | [], _ => rfl
  | x :: L, h => by rw [stpFE, if_pos (h x (by simp))]; exact stpFE_ok L fun y hy => h y (by simp [hy])

structure InOk (C : List Cr) (S : List Int) : Prop where
  cr : ∀ c ∈ C, 0 ≤ c.p ∧ c.p ≤ 127 ∧ 0 ≤ c.f ∧ c.f ≤ 18
  st : ∀ s ∈ S, 0 ≤ s ∧ s ≤ 127
  few : C.length ≤ 14 ∧ S.length ≤ 18

/-- THE TEXT IS READ AS THE SAME INSTRUMENT. -/
theorem fm_reads {C : List Cr} {S : List Int} (h : InOk C S) (hk : chk C S = 0) : prsE (fmT C S) = 0 ∧ prsC (fmT C S) = C ∧ prsS (fmT C S) = S := by
  have hw : wrd (fmT C S) = fmW C S := by
    have hs : ∀ y ∈ fmW C S, (32 : UInt8) ∉ y := by
      intro y hy
      simp only [fmW, List.mem_append, List.mem_map, List.mem_cons] at hy
      rcases hy with ⟨c, hc, rfl⟩ | rfl | ⟨s, hs, rfl⟩
      · obtain ⟨a1, a2, a3, a4⟩ := h.cr c hc
        exact (fmC_solid a1 a2 a3 a4).1
      · decide
      · exact (nu_ok (n := s.toNat) (by have := h.st s hs; omega)).solid
    unfold fmT
    cases hf : fmW C S with
    | nil => simp [fmW] at hf
    | cons x r =>
      rw [hf] at hs
      exact wrd_join r x (hs x (by simp)) fun y hy => hs y (by simp [hy])
  have hp : preOf (wrd (fmT C S)) = C.length := by
    rw [hw, fmW, preOf_app _ _ ?_, List.length_map]
    intro x hx
    obtain ⟨c, hc, rfl⟩ := List.mem_map.1 hx
    obtain ⟨a1, a2, a3, a4⟩ := h.cr c hc
    exact (fmC_solid a1 a2 a3 a4).2.1
  have hpre : preW (fmT C S) = C.map fmC := by
    unfold preW
    rw [hp, hw, fmW, List.take_append_of_le_length (by simp), List.take_of_length_le (by simp)]
  have hpost : postW (fmT C S) = S.map fun s => Lib.decDigits s.toNat := by
    unfold postW
    rw [hp, hw, fmW, List.drop_append, List.drop_of_length_le (by simp)]
    simp
  have hrC : rawC (fmT C S) = C := by
    unfold rawC
    rw [hpre, List.map_map]
    conv => rhs; rw [← List.map_id C]
    refine List.map_congr_left fun c hc => ?_
    obtain ⟨a1, a2, a3, a4⟩ := h.cr c hc
    obtain ⟨_, b1, b2, b3⟩ := fmC_reads a1 a2 a3 a4
    simp [crOf, b1, b2, b3]
  have hrS : rawS (fmT C S) = S := by
    unfold rawS
    rw [hpost, List.map_map]
    conv => rhs; rw [← List.map_id S]
    refine List.map_congr_left fun s hs => ?_
    have h1 := h.st s hs
    have := (nu_ok (n := s.toNat) (by omega)).val
    simp only [Function.comp, id_eq]
    rw [this]; omega
  have he : prsE (fmT C S) = 0 := by
    unfold prsE
    rw [if_neg (by rw [hp, hw]; simp [fmW]), crsFE_ok, stpFE_ok, hrC, hrS]
    · simpa using hk
    · rw [hpost]
      intro x hx
      obtain ⟨s, hs, rfl⟩ := List.mem_map.1 hx
      exact (nu_ok (n := s.toNat) (by have := h.st s hs; omega)).is
    · rw [hpre]
      intro x hx
      obtain ⟨c, hc, rfl⟩ := List.mem_map.1 hx
      obtain ⟨a1, a2, a3, a4⟩ := h.cr c hc
      exact (fmC_reads a1 a2 a3 a4).1
  exact ⟨he, by rw [prsC, if_pos he, hrC], by rw [prsS, if_pos he, hrS]⟩

theorem in_ok {C : List Cr} {S : List Int} (h : chk C S = 0) : InOk C S := by
  have hc := chk_ok h
  refine ⟨fun c hm => ?_, fun s hs => ?_, ⟨hc.1, hc.2.1⟩⟩
  · obtain ⟨k, hk, rfl⟩ := List.mem_iff_getElem.1 hm
    have := chk_course h k hk
    rw [List.getD_eq_getElem?_getD, List.getElem?_eq_getElem hk] at this
    simp only [Option.getD_some] at this
    omega
  · have := riseB_bd S 0 hc.2.2.1 s hs
    omega

end Go.Proofs.YtdaeanjjmbibmaaDoor
