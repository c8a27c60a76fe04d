/- What the program's Spell returns for any pitch and key. -/
import Derived.Test.YtdaeanjjmbibmaaDoorPName
namespace Go.Proofs.YtdaeanjjmbibmaaDoor
open Go.RowKit

/-- The j-th note that is tried: letter j/3, accidental j%3-1. -/
def spA (j : Nat) : Int := ((j % 3 : Nat) : Int) - 1
def spO (p : Int) (j : Nat) : Int := (p - bas ((j / 3 : Nat) : Int) - spA j).tdiv 12 - 1
def spIn (key : Int) (j : Nat) : Bool := decide (key - 3 ≤ fif ((j / 3 : Nat) : Int) + 7 * spA j) && decide (fif ((j / 3 : Nat) : Int) + 7 * spA j ≤ key + 8)
def spOk (p key : Int) (j : Nat) : Bool := spIn key j && rgt ((j / 3 : Nat) : Int) (spA j) (spO p j) && decide (pit ((j / 3 : Nat) : Int) (spA j) (spO p j) = p)
/-- The first that fits, below n; n: none does. -/
def spFirst (p key : Int) (n : Nat) : Nat → Nat
  | 0 => n
  | k + 1 => if spOk p key (n - (k + 1)) then n - (k + 1) else spFirst p key n k
def spJ (p key : Int) : Nat := spFirst p key 21 21
def spE (p key : Int) : Int := if isP p = false then 10 else if key < -4 ∨ 4 < key then 1 else if spJ p key = 21 then 10 else 0
def spL (p key : Int) : Int := if spE p key = 0 then ((spJ p key / 3 : Nat) : Int) else 0
def spAl (p key : Int) : Int := if spE p key = 0 then spA (spJ p key) else 0
def spOc (p key : Int) : Int := if spE p key = 0 then spO p (spJ p key) else 0

theorem spFirst_hit (p key : Int) (n j : Nat) (hj : j < n) (h : spOk p key j = true) (hn : ∀ i, i < j → spOk p key i = false) : ∀ k, k ≤ n → n - k ≤ j → spFirst p key n k = j
  | 0, _, h2 => by omega
  | k + 1, h1, h2 => by
    unfold spFirst
    by_cases e : n - (k + 1) = j
    · rw [e, if_pos h]
    · rw [if_neg (by rw [hn _ (by omega)]; simp)]
      exact spFirst_hit p key n j hj h hn k (by omega) (by omega)
theorem spFirst_miss (p key : Int) (n : Nat) (hn : ∀ i, i < n → spOk p key i = false) : ∀ k, k ≤ n → spFirst p key n k = n
  | 0, _ => rfl
  | k + 1, h1 => by
    unfold spFirst
    rw [if_neg (by rw [hn _ (by omega)]; simp)]
    exact spFirst_miss p key n hn k (by omega)
theorem fif_bd (n : Nat) (h : n < 7) : -1 ≤ fif n ∧ fif n ≤ 5 := by
  have : ∀ n : Fin 7, -1 ≤ fif (n.val : Int) ∧ fif (n.val : Int) ≤ 5 := by decide
  exact this ⟨n, h⟩

theorem tdiv_bd (x : Int) (h0 : -12 ≤ x) (h1 : x ≤ 128) : -1 ≤ x.tdiv 12 ∧ x.tdiv 12 ≤ 10 := by
  have hall : ∀ n : Fin 141, -1 ≤ ((n.val : Int) - 12).tdiv 12 ∧ ((n.val : Int) - 12).tdiv 12 ≤ 10 := by decide
  have h2 : -1 ≤ ((((x + 12).toNat : Nat) : Int) - 12).tdiv 12 ∧ ((((x + 12).toNat : Nat) : Int) - 12).tdiv 12 ≤ 10 := hall ⟨(x + 12).toNat, by omega⟩
  have e : (((x + 12).toNat : Nat) : Int) - 12 = x := by omega
  rw [e] at h2
  exact h2
theorem spOk_no (p key : Int) (k q : Nat) (hq : q < 3) (h : fif k + 7 * ((q : Int) - 1) < key - 3 ∨ key + 8 < fif k + 7 * ((q : Int) - 1)) : spOk p key (3 * k + q) = false := by
  have e1 : (3 * k + q) / 3 = k := by omega
  have e2 : spA (3 * k + q) = (q : Int) - 1 := by unfold spA; omega
  have : spIn key (3 * k + q) = false := by unfold spIn; rw [e1, e2]; simp; omega
  simp [spOk, this]
theorem spOk_in (p key : Int) (k q : Nat) (hq : q < 3) (h : key - 3 ≤ fif k + 7 * ((q : Int) - 1) ∧ fif k + 7 * ((q : Int) - 1) ≤ key + 8) :
    spOk p key (3 * k + q) = (rgt k ((q : Int) - 1) ((p - bas k - ((q : Int) - 1)).tdiv 12 - 1) && decide (pit k ((q : Int) - 1) ((p - bas k - ((q : Int) - 1)).tdiv 12 - 1) = p)) := by
  have e1 : (3 * k + q) / 3 = k := by omega
  have e2 : spA (3 * k + q) = (q : Int) - 1 := by unfold spA; omega
  have : spIn key (3 * k + q) = true := by unfold spIn; rw [e1, e2]; simp; omega
  simp [spOk, this, spO, e1, e2]

theorem sp_found {p key : Int} (hE : spE p key = if spJ p key = 21 then 10 else 0) {k q : Nat} (hk : k < 7) (hq : q < 3) (h : spOk p key (3 * k + q) = true) (hn : ∀ j, j < 3 * k + q → spOk p key j = false) :
    spL p key = k ∧ spAl p key = (q : Int) - 1 ∧ spOc p key = (p - bas k - ((q : Int) - 1)).tdiv 12 - 1 ∧ spE p key = 0 := by
  have hj : spJ p key = 3 * k + q := spFirst_hit p key 21 (3 * k + q) (by omega) h hn 21 (by omega) (by omega)
  have he : spE p key = 0 := by rw [hE, hj, if_neg (by omega)]
  have e1 : (3 * k + q) / 3 = k := by omega
  have e2 : spA (3 * k + q) = (q : Int) - 1 := by unfold spA; omega
  refine ⟨?_, ?_, ?_, he⟩
  · rw [spL, if_pos he, hj, e1]
  · rw [spAl, if_pos he, hj, e2]
  · rw [spOc, if_pos he, hj, spO, e1, e2]
theorem sp_none {p key : Int} (hE : spE p key = if spJ p key = 21 then 10 else 0) (hn : ∀ j, j < 21 → spOk p key j = false) :
    spL p key = 0 ∧ spAl p key = 0 ∧ spOc p key = 0 ∧ spE p key = 10 := by
  have hj : spJ p key = 21 := spFirst_miss p key 21 hn 21 (by omega)
  have he : spE p key = 10 := by rw [hE, hj, if_pos rfl]
  have hne : ¬ spE p key = 0 := by rw [he]; decide
  exact ⟨by rw [spL, if_neg hne], by rw [spAl, if_neg hne], by rw [spOc, if_neg hne], he⟩

set_option maxRecDepth 100000 in
set_option maxHeartbeats 3200000 in
theorem spell_any (p key : Int) (w : World) (E : Env w) :
    Calls Tryd.prog 44 #[.int .i64 p, .int .i64 key] w fun e w' => e = .returned (.tuple #[.agg #[.int .i64 (spL p key), .int .i64 (spAl p key), .int .i64 (spOc p key)], .int .i64 (spE p key)]) ∧ Below w.heap.size w w' := by
  cases hp : isP p with
  | false =>
    have H : Hid (spL p key = 0 ∧ spAl p key = 0 ∧ spOc p key = 0 ∧ spE p key = 10) := by simp [Hid, spL, spAl, spOc, spE, hp]
    have HP := Lib.hid hp
    clear hp
    go_enter Tryd.func44, Tryd.ntmps44
    go_wp2_with (go_at_call 80; refine (isPitch_any _ _).mono ?_; rintro e w2 ⟨rfl, rfl⟩; rw [HP.out])
    refine bodyPost_ret (v := .tuple #[.agg #[.int .i64 0, .int .i64 0, .int .i64 0], .int .i64 10]) ?_ rfl ?_
    · simp [results, Tryd.results44, go_sem]
      done
    · rw [H.out.1, H.out.2.1, H.out.2.2.1, H.out.2.2.2]
      exact ⟨rfl, ba _ _⟩
  | true =>
    have HP := Lib.hid hp
    obtain ⟨p1, p2⟩ := isP_iff.1 hp
    by_cases hk : key < -4 ∨ 4 < key
    · have H : Hid (spL p key = 0 ∧ spAl p key = 0 ∧ spOc p key = 0 ∧ spE p key = 1) := by simp [Hid, spL, spAl, spOc, spE, hp, hk]
      clear hp
      rcases hk with hk | hk
      · go_enter Tryd.func44, Tryd.ntmps44
        go_wp2_with (go_at_call 80; refine (isPitch_any _ _).mono ?_; rintro e w2 ⟨rfl, rfl⟩; rw [HP.out])
        refine bodyPost_ret (v := .tuple #[.agg #[.int .i64 0, .int .i64 0, .int .i64 0], .int .i64 1]) ?_ rfl ?_
        · simp [results, Tryd.results44, go_sem]
          done
        · rw [H.out.1, H.out.2.1, H.out.2.2.1, H.out.2.2.2]
          exact ⟨rfl, ba _ _⟩
      · have hk' : ¬ key < -4 := by omega
        go_enter Tryd.func44, Tryd.ntmps44
        go_wp2_with (go_at_call 80; refine (isPitch_any _ _).mono ?_; rintro e w2 ⟨rfl, rfl⟩; rw [HP.out])
        refine bodyPost_ret (v := .tuple #[.agg #[.int .i64 0, .int .i64 0, .int .i64 0], .int .i64 1]) ?_ rfl ?_
        · simp [results, Tryd.results44, go_sem]
          done
        · rw [H.out.1, H.out.2.1, H.out.2.2.1, H.out.2.2.2]
          exact ⟨rfl, ba _ _⟩
    · have k1 : -4 ≤ key := by omega
      have k2 : key ≤ 4 := by omega
      have HEq : Hid (spE p key = if spJ p key = 21 then 10 else 0) := by unfold Hid spE; rw [if_neg (by rw [hp]; simp), if_neg hk]
      clear hp hk
      obtain ⟨t, fr, hr⟩ := E.lrow
      have hg := E.big
      have hr2 : ∀ o, (w.alloc o).heap[1]? = some (.cells letC t fr) := fun o => ((ba w o).block _ (by omega)).trans hr
      have E1 := E.alloc zSp
      clear hr hg
      go_enter Tryd.func44, Tryd.ntmps44
      go_wp2_with (first | (go_at_call 80; refine (isPitch_any _ _).mono ?_; rintro e w2 ⟨rfl, rfl⟩; rw [HP.out]) | (refine wpList_load_row rfl 120 _ rfl 1 rfl t letC fr _ (hr2 _) Tryd.underlying120 rfl letC_load ?_))
      go_loopw [25, 6, 7, 8] (fun i _ _ _ wr => ∃ k : Nat, k ≤ 7 ∧ i = .int .i64 k ∧ (∀ j, j < 3 * k → spOk p key j = false) ∧ Below (w.alloc zSp).heap.size (w.alloc zSp) wr) (fun i _ _ _ _ => 7 - (intOf i).toNat)
      case atStart => exact ⟨0, by omega, rfl, fun n hn => by omega, Below.refl _ _⟩
      case round =>
        obtain ⟨k, hk, rfl, hno, hb⟩ := hrel
        have HN := Lib.hid hno
        clear hno hr2
        by_cases hlt : k < 7
        · have hix := letC_ix k hlt
          have Ew := E1.below hb
          obtain ⟨f1, f2⟩ := fif_bd k hlt
          obtain ⟨b1, b2⟩ := bas_bd (l := k) (by omega) (by omega)
          have HLT := Lib.hid hlt
          have hk7 : decide ((k : Int) < 7) = true := by simp; omega
          go_wp2_with (fail)
          obtain ⟨wo, rfl⟩ : ∃ wo : World, wo = wr := ⟨_, rfl⟩
          go_loopw [8, 5, 9, 10, 11, 12] (fun s _ _ _ _ _ wr => ∃ (q : Nat) (a : Int), q ≤ 3 ∧ a = (q : Int) - 1 ∧ s = .int .i64 a ∧ (∀ j, j < 3 * k + q → spOk p key j = false) ∧ Below (wo.alloc (.cells #[.string (lnm k), .int .i64 (bas k), .int .i64 (fif k)] 119)).heap.size (wo.alloc (.cells #[.string (lnm k), .int .i64 (bas k), .int .i64 (fif k)] 119)) wr) (fun s _ _ _ _ _ _ => (3 - intOf s).toNat)
          case atStart => exact ⟨0, -1, by omega, by omega, rfl, HN.out, Below.refl _ _⟩
          case round =>
            obtain ⟨q, a, hq, haq, rfl, hno2, hbi⟩ := hrel
            have HN2 := Lib.hid hno2
            have HAQ := Lib.hid haq
            obtain ⟨c0, _⟩ := keepc hbi 0
            obtain ⟨c1, _⟩ := keepc hbi 1
            obtain ⟨c2, _⟩ := keepc hbi 2
            have hbt := bt hb (bx hbi)
            obtain ⟨s0, s1⟩ := keepc hbt 0
            obtain ⟨s2, s3⟩ := keepc hbt 1
            obtain ⟨s4, s5⟩ := keepc hbt 2
            have hz : w.heap.size < wr.heap.size := by have := hbt.size; simp at this; omega
            have hzo : wo.heap.size < wr.heap.size := by have := hbi.size; simp at this; omega
            simp at c0 c1 c2 s0 s2 s4
            have a1 : -1 ≤ a := by omega
            have a2 : a ≤ 2 := by omega
            have Ei := E1.below hbt
            clear hno2 hlt
            by_cases hq3 : q < 3
            · have a3 : a ≤ 1 := by omega
              clear haq
              by_cases h1 : fif k + 7 * a < key - 3
              · have HF := Lib.hid (spOk_no p key k q hq3 (.inl (by rw [← HAQ.out]; exact h1)))
                go_wp2_with (fail)
                go_roundw
                case rel =>
                  refine ⟨q + 1, a + 1, by omega, by have := HAQ.out; omega, rfl, fun j hj => ?_, hbi⟩
                  by_cases e : j = 3 * k + q
                  · rw [e]; exact HF.out
                  · exact HN2.out j (by omega)
                case measure => simp [intOf]; omega
              · by_cases h2 : key + 8 < fif k + 7 * a
                · have HF := Lib.hid (spOk_no p key k q hq3 (.inr (by rw [← HAQ.out]; exact h2)))
                  go_wp2_with (fail)
                  go_roundw
                  case rel =>
                    refine ⟨q + 1, a + 1, by omega, by have := HAQ.out; omega, rfl, fun j hj => ?_, hbi⟩
                    by_cases e : j = 3 * k + q
                    · rw [e]; exact HF.out
                    · exact HN2.out j (by omega)
                  case measure => simp [intOf]; omega
                · have hF := spOk_in p key k q hq3 (by rw [← HAQ.out]; omega)
                  rw [← HAQ.out] at hF
                  obtain ⟨d1, d2⟩ := tdiv_bd (p - bas k - a) (by omega) (by omega)
                  obtain ⟨d, hd⟩ : ∃ d, (p - bas k - a).tdiv 12 = d := ⟨_, rfl⟩
                  rw [hd] at hF d1 d2
                  have HF := Lib.hid hF
                  clear hF
                  cases hrg : rgt k a (d - 1) with
                  | false =>
                    have HS : Hid (sndP k a (d - 1) = 0 ∧ sndE k a (d - 1) = 10) := by simp [Hid, sndP, sndE, hrg]
                    have HG := Lib.hid hrg
                    clear hrg
                    go_wp2_with (go_at_call 81; refine (sounding_any _ _ _ _ (Ei.alloc _)).mono ?_; rintro e w3 ⟨rfl, hb3⟩; rw [HS.out.1, HS.out.2]; have hbu := bt hbi (bx hb3))
                    have hR : ∀ j, j < 3 * k + (q + 1) → spOk p key j = false := by
                      intro j hj
                      by_cases e : j = 3 * k + q
                      · rw [e, HF.out, HG.out]; rfl
                      · exact HN2.out j (by omega)
                    have HR := Lib.hid hR
                    clear hR
                    go_roundw
                    case rel => exact ⟨q + 1, a + 1, by omega, by have := HAQ.out; omega, rfl, HR.out, hbu⟩
                    case measure => simp [intOf]; omega
                  | true =>
                    by_cases hv : pit k a (d - 1) = p
                    · have HS : Hid (sndP k a (d - 1) = p ∧ sndE k a (d - 1) = 0) := by simp [Hid, sndP, sndE, hrg, hv]
                      have hfd := sp_found HEq.out HLT.out hq3 (by rw [HF.out, hrg, hv]; simp) HN2.out
                      rw [← HAQ.out, hd] at hfd
                      have HFD := Lib.hid hfd
                      clear hrg hv hfd
                      go_wp2_with (go_at_call 81; refine (sounding_any _ _ _ _ (Ei.alloc _)).mono ?_; rintro e w3 ⟨rfl, hb3⟩; rw [HS.out.1, HS.out.2]; have hbu := bt hbt (bx hb3); obtain ⟨t0, t1⟩ := keepc hbu 0; obtain ⟨t2, t3⟩ := keepc hbu 1; obtain ⟨t4, t5⟩ := keepc hbu 2; obtain ⟨v0, v1⟩ := keepc hb3 0; obtain ⟨v2, v3⟩ := keepc hb3 1; obtain ⟨v4, v5⟩ := keepc hb3 2; simp at t0 t2 t4 v0 v2 v4)
                      refine bodyPost_ret (v := .tuple #[.agg #[.int .i64 k, .int .i64 a, .int .i64 (d - 1)], .int .i64 0]) ?_ rfl ?_
                      · simp [results, Tryd.results44, go_sem, t0, t2, t4]
                        done
                      · rw [HFD.out.1, HFD.out.2.1, HFD.out.2.2.1, HFD.out.2.2.2]
                        exact ⟨rfl, bs3 (bx hbu) _ _ _⟩
                    · obtain ⟨v, hv2⟩ : ∃ v, pit k a (d - 1) = v := ⟨_, rfl⟩
                      rw [hv2] at hv
                      have HS : Hid (sndP k a (d - 1) = v ∧ sndE k a (d - 1) = 0) := by simp [Hid, sndP, sndE, hrg, hv2]
                      have hv3 : (v == p) = false := by simpa using hv
                      have HV := Lib.hid hv
                      have HV2 := Lib.hid hv2
                      clear hrg hv hv2
                      go_wp2_with (go_at_call 81; refine (sounding_any _ _ _ _ (Ei.alloc _)).mono ?_; rintro e w3 ⟨rfl, hb3⟩; rw [HS.out.1, HS.out.2]; have hbu := bt hbi (bx hb3))
                      go_roundw
                      case rel =>
                        refine ⟨q + 1, a + 1, by omega, by have := HAQ.out; omega, rfl, fun j hj => ?_, hbu⟩
                        by_cases e : j = 3 * k + q
                        · rw [e, HF.out, HV2.out]; simp [HV.out]
                        · exact HN2.out j (by omega)
                      case measure => simp [intOf]; omega
            · have a3 : ¬ a ≤ 1 := by omega
              clear haq
              go_wp2_with (fail)
              go_roundw
              case rel => exact ⟨k + 1, by have := HLT.out; omega, by go_num, fun j hj => HN2.out j (by omega), hbt⟩
              case measure => have := HLT.out; simp [intOf]; omega
        · have H := Lib.hid (sp_none HEq.out (fun j hj => HN.out j (by omega)))
          obtain ⟨s0, s1⟩ := keepc hb 0
          obtain ⟨s2, s3⟩ := keepc hb 1
          obtain ⟨s4, s5⟩ := keepc hb 2
          simp at s0 s2 s4
          go_wp2_with (fail)
          refine bodyPost_ret (v := .tuple #[.agg #[.int .i64 0, .int .i64 0, .int .i64 0], .int .i64 10]) ?_ rfl ?_
          · simp [results, Tryd.results44, go_sem, s0, s2, s4]
            done
          · rw [H.out.1, H.out.2.1, H.out.2.2.1, H.out.2.2.2]
            exact ⟨rfl, bs3 (bx hb) _ _ _⟩

end Go.Proofs.YtdaeanjjmbibmaaDoor
