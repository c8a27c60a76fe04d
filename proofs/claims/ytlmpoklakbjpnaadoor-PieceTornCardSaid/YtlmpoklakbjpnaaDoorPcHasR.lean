/- Pieces: is an event a rest, has it a stop on a course, in the reference. -/
import Derived.Test.YtlmpoklakbjpnaaDoorPcLeaf
namespace Go.Proofs.YtlmpoklakbjpnaaDoor
open Go Go.RowKit

set_option maxHeartbeats 1600000 in
theorem rRest_any (y : EvP) (sa : Option Addr) (sc : Nat) (w : World) : Calls Tryd.prog 108 #[evV y.bar y.v y.d y.t y.tie sa y.L.length sc] w fun e w' => e = .returned (.bool (restB y)) ∧ Below w.heap.size w w' := by
  have H : Hid (restB y = (decide (y.L.length = 0) && !y.tie)) := rfl
  generalize y.L.length = n at *
  cases ht : y.tie <;> rw [ht] at H
  · by_cases h : n = 0
    · subst h
      go_enter Tryd.func108, Tryd.ntmps108
      go_wp2_with (fail)
      go_ret
      exact ⟨ret_b (by rw [H.out]; rfl), ba _ _⟩
    · have h2 : ((n : Int) == 0) = false := by simpa using h
      go_enter Tryd.func108, Tryd.ntmps108
      go_wp2_with (fail)
      go_ret
      exact ⟨ret_b (by rw [H.out]; simp [h]), ba _ _⟩
  · by_cases h : n = 0
    · subst h
      go_enter Tryd.func108, Tryd.ntmps108
      go_wp2_with (fail)
      go_ret
      exact ⟨ret_b (by rw [H.out]; rfl), ba _ _⟩
    · have h2 : ((n : Int) == 0) = false := by simpa using h
      go_enter Tryd.func108, Tryd.ntmps108
      go_wp2_with (fail)
      go_ret
      exact ⟨ret_b (by rw [H.out]; simp), ba _ _⟩

theorem hsB_goR {L : List St} {c : Int} {k : Nat} (h : L.drop k = L.getD k z5 :: L.drop (k + 1)) : hsB (L.drop k) c = (decide ((L.getD k z5).c = c) || hsB (L.drop (k + 1)) c) := by
  rw [h]
  rfl
set_option maxRecDepth 100000 in
set_option maxHeartbeats 1600000 in
theorem rHas_any (bar : Bool) (v : Int) (d t tie : Bool) (sa : Option Addr) (sn sc : Nat) (L : List St) (c : Int) (w : World) (hS : Sl w w.heap.size 5 sa sn sc (stC L)) (hn : sn = L.length) (hlim : sn ≤ 1000000) :
    Calls Tryd.prog 114 #[evV bar v d t tie sa sn sc, .int .i64 c] w fun e w' => e = .returned (.bool (hsB L c)) ∧ Below w.heap.size w w' := by
  have HN := Lib.hid hn
  have HS := Lib.hid (hS.below (ba w (evO bar v d t tie sa sn sc)))
  clear hS hn
  go_enter Tryd.func114, Tryd.ntmps114
  go_wp2_with (fail)
  go_loop [5] (fun i => ∃ k : Nat, k ≤ sn ∧ i = .int .i64 k ∧ hsB L c = hsB (L.drop k) c) (fun i => sn - (intOf i).toNat)
  case atStart => exact ⟨0, by omega, rfl, rfl⟩
  case round =>
    obtain ⟨k, hk, rfl, hr⟩ := hrel
    have HR := Lib.hid hr
    clear hr
    by_cases hlt : k < sn
    · obtain ⟨b, off, rfl, hbl, hd, _, c0, c1, c2, c3, c4⟩ := st_at HS.out HN.out hlt
      have HD := Lib.hid (hsB_goR (c := c) hd)
      clear hd c1 c2 c3 c4
      generalize L.getD k z5 = s at *
      obtain ⟨sc0, s1, s2, s3, s4⟩ := s
      dsimp only at c0
      cases hx : decide (sc0 = c) with
      | true =>
        have hx' : (sc0 == c) = true := by simpa using hx
        have HX := Lib.hid hx
        clear hx
        go_wp2_with (fail)
        go_ret
        exact ⟨ret_b (by rw [HR.out, HD.out, HX.out]; rfl), ba _ _⟩
      | false =>
        have hx' : (sc0 == c) = false := by simpa using hx
        have HX := Lib.hid hx
        clear hx
        go_wp2_with (fail)
        go_round
        case rel => exact ⟨k + 1, by omega, by go_num, by rw [HR.out, HD.out, HX.out]; rfl⟩
        case measure => simp [intOf]; omega
    · go_wp2_with (fail)
      go_ret
      exact ⟨ret_b (by rw [HR.out, List.drop_of_length_le (by have := HN.out; omega)]; rfl), ba _ _⟩

end Go.Proofs.YtlmpoklakbjpnaaDoor
