/- Pieces: has an event a stop on a course, in the program and in the reference. -/
import Derived.Test.YtlmpoklakbjpnaaDoorPcLeaf
namespace Go.Proofs.YtlmpoklakbjpnaaDoor
open Go Go.RowKit

theorem hsB_go {L : List St} {c : Int} {k : Nat} (h : L.drop k = L.getD k z5 :: L.drop (k + 1)) : hsB (L.drop k) c = (decide ((L.getD k z5).c = c) || hsB (L.drop (k + 1)) c) := by
  rw [h]
  rfl
set_option maxHeartbeats 1600000 in
theorem hasStop1_any (cb : Nat) (c : Int) (s : St) (w : World) (h : w.cell? ⟨cb, 0, none⟩ = some (.int .i64 c)) (hb : cb < w.heap.size) :
    Calls Tryd.prog 121 #[stV s, .pointer (some ⟨cb, 0, none⟩)] w fun e w' => e = .returned (.bool (decide (s.c = c))) ∧ Below w.heap.size w w' := by
  have h1 := cell_same ((ba w (.cells #[.int .i64 s.c, .int .i64 s.f, .int .i64 s.r, .int .i64 s.g, .int .i64 s.h] 65)).block cb hb) h
  go_enter Tryd.func121, Tryd.ntmps121
  go_wp2_with (fail)
  go_ret
  exact ⟨by first | rfl | exact ret_b (by simp), ba _ _⟩

set_option maxRecDepth 100000 in
set_option maxHeartbeats 1600000 in
theorem indexFunc_any (cb : Nat) (c : Int) (sa : Option Addr) (sn sc : Nat) (L : List St) (w : World) (h : w.cell? ⟨cb, 0, none⟩ = some (.int .i64 c)) (hb : cb < w.heap.size) (hS : Sl w w.heap.size 5 sa sn sc (stC L)) (hn : sn = L.length) (hlim : sn ≤ 1000000) :
    Calls Tryd.prog 115 #[.slice sa sn sc, .func (.func 121) #[] #[.pointer (some ⟨cb, 0, none⟩)]] w fun e w' => ∃ r : Int, e = .returned (.int .i64 r) ∧ decide (0 ≤ r) = hsB L c ∧ Below w.heap.size w w' := by
  have HN := Lib.hid hn
  have HS : Hid (∀ w', Below w.heap.size w w' → Sl w' w'.heap.size 5 sa sn sc (stC L)) := fun w' hb' => hS.below hb'
  have HC : Hid (∀ w', Below w.heap.size w w' → w'.cell? ⟨cb, 0, none⟩ = some (.int .i64 c) ∧ cb < w'.heap.size) := fun w' hb' => ⟨cell_same (hb'.block cb hb) h, Nat.lt_of_lt_of_le hb hb'.size⟩
  clear hS hn h hb
  go_enter Tryd.func115, Tryd.ntmps115
  go_wp2_with (fail)
  go_loopw [8] (fun i wr => ∃ k : Nat, k ≤ sn ∧ i = .int .i64 k ∧ hsB L c = hsB (L.drop k) c ∧ Below w.heap.size w wr) (fun i _ => sn - (intOf i).toNat)
  case atStart => exact ⟨0, by omega, rfl, rfl, Below.refl _ _⟩
  case round =>
    obtain ⟨k, hk, rfl, hr, hbw⟩ := hrel
    have HR := Lib.hid hr
    have HB := Lib.hid hbw
    clear hr hbw
    by_cases hlt : k < sn
    · obtain ⟨b, off, rfl, hbl, hd, _, c0, c1, c2, c3, c4⟩ := st_at (HS.out _ HB.out) HN.out hlt
      have HD := Lib.hid (hsB_go (c := c) hd)
      clear hd
      generalize L.getD k z5 = s at *
      obtain ⟨hcb, hcl⟩ := HC.out _ HB.out
      have HQ := Lib.hid (And.intro hcb hcl)
      clear hcb hcl
      cases hx : decide (s.c = c) with
      | true =>
        have HX := Lib.hid hx
        clear hx
        go_wp2_with (go_at_call 121; refine (hasStop1_any cb c s _ HQ.out.1 HQ.out.2).mono ?_; rintro e w2 ⟨rfl, hb2⟩; rw [HX.out])
        go_ret
        exact ⟨k, rfl, by rw [HR.out, HD.out, HX.out]; simp, bt HB.out hb2⟩
      | false =>
        have HX := Lib.hid hx
        clear hx
        go_wp2_with (go_at_call 121; refine (hasStop1_any cb c s _ HQ.out.1 HQ.out.2).mono ?_; rintro e w2 ⟨rfl, hb2⟩; rw [HX.out])
        go_roundw
        case rel => exact ⟨k + 1, by omega, rfl, by rw [HR.out, HD.out, HX.out]; rfl, bt HB.out hb2⟩
        case measure => simp [intOf]; omega
    · go_wp2_with (fail)
      go_ret
      exact ⟨-1, rfl, by rw [HR.out, List.drop_of_length_le (by have := HN.out; omega)]; rfl, HB.out⟩

set_option maxHeartbeats 1600000 in
theorem containsFunc_any (cb : Nat) (c : Int) (sa : Option Addr) (sn sc : Nat) (L : List St) (w : World) (h : w.cell? ⟨cb, 0, none⟩ = some (.int .i64 c)) (hb : cb < w.heap.size) (hS : Sl w w.heap.size 5 sa sn sc (stC L)) (hn : sn = L.length) (hlim : sn ≤ 1000000) :
    Calls Tryd.prog 104 #[.slice sa sn sc, .func (.func 121) #[] #[.pointer (some ⟨cb, 0, none⟩)]] w fun e w' => e = .returned (.bool (hsB L c)) ∧ Below w.heap.size w w' := by
  have HI := Lib.hid (indexFunc_any cb c sa sn sc L w h hb hS hn hlim)
  clear h hb hS hn hlim
  generalize hsB L c = B at *
  go_enter Tryd.func104, Tryd.ntmps104
  go_wp2_with (go_at_call 115; refine HI.out.mono ?_; rintro e w1 ⟨r, rfl, hr, hb1⟩; have HR := Lib.hid hr; clear hr)
  go_ret
  exact ⟨ret_b (by rw [← HR.out]), hb1⟩

set_option maxHeartbeats 1600000 in
theorem hasStop_any (bar : Bool) (v : Int) (d t tie : Bool) (sa : Option Addr) (sn sc : Nat) (L : List St) (c : Int) (w : World) (hS : Sl w w.heap.size 5 sa sn sc (stC L)) (hn : sn = L.length) (hlim : sn ≤ 1000000) :
    Calls Tryd.prog 120 #[evV bar v d t tie sa sn sc, .int .i64 c] w fun e w' => e = .returned (.bool (hsB L c)) ∧ Below w.heap.size w w' := by
  have hmf : ∀ (fn : Fn) (first cap : Array Value) (w : World), (Instr.makeFunc fn first cap).run Tryd.prog w = .ok (.func fn first cap) w := fun _ _ _ _ => rfl
  have HS : Hid (∀ w', Below w.heap.size w w' → Sl w' w'.heap.size 5 sa sn sc (stC L)) := fun w' hb' => hS.below hb'
  have HN := Lib.hid (And.intro hn hlim)
  clear hS hn hlim
  go_enter Tryd.func120, Tryd.ntmps120
  go_wp2_with (go_at_call 104; refine (containsFunc_any (w.heap.size + 1) c sa sn sc L _ (by simp) (by simp) (HS.out _ (bt (ba w _) (ba _ _))) HN.out.1 HN.out.2).mono ?_; rintro e w1 ⟨rfl, hb1⟩)
  go_ret
  exact ⟨rfl, bx (bx hb1)⟩

end Go.Proofs.YtlmpoklakbjpnaaDoor
