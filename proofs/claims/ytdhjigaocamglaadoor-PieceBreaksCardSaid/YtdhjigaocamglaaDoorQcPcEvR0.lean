/- Pieces: is an event a rest, has it a stop on a course, in the reference. -/
import Derived.Test.YtdhjigaocamglaaDoorQcPcLeaf
import Derived.Test.YtdhjigaocamglaaDoorQcPcLong
import Derived.Test.YtdhjigaocamglaaDoorQcPcCk
import Derived.Test.YtdhjigaocamglaaDoorQcTkR
import Derived.Deep.RegionHeld3
namespace Go.Proofs.YtdhjigaocamglaaDoor
open Go Go.RowKit

set_option maxHeartbeats 1600000 in
theorem rRest_any (y : EvP) (sa : Option Addr) (sc : Nat) (w : World) : Calls Tryd.prog 79 #[evV y.bar y.v y.d y.t y.tie sa y.L.length sc] w fun e w' => e = .returned (.bool (restB y)) ∧ Below w.heap.size w w' := by
  have H : Hid (restB y = (decide (y.L.length = 0) && !y.tie)) := rfl
  generalize y.L.length = n at *
  cases ht : y.tie <;> rw [ht] at H
  · by_cases h : n = 0
    · subst h
      go_enter Tryd.func79, Tryd.ntmps79
      go_wp2_with (fail)
      go_ret
      exact ⟨ret_b (by rw [H.out]; rfl), ba _ _⟩
    · have h2 : ((n : Int) == 0) = false := by simpa using h
      go_enter Tryd.func79, Tryd.ntmps79
      go_wp2_with (fail)
      go_ret
      exact ⟨ret_b (by rw [H.out]; simp [h]), ba _ _⟩
  · by_cases h : n = 0
    · subst h
      go_enter Tryd.func79, Tryd.ntmps79
      go_wp2_with (fail)
      go_ret
      exact ⟨ret_b (by rw [H.out]; rfl), ba _ _⟩
    · have h2 : ((n : Int) == 0) = false := by simpa using h
      go_enter Tryd.func79, Tryd.ntmps79
      go_wp2_with (fail)
      go_ret
      exact ⟨ret_b (by rw [H.out]; simp), ba _ _⟩

theorem hsB_goR {L : List St} {c : Int} {k : Nat} (h : L.drop k = L.getD k z5 :: L.drop (k + 1)) : hsB (L.drop k) c = (decide ((L.getD k z5).c = c) || hsB (L.drop (k + 1)) c) := by
  rw [h]
  rfl
set_option maxRecDepth 100000 in
set_option maxHeartbeats 1600000 in
theorem rHas_any (bar : Bool) (v : Int) (d t tie : Bool) (sa : Option Addr) (sn sc : Nat) (L : List St) (c : Int) (w : World) (hS : Sl w w.heap.size 5 sa sn sc (stC L)) (hn : sn = L.length) (hlim : sn ≤ 1000000) :
    Calls Tryd.prog 89 #[evV bar v d t tie sa sn sc, .int .i64 c] w fun e w' => e = .returned (.bool (hsB L c)) ∧ Below w.heap.size w w' := by
  have HN := Lib.hid hn
  have HS := Lib.hid (hS.below (ba w (evO bar v d t tie sa sn sc)))
  clear hS hn
  go_enter Tryd.func89, Tryd.ntmps89
  go_wp2_with (fail)
  go_loop [5] (fun i => ∃ k : Nat, k ≤ sn ∧ i = .int .i64 k ∧ hsB L c = hsB (L.drop k) c) (fun i => sn - (intOf i).toNat)
  case atStart => exact ⟨0, by omega, rfl, rfl⟩
  case round =>
    obtain ⟨k, hk, rfl, hr⟩ := hrel
    have HR := Lib.hid hr
    clear hr
    by_cases hlt : k < sn
    · obtain ⟨b, off, rfl, hbl, hd, _, c0, c1, c2, c3, c4⟩ := st_at HS.out HN.out hlt
      have HD := Lib.hid (hsB_goR (c := c) hd)
      clear hd c1 c2 c3 c4
      generalize L.getD k z5 = s at *
      obtain ⟨sc0, s1, s2, s3, s4⟩ := s
      dsimp only at c0
      cases hx : decide (sc0 = c) with
      | true =>
        have hx' : (sc0 == c) = true := by simpa using hx
        have HX := Lib.hid hx
        clear hx
        go_wp2_with (fail)
        go_ret
        exact ⟨ret_b (by rw [HR.out, HD.out, HX.out]; rfl), ba _ _⟩
      | false =>
        have hx' : (sc0 == c) = false := by simpa using hx
        have HX := Lib.hid hx
        clear hx
        go_wp2_with (fail)
        go_round
        case rel => exact ⟨k + 1, by omega, by go_num, by rw [HR.out, HD.out, HX.out]; rfl⟩
        case measure => simp [intOf]; omega
    · go_wp2_with (fail)
      go_ret
      exact ⟨ret_b (by rw [HR.out, List.drop_of_length_le (by have := HN.out; omega)]; rfl), ba _ _⟩

end Go.Proofs.YtdhjigaocamglaaDoor

/- Pieces: the reference's Longest, for any piece, event and course. -/
namespace Go.Proofs.YtdhjigaocamglaaDoor
open Go Go.RowKit

theorem rlgst_out {P : List EvP} {k c : Int} (h : k < 0 ∨ (P.length : Int) ≤ k) : lgst P k c = 0 := by rw [lgst, if_pos h]
theorem rlgst_in {P : List EvP} {k : Nat} {c : Int} (h : k < P.length) : lgst P k c = lgGo c (P.drop (k + 1)) 0 := by rw [lgst, if_neg (by omega)]; rfl

set_option maxRecDepth 100000 in
set_option maxHeartbeats 3200000 in
theorem rLongest_any (A : Option Addr) (n c : Nat) (A' : Option Addr) (m c' : Nat) (A2 : Option Addr) (q cq : Nat) (P : List EvP) (ev co : Int) (w : World) (hE : EsIn w A2 q cq P) (hq : q ≤ 1000000) (hst : ∀ y ∈ P, y.L.length ≤ 1000000) :
    Calls Tryd.prog 80 #[pcV A n c A' m c' A2 q cq, .int .i64 ev, .int .i64 co] w fun e w' => e = .returned (.int .i64 (lgst P ev co : Nat)) ∧ Below w.heap.size w w' := by
  have hqP := hE.hq
  by_cases h1 : ev < 0
  · have HL := Lib.hid (rlgst_out (P := P) (c := co) (.inl h1))
    clear hE hst
    go_enter Tryd.func80, Tryd.ntmps80
    go_wp2_with (fail)
    go_ret
    exact ⟨ret_int (by rw [HL.out]; rfl), ba _ _⟩
  by_cases h2 : (q : Int) ≤ ev
  · have HL := Lib.hid (rlgst_out (P := P) (c := co) (.inr (by omega : (P.length : Int) ≤ ev)))
    clear hE hst
    go_enter Tryd.func80, Tryd.ntmps80
    go_wp2_with (fail)
    go_ret
    exact ⟨ret_int (by rw [HL.out]; rfl), ba _ _⟩
  obtain ⟨k, rfl⟩ := Int.eq_ofNat_of_zero_le (by omega : 0 ≤ ev)
  have hk : k < q := by omega
  have HL := Lib.hid (rlgst_in (P := P) (c := co) (k := k) (by omega))
  have HE : Hid (∀ w', Below w.heap.size w w' → EsIn w' A2 q cq P) := fun w' hb => hE.below hb
  have HST := Lib.hid hst
  have HP := Lib.hid hqP
  clear hE hst hqP h1
  go_enter Tryd.func80, Tryd.ntmps80
  go_wp2_with (fail)
  go_loopw [7] (fun l wr => ∃ j : Nat, k + j < q ∧ j ≤ 15 ∧ l = .int .i64 j ∧ lgGo co (P.drop (k + 1)) 0 = lgGo co (P.drop (k + j + 1)) j ∧ Below (w.alloc (pcO A n c A' m c' A2 q cq)).heap.size (w.alloc (pcO A n c A' m c' A2 q cq)) wr) (fun l _ => q - (intOf l).toNat)
  case atStart => exact ⟨0, by omega, by omega, rfl, rfl, Below.refl _ _⟩
  case round =>
    obtain ⟨j, hj, hj15, rfl, hr, hbw⟩ := hrel
    have HR := Lib.hid hr
    have HB := Lib.hid hbw
    obtain ⟨p0, p1, p2⟩ := cell3 hbw
    clear hr hbw
    by_cases h15 : j = 15
    · subst h15
      have HZ : Hid (lgGo co (P.drop (k + 1)) 0 = 15) := by
        unfold Hid
        rw [HR.out]
        cases P.drop (k + 15 + 1) <;> simp [lgGo]
      go_wp2_with (fail)
      go_ret
      exact ⟨ret_int (by rw [HL.out, HZ.out]), bx HB.out⟩
    · have hji : (j : Int) < 15 := by omega
      by_cases hlt : k + j + 1 < q
      · have hlti : (k : Int) + (j : Int) + 1 < (q : Int) := by omega
        obtain ⟨b, off, sa, sc, rfl, hbl2, hPk, hd, ⟨c0, c1, c2, c3, c4, c5⟩, hS⟩ := (HE.out _ (bx HB.out)).at hlt
        have HS := Lib.hid hS
        have HD := Lib.hid hd
        have hL : (P.getD (k + j + 1) z6).L.length ≤ 1000000 := HST.out _ (List.mem_of_getElem? hPk)
        clear hS hd hPk
        generalize P.getD (k + j + 1) z6 = y at *
        have HG : Hid (∀ B, (restB y || hsB y.L co) = B → lgGo co (P.drop (k + 1)) 0 = if B then j else lgGo co (P.drop (k + j + 1 + 1)) (j + 1)) := fun B hB => by
          rw [HR.out, HD.out, lgGo]
          subst hB
          cases restB y <;> cases hsB y.L co <;> simp [h15]
        cases hrest : restB y with
        | true =>
          have HT := Lib.hid hrest
          clear hrest
          go_wp2_with (go_at_call 79; refine (rRest_any y sa sc _).mono ?_; rintro e w2 ⟨rfl, hb2⟩; rw [HT.out])
          go_ret
          exact ⟨ret_int (by rw [HL.out, HG.out true (by rw [HT.out]; simp)]; rfl), bx (bt HB.out (bx hb2))⟩
        | false =>
          have HT := Lib.hid hrest
          clear hrest
          cases hhas : hsB y.L co with
          | true =>
            have HU := Lib.hid hhas
            clear hhas
            go_wp2_with (first
              | (go_at_call 79; refine (rRest_any y sa sc _).mono ?_; rintro e w2 ⟨rfl, hb2⟩; rw [HT.out]; obtain ⟨x0, x1, x2, x3, x4, x5⟩ := cell6 hb2)
              | (go_at_call 89; refine (rHas_any _ _ _ _ _ sa _ sc y.L co _ (HS.out.below (bx hb2)) rfl hL).mono ?_; rintro e w3 ⟨rfl, hb3⟩; rw [HU.out]))
            go_ret
            exact ⟨ret_int (by rw [HL.out, HG.out true (by rw [HU.out]; simp)]; rfl), bx (bt HB.out (bt (bx hb2) hb3))⟩
          | false =>
            have HU := Lib.hid hhas
            clear hhas
            go_wp2_with (first
              | (go_at_call 79; refine (rRest_any y sa sc _).mono ?_; rintro e w2 ⟨rfl, hb2⟩; rw [HT.out]; obtain ⟨x0, x1, x2, x3, x4, x5⟩ := cell6 hb2)
              | (go_at_call 89; refine (rHas_any _ _ _ _ _ sa _ sc y.L co _ (HS.out.below (bx hb2)) rfl hL).mono ?_; rintro e w3 ⟨rfl, hb3⟩; rw [HU.out]))
            go_roundw
            case rel => exact ⟨j + 1, by omega, by omega, by go_num, by rw [HG.out false (by rw [HT.out, HU.out]; rfl)]; rfl, bt HB.out (bt (bx hb2) hb3)⟩
            case measure => simp [intOf]; omega
      · have hlti : ¬ (k : Int) + (j : Int) + 1 < (q : Int) := by omega
        have HZ : Hid (lgGo co (P.drop (k + 1)) 0 = j) := by
          unfold Hid
          rw [HR.out, List.drop_of_length_le (by have := HP.out; omega)]
          rfl
        go_wp2_with (fail)
        go_ret
        exact ⟨ret_int (by rw [HL.out, HZ.out]), bx HB.out⟩

end Go.Proofs.YtdhjigaocamglaaDoor

/- Pieces: the reference's first error of an event. -/
namespace Go.Proofs.YtdhjigaocamglaaDoor
open Go Go.RowKit

def ErrIf (x bf : Int) (i : Nat) (sf sr sgr sh : Int) (lg : Nat) : Prop := x = if (i : Int) + 1 ≤ bf then 22 else if sr < 0 ∨ 3 < sr ∨ sgr < 0 ∨ 4 < sgr then 23 else if sh < 0 ∨ (lg : Int) < sh ∨ (0 < sh ∧ sf = 0) then 24 else 0
theorem ErrIf.eq {x bf : Int} {i : Nat} {sf sr sgr sh : Int} {lg : Nat} (h : ErrIf x bf i sf sr sgr sh lg) : x = if (i : Int) + 1 ≤ bf then 22 else if sr < 0 ∨ 3 < sr ∨ sgr < 0 ∨ 4 < sgr then 23 else if sh < 0 ∨ (lg : Int) < sh ∨ (0 < sh ∧ sf = 0) then 24 else 0 := h
def bfJ (L : List St) (j : Nat) : Int := if j = 0 then 0 else (L.getD (j - 1) z5).c
theorem argsR {w wr w1 : World} {o1 : Obj} {A : Option Addr} {n c : Nat} {A' : Option Addr} {m c' : Nat} {A2 : Option Addr} {q cq : Nat} {v0 v1 v2 v3 v4 : Int} (hB : Below ((w.alloc (pcO A n c A' m c' A2 q cq)).alloc o1).heap.size ((w.alloc (pcO A n c A' m c' A2 q cq)).alloc o1) wr)
    (h : Below (wr.alloc (.cells #[.int .i64 v0, .int .i64 v1, .int .i64 v2, .int .i64 v3, .int .i64 v4] 62)).heap.size (wr.alloc (.cells #[.int .i64 v0, .int .i64 v1, .int .i64 v2, .int .i64 v3, .int .i64 v4] 62)) w1) :
    (w1.cell? ⟨w.heap.size, 0, none⟩ = some (.slice A n c) ∧ w1.cell? ⟨w.heap.size, 1, none⟩ = some (.slice A' m c') ∧ w1.cell? ⟨w.heap.size, 2, none⟩ = some (.slice A2 q cq)) ∧
    (w1.cell? ⟨wr.heap.size, 0, none⟩ = some (.int .i64 v0) ∧ w1.cell? ⟨wr.heap.size, 1, none⟩ = some (.int .i64 v1) ∧ w1.cell? ⟨wr.heap.size, 2, none⟩ = some (.int .i64 v2) ∧ w1.cell? ⟨wr.heap.size, 3, none⟩ = some (.int .i64 v3) ∧ w1.cell? ⟨wr.heap.size, 4, none⟩ = some (.int .i64 v4)) :=
  ⟨cell3 (bt (ba _ _) (bt hB (bx h))), cell5 h⟩

end Go.Proofs.YtdhjigaocamglaaDoor
