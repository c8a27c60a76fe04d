/- Sound, the reference: the event at which a stop ceases to sound (stay, open, end). -/
import Derived.Test.YtpcehgifpajmbaaGreatSndEnd
import Derived.Test.YtpcehgifpajmbaaGreatPcHasR
namespace Go.Proofs.YtpcehgifpajmbaaGreat
open Go Go.RowKit

set_option maxRecDepth 100000 in
set_option maxHeartbeats 4000000 in
theorem rstay_any (A : Option Addr) (n c : Nat) (A' : Option Addr) (m c' : Nat) (A2 : Option Addr) (q cq : Nat) (P : List EvP) (i h : Nat) (w : World) (hE : EsIn w A2 q cq P) (hi : i + 1 + h ≤ q) (hq : q ≤ 65536)
    (htie : ∀ (j : Nat) (y : EvP), P[j]? = some y → y.tie = true → y.L.length = 0) :
    Calls Tryz.prog 43 #[pcV A n c A' m c' A2 q cq, .int .i64 i, .int .i64 h] w fun e w' => e = .returned (.int .i64 (tiGo (P.drop (i + 1 + h)) (i + 1 + h) : Nat)) ∧ Below w.heap.size w w' := by
  have HE := Lib.hid (hE.below (ba w (pcO A n c A' m c' A2 q cq)))
  have HL := Lib.hid hE.hq
  have HTI := Lib.hid htie
  clear hE htie
  go_enter Tryz.func43, Tryz.ntmps43
  go_wp2_with (fail)
  go_loop [7] (fun u => ∃ k : Nat, i + 1 + h ≤ k ∧ k ≤ q ∧ u = .int .i64 k ∧ tiGo (P.drop (i + 1 + h)) (i + 1 + h) = tiGo (P.drop k) k) (fun u => q - (intOf u).toNat)
  case atStart => exact ⟨i + 1 + h, by omega, by omega, by first | (congr 1; omega) | (simp; omega), rfl⟩
  case round =>
    obtain ⟨k, hk1, hk2, rfl, hr⟩ := hrel
    have HR := Lib.hid hr
    clear hr
    by_cases hlt : k < q
    · have hkq' : (k : Int) < (q : Int) := by omega
      obtain ⟨b, off, sa, sc', rfl, hbl, hPk, hd, ⟨_, _, _, _, c4, c5⟩, _⟩ := HE.out.at hlt
      have HD := Lib.hid hd
      have HTK : Hid ((P.getD k z6).tie = true → (P.getD k z6).L.length = 0) := HTI.out _ _ hPk
      clear hd hPk
      generalize P.getD k z6 = y at *
      obtain ⟨bar, v, d, t, tie, L⟩ := y
      dsimp only at c4 c5 HTK
      have HG : Hid (tiGo (P.drop (i + 1 + h)) (i + 1 + h) = if tie then tiGo (P.drop (k + 1)) (k + 1) else k) := by
        unfold Hid
        rw [HR.out, HD.out, tiGo]
      obtain ⟨N, hN⟩ : ∃ N, L.length = N := ⟨_, rfl⟩
      rw [hN] at c5 HTK
      clear hN
      cases tie with
      | true =>
        obtain rfl : N = 0 := HTK.out rfl
        go_wp2_with (fail)
        go_round
        case rel => exact ⟨k + 1, by omega, by omega, by first | rfl | go_num, by rw [HG.out]; rfl⟩
        case measure => simp [intOf]; omega
      | false =>
        by_cases h0 : N = 0
        · subst h0
          go_wp2_with (fail)
          go_ret
          exact ⟨ret_int (by rw [HG.out]; rfl), ba _ _⟩
        · have hN0 : ((N : Int) == 0) = false := by simpa using h0
          go_wp2_with (fail)
          go_ret
          exact ⟨ret_int (by rw [HG.out]; rfl), ba _ _⟩
    · have HZ : Hid (tiGo (P.drop (i + 1 + h)) (i + 1 + h) = k) := by
        unfold Hid
        rw [HR.out, List.drop_of_length_le (by have := HL.out; omega)]
        rfl
      go_wp2_with (fail)
      go_ret
      exact ⟨ret_int (by rw [HZ.out]), ba _ _⟩

set_option maxRecDepth 100000 in
set_option maxHeartbeats 4000000 in
theorem ropen_any (A : Option Addr) (n c : Nat) (A' : Option Addr) (m c' : Nat) (A2 : Option Addr) (q cq : Nat) (P : List EvP) (i : Nat) (sc : Int) (w : World) (hE : EsIn w A2 q cq P) (hi : i < q) (hq : q ≤ 65536) (hst : ∀ y ∈ P, y.L.length ≤ 1000000) :
    Calls Tryz.prog 44 #[pcV A n c A' m c' A2 q cq, .int .i64 i, .int .i64 sc] w fun e w' => e = .returned (.int .i64 (opGo sc (P.drop (i + 1)) (i + 1) : Nat)) ∧ Below w.heap.size w w' := by
  have HE : Hid (∀ w', Below w.heap.size w w' → EsIn w' A2 q cq P) := fun w' hb => hE.below hb
  have HL := Lib.hid hE.hq
  have HST := Lib.hid hst
  clear hE hst
  go_enter Tryz.func44, Tryz.ntmps44
  go_wp2_with (fail)
  go_loopw [7] (fun u wr => ∃ k : Nat, i + 1 ≤ k ∧ k ≤ q ∧ u = .int .i64 k ∧ opGo sc (P.drop (i + 1)) (i + 1) = opGo sc (P.drop k) k ∧ Below (w.alloc (pcO A n c A' m c' A2 q cq)).heap.size (w.alloc (pcO A n c A' m c' A2 q cq)) wr) (fun u _ => q - (intOf u).toNat)
  case atStart => exact ⟨i + 1, by omega, by omega, by first | rfl | go_num, rfl, Below.refl _ _⟩
  case round =>
    obtain ⟨k, hk1, hk2, rfl, hr, hbw⟩ := hrel
    have HR := Lib.hid hr
    have HB := Lib.hid hbw
    obtain ⟨p0, p1, p2⟩ := cell3 hbw
    clear hr hbw p0 p1
    by_cases hlt : k < q
    · have hkq' : (k : Int) < (q : Int) := by omega
      obtain ⟨b, off, sa, sc', rfl, hbl, hPk, hd, ⟨c0, c1, c2, c3, c4, c5⟩, hS⟩ := (HE.out _ (bx HB.out)).at hlt
      have HS := Lib.hid hS
      have HD := Lib.hid hd
      have hL : (P.getD k z6).L.length ≤ 1000000 := HST.out _ (List.mem_of_getElem? hPk)
      clear hS hd hPk
      generalize P.getD k z6 = y at *
      obtain ⟨bar, v, d, t, tie, L⟩ := y
      dsimp only at c0 c1 c2 c3 c4 c5 hL HS
      have HG : Hid (∀ B, (restB ⟨bar, v, d, t, tie, L⟩ || hsB L sc) = B → opGo sc (P.drop (i + 1)) (i + 1) = if B then k else opGo sc (P.drop (k + 1)) (k + 1)) := fun B hB => by
        rw [HR.out, HD.out, opGo]
        subst hB
        cases restB ⟨bar, v, d, t, tie, L⟩ <;> cases hsB L sc <;> simp
      have HC : Hid (∀ w', Below wr.heap.size wr w' → (w'.cell? ⟨b, off + k * 6, none⟩ = some (.bool bar) ∧ w'.cell? ⟨b, off + k * 6 + 1, none⟩ = some (.int .i64 v) ∧ w'.cell? ⟨b, off + k * 6 + 2, none⟩ = some (.bool d) ∧ w'.cell? ⟨b, off + k * 6 + 3, none⟩ = some (.bool t) ∧ w'.cell? ⟨b, off + k * 6 + 4, none⟩ = some (.bool tie) ∧ w'.cell? ⟨b, off + k * 6 + 5, none⟩ = some (.slice sa L.length sc')) ∧ w'.cell? ⟨w.heap.size, 2, none⟩ = some (.slice (some ⟨b, off, none⟩) q cq)) := by
        have hzz : w.heap.size < wr.heap.size := by have := HB.out.size; simp at this; omega
        exact fun w' hb => ⟨⟨cell_same (hb.block b hbl) c0, cell_same (hb.block b hbl) c1, cell_same (hb.block b hbl) c2, cell_same (hb.block b hbl) c3, cell_same (hb.block b hbl) c4, cell_same (hb.block b hbl) c5⟩, cell_same (hb.block w.heap.size hzz) p2⟩
      cases hrest : restB ⟨bar, v, d, t, tie, L⟩ with
      | true =>
        have HT := Lib.hid hrest
        clear hrest
        go_wp2_with (go_at_call 67; refine (rRest_any ⟨bar, v, d, t, tie, L⟩ sa sc' _).mono ?_; rintro e w5 ⟨rfl, hb5⟩; rw [HT.out])
        go_ret
        exact ⟨ret_int (by rw [HG.out true (by rw [HT.out]; rfl)]; rfl), bt (bx HB.out) hb5⟩
      | false =>
        have HT := Lib.hid hrest
        clear hrest
        cases hhas : hsB L sc with
        | true =>
          have HU := Lib.hid hhas
          clear hhas
          go_wp2_with (first
            | (go_at_call 67; refine (rRest_any ⟨bar, v, d, t, tie, L⟩ sa sc' _).mono ?_; rintro e w5 ⟨rfl, hb5⟩; rw [HT.out]; clear c0 c1 c2 c3 c4 c5 p2; obtain ⟨⟨c0, c1, c2, c3, c4, c5⟩, p2⟩ := HC.out _ hb5)
            | (go_at_call 68; refine (rHas_any bar v d t tie sa L.length sc' L sc _ (HS.out.below hb5) rfl hL).mono ?_; rintro e w6 ⟨rfl, hb6⟩; rw [HU.out]))
          go_ret
          exact ⟨ret_int (by rw [HG.out true (by rw [HU.out]; simp)]; rfl), bt (bx HB.out) (bt hb5 hb6)⟩
        | false =>
          have HU := Lib.hid hhas
          clear hhas
          go_wp2_with (first
            | (go_at_call 67; refine (rRest_any ⟨bar, v, d, t, tie, L⟩ sa sc' _).mono ?_; rintro e w5 ⟨rfl, hb5⟩; rw [HT.out]; clear c0 c1 c2 c3 c4 c5 p2; obtain ⟨⟨c0, c1, c2, c3, c4, c5⟩, p2⟩ := HC.out _ hb5)
            | (go_at_call 68; refine (rHas_any bar v d t tie sa L.length sc' L sc _ (HS.out.below hb5) rfl hL).mono ?_; rintro e w6 ⟨rfl, hb6⟩; rw [HU.out]))
          go_roundw
          case rel => exact ⟨k + 1, by omega, by omega, by first | rfl | go_num, by rw [HG.out false (by rw [HT.out, HU.out]; rfl)]; rfl, bt HB.out (bt hb5 hb6)⟩
          case measure => simp [intOf]; omega
    · obtain rfl : k = q := by omega
      have HZ : Hid (opGo sc (P.drop (i + 1)) (i + 1) = k) := by
        unfold Hid
        rw [HR.out, List.drop_of_length_le (by have := HL.out; omega)]
        rfl
      go_wp2_with (fail)
      go_ret
      exact ⟨ret_int (by rw [HZ.out]), bx HB.out⟩

set_option maxRecDepth 100000 in
set_option maxHeartbeats 4000000 in
theorem rend_any (A : Option Addr) (n c : Nat) (A' : Option Addr) (m c' : Nat) (A2 : Option Addr) (q cq : Nat) (C : List Cr) (P : List EvP) (i : Nat) (s : St) (w : World) (hE : EsIn w A2 q cq P) (hi : i < q) (hq : q ≤ 65536) (hst : ∀ y ∈ P, y.L.length ≤ 1000000)
    (htie : ∀ (j : Nat) (y : EvP), P[j]? = some y → y.tie = true → y.L.length = 0) (hs : StOk C P i s) :
    Calls Tryz.prog 32 #[pcV A n c A' m c' A2 q cq, .int .i64 i, stV s] w fun e w' => e = .returned (.int .i64 (endN P i s : Nat)) ∧ Below w.heap.size w w' := by
  have hl := hE.hq
  obtain ⟨sc, sf, sr, sg, sh⟩ := s
  obtain ⟨h, rfl⟩ := Int.eq_ofNat_of_zero_le hs.h1
  have h3 := hs.h3
  have hf1 := hs.f1
  dsimp only [Int.toNat_natCast] at h3 hf1
  have HE : Hid (∀ w', Below w.heap.size w w' → EsIn w' A2 q cq P) := fun w' hb => hE.below hb
  have hih : Hid (i + 1 + h ≤ q) := by unfold Hid; omega
  have HST := Lib.hid hst
  have HTI := Lib.hid htie
  clear hE hst htie hl hs h3
  by_cases hf : sf = 0
  · subst hf
    have HZ : Hid (endN P i ⟨sc, 0, sr, sg, h⟩ = opGo sc (P.drop (i + 1)) (i + 1)) := by unfold Hid endN; rw [if_pos rfl]
    go_enter Tryz.func32, Tryz.ntmps32
    go_wp2_with (go_at_call 44; refine (ropen_any A n c A' m c' A2 q cq P i sc _ (HE.out _ (bt (ba w _) (ba _ _))) hi hq HST.out).mono ?_; rintro e w5 ⟨rfl, hb5⟩)
    go_ret
    exact ⟨ret_int (by rw [HZ.out]), bx (bx hb5)⟩
  · have HZ : Hid (endN P i ⟨sc, sf, sr, sg, h⟩ = tiGo (P.drop (i + 1 + h)) (i + 1 + h)) := by unfold Hid endN; rw [if_neg hf]; rfl
    have hf2 : 0 < sf := by omega
    go_enter Tryz.func32, Tryz.ntmps32
    go_wp2_with (go_at_call 43; refine (rstay_any A n c A' m c' A2 q cq P i h _ (HE.out _ (bt (ba w _) (ba _ _))) hih.out hq HTI.out).mono ?_; rintro e w5 ⟨rfl, hb5⟩)
    go_ret
    exact ⟨ret_int (by rw [HZ.out]), bx (bx hb5)⟩

end Go.Proofs.YtpcehgifpajmbaaGreat
