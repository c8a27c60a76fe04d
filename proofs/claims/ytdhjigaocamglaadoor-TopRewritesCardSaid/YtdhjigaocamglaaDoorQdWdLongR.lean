/- An instrument that came in as an argument, opened: its courses and its steps as plain lists. -/
import Derived.Test.YtdhjigaocamglaaDoorQdTk
import Derived.Lib.SmallJoins
import Derived.Deep.Slices
import Derived.Deep.Strs
import Derived.Test.YtdhjigaocamglaaDoorQdPcLeaf
import Derived.Test.YtdhjigaocamglaaDoorQdPcMeas2
namespace Go.Proofs.YtdhjigaocamglaaDoor
open Go.ChangeShapes Go.WideShapes Go.ChangeAt Go.RowKit Go.Deep

theorem plain_cell {w : World} {a : Addr} {v : Value} (h : w.cell? a = some v) : a = ⟨a.block, a.off, none⟩ ∧ a.block < w.heap.size := by
  unfold World.cell? at h
  split at h
  · rename_i c t fr hh
    split at h
    · cases h
    · rename_i hs
      refine ⟨?_, (Array.getElem?_eq_some_iff.1 hh).1⟩
      obtain ⟨b, o, s⟩ := a
      cases s with
      | none => rfl
      | some y => simp at hs
  · cases h

section
variable {H : Type} {enc : TypeId × Value → H} {W : World} {base : Nat} {sp : Nat → Bool} {held : Bool}

set_option maxRecDepth 100000 in
theorem open_steps {fuel : Nat} {cs : List Value} {x : DataW H × List MemPlace} (h : DataW.trod enc Tryd.prog W base sp held fuel 23 cs = some x) :
    ∃ A m c S, cs = [.slice A m c] ∧ Sl W W.heap.size 1 A m c (intC S) ∧ m = S.length ∧ c ≤ maxLen := by
  rcases open_ints Tryd.underlying23 Tryd.underlying3 (by kernel_rfl) h with ⟨rfl, rfl⟩ | ⟨a, len, cap, zs, rfl, hb, hl, hm, hz, rfl, hc, _⟩
  · exact ⟨none, 0, 0, [], rfl, ⟨Nat.le_refl _, rfl, fun h => by omega⟩, rfl, by decide⟩
  · have hle : len ≤ zs.length := by rw [hz]; split <;> omega
    refine ⟨some a, len, cap, zs.take len, rfl, ⟨hl, by simp [intC]; omega, fun h0 => ?_⟩, by simp; omega, hm⟩
    have hc0 : W.cell? a = some (.int .i64 (zs.getD 0 0)) := by have := hc 0 (by omega); simpa [Addr.add] using this
    obtain ⟨e, hlt⟩ := plain_cell hc0
    refine ⟨a.block, a.off, by rw [← e], hlt, fun j u hu => ?_⟩
    have hj : j < len := by have := (List.getElem?_eq_some_iff.1 hu).1; simp [intC] at this; omega
    rw [intC_at _ j (by simp; omega)] at hu
    obtain rfl := Option.some.inj hu
    have := hc j (by omega)
    rw [e, Go.WideShapes.add_plain] at this
    rw [this]
    simp [List.getD_eq_getElem?_getD, hj]

instance : Inhabited Cr := ⟨z0⟩

set_option maxRecDepth 100000 in
theorem open_courses {fuel : Nat} {cs : List Value} {x : DataW H × List MemPlace} (h : DataW.trod enc Tryd.prog W base sp held fuel 22 cs = some x) :
    ∃ A n c C, cs = [.slice A n c] ∧ Sl W W.heap.size 3 A n c (crC C) ∧ n = C.length ∧ c ≤ maxLen := by
  rcases open_slice Tryd.underlying22 h with ⟨rfl, rfl⟩ | ⟨a, len, cap, m, nn, D, Pl, rfl, hb, hl, hm, hmm, rfl, hx⟩
  · exact ⟨none, 0, 0, [], rfl, ⟨Nat.le_refl _, rfl, fun h => by omega⟩, rfl, by decide⟩
  · have hlm : len ≤ m := by rw [hmm]; split <;> omega
    have ce : Tryd.prog.cellsOf 60 = 3 := by kernel_rfl
    have c1 : Tryd.prog.cellsOf 3 = 1 := by kernel_rfl
    have c2 : Tryd.prog.cellsOf 4 = 1 := by kernel_rfl
    have each : ∀ i, i < len → ∃ q : Cr, W.cell? (a.add (i * 3)) = some (.int .i64 q.p) ∧ W.cell? (a.add (i * 3 + 1)) = some (.int .i64 q.f) ∧ W.cell? (a.add (i * 3 + 2)) = some (.bool q.o) := by
      intro i hi
      obtain ⟨cs', h1, h2⟩ := hx i (by omega)
      rw [ce] at h1
      obtain ⟨_, hlen, hcell⟩ := World.cells?_some h1
      obtain ⟨y0, y1, y2, n3, _, _, g0, g1, g2⟩ := trod_struct3 Tryd.underlying60 h2
      match cs', hlen with
      | [v0, v1, v2], _ =>
        have e0 := hcell 0 (by omega)
        have e1 := hcell 1 (by omega)
        have e2 := hcell 2 (by omega)
        rw [Go.Deep.add_add] at e0 e1 e2
        simp [c1, c2] at g0 g1 g2 e0 e1 e2
        obtain ⟨p, k0, _, _⟩ := DataW.trod_int Tryd.underlying3 g0
        obtain ⟨f, k1, _, _⟩ := DataW.trod_int Tryd.underlying3 g1
        obtain ⟨o, k2, _⟩ := DataW.trod_bool Tryd.underlying4 g2
        obtain rfl : v0 = .int .i64 p := by simpa using k0
        obtain rfl : v1 = .int .i64 f := by simpa using k1
        obtain rfl : v2 = .bool o := by simpa using k2
        exact ⟨⟨p, f, o⟩, e0, e1, e2⟩
    obtain ⟨q, hq⟩ := choose_lt each
    refine ⟨some a, len, cap, (List.range len).map q, rfl, ⟨hl, by rw [crC_len]; simp, fun h0 => ?_⟩, by simp, hm⟩
    have hc0 : W.cell? a = some (.int .i64 (q 0).p) := by have := (hq 0 h0).1; simpa [Addr.add] using this
    obtain ⟨e, hlt⟩ := plain_cell hc0
    refine ⟨a.block, a.off, by rw [← e], hlt, fun j u hu => ?_⟩
    have hj : j < len * 3 := by have := (List.getElem?_eq_some_iff.1 hu).1; rw [crC_len] at this; simpa using this
    obtain ⟨k, r, hr, rfl⟩ : ∃ k r, r < 3 ∧ j = k * 3 + r := ⟨j / 3, j % 3, by omega, by omega⟩
    have hk : k < len := by omega
    have hg : ((List.range len).map q).getD k z0 = q k := by simp [List.getD_eq_getElem?_getD, hk]
    obtain ⟨i0, i1, i2⟩ := crC_at ((List.range len).map q) k (by simpa using hk)
    obtain ⟨m0, m1, m2⟩ := hq k hk
    rw [e, Go.WideShapes.add_plain] at m0 m1 m2
    rw [hg] at i0 i1 i2
    have : r = 0 ∨ r = 1 ∨ r = 2 := by omega
    rcases this with rfl | rfl | rfl
    · rw [Nat.add_zero] at hu ⊢
      rw [i0] at hu; obtain rfl := Option.some.inj hu; exact m0
    · rw [i1] at hu; obtain rfl := Option.some.inj hu; exact m1
    · rw [i2] at hu; obtain rfl := Option.some.inj hu; exact m2

end
end Go.Proofs.YtdhjigaocamglaaDoor

/- A piece that came in as an argument, opened: its courses, its steps, its events as plain lists. -/
namespace Go.Proofs.YtdhjigaocamglaaDoor
open Go.ChangeShapes Go.WideShapes Go.ChangeAt Go.RowKit Go.Deep Go.Joins

instance : Inhabited St := ⟨z5⟩
instance : Inhabited (EvT × EvP) := ⟨(⟨false, 0, false, false, false, none, 0, 0⟩, z6)⟩

section
variable {H : Type} {enc : TypeId × Value → H} {W : World} {base : Nat} {sp : Nat → Bool} {held : Bool}

theorem trod_five {P : Program} {w : World} {t : TypeId} {f0 f1 f2 f3 f4 : Field} {fuel : Nat} {cs : List Value} {x : DataW H × List MemPlace} (ht : P.underlying t = some (.struct #[f0, f1, f2, f3, f4])) (h : DataW.trod enc P w base sp held fuel t cs = some x) :
    ∃ y0 y1 y2 y3 y4 n, cs.length = P.cellsOf t ∧ DataW.trod enc P w base sp held n f0.type ((cs.drop f0.offset).take (P.cellsOf f0.type)) = some y0 ∧ DataW.trod enc P w base sp held n f1.type ((cs.drop f1.offset).take (P.cellsOf f1.type)) = some y1 ∧
      DataW.trod enc P w base sp held n f2.type ((cs.drop f2.offset).take (P.cellsOf f2.type)) = some y2 ∧ DataW.trod enc P w base sp held n f3.type ((cs.drop f3.offset).take (P.cellsOf f3.type)) = some y3 ∧ DataW.trod enc P w base sp held n f4.type ((cs.drop f4.offset).take (P.cellsOf f4.type)) = some y4 := by
  obtain ⟨xs, n, _, rfl, hl, hlen, hf⟩ := DataW.trod_struct ht h
  match xs, hlen with
  | [y0, y1, y2, y3, y4], _ => exact ⟨y0, y1, y2, y3, y4, n, hl, by simpa using hf 0 f0 rfl, by simpa using hf 1 f1 rfl, by simpa using hf 2 f2 rfl, by simpa using hf 3 f3 rfl, by simpa using hf 4 f4 rfl⟩

set_option maxRecDepth 100000 in
theorem open_stops {fuel : Nat} {cs : List Value} {x : DataW H × List MemPlace} (h : DataW.trod enc Tryd.prog W base sp held fuel 49 cs = some x) :
    ∃ A n c L, cs = [.slice A n c] ∧ Sl W W.heap.size 5 A n c (stC L) ∧ n = L.length ∧ c ≤ maxLen := by
  rcases open_slice Tryd.underlying49 h with ⟨rfl, rfl⟩ | ⟨a, len, cap, m, nn, D, Pl, rfl, hb, hl, hm, hmm, rfl, hx⟩
  · exact ⟨none, 0, 0, [], rfl, ⟨Nat.le_refl _, rfl, fun h => by omega⟩, rfl, by decide⟩
  · have hlm : len ≤ m := by rw [hmm]; split <;> omega
    have ce : Tryd.prog.cellsOf 62 = 5 := by kernel_rfl
    have c1 : Tryd.prog.cellsOf 3 = 1 := by kernel_rfl
    have each : ∀ i, i < len → ∃ s : St, W.cell? (a.add (i * 5)) = some (.int .i64 s.c) ∧ W.cell? (a.add (i * 5 + 1)) = some (.int .i64 s.f) ∧ W.cell? (a.add (i * 5 + 2)) = some (.int .i64 s.r) ∧ W.cell? (a.add (i * 5 + 3)) = some (.int .i64 s.g) ∧ W.cell? (a.add (i * 5 + 4)) = some (.int .i64 s.h) := by
      intro i hi
      obtain ⟨cs', h1, h2⟩ := hx i (by omega)
      rw [ce] at h1
      obtain ⟨_, hlen, hcell⟩ := World.cells?_some h1
      obtain ⟨y0, y1, y2, y3, y4, n3, _, g0, g1, g2, g3, g4⟩ := trod_five Tryd.underlying62 h2
      match cs', hlen with
      | [v0, v1, v2, v3, v4], _ =>
        have e0 := hcell 0 (by omega)
        have e1 := hcell 1 (by omega)
        have e2 := hcell 2 (by omega)
        have e3 := hcell 3 (by omega)
        have e4 := hcell 4 (by omega)
        rw [Go.Deep.add_add] at e0 e1 e2 e3 e4
        simp [c1] at g0 g1 g2 g3 g4 e0 e1 e2 e3 e4
        obtain ⟨q0, k0, _, _⟩ := DataW.trod_int Tryd.underlying3 g0
        obtain ⟨q1, k1, _, _⟩ := DataW.trod_int Tryd.underlying3 g1
        obtain ⟨q2, k2, _, _⟩ := DataW.trod_int Tryd.underlying3 g2
        obtain ⟨q3, k3, _, _⟩ := DataW.trod_int Tryd.underlying3 g3
        obtain ⟨q4, k4, _, _⟩ := DataW.trod_int Tryd.underlying3 g4
        obtain rfl : v0 = .int .i64 q0 := by simpa using k0
        obtain rfl : v1 = .int .i64 q1 := by simpa using k1
        obtain rfl : v2 = .int .i64 q2 := by simpa using k2
        obtain rfl : v3 = .int .i64 q3 := by simpa using k3
        obtain rfl : v4 = .int .i64 q4 := by simpa using k4
        exact ⟨⟨q0, q1, q2, q3, q4⟩, e0, e1, e2, e3, e4⟩
    obtain ⟨q, hq⟩ := choose_lt each
    refine ⟨some a, len, cap, (List.range len).map q, rfl, ⟨hl, by rw [stC_len]; simp, fun h0 => ?_⟩, by simp, hm⟩
    have hc0 : W.cell? a = some (.int .i64 (q 0).c) := by have := (hq 0 h0).1; simpa [Addr.add] using this
    obtain ⟨e, hlt⟩ := plain_cell hc0
    refine ⟨a.block, a.off, by rw [← e], hlt, fun j u hu => ?_⟩
    have hj : j < len * 5 := by have := (List.getElem?_eq_some_iff.1 hu).1; rw [stC_len] at this; simpa using this
    obtain ⟨k, r, hr, rfl⟩ : ∃ k r, r < 5 ∧ j = k * 5 + r := ⟨j / 5, j % 5, by omega, by omega⟩
    have hk : k < len := by omega
    have hg : ((List.range len).map q).getD k z5 = q k := by simp [List.getD_eq_getElem?_getD, hk]
    obtain ⟨i0, i1, i2, i3, i4⟩ := stC_at ((List.range len).map q) k (by simpa using hk)
    obtain ⟨m0, m1, m2, m3, m4⟩ := hq k hk
    rw [e, Go.WideShapes.add_plain] at m0 m1 m2 m3 m4
    rw [hg] at i0 i1 i2 i3 i4
    have : r = 0 ∨ r = 1 ∨ r = 2 ∨ r = 3 ∨ r = 4 := by omega
    rcases this with rfl | rfl | rfl | rfl | rfl
    · rw [Nat.add_zero] at hu ⊢
      rw [i0] at hu; obtain rfl := Option.some.inj hu; exact m0
    · rw [i1] at hu; obtain rfl := Option.some.inj hu; exact m1
    · rw [i2] at hu; obtain rfl := Option.some.inj hu; exact m2
    · rw [i3] at hu; obtain rfl := Option.some.inj hu; exact m3
    · rw [i4] at hu; obtain rfl := Option.some.inj hu; exact m4

end
end Go.Proofs.YtdhjigaocamglaaDoor

/- Pieces: the reference's Check, however many stops an event has (wide copies). -/
namespace Go.Proofs.YtdhjigaocamglaaDoor
open Go Go.RowKit

set_option maxRecDepth 100000 in
set_option maxHeartbeats 1600000 in
theorem rHas_wide (bar : Bool) (v : Int) (d t tie : Bool) (sa : Option Addr) (sn sc : Nat) (L : List St) (c : Int) (w : World) (hS : Sl w w.heap.size 5 sa sn sc (stC L)) (hn : sn = L.length) (hlim : sn ≤ 9223372036854775807) :
    Calls Tryd.prog 89 #[evV bar v d t tie sa sn sc, .int .i64 c] w fun e w' => e = .returned (.bool (hsB L c)) ∧ Below w.heap.size w w' := by
  have HN := Lib.hid hn
  have HS := Lib.hid (hS.below (ba w (evO bar v d t tie sa sn sc)))
  clear hS hn
  go_enter Tryd.func89, Tryd.ntmps89
  go_wp2_with (fail)
  go_loop [5] (fun i => ∃ k : Nat, k ≤ sn ∧ i = .int .i64 k ∧ hsB L c = hsB (L.drop k) c) (fun i => sn - (intOf i).toNat)
  case atStart => exact ⟨0, by omega, rfl, rfl⟩
  case round =>
    obtain ⟨k, hk, rfl, hr⟩ := hrel
    have HR := Lib.hid hr
    clear hr
    by_cases hlt : k < sn
    · obtain ⟨b, off, rfl, hbl, hd, _, c0, c1, c2, c3, c4⟩ := st_at HS.out HN.out hlt
      have HD := Lib.hid (hsB_goR (c := c) hd)
      clear hd c1 c2 c3 c4
      generalize L.getD k z5 = s at *
      obtain ⟨sc0, s1, s2, s3, s4⟩ := s
      dsimp only at c0
      cases hx : decide (sc0 = c) with
      | true =>
        have hx' : (sc0 == c) = true := by simpa using hx
        have HX := Lib.hid hx
        clear hx
        go_wp2_with (fail)
        go_ret
        exact ⟨ret_b (by rw [HR.out, HD.out, HX.out]; rfl), ba _ _⟩
      | false =>
        have hx' : (sc0 == c) = false := by simpa using hx
        have HX := Lib.hid hx
        clear hx
        go_wp2_with (fail)
        go_round
        case rel => exact ⟨k + 1, by omega, by go_num, by rw [HR.out, HD.out, HX.out]; rfl⟩
        case measure => simp [intOf]; omega
    · go_wp2_with (fail)
      go_ret
      exact ⟨ret_b (by rw [HR.out, List.drop_of_length_le (by have := HN.out; omega)]; rfl), ba _ _⟩


set_option maxRecDepth 100000 in
set_option maxHeartbeats 3200000 in
theorem rLongest_wide (A : Option Addr) (n c : Nat) (A' : Option Addr) (m c' : Nat) (A2 : Option Addr) (q cq : Nat) (P : List EvP) (ev co : Int) (w : World) (hE : EsIn w A2 q cq P) (hq : q ≤ 1000000) (hst : ∀ y ∈ P, y.L.length ≤ 9223372036854775807) :
    Calls Tryd.prog 80 #[pcV A n c A' m c' A2 q cq, .int .i64 ev, .int .i64 co] w fun e w' => e = .returned (.int .i64 (lgst P ev co : Nat)) ∧ Below w.heap.size w w' := by
  have hqP := hE.hq
  by_cases h1 : ev < 0
  · have HL := Lib.hid (rlgst_out (P := P) (c := co) (.inl h1))
    clear hE hst
    go_enter Tryd.func80, Tryd.ntmps80
    go_wp2_with (fail)
    go_ret
    exact ⟨ret_int (by rw [HL.out]; rfl), ba _ _⟩
  by_cases h2 : (q : Int) ≤ ev
  · have HL := Lib.hid (rlgst_out (P := P) (c := co) (.inr (by omega : (P.length : Int) ≤ ev)))
    clear hE hst
    go_enter Tryd.func80, Tryd.ntmps80
    go_wp2_with (fail)
    go_ret
    exact ⟨ret_int (by rw [HL.out]; rfl), ba _ _⟩
  obtain ⟨k, rfl⟩ := Int.eq_ofNat_of_zero_le (by omega : 0 ≤ ev)
  have hk : k < q := by omega
  have HL := Lib.hid (rlgst_in (P := P) (c := co) (k := k) (by omega))
  have HE : Hid (∀ w', Below w.heap.size w w' → EsIn w' A2 q cq P) := fun w' hb => hE.below hb
  have HST := Lib.hid hst
  have HP := Lib.hid hqP
  clear hE hst hqP h1
  go_enter Tryd.func80, Tryd.ntmps80
  go_wp2_with (fail)
  go_loopw [7] (fun l wr => ∃ j : Nat, k + j < q ∧ j ≤ 15 ∧ l = .int .i64 j ∧ lgGo co (P.drop (k + 1)) 0 = lgGo co (P.drop (k + j + 1)) j ∧ Below (w.alloc (pcO A n c A' m c' A2 q cq)).heap.size (w.alloc (pcO A n c A' m c' A2 q cq)) wr) (fun l _ => q - (intOf l).toNat)
  case atStart => exact ⟨0, by omega, by omega, rfl, rfl, Below.refl _ _⟩
  case round =>
    obtain ⟨j, hj, hj15, rfl, hr, hbw⟩ := hrel
    have HR := Lib.hid hr
    have HB := Lib.hid hbw
    obtain ⟨p0, p1, p2⟩ := cell3 hbw
    clear hr hbw
    by_cases h15 : j = 15
    · subst h15
      have HZ : Hid (lgGo co (P.drop (k + 1)) 0 = 15) := by
        unfold Hid
        rw [HR.out]
        cases P.drop (k + 15 + 1) <;> simp [lgGo]
      go_wp2_with (fail)
      go_ret
      exact ⟨ret_int (by rw [HL.out, HZ.out]), bx HB.out⟩
    · have hji : (j : Int) < 15 := by omega
      by_cases hlt : k + j + 1 < q
      · have hlti : (k : Int) + (j : Int) + 1 < (q : Int) := by omega
        obtain ⟨b, off, sa, sc, rfl, hbl2, hPk, hd, ⟨c0, c1, c2, c3, c4, c5⟩, hS⟩ := (HE.out _ (bx HB.out)).at hlt
        have HS := Lib.hid hS
        have HD := Lib.hid hd
        have hL : (P.getD (k + j + 1) z6).L.length ≤ 9223372036854775807 := HST.out _ (List.mem_of_getElem? hPk)
        clear hS hd hPk
        generalize P.getD (k + j + 1) z6 = y at *
        have HG : Hid (∀ B, (restB y || hsB y.L co) = B → lgGo co (P.drop (k + 1)) 0 = if B then j else lgGo co (P.drop (k + j + 1 + 1)) (j + 1)) := fun B hB => by
          rw [HR.out, HD.out, lgGo]
          subst hB
          cases restB y <;> cases hsB y.L co <;> simp [h15]
        cases hrest : restB y with
        | true =>
          have HT := Lib.hid hrest
          clear hrest
          go_wp2_with (go_at_call 79; refine (rRest_any y sa sc _).mono ?_; rintro e w2 ⟨rfl, hb2⟩; rw [HT.out])
          go_ret
          exact ⟨ret_int (by rw [HL.out, HG.out true (by rw [HT.out]; simp)]; rfl), bx (bt HB.out (bx hb2))⟩
        | false =>
          have HT := Lib.hid hrest
          clear hrest
          cases hhas : hsB y.L co with
          | true =>
            have HU := Lib.hid hhas
            clear hhas
            go_wp2_with (first
              | (go_at_call 79; refine (rRest_any y sa sc _).mono ?_; rintro e w2 ⟨rfl, hb2⟩; rw [HT.out]; obtain ⟨x0, x1, x2, x3, x4, x5⟩ := cell6 hb2)
              | (go_at_call 89; refine (rHas_wide _ _ _ _ _ sa _ sc y.L co _ (HS.out.below (bx hb2)) rfl hL).mono ?_; rintro e w3 ⟨rfl, hb3⟩; rw [HU.out]))
            go_ret
            exact ⟨ret_int (by rw [HL.out, HG.out true (by rw [HU.out]; simp)]; rfl), bx (bt HB.out (bt (bx hb2) hb3))⟩
          | false =>
            have HU := Lib.hid hhas
            clear hhas
            go_wp2_with (first
              | (go_at_call 79; refine (rRest_any y sa sc _).mono ?_; rintro e w2 ⟨rfl, hb2⟩; rw [HT.out]; obtain ⟨x0, x1, x2, x3, x4, x5⟩ := cell6 hb2)
              | (go_at_call 89; refine (rHas_wide _ _ _ _ _ sa _ sc y.L co _ (HS.out.below (bx hb2)) rfl hL).mono ?_; rintro e w3 ⟨rfl, hb3⟩; rw [HU.out]))
            go_roundw
            case rel => exact ⟨j + 1, by omega, by omega, by go_num, by rw [HG.out false (by rw [HT.out, HU.out]; rfl)]; rfl, bt HB.out (bt (bx hb2) hb3)⟩
            case measure => simp [intOf]; omega
      · have hlti : ¬ (k : Int) + (j : Int) + 1 < (q : Int) := by omega
        have HZ : Hid (lgGo co (P.drop (k + 1)) 0 = j) := by
          unfold Hid
          rw [HR.out, List.drop_of_length_le (by have := HP.out; omega)]
          rfl
        go_wp2_with (fail)
        go_ret
        exact ⟨ret_int (by rw [HL.out, HZ.out]), bx HB.out⟩


end Go.Proofs.YtdhjigaocamglaaDoor
