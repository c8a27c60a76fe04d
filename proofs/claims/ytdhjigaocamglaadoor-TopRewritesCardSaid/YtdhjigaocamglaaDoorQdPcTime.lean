/- Pieces: the signs in force, as plain lists and in the reference. -/
import Derived.Test.YtdhjigaocamglaaDoorQdPcCopy
import Derived.Test.YtdhjigaocamglaaDoorQdTkR
import Derived.Deep.RegionLaw
import Derived.Deep.AppendLies
namespace Go.Proofs.YtdhjigaocamglaaDoor
open Go Go.RowKit

structure Sg where
  v : Int
  d : Bool
  t : Bool
def s0g : Sg := ⟨0, false, false⟩
def sgF (y : EvP) (s : Sg) : Sg := if y.v = 0 then s else ⟨y.v, y.d, y.t⟩
/-- The signs in force, one for each event. -/
def frcL : Sg → List EvP → List Sg
  | _, [] => []
  | s, y :: r => sgF y s :: frcL (sgF y s) r
def sfC (L : List Sg) : List Value := L.flatMap fun s => [.int .i64 s.v, .bool s.d, .bool s.t]
theorem sfC_snoc (L : List Sg) (s : Sg) : sfC (L ++ [s]) = sfC L ++ [.int .i64 s.v, .bool s.d, .bool s.t] := by simp [sfC]
theorem sfC_at : ∀ (L : List Sg) (k : Nat), k < L.length → (sfC L)[k * 3]? = some (.int .i64 (L.getD k s0g).v) ∧ (sfC L)[k * 3 + 1]? = some (.bool (L.getD k s0g).d) ∧ (sfC L)[k * 3 + 2]? = some (.bool (L.getD k s0g).t)
  | c :: r, 0, _ => ⟨rfl, rfl, rfl⟩
  | c :: r, k + 1, h => by
    have := sfC_at r k (by simpa using h)
    have e : sfC (c :: r) = .int .i64 c.v :: .bool c.d :: .bool c.t :: sfC r := rfl
    rw [e, show (k + 1) * 3 = k * 3 + 3 from by omega]
    exact this
theorem frcL_len : ∀ (s : Sg) (P : List EvP), (frcL s P).length = P.length
  | _, [] => rfl
  | s, y :: r => by simp [frcL, frcL_len]
theorem frcL_go {P : List EvP} {acc : List Sg} {s : Sg} {k : Nat} {y : EvP} {T : List Sg} (h : T = acc ++ frcL s (P.drop k)) (hd : P.drop k = y :: P.drop (k + 1)) : T = (acc ++ [sgF y s]) ++ frcL (sgF y s) (P.drop (k + 1)) := by
  rw [h, hd, frcL]
  simp

theorem one3 (v : Int) (d t : Bool) : ∀ u ∈ [Value.int .i64 v, .bool d, .bool t], u.oneCell' = true := by
  intro u hu
  simp at hu
  rcases hu with rfl | rfl | rfl <;> rfl

theorem frc_step {W0 w2 w3 : World} {t : TypeId} {B2 : Option Addr} {k d2 : Nat} {xs news : List Value} {v' : Value} {O : Obj} {cs : Array Value} (own : w2.ownsRow (W0.heap.size + 1) t 3 (.slice B2 k d2) k xs) (low : Below W0.heap.size W0 w2) (blk : Blk w2 W0.heap.size t cs)
    (hown : w3.ownsRow (W0.heap.size + 1) t 3 v' (k + 1) (xs ++ news)) (hg : (w2.alloc O).grownBy w3 (Value.slice B2 k d2).ownBlock) :
    ∃ A' c', v' = .slice A' (k + 1) c' ∧ w3.ownsRow (W0.heap.size + 1) t 3 (.slice A' (k + 1) c') (k + 1) (xs ++ news) ∧ Below W0.heap.size W0 w3 ∧ Blk w3 W0.heap.size t cs := by
  obtain ⟨A', c', rfl⟩ := own_slice hown
  refine ⟨A', c', rfl, hown, ?_, ?_⟩
  · exact Below.grown (low.alloc low.size O) hg (low.alloc low.size O).size (fun g hh => by have := (own.lt g hh).1; omega)
  · exact (blk.below (ba _ _)).grown hg (fun e => by have := (own.lt _ e.symm).1; omega)

set_option maxRecDepth 100000 in
set_option maxHeartbeats 4000000 in
theorem rForces_any (A : Option Addr) (n c : Nat) (A' : Option Addr) (m c' : Nat) (A2 : Option Addr) (q cq : Nat) (P : List EvP) (w : World) (hE : EsIn w A2 q cq P) (hq : q ≤ 65536) :
    Calls Tryd.prog 38 #[pcV A n c A' m c' A2 q cq] w fun e w' => ∃ B d, e = .returned (.slice B q d) ∧ Ow w' w.heap.size 48 3 B q d (sfC (frcL s0g P)) ∧ Below w.heap.size w w' := by
  have HE : Hid (∀ w', Below w.heap.size w w' → EsIn w' A2 q cq P) := fun w' hb => hE.below hb
  have HL := Lib.hid hE.hq
  obtain ⟨i0, ii, hi0, hi1, hi2⟩ := info_parts (show (Tryd.prog.info? 48).map (fun i => (i.zero, i.size, i.bytes)) = some (some (.agg #[.int .i64 0, .bool false, .bool false]), 3, 16) by kernel_rfl)
  clear hE
  have hs0 : Blk ((w.alloc (pcO A n c A' m c' A2 q cq)).alloc (.cells #[.int .i64 0, .bool false, .bool false] 48)) (w.heap.size + 1) 48 #[.int .i64 s0g.v, .bool s0g.d, .bool s0g.t] := by
    have := heap_alloc_new (w.alloc (pcO A n c A' m c' A2 q cq)) (.cells #[.int .i64 0, .bool false, .bool false] 48)
    rwa [World.size_alloc] at this
  have HS0 := Lib.hid hs0
  clear hs0
  go_enter Tryd.func38, Tryd.ntmps38
  go_wp2_with (fail)
  go_loopw [5, 3] (fun i l wr => ∃ (k : Nat) (B2 : Option Addr) (d2 : Nat) (acc : List Sg) (s : Sg), k ≤ q ∧ i = .int .i64 k ∧ l = .slice B2 k d2 ∧ acc.length = k ∧ frcL s0g P = acc ++ frcL s (P.drop k) ∧
      wr.ownsRow (w.heap.size + 1 + 1) 48 3 (.slice B2 k d2) k (sfC acc) ∧ Below (w.alloc (pcO A n c A' m c' A2 q cq)).heap.size (w.alloc (pcO A n c A' m c' A2 q cq)) wr ∧ Blk wr (w.heap.size + 1) 48 #[.int .i64 s.v, .bool s.d, .bool s.t]) (fun i _ _ => q - (intOf i).toNat)
  case atStart => exact ⟨0, none, 0, [], s0g, by omega, rfl, rfl, rfl, rfl, ⟨by simp [sfC], .inl ⟨rfl, rfl⟩⟩, ba _ _, HS0.out⟩
  case round =>
    obtain ⟨k, B2, d2, acc, s, hk, rfl, rfl, hacc, hfr, hown, hlow, hblk⟩ := hrel
    have HO := Lib.hid hown
    have HB := Lib.hid hlow
    have HK := Lib.hid hblk
    have HF := Lib.hid hfr
    have HA := Lib.hid hacc
    obtain ⟨p0, p1, p2⟩ := cell3 hlow
    have z0 := hblk.cell 0
    have z1 := hblk.cell 1
    have z2 := hblk.cell 2
    have f0 := hblk.frozen 0
    have f1 := hblk.frozen 1
    have f2 := hblk.frozen 2
    have hzr : w.heap.size + 1 < wr.heap.size := hblk.lt
    clear hown hlow hblk hfr hacc
    by_cases hlt : k < q
    · obtain ⟨b, off, sa, sc, rfl, hbl, _, hd, ⟨_, c1, c2, c3, _, _⟩, _⟩ := (HE.out _ (bx HB.out)).at hlt
      have HG := Lib.hid (frcL_go HF.out hd)
      clear hd
      generalize P.getD k z6 = y at *
      obtain ⟨bar, v, dt, tr, tie, L⟩ := y
      dsimp only at c1 c2 c3
      by_cases hv : v = 0
      · subst hv
        have HGF : Hid (sgF ⟨bar, 0, dt, tr, tie, L⟩ s = s) := by simp [Hid, sgF]
        have D1 := World.news_of_block (heap_alloc_new wr (.cells #[.int .i64 s.v, .bool s.d, .bool s.t] 48))
        have D2 : ∀ u ∈ [Value.int .i64 s.v, .bool s.d, .bool s.t], u.oneCell' = true := one3 _ _ _
        have D := Lib.hid (And.intro D1 D2)
        clear D1 D2
        go_wp2_with (at_builtin; refine wpList_append_own _ rfl _ _ 69 rfl (w.heap.size + 1 + 1) 48 i0 _ 3 16 Tryd.underlying69 ii hi0 hi1 hi2 rfl (by decide) (.slice B2 k d2) k _ rfl (HO.out.alloc _) ⟨wr.heap.size, 0, none⟩ 1 1 [.int .i64 s.v, .bool s.d, .bool s.t] rfl rfl D.out.1 D.out.2 (by unfold maxLen; omega) (by omega) (by simp; omega) ?_)
        intro v' w3 hown' hgrow _
        obtain ⟨A3, c3', rfl, hO3, hB3, hK3⟩ := frc_step (W0 := w.alloc (pcO A n c A' m c' (some ⟨b, off, none⟩) q cq)) (by rw [World.size_alloc]; exact HO.out) HB.out (by rw [World.size_alloc]; exact HK.out) (by rw [World.size_alloc]; exact hown') hgrow
        rw [World.size_alloc] at hO3 hK3
        have HX := Lib.hid (And.intro hO3 (And.intro hB3 hK3))
        clear hown' hgrow hO3 hB3 hK3 z0 z1 z2 f0 f1 f2 p0 p1 p2
        go_wp2_with (fail)
        go_roundw
        case rel => exact ⟨k + 1, _, _, acc ++ [s], s, by omega, by first | rfl | go_num, rfl, by simp [HA.out], by have := HG.out; rwa [HGF.out] at this, by rw [sfC_snoc]; exact HX.out.1, HX.out.2.1, HX.out.2.2⟩
        case measure => simp [intOf]; omega
      · have hvb : (v != 0) = true := by simpa using hv
        have HGF : Hid (sgF ⟨bar, v, dt, tr, tie, L⟩ s = ⟨v, dt, tr⟩) := by simp [Hid, sgF, hv]
        have hO2 : (((wr.setCell ⟨w.heap.size + 1, 0, none⟩ (.int .i64 v)).setCell ⟨w.heap.size + 1, 1, none⟩ (.bool dt)).setCell ⟨w.heap.size + 1, 2, none⟩ (.bool tr)).ownsRow (w.heap.size + 1 + 1) 48 3 (.slice B2 k d2) k (sfC acc) := by
          refine ownsRow_heap HO.out (fun g hg => ?_)
          have hne : g ≠ w.heap.size + 1 := by have := (HO.out.lt g hg).1; omega
          rw [set_other _ _ _ _ _ hne, set_other _ _ _ _ _ hne, set_other _ _ _ _ _ hne]
        have hB2 : Below (w.alloc (pcO A n c A' m c' (some ⟨b, off, none⟩) q cq)).heap.size (w.alloc (pcO A n c A' m c' (some ⟨b, off, none⟩) q cq)) (((wr.setCell ⟨w.heap.size + 1, 0, none⟩ (.int .i64 v)).setCell ⟨w.heap.size + 1, 1, none⟩ (.bool dt)).setCell ⟨w.heap.size + 1, 2, none⟩ (.bool tr)) :=
          ((HB.out.setCell (by simp) _).setCell (by simp) _).setCell (by simp) _
        have hK2 := ((HK.out.set_ 0 (.int .i64 v)).set_ 1 (.bool dt)).set_ 2 (.bool tr)
        have HX2 := Lib.hid (And.intro hO2 (And.intro hB2 hK2))
        clear hO2 hB2 hK2
        have e1 : (((wr.setCell ⟨w.heap.size + 1, 0, none⟩ (.int .i64 v)).setCell ⟨w.heap.size + 1, 1, none⟩ (.bool dt)).setCell ⟨w.heap.size + 1, 2, none⟩ (.bool tr)).heap.size = wr.heap.size := by simp
        have D0 := heap_alloc_new (((wr.setCell ⟨w.heap.size + 1, 0, none⟩ (.int .i64 v)).setCell ⟨w.heap.size + 1, 1, none⟩ (.bool dt)).setCell ⟨w.heap.size + 1, 2, none⟩ (.bool tr)) (.cells #[.int .i64 v, .bool dt, .bool tr] 48)
        rw [e1] at D0
        have D1 := World.news_of_block D0
        have D2 : ∀ u ∈ [Value.int .i64 v, .bool dt, .bool tr], u.oneCell' = true := one3 _ _ _
        have D := Lib.hid (And.intro D1 D2)
        clear D0 D1 D2 e1
        go_wp2_with (at_builtin; go_loud (refine wpList_append_own _ rfl _ _ 69 rfl (w.heap.size + 1 + 1) 48 i0 _ 3 16 Tryd.underlying69 ii hi0 hi1 hi2 rfl (by decide) (.slice B2 k d2) k _ rfl (HX2.out.1.alloc _) ⟨wr.heap.size, 0, none⟩ 1 1 [.int .i64 v, .bool dt, .bool tr] rfl rfl D.out.1 D.out.2 (by unfold maxLen; omega) (by omega) (by simp; omega) ?_))
        intro v' w3 hown' hgrow _
        obtain ⟨A3, c3', rfl, hO3, hB3, hK3⟩ := frc_step (W0 := w.alloc (pcO A n c A' m c' (some ⟨b, off, none⟩) q cq)) (by rw [World.size_alloc]; exact HX2.out.1) HX2.out.2.1 (by rw [World.size_alloc]; exact HX2.out.2.2) (by rw [World.size_alloc]; exact hown') hgrow
        rw [World.size_alloc] at hO3 hK3
        have HX := Lib.hid (And.intro hO3 (And.intro hB3 hK3))
        clear hown' hgrow hO3 hB3 hK3 z0 z1 z2 f0 f1 f2 p0 p1 p2
        go_wp2_with (fail)
        go_roundw
        case rel => exact ⟨k + 1, _, _, acc ++ [⟨v, dt, tr⟩], ⟨v, dt, tr⟩, by omega, by first | rfl | go_num, rfl, by simp [HA.out], by have := HG.out; rwa [HGF.out] at this, by rw [sfC_snoc]; exact HX.out.1, HX.out.2.1, by simpa using HX.out.2.2⟩
        case measure => simp [intOf]; omega
    · obtain rfl : k = q := by omega
      have HT : Hid (acc = frcL s0g P) := by
        unfold Hid
        rw [HF.out, List.drop_of_length_le (by have := HL.out; omega)]
        simp [frcL]
      clear z0 z1 z2 f0 f1 f2
      go_wp2_with (fail)
      go_ret
      exact ⟨B2, d2, rfl, by rw [← HT.out]; exact (Ow.of_own HO.out).more (by omega), bx HB.out⟩

end Go.Proofs.YtdhjigaocamglaaDoor

/- Pieces: the times, as plain lists and in the reference. -/
namespace Go.Proofs.YtdhjigaocamglaaDoor
open Go Go.RowKit

def tkS (s : Sg) : Int := tkV s.v s.d s.t
def sumL : Int → List Sg → List Int
  | _, [] => []
  | a, s :: r => (a + tkS s) :: sumL (a + tkS s) r
theorem sumL_len : ∀ (a : Int) (F : List Sg), (sumL a F).length = F.length
  | _, [] => rfl
  | a, s :: r => by simp [sumL, sumL_len]
theorem sumL_go {F : List Sg} {acc T : List Int} {a : Int} {k : Nat} {s : Sg} (h : T = acc ++ sumL a (F.drop k)) (hd : F.drop k = s :: F.drop (k + 1)) : T = (acc ++ [a + tkS s]) ++ sumL (a + tkS s) (F.drop (k + 1)) := by
  rw [h, hd, sumL]
  simp
theorem drop_consF (F : List Sg) (k : Nat) (h : k < F.length) : F.drop k = F.getD k s0g :: F.drop (k + 1) := by
  rw [List.drop_eq_getElem_cons h]; simp [List.getElem?_eq_getElem h]
theorem tkS_bd (s : Sg) : 0 ≤ tkS s ∧ tkS s ≤ 576 := tkV_bd s.v s.d s.t

set_option maxRecDepth 100000 in
set_option maxHeartbeats 4000000 in
theorem rTimes_any (A : Option Addr) (n c : Nat) (A' : Option Addr) (m c' : Nat) (A2 : Option Addr) (q cq : Nat) (P : List EvP) (w : World) (hE : EsIn w A2 q cq P) (hq : q ≤ 65536) :
    Calls Tryd.prog 53 #[pcV A n c A' m c' A2 q cq] w fun e w' => ∃ B d, e = .returned (.slice B (q + 1) d) ∧ Ow w' w.heap.size 3 1 B (q + 1) d (intC (0 :: sumL 0 (frcL s0g P))) ∧ Below w.heap.size w w' := by
  have HE : Hid (∀ w', Below w.heap.size w w' → EsIn w' A2 q cq P) := fun w' hb => hE.below hb
  have HL := Lib.hid hE.hq
  obtain ⟨i0, ii, hi0, hi1, hi2⟩ := info_parts (show (Tryd.prog.info? 3).map (fun i => (i.zero, i.size, i.bytes)) = some (some (.int .i64 0), 1, 8) by kernel_rfl)
  clear hE
  have hO0 : Own1 (w.alloc (pcO A n c A' m c' A2 q cq)) ((w.alloc (pcO A n c A' m c' A2 q cq)).alloc (.cells #[.int .i64 0] 3)) 3 1 (some ⟨w.heap.size + 1, 0, none⟩) 1 1 (intC [0]) := by
    have := World.ownsRow_lit (base := (w.alloc (pcO A n c A' m c' A2 q cq)).heap.size) (e := 3) (size := 1) (w.alloc (pcO A n c A' m c' A2 q cq)) #[.int .i64 0] 1 (Nat.le_refl _) (by decide) rfl
    rw [World.size_alloc] at this
    exact ⟨by rw [World.size_alloc]; exact this, ba _ _⟩
  have HO0 := Lib.hid hO0
  clear hO0
  go_enter Tryd.func53, Tryd.ntmps53
  go_wp2_with (go_at_call 38; refine (rForces_any A n c A' m c' A2 q cq P _ (HE.out _ (bt (ba w _) (ba _ _))) hq).mono ?_; rintro e w1 ⟨B, d, rfl, hF, hb1⟩)
  have HO1 := Lib.hid (HO0.out.below hb1)
  have HF1 := Lib.hid (hF.more (B' := w.heap.size) (by simp; omega))
  have HFL : Hid ((frcL s0g P).length = q) := by unfold Hid; rw [frcL_len, HL.out]
  clear hF hb1
  obtain ⟨F, hF0⟩ : ∃ F, frcL s0g P = F := ⟨_, rfl⟩
  rw [hF0] at HF1 HFL
  have HFP := Lib.hid hF0
  clear hF0
  go_loopw [5, 3] (fun i l wr => ∃ (k : Nat) (B2 : Option Addr) (d2 : Nat) (acc : List Int) (a : Int), k ≤ q ∧ i = .int .i64 k ∧ l = .slice B2 (k + 1) d2 ∧ sumL 0 F = acc ++ sumL a (F.drop k) ∧ (intC (0 :: acc))[k]? = some (.int .i64 a) ∧ 0 ≤ a ∧ a ≤ 576 * k ∧
      Own1 (w.alloc (pcO A n c A' m c' A2 q cq)) wr 3 1 B2 (k + 1) d2 (intC (0 :: acc)) ∧ Ow wr w.heap.size 48 3 B q d (sfC F)) (fun i _ _ => q - (intOf i).toNat)
  case atStart => exact ⟨0, _, _, [], 0, by omega, rfl, rfl, rfl, rfl, by omega, by omega, HO1.out, HF1.out⟩
  case round =>
    obtain ⟨k, B2, d2, acc, a, hk, rfl, rfl, hs, hlast, ha0, ha1, hO, hF⟩ := hrel
    have HO := Lib.hid hO
    have HF := Lib.hid hF
    have HS := Lib.hid hs
    by_cases hlt : k < q
    · have HD := Lib.hid (drop_consF F k (by have := HFL.out; omega))
      obtain ⟨b, off, rfl, hbl, hcs⟩ := hF.sl.2.2 (by omega)
      obtain ⟨i1, i2, i3⟩ := sfC_at F k (by have := HFL.out; omega)
      have c0 := hcs _ _ i1
      have c1 := hcs _ _ i2
      have c2 := hcs _ _ i3
      rw [← Nat.add_assoc] at c1 c2
      obtain ⟨b2, off2, rfl, hbl2, hcl⟩ := hO.sl.2.2 (by omega)
      have l0 := hcl _ _ hlast
      have HLA := Lib.hid hlast
      clear hs hO hF hcs hcl i1 i2 i3 hlast
      generalize F.getD k s0g = s at *
      have HT : Hid (tkV s.v s.d s.t = tkS s) := rfl
      obtain ⟨t0, t1⟩ := tkS_bd s
      have HOB : Hid (∀ w3, Below wr.drew.heap.size wr.drew w3 → w3.ownsRow (w.heap.size + 1) 3 1 (.slice (some ⟨b2, off2, none⟩) (k + 1) d2) (k + 1) (intC (0 :: acc)) ∧ w.heap.size + 1 ≤ w3.heap.size) := fun w3 h => by
        have h1 := own_below HO.out.own (bt (Below.refl wr.heap.size wr).drew h)
        rw [World.size_alloc] at h1
        have h2 := HO.out.low.size
        rw [World.size_alloc] at h2
        exact ⟨h1, Nat.le_trans h2 (show wr.heap.size ≤ w3.heap.size from h.size)⟩
      have hml : k + 1 + 1 ≤ maxLen := Nat.le_trans (show k + 1 + 1 ≤ 65538 by omega) (by decide)
      have hmb : (k + 1 + 1) * 8 ≤ 140737488355328 := by omega
      have hki : (k : Int) < (k : Int) + 1 := by omega
      have w64 : IntKind.i64.wrap (a + tkS s) = a + tkS s := IntWalk.i64_in _ ⟨by omega, by omega⟩
      go_wp2_with (fail)
      go_region_law (first
        | (refine step_append_lies _ (by rfl) _ _ _ (by rfl) (w.heap.size + 1) 3 i0 _ 1 8 Tryd.underlying23 ii hi0 hi1 hi2 rfl (by decide) (.slice (some ⟨b2, off2, none⟩) (k + 1) d2) (k + 1) (intC (0 :: acc)) (by rfl) (HO3.out.1.alloc _) ⟨w3.heap.size, 0, none⟩ 1 1 [.int .i64 (a + tkS s)] (by rfl) rfl (World.news_of_block (heap_alloc_new w3 (.cells #[.int .i64 (a + tkS s)] 3))) (by intro u hu; simp at hu; subst hu; rfl) (by decide) hml hmb (by have := HO3.out.2; simp; omega) (w3.heap.size + 1) (by simp) ?_; intro g cap w5 hown5 hgrow5 hat5 hlt5)
        | (go_simp; go_at_call 49; refine (rticks_any _ _ _ _).mono ?_; rintro e w3 ⟨rfl, hb3⟩; rw [HT.out]; have HO3 := Lib.hid (HOB.out _ hb3); have l3 := cell_same (hb3.block b2 hbl2) l0; go_simp))
      all_goals (
        have hbw := bt (Below.refl wr.heap.size wr).drew hb3
        obtain ⟨A5, c5, hv5, hO5, hkeep⟩ := Own1.step HO.out hbw (World.size_alloc _ _).symm hown5 hgrow5
        injection hv5 with e1 _ e2
        subst e1 e2
        have hlen : acc.length = k := by have := HO.out.own.1; simp [intC] at this; omega
        have hF5 := HF.out.blk (fun g' cs h => hkeep g' _ cs (by decide) h)
        have HX := Lib.hid (And.intro hO5 (And.intro hF5 hlen))
        clear hown5 hgrow5 hat5 hlt5 hO5 hkeep hF5 hlen hbw hb3 l3 l0 c0 c1 c2
        go_wp2_with (fail)
        go_roundw
        case rel => exact ⟨k + 1, _, _, acc ++ [a + tkS s], a + tkS s, by omega, by first | rfl | go_num, rfl, sumL_go HS.out HD.out, by have := HX.out.2.2; simp [intC, ← this], by omega, by omega, by have := HX.out.1; simpa [intC] using this, HX.out.2.1⟩
        case measure => simp [intOf]; omega)
    · obtain rfl : k = q := by omega
      have HT : Hid (acc = sumL 0 F) := by
        unfold Hid
        rw [HS.out, List.drop_of_length_le (by have := HFL.out; omega)]
        simp [sumL]
      go_wp2_with (fail)
      go_ret
      exact ⟨B2, d2, rfl, by rw [HFP.out, ← HT.out]; exact (Ow.of_own HO.out.own).more (by simp), bx HO.out.low⟩

end Go.Proofs.YtdhjigaocamglaaDoor
