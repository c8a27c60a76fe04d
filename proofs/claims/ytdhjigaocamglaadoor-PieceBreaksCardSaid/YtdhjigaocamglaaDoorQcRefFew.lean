/- Pieces: Join of the program, with its error. -/
import Derived.Test.YtdhjigaocamglaaDoorQcRr4
import Derived.Test.YtdhjigaocamglaaDoorQcTrn
import Derived.Test.YtdhjigaocamglaaDoorQcPcLong
import Derived.BigQuiet
namespace Go.Proofs.YtdhjigaocamglaaDoor
open Go Go.RowKit

end Go.Proofs.YtdhjigaocamglaaDoor

/- Pieces: Join of the reference, as plain lists. -/
namespace Go.Proofs.YtdhjigaocamglaaDoor
open Go Go.RowKit

def stE (y : EvP) : EvP := { y with L := [] }
def tkE (y : EvP) : Int := tkV y.v y.d y.t
theorem getD_app {α : Type} (l : List α) (x d : α) (i : Nat) : (l ++ [x]).getD i d = if i < l.length then l.getD i d else if i = l.length then x else d := by
  rw [List.getD_eq_getElem?_getD]
  by_cases h : i < l.length
  · rw [if_pos h, List.getElem?_append_left h, List.getD_eq_getElem?_getD]
  · rw [if_neg h]
    by_cases h2 : i = l.length
    · subst h2
      simp
    · rw [if_neg h2, List.getElem?_eq_none (by simp; omega)]
      rfl
theorem get_app {α : Type} (l : List α) (x : α) (i : Nat) (y : α) (h : (l ++ [x])[i]? = some y) : (i < l.length ∧ l[i]? = some y) ∨ (i = l.length ∧ x = y) := by
  by_cases h2 : i < l.length
  · rw [List.getElem?_append_left h2] at h
    exact .inl ⟨h2, h⟩
  · have h3 := (List.getElem?_eq_some_iff.1 h).1
    simp at h3
    have : i = l.length := by omega
    subst this
    simp at h
    exact .inr ⟨rfl, h⟩
theorem tmPL_tk : ∀ (P : List EvP) (n : Nat) (v : Int) (d t : Bool) (fm : Int), ∀ p ∈ tmPL P n v d t fm, p.to - p.fm = tkV p.v p.d p.t
  | [], _, _, _, _, _, p, h => by simp [tmPL] at h
  | y :: r, n, v, d, t, fm, p, h => by
    unfold tmPL at h
    split at h
    · rcases List.mem_cons.1 h with rfl | h
      · dsimp only
        omega
      · exact tmPL_tk r _ _ _ _ _ p h
    · rcases List.mem_cons.1 h with rfl | h
      · dsimp only
        omega
      · exact tmPL_tk r _ _ _ _ _ p h
end Go.Proofs.YtdhjigaocamglaaDoor

/- Pieces: both Joins answer one list. -/
namespace Go.Proofs.YtdhjigaocamglaaDoor
open Go Go.RowKit

end Go.Proofs.YtdhjigaocamglaaDoor

/- Pieces: Join's loop of the reference: what it keeps. -/
namespace Go.Proofs.YtdhjigaocamglaaDoor
open Go Go.RowKit

/-- The marks: those that are told, and the rest. -/
def mgL (q : Nat) (mg : List Bool) : List Value := mg.map .bool ++ List.replicate (q - mg.length) (.bool false)
structure RjO (W5 : World) (b ob mb : Nat) (u0 u1 v : Value) (E : List EvT) (q : Nat) (Q : List EvP) (X : List EvT) (mg : List Bool) (W : World) : Prop where
  o : Blk W ob 28 #[u0, u1, v]
  row : W.ownsRow W5.heap.size 51 6 v Q.length (evC X)
  xl : X.length = Q.length
  m : Blk W mb 4 (mgL q mg).toArray
  cp : CpE W5 b X Q
  src : ∀ (k : Nat) (x : EvT), X[k]? = some x → ∃ j z, j < mg.length ∧ E[j]? = some z ∧ z.sa = x.sa ∧ z.sn = x.sn
  dst : DstE X
  kx : Kx (fun k => k = ob ∨ k = mb) W5.heap.size W5 W
theorem RjO.below {W5 : World} {b ob mb : Nat} {u0 u1 v : Value} {E : List EvT} {q : Nat} {Q : List EvP} {X : List EvT} {mg : List Bool} {W W' : World} (h : RjO W5 b ob mb u0 u1 v E q Q X mg W) (hb : Below W.heap.size W W') : RjO W5 b ob mb u0 u1 v E q Q X mg W' :=
  ⟨h.o.below hb, ownsRow_heap h.row (fun g hg => hb.block g (h.row.lt g hg).2), h.xl, h.m.below hb, h.cp, h.src, h.dst, h.kx.trans ((Kx.of_below hb).mono h.kx.size (fun _ _ h => h))⟩
end Go.Proofs.YtdhjigaocamglaaDoor

/- Pieces: Join of the reference: the second loop, what it keeps. -/
namespace Go.Proofs.YtdhjigaocamglaaDoor
open Go Go.RowKit

/-- The second loop: what it keeps. -/
structure RjP (w : World) (b ob mb qb : Nat) (A : Option Addr) (n c : Nat) (A' : Option Addr) (m c' : Nat) (A2 : Option Addr) (l cq : Nat) (C : List Cr) (S : List Int) (P : List EvP) (q : Nat) (mg : List Bool) (u2 : Value) (wr : World) : Prop where
  pc : ∃ E, PcOE wr b A n c A' m c' A2 l cq C S P E
  o : Blk wr ob 28 #[.slice A n c, .slice A' m c', .slice A2 l cq]
  mks : Blk wr mb 4 (mgL q mg).toArray
  x : Blk wr qb 28 #[.slice A n c, .slice A' m c', u2]
  rs : Blk wr (w.heap.size + 1) 28 #[.slice none 0 0, .slice none 0 0, .slice none 0 0]
  lo : Below w.heap.size w wr
theorem RjP.below {w : World} {b ob mb qb : Nat} {A : Option Addr} {n c : Nat} {A' : Option Addr} {m c' : Nat} {A2 : Option Addr} {l cq : Nat} {C : List Cr} {S : List Int} {P : List EvP} {q : Nat} {mg : List Bool} {u2 : Value} {wr wx : World}
    (h : RjP w b ob mb qb A n c A' m c' A2 l cq C S P q mg u2 wr) (hb : Below wr.heap.size wr wx) : RjP w b ob mb qb A n c A' m c' A2 l cq C S P q mg u2 wx := by
  obtain ⟨E, hE⟩ := h.pc
  exact ⟨⟨E, hE.below hb⟩, h.o.below hb, h.mks.below hb, h.x.below hb, h.rs.below hb, bt h.lo hb⟩
theorem RjP.stop {w : World} {b ob mb qb : Nat} {A : Option Addr} {n c : Nat} {A' : Option Addr} {m c' : Nat} {A2 : Option Addr} {l cq : Nat} {C : List Cr} {S : List Int} {P : List EvP} {q : Nat} {mg : List Bool} {u2 : Value} {wr : World}
    (h : RjP w b ob mb qb A n c A' m c' A2 l cq C S P q mg u2 wr) (hb : w.heap.size ≤ b) {i k : Nat} {y : EvP} (hy : P[i]? = some y) {s : St} (hs : y.L[k]? = some s) :
    ∃ ge g sc, A2 = some ⟨ge, 0, none⟩ ∧ ge < wr.heap.size ∧ wr.cell? ⟨ge, i * 6 + 5, none⟩ = some (.slice (some ⟨g, 0, none⟩) y.L.length sc) ∧ g < wr.heap.size ∧ (ge ≠ g ∧ g ≠ ge ∧ g ≠ ob ∧ ob ≠ g) ∧ wr.cell? ⟨g, k * 5 + 4, none⟩ = some (.int .i64 s.h) ∧ (∀ j, wr.frozen? ⟨g, j, none⟩ = false) ∧
      (∀ v : Int, RjP w b ob mb qb A n c A' m c' A2 l cq C S (P.set i { y with L := y.L.set k ⟨s.c, s.f, s.r, s.g, v⟩ }) q mg u2 (wr.setCell ⟨g, k * 5 + 4, none⟩ (.int .i64 v))) := by
  obtain ⟨E, hE⟩ := h.pc
  obtain ⟨ge, x, g, rfl, hbe, hle, hx, c5, hbg, hlg, n1, n2, cc, hf, ⟨cs, hB⟩, _, ht⟩ := hE.stop hy hs
  have ho := hB.ne h.o (by decide)
  have hm := hB.ne h.mks (by decide)
  have hq := hB.ne h.x (by decide)
  have hr := hB.ne h.rs (by decide)
  exact ⟨ge, g, x.sc, rfl, hle, c5, hlg, ⟨n1, n2, ho, fun e => ho e.symm⟩, cc.2.2.2.2, hf, fun v =>
    ⟨⟨E, ht v⟩, h.o.setOther (fun e => ho e.symm) _ _, h.mks.setOther (fun e => hm e.symm) _ _, h.x.setOther (fun e => hq e.symm) _ _, h.rs.setOther (fun e => hr e.symm) _ _, h.lo.setCell (p := ⟨g, k * 5 + 4, none⟩) (Nat.le_trans hb hbg) _⟩⟩
/-- Behind the first loop. -/
theorem RjO.toP {w W5 : World} {b ob mb qb : Nat} {A : Option Addr} {n c : Nat} {A' : Option Addr} {m c' : Nat} {v : Value} {E : List EvT} {q : Nat} {Q : List EvP} {X : List EvT} {mg : List Bool} {W : World} {B2 : Option Addr} {q1 d2 : Nat} {C : List Cr} {S : List Int} {G : List EvP} {co cm : Array Value}
    (h : RjO W5 b ob mb (.slice A n c) (.slice A' m c') v E q Q X mg W) (hO : PcOE W5 b A n c A' m c' B2 q1 d2 C S G E) (h0 : Blk W5 ob 28 co) (h1 : Blk W5 mb 4 cm) (hb5 : b ≤ W5.heap.size) {u2 : Value} (hx : Blk W5 qb 28 #[.slice A n c, .slice A' m c', u2]) (hqo : qb ≠ ob)
    (hr : Blk W5 (w.heap.size + 1) 28 #[.slice none 0 0, .slice none 0 0, .slice none 0 0]) (hro : w.heap.size + 1 ≠ ob) (hlo : Below w.heap.size w W5) (hwo : w.heap.size ≤ ob) (hwm : w.heap.size ≤ mb) :
    ∃ A2 cq, v = .slice A2 Q.length cq ∧ RjP w b ob mb qb A n c A' m c' A2 Q.length cq C S Q q mg u2 W := by
  have hkk : ∀ g : Nat, g < W5.heap.size → g ≠ ob → g ≠ mb → W.heap[g]? = W5.heap[g]? := fun g h1 h2 h3 => h.kx.block g h1 (fun e => by rcases e with e | e <;> omega)
  have hkb : ∀ (g : Nat) (T : TypeId) (cs : Array Value), T ≠ 28 → T ≠ 4 → Blk W5 g T cs → Blk W g T cs := fun g T cs h2 h3 hB => (hkk g hB.lt (hB.ne h0 h2) (hB.ne h1 h3)).trans hB
  obtain ⟨A2, cq, rfl⟩ := own_slice h.row
  refine ⟨A2, cq, rfl, ⟨X, ⟨hO.o3.crs.blk (fun g cs h2 => hkb g _ cs (by decide) (by decide) h2), hO.o3.stp.blk (fun g cs h2 => hkb g _ cs (by decide) (by decide) h2), hO.o3.hn, hO.o3.hm, rfl⟩, h.xl, h.cp.blk (fun g cs h2 => hkb g _ cs (by decide) (by decide) h2), (Ow.of_own h.row).more hb5, h.dst⟩, h.o, h.m, (hkk qb hx.lt hqo (hx.ne h1 (by decide))).trans hx, (hkk _ hr.lt hro (hr.ne h1 (by decide))).trans hr, hlo.trans ?_⟩
  exact ⟨h.kx.os, h.kx.tape, h.kx.output, h.kx.size, fun k hk => h.kx.block k (Nat.lt_of_lt_of_le hk hlo.size) (fun e => by rcases e with e | e <;> omega)⟩

end Go.Proofs.YtdhjigaocamglaaDoor

/- The reference's table of fewest signs. -/
namespace Go.Proofs.YtdhjigaocamglaaDoor
open Go Go.RowKit

theorem alL_at {q : Nat} (h : q < 21) : (alL 21)[q * 3]? = some (.int .i64 (sgv q).1) ∧ (alL 21)[q * 3 + 1]? = some (.bool (sgv q).2.1) ∧ (alL 21)[q * 3 + 2]? = some (.bool (sgv q).2.2) := by
  rcases tks_range h with rfl | rfl | rfl | rfl | rfl | rfl | rfl | rfl | rfl | rfl | rfl | rfl | rfl | rfl | rfl | rfl | rfl | rfl | rfl | rfl | rfl <;> exact ⟨rfl, rfl, rfl⟩
theorem lv_le {r : Int} (h : 0 ≤ r) : lv r ≤ r := by
  have := lv_low r
  by_cases hn : 0 ≤ lv r
  · obtain ⟨l, _, h2, h3⟩ := lv_some hn
    have := sumT_pos fun x hx => (h3.2.1 x hx).2
    have := h3.2.2
    omega
  · omega
/-- The list of all signs and the table, filled up to i; at i stands o. -/
structure Few (w wr : World) (ga ca g n : Nat) (i : Nat) (o : Option Int) : Prop where
  all : wr.ownsRow w.heap.size 48 3 (.slice (some ⟨ga, 0, none⟩) 21 ca) 21 (alL 21)
  low : Below w.heap.size w wr
  base : w.heap.size ≤ g
  row : ∃ cur, Blk wr g 3 cur ∧ cur.size = n + 1 ∧ (∀ j, j < i → cur[j]? = some (.int .i64 (lv j))) ∧ (∀ c, o = some c → cur[i]? = some (.int .i64 c))
theorem Few.below {w wr w' : World} {ga ca g n i : Nat} {o : Option Int} (h : Few w wr ga ca g n i o) (hb : Below wr.heap.size wr w') : Few w w' ga ca g n i o := by
  obtain ⟨cur, h1, h2⟩ := h.row
  exact ⟨own_below h.all hb, bt h.low hb, h.base, cur, h1.below hb, h2⟩
theorem Few.cell {w wr : World} {ga ca g n i : Nat} {o : Option Int} (h : Few w wr ga ca g n i o) {j : Nat} (hj : j < i) : wr.cell? ⟨g, j, none⟩ = some (.int .i64 (lv j)) := by
  obtain ⟨cur, h1, _, h3, _⟩ := h.row
  rw [h1.cell, h3 j hj]
theorem Few.cur {w wr : World} {ga ca g n i : Nat} {c : Int} (h : Few w wr ga ca g n i (some c)) : wr.cell? ⟨g, i, none⟩ = some (.int .i64 c) := by
  obtain ⟨cur, h1, _, _, h4⟩ := h.row
  rw [h1.cell, h4 c rfl]
theorem Few.some_ {w wr : World} {ga ca g n i : Nat} {o : Option Int} (h : Few w wr ga ca g n i o) (hi : i ≤ n) : ∃ u, wr.cell? ⟨g, i, none⟩ = some u ∧ wr.frozen? ⟨g, i, none⟩ = false := by
  obtain ⟨cur, h1, h2, _⟩ := h.row
  refine ⟨cur[i]'(by omega), ?_, h1.frozen _⟩
  rw [h1.cell]
  exact Array.getElem?_eq_getElem _
theorem Few.put {w wr : World} {ga ca g n i : Nat} {o : Option Int} (h : Few w wr ga ca g n i o) (hi : i ≤ n) (c : Int) : Few w (wr.setCell ⟨g, i, none⟩ (.int .i64 c)) ga ca g n i (some c) := by
  obtain ⟨cur, h1, h2, h3, _⟩ := h.row
  have hne : (Value.slice (some ⟨ga, 0, none⟩) 21 ca).ownBlock ≠ some g := own_neF h.all h1 (by decide)
  refine ⟨ownsRow_setCell_other h.all hne _, h.low.setCell h.base _, h.base, _, h1.set_ _ _, by simpa using h2, fun j hj => ?_, fun d hd => ?_⟩
  · rw [Array.getElem?_setIfInBounds_ne (by omega)]
    exact h3 j hj
  · injection hd with hd
    subst hd
    rw [Array.getElem?_setIfInBounds_self_of_lt (by omega)]
theorem Few.next {w wr : World} {ga ca g n i : Nat} {c : Int} (h : Few w wr ga ca g n i (some c)) (hc : c = lv i) : Few w wr ga ca g n (i + 1) none := by
  obtain ⟨cur, h1, h2, h3, h4⟩ := h.row
  refine ⟨h.all, h.low, h.base, cur, h1, h2, fun j hj => ?_, fun d hd => by cases hd⟩
  by_cases e : j = i
  · subst e
    rw [h4 c rfl, hc]
  · exact h3 j (by omega)

set_option maxRecDepth 100000 in
set_option maxHeartbeats 4000000 in
theorem rfewest (n : Nat) (hn : n ≤ 4608) (w : World) : Calls Tryd.prog 88 #[.int .i64 n] w fun e w' => ∃ g cur, e = .returned (.slice (some ⟨g, 0, none⟩) (n + 1) (n + 1)) ∧ Blk w' g 3 cur ∧ cur.size = n + 1 ∧ (∀ j, j ≤ n → cur[j]? = some (.int .i64 (lv j))) ∧ w.heap.size ≤ g ∧ Below w.heap.size w w' := by
  obtain ⟨j0, jj1, jj2, jj3, jj4⟩ := info_parts Tryd.info3'
  have hp : IntKind.i64.wrap ((n : Int) + 1) = (n : Int) + 1 := IntWalk.i64_in _ ⟨by omega, by omega⟩
  go_enter Tryd.func88, Tryd.ntmps88
  go_wp2_with (first | (go_at_call 71; refine (rall _).mono ?_; rintro e w1 ⟨ga, ca, rfl, hall, hb1⟩) | (at_make; refine wpList_make_full _ rfl _ _ 23 rfl w.heap.size 3 j0 _ 1 Tryd.underlying23 jj1 jj2 jj3 .i64 .i64 _ _ (n + 1) rfl rfl rfl rfl (by rw [jj4]; omega) (by unfold maxLen; omega) hb1.size ?_))
  intro w2 hown hgrow
  have hF0 : Few w w2 ga ca w1.heap.size n 1 none := by
    refine ⟨hall.kept hgrow (.inr (by simp [Value.ownBlock])), Below.grown hb1 hgrow hb1.size (fun g h => by cases h), hb1.size, ?_⟩
    obtain ⟨g, cur, e1, _, e3, e4, e5⟩ := (Ow.of_own hown).2.2 (by omega)
    injection e1 with e1
    injection e1 with e1
    subst e1
    refine ⟨cur, e3, by omega, fun j hj => ?_, fun c hc => by cases hc⟩
    obtain rfl : j = 0 := by omega
    have h0 := congrArg (fun l : List Value => l[0]?) e5
    rw [toList_madeCells_one] at h0
    simp at h0
    rw [h0]
    simp [lv_zero]
  have HF0 := Lib.hid hF0
  clear hown hgrow hF0 hall hb1
  generalize hg : w1.heap.size = g at *
  clear hg
  go_wp2_with (fail)
  go_loopw [5] (fun v wr => ∃ i : Nat, 1 ≤ i ∧ i ≤ n + 1 ∧ v = .int .i64 i ∧ Few w wr ga ca g n i none) (fun v _ => n + 1 - (intOf v).toNat)
  case atStart => exact ⟨1, by omega, by omega, rfl, HF0.out⟩
  case round =>
    obtain ⟨i, h1i, hin, rfl, hF⟩ := hrel
    have HF := Lib.hid hF
    by_cases hle : i ≤ n
    · obtain ⟨u, cu, fu⟩ := hF.some_ hle
      have hlei : (i : Int) ≤ (n : Int) := by omega
      have hi1 : (i : Int) < (n : Int) + 1 := by omega
      have HP := Lib.hid (hF.put hle (-1))
      clear hF
      go_wp2_with (fail)
      obtain ⟨W2, hW2⟩ : ∃ W2, wr.setCell ⟨g, i, none⟩ (.int .i64 (-1)) = W2 := ⟨_, rfl⟩
      rw [hW2] at HP ⊢
      clear hW2 cu fu
      go_loopw [6] (fun v wr => ∃ (q : Nat) (c : Int), q ≤ 21 ∧ v = .int .i64 q ∧ Hid (Best i q c ∧ c ≤ 5000) ∧ Few w wr ga ca g n i (some c)) (fun v _ => 21 - (intOf v).toNat)
      case atStart => exact ⟨0, -1, by omega, rfl, ⟨best_start _, by omega⟩, HP.out⟩
      case round =>
        obtain ⟨q, c, hq, rfl, HB, hF⟩ := hrel
        have HF2 := Lib.hid hF
        by_cases hq21 : q < 21
        · have hqi : (q : Int) < 21 := by omega
          obtain ⟨a0, a1, a2⟩ := alL_at hq21
          have c0 := (hF.all.cellAt (q * 3) (by omega)).trans a0
          have c1 := (hF.all.cellAt (q * 3 + 1) (by omega)).trans a1
          have c2 := (hF.all.cellAt (q * 3 + 2) (by omega)).trans a2
          obtain ⟨T, hT⟩ := Int.eq_ofNat_of_zero_le (tkV_bd0 q).1
          have HT : Hid (tkV (sgv q).1 (sgv q).2.1 (sgv q).2.2 = (T : Int)) := hT
          have HT2 : Hid (tks q = (T : Int)) := hT
          have HTB : Hid (4 ≤ T ∧ T ≤ 576) := by have := tks_four hq21; unfold Hid; omega
          clear a0 a1 a2 hT hF
          by_cases hA : T ≤ i
          · have gA : (T : Int) ≤ (i : Int) := by omega
            have HX : Hid (∀ w', Below wr.heap.size wr w' → w'.cell? ⟨g, i - T, none⟩ = some (.int .i64 (lv ((i - T : Nat) : Int))) ∧ w'.cell? ⟨g, i, none⟩ = some (.int .i64 c) ∧ w'.frozen? ⟨g, i, none⟩ = false) := fun w' hb => by
              have h := HF2.out.below hb
              obtain ⟨u, _, hf⟩ := h.some_ hle
              exact ⟨h.cell (by have := HTB.out; omega), h.cur, hf⟩
            have hTn : i - T < n + 1 := by omega
            have hin1 : i < n + 1 := by omega
            have HL : Hid (lv ((i - T : Nat) : Int) ≤ 4608 ∧ -1 ≤ lv ((i - T : Nat) : Int)) := ⟨by have := lv_le (r := ((i - T : Nat) : Int)) (by omega); omega, lv_low _⟩
            have HLE : Hid (lv ((i - T : Nat) : Int) = lv ((i : Int) - tks q)) := by unfold Hid; rw [HT2.out]; congr 1; omega
            generalize lv ((i - T : Nat) : Int) = L at *
            obtain ⟨l1, l2⟩ := HL.out
            have hti : tks q ≤ (i : Int) := by rw [HT2.out]; exact gA
            by_cases hB : 0 ≤ L
            · by_cases hC : c < 0
              · have HN : Hid (Best i (q + 1) (L + 1) ∧ L + 1 ≤ 5000) := ⟨by rw [HLE.out]; exact best_take HB.out.1 hti (by rw [← HLE.out]; exact hB) (.inl hC), by omega⟩
                clear hti
                go_wp2_with (go_at_call 49; refine (rticks_any _ _ _ _).mono ?_; rintro e w3 ⟨rfl, hb3⟩; rw [HT.out]; obtain ⟨x0, x1, x2⟩ := HX.out _ hb3)
                go_quiet (fail)
                have hb4 := bd hb3 nq
                clear x0 x1 x2
                generalize w3.drewN nq = w4 at *
                clear hb3
                obtain ⟨x0, x1, x2⟩ := HX.out _ hb4
                go_wp2_with (fail)
                go_roundw
                case rel => exact ⟨q + 1, L + 1, by omega, by simp, HN, (HF2.out.below hb4).put hle (L + 1)⟩
                case measure => simp [intOf]; omega
              · have gC : decide (c < 0) = false := by simpa using hC
                by_cases hD : L + 1 < c
                · have HN : Hid (Best i (q + 1) (L + 1) ∧ L + 1 ≤ 5000) := ⟨by rw [HLE.out]; exact best_take HB.out.1 hti (by rw [← HLE.out]; exact hB) (.inr (by rw [← HLE.out]; exact hD)), by omega⟩
                  clear hti
                  go_wp2_with (go_at_call 49; refine (rticks_any _ _ _ _).mono ?_; rintro e w3 ⟨rfl, hb3⟩; rw [HT.out]; obtain ⟨x0, x1, x2⟩ := HX.out _ hb3)
                  go_quiet (fail)
                  have hb4 := bd hb3 nq
                  clear x0 x1 x2
                  generalize w3.drewN nq = w4 at *
                  clear hb3
                  obtain ⟨x0, x1, x2⟩ := HX.out _ hb4
                  go_wp2_with (fail)
                  go_roundw
                  case rel => exact ⟨q + 1, L + 1, by omega, by simp, HN, (HF2.out.below hb4).put hle (L + 1)⟩
                  case measure => simp [intOf]; omega
                · have gD : decide (L + 1 < c) = false := by simpa using hD
                  have HN : Hid (Best i (q + 1) c ∧ c ≤ 5000) := ⟨best_skip HB.out.1 fun _ _ => ⟨by omega, by rw [← HLE.out]; omega⟩, HB.out.2⟩
                  clear hti
                  go_wp2_with (go_at_call 49; refine (rticks_any _ _ _ _).mono ?_; rintro e w3 ⟨rfl, hb3⟩; rw [HT.out]; obtain ⟨x0, x1, x2⟩ := HX.out _ hb3)
                  go_quiet (fail)
                  have hb4 := bd hb3 nq
                  clear x0 x1 x2
                  generalize w3.drewN nq = w4 at *
                  clear hb3
                  go_wp2_with (fail)
                  go_roundw
                  case rel => exact ⟨q + 1, c, by omega, by simp, HN, HF2.out.below hb4⟩
                  case measure => simp [intOf]; omega
            · have gB : decide (0 ≤ L) = false := by simpa using hB
              have HN : Hid (Best i (q + 1) c ∧ c ≤ 5000) := ⟨best_skip HB.out.1 fun _ h => absurd h (by rw [← HLE.out]; exact hB), HB.out.2⟩
              clear hti
              go_wp2_with (go_at_call 49; refine (rticks_any _ _ _ _).mono ?_; rintro e w3 ⟨rfl, hb3⟩; rw [HT.out]; obtain ⟨x0, x1, x2⟩ := HX.out _ hb3)
              go_quiet (fail)
              have hb4 := bd hb3 nq
              clear x0 x1 x2
              generalize w3.drewN nq = w4 at *
              clear hb3
              go_wp2_with (fail)
              go_roundw
              case rel => exact ⟨q + 1, c, by omega, by simp, HN, HF2.out.below hb4⟩
              case measure => simp [intOf]; omega
          · have gA : decide ((T : Int) ≤ (i : Int)) = false := by simp; omega
            have HN : Hid (Best i (q + 1) c ∧ c ≤ 5000) := ⟨best_skip HB.out.1 fun h => absurd h (by rw [HT2.out]; omega), HB.out.2⟩
            go_wp2_with (go_at_call 49; refine (rticks_any _ _ _ _).mono ?_; rintro e w3 ⟨rfl, hb3⟩; rw [HT.out])
            go_quiet (fail)
            have hb4 := bd hb3 nq
            generalize w3.drewN nq = w4 at *
            clear hb3
            go_wp2_with (fail)
            go_roundw
            case rel => exact ⟨q + 1, c, by omega, by simp, HN, HF2.out.below hb4⟩
            case measure => simp [intOf]; omega
        · obtain rfl : q = 21 := by omega
          have HN := Lib.hid (HF2.out.next (best_end (by omega) HB.out.1))
          clear hF
          go_wp2_with (fail)
          go_roundw
          case rel => exact ⟨i + 1, by omega, by omega, by simp, HN.out⟩
          case measure => simp [intOf]; omega
    · have hlei : ¬ (i : Int) ≤ (n : Int) := by omega
      obtain rfl : i = n + 1 := by omega
      clear hF
      go_wp2_with (fail)
      go_ret
      obtain ⟨cur, h1, h2, h3, _⟩ := HF.out.row
      exact ⟨g, rfl, cur, h1, h2, fun j hj => h3 j (by omega), HF.out.base, HF.out.low⟩

end Go.Proofs.YtdhjigaocamglaaDoor
