/- Piece: Check of the small piece that law 02 looks at. -/
import Derived.Test.YtncgikfalimnjaaDoorOnsets
import Derived.BigQuiet
import Derived.Test.YtncgikfalimnjaaDoorSigns
namespace Go.Proofs.YtncgikfalimnjaaDoor
open Go Go.RowKit

abbrev e0W (sk : Nat) : EvT := ⟨false, 3, false, false, false, some ⟨sk, 0, none⟩, 1, 1⟩
abbrev e1W : EvT := ⟨false, 4, false, false, true, none, 0, 0⟩
abbrev evW (x : EvT) : Value := .agg #[.bool x.bar, .int .i64 x.v, .bool x.d, .bool x.t, .bool x.tie, .slice x.sa x.sn x.sc]

set_option maxHeartbeats 1600000 in
theorem isRest_e1 (w : World) : Calls Tryd.prog 61 #[evW e1W] w fun e w' => e = .returned (.bool false) ∧ Below w.heap.size w w' := by
  go_enter Tryd.func61, Tryd.ntmps61
  go_wp2_with (fail)
  go_ret
  exact ⟨rfl, ba _ _⟩
set_option maxHeartbeats 1600000 in
theorem indexFunc_nil (fv : Value) (w : World) : Calls Tryd.prog 120 #[.slice none 0 0, fv] w fun e w' => e = .returned (.int .i64 (-1)) ∧ Below w.heap.size w w' := by
  go_enter Tryd.func120, Tryd.ntmps120
  go_wp2_with (fail)
  refine wp_loop_rounds 1 ?_
  rw [rounds_succ]
  go_wp2_with (fail)
  go_ret
  exact ⟨rfl, Below.refl _ _⟩
set_option maxHeartbeats 1600000 in
theorem containsFunc_nil (fv : Value) (w : World) : Calls Tryd.prog 100 #[.slice none 0 0, fv] w fun e w' => e = .returned (.bool false) ∧ Below w.heap.size w w' := by
  go_enter Tryd.func100, Tryd.ntmps100
  go_wp2_with (go_at_call 120; refine (indexFunc_nil _ _).mono ?_; rintro e w1 ⟨rfl, hb1⟩)
  go_ret
  exact ⟨rfl, hb1⟩
set_option maxHeartbeats 1600000 in
theorem hasStop_e1 (c : Int) (w : World) : Calls Tryd.prog 62 #[evW e1W, .int .i64 c] w fun e w' => e = .returned (.bool false) ∧ Below w.heap.size w w' := by
  have hmf : ∀ (fn : Fn) (first cap : Array Value) (w : World), (Instr.makeFunc fn first cap).run Tryd.prog w = .ok (.func fn first cap) w := fun _ _ _ _ => rfl
  go_enter Tryd.func62, Tryd.ntmps62
  go_wp2_with (go_at_call 100; refine (containsFunc_nil _ _).mono ?_; rintro e w1 ⟨rfl, hb1⟩)
  go_ret
  exact ⟨rfl, by first | exact bx (bx hb1) | exact bx hb1⟩

end Go.Proofs.YtncgikfalimnjaaDoor

/- Piece: Check of the small piece that law 02 looks at, second part. -/
namespace Go.Proofs.YtncgikfalimnjaaDoor
open Go Go.RowKit

abbrev pW (bc bs eb : Nat) : Value := .agg #[.slice (some ⟨bc, 0, none⟩) 1 1, .slice (some ⟨bs, 0, none⟩) 2 2, .slice (some ⟨eb, 0, none⟩) 2 2]
abbrev stW : Value := .agg #[.int .i64 1, .int .i64 2, .int .i64 0, .int .i64 0, .int .i64 1]
/-- The small piece lies in memory. -/
structure PW (w : World) (bc bs eb sk : Nat) : Prop where
  crs : Sl w w.heap.size 3 (some ⟨bc, 0, none⟩) 1 1 (crC [⟨60, 2, false⟩])
  stp : Sl w w.heap.size 1 (some ⟨bs, 0, none⟩) 2 2 (intC [1, 2])
  fr1 : w.cell? ⟨bc, 1, none⟩ = some (.int .i64 2)
  ev0 : EvAt w eb 0 0 (e0W sk)
  ev1 : EvAt w eb 0 1 e1W
  st : w.cell? ⟨sk, 0, none⟩ = some (.int .i64 1) ∧ w.cell? ⟨sk, 1, none⟩ = some (.int .i64 2) ∧ w.cell? ⟨sk, 2, none⟩ = some (.int .i64 0) ∧ w.cell? ⟨sk, 3, none⟩ = some (.int .i64 0) ∧ w.cell? ⟨sk, 4, none⟩ = some (.int .i64 1)
  hbc : bc < w.heap.size
  heb : eb < w.heap.size
  hsk : sk < w.heap.size
theorem PW.below {w w' : World} {bc bs eb sk : Nat} (h : PW w bc bs eb sk) (hb : Below w.heap.size w w') : PW w' bc bs eb sk := by
  have h1 := hb.block bc h.hbc
  have h2 := hb.block eb h.heb
  have h3 := hb.block sk h.hsk
  obtain ⟨s0, s1, s2, s3, s4⟩ := h.st
  exact ⟨h.crs.below hb, h.stp.below hb, cell_same h1 h.fr1, h.ev0.same h2, h.ev1.same h2, ⟨cell_same h3 s0, cell_same h3 s1, cell_same h3 s2, cell_same h3 s3, cell_same h3 s4⟩,
    Nat.lt_of_lt_of_le h.hbc hb.size, Nat.lt_of_lt_of_le h.heb hb.size, Nat.lt_of_lt_of_le h.hsk hb.size⟩
/-- The events' cells, at literals. -/
theorem PW.cells {w : World} {bc bs eb sk : Nat} (h : PW w bc bs eb sk) :
    (w.cell? ⟨eb, 0, none⟩ = some (.bool false) ∧ w.cell? ⟨eb, 1, none⟩ = some (.int .i64 3) ∧ w.cell? ⟨eb, 2, none⟩ = some (.bool false) ∧ w.cell? ⟨eb, 3, none⟩ = some (.bool false) ∧ w.cell? ⟨eb, 4, none⟩ = some (.bool false) ∧ w.cell? ⟨eb, 5, none⟩ = some (.slice (some ⟨sk, 0, none⟩) 1 1)) ∧
    (w.cell? ⟨eb, 6, none⟩ = some (.bool false) ∧ w.cell? ⟨eb, 7, none⟩ = some (.int .i64 4) ∧ w.cell? ⟨eb, 8, none⟩ = some (.bool false) ∧ w.cell? ⟨eb, 9, none⟩ = some (.bool false) ∧ w.cell? ⟨eb, 10, none⟩ = some (.bool true) ∧ w.cell? ⟨eb, 11, none⟩ = some (.slice none 0 0)) := by
  have a := h.ev0
  have b := h.ev1
  unfold EvAt at a b
  simp only [Nat.zero_mul, Nat.zero_add, Nat.one_mul] at a b
  exact ⟨a, b⟩
theorem boxP {w w1 : World} {bc bs eb : Nat} {T : TypeId} (hb : Below (w.alloc (.cells #[.slice (some ⟨bc, 0, none⟩) 1 1, .slice (some ⟨bs, 0, none⟩) 2 2, .slice (some ⟨eb, 0, none⟩) 2 2] T)).heap.size (w.alloc (.cells #[.slice (some ⟨bc, 0, none⟩) 1 1, .slice (some ⟨bs, 0, none⟩) 2 2, .slice (some ⟨eb, 0, none⟩) 2 2] T)) w1) :
    w1.cell? ⟨w.heap.size, 0, none⟩ = some (.slice (some ⟨bc, 0, none⟩) 1 1) ∧ w1.cell? ⟨w.heap.size, 1, none⟩ = some (.slice (some ⟨bs, 0, none⟩) 2 2) ∧ w1.cell? ⟨w.heap.size, 2, none⟩ = some (.slice (some ⟨eb, 0, none⟩) 2 2) :=
  ⟨by simpa using (keepb hb 0).1, by simpa using (keepb hb 1).1, by simpa using (keepb hb 2).1⟩

set_option maxRecDepth 100000 in
set_option maxHeartbeats 1600000 in
theorem longest_W (bc bs eb sk : Nat) (w : World) (hP : PW w bc bs eb sk) : Calls Tryd.prog 23 #[pW bc bs eb, .int .i64 0, .int .i64 1] w fun e w' => e = .returned (.int .i64 1) ∧ Below w.heap.size w w' := by
  have HP := Lib.hid hP
  have hP1 : Hid (∀ o, PW (w.alloc o) bc bs eb sk) := fun o => hP.below (ba w o)
  clear hP
  obtain ⟨_, v0, v1, v2, v3, v4, v5⟩ := (hP1.out (.cells #[.slice (some ⟨bc, 0, none⟩) 1 1, .slice (some ⟨bs, 0, none⟩) 2 2, .slice (some ⟨eb, 0, none⟩) 2 2] 37)).cells
  go_enter Tryd.func23, Tryd.ntmps23
  go_wp2_with (fail)
  refine wp_loop_rounds 2 ?_
  rw [rounds_succ]
  go_wp2_with (first
    | (go_at_call 61; refine (isRest_e1 _).mono ?_; rintro e w1 ⟨rfl, hb1⟩; obtain ⟨x0, x1, x2, x3, x4, x5⟩ := evCells (x := e1W) hb1; simp only [World.size_alloc] at x0 x1 x2 x3 x4 x5)
    | (go_at_call 62; refine (hasStop_e1 1 _).mono ?_; rintro e w2 ⟨rfl, hb2⟩))
  rw [rounds_succ]
  go_wp2_with (fail)
  go_ret
  exact ⟨rfl, bx (bx (bt hb1 hb2))⟩

end Go.Proofs.YtncgikfalimnjaaDoor

/- Piece: Check of the small piece that law 02 looks at, third part: its stop. -/
namespace Go.Proofs.YtncgikfalimnjaaDoor
open Go Go.RowKit

abbrev pO (bc bs eb : Nat) : Obj := .cells #[.slice (some ⟨bc, 0, none⟩) 1 1, .slice (some ⟨bs, 0, none⟩) 2 2, .slice (some ⟨eb, 0, none⟩) 2 2] 37
abbrev stO : Obj := .cells #[.int .i64 1, .int .i64 2, .int .i64 0, .int .i64 0, .int .i64 1] 73
theorem argsS {w w1 : World} {bc bs eb : Nat} (h : Below ((w.alloc (pO bc bs eb)).alloc stO).heap.size ((w.alloc (pO bc bs eb)).alloc stO) w1) :
    (w1.cell? ⟨w.heap.size, 0, none⟩ = some (.slice (some ⟨bc, 0, none⟩) 1 1) ∧ w1.cell? ⟨w.heap.size, 1, none⟩ = some (.slice (some ⟨bs, 0, none⟩) 2 2) ∧ w1.cell? ⟨w.heap.size, 2, none⟩ = some (.slice (some ⟨eb, 0, none⟩) 2 2)) ∧
    (w1.cell? ⟨w.heap.size + 1, 0, none⟩ = some (.int .i64 1) ∧ w1.cell? ⟨w.heap.size + 1, 1, none⟩ = some (.int .i64 2) ∧ w1.cell? ⟨w.heap.size + 1, 2, none⟩ = some (.int .i64 0) ∧ w1.cell? ⟨w.heap.size + 1, 3, none⟩ = some (.int .i64 0) ∧ w1.cell? ⟨w.heap.size + 1, 4, none⟩ = some (.int .i64 1)) ∧
    Below ((w.alloc (pO bc bs eb)).alloc stO).heap.size ((w.alloc (pO bc bs eb)).alloc stO) w1 :=
  ⟨boxP (bt (ba _ _) h), ⟨by simpa using (keepb h 0).1, by simpa using (keepb h 1).1, by simpa using (keepb h 2).1, by simpa using (keepb h 3).1, by simpa using (keepb h 4).1⟩, h⟩

set_option maxRecDepth 100000 in
set_option maxHeartbeats 1600000 in
theorem checkStop_W (bc bs eb sk : Nat) (w : World) (hP : PW w bc bs eb sk) : Calls Tryd.prog 98 #[pW bc bs eb, .int .i64 0, .int .i64 0, stW] w fun e w' => e = .returned (.int .i64 0) ∧ Below w.heap.size w w' := by
  have HP : Hid (∀ w1, Below ((w.alloc (pO bc bs eb)).alloc stO).heap.size ((w.alloc (pO bc bs eb)).alloc stO) w1 → PW w1 bc bs eb sk) := fun w1 h => (hP.below (bt (ba w _) (ba _ _))).below h
  have c1 := ((hP.below (bt (ba w (pO bc bs eb)) (ba _ stO)))).fr1
  clear hP
  go_enter Tryd.func98, Tryd.ntmps98
  go_wp2_with (fail)
  go_quiet (fail)
  have hq := bd (Below.refl ((w.alloc (pO bc bs eb)).alloc stO).heap.size ((w.alloc (pO bc bs eb)).alloc stO)) nq
  generalize ((w.alloc (pO bc bs eb)).alloc stO).drewN nq = wc at *
  clear c1
  obtain ⟨⟨p0, p1, p2⟩, ⟨q0, q1, q2, q3, q4⟩, _⟩ := argsS hq
  go_wp2_with (fail)
  go_region_held3 (fun w' => (w'.cell? ⟨w.heap.size, 0, none⟩ = some (.slice (some ⟨bc, 0, none⟩) 1 1) ∧ w'.cell? ⟨w.heap.size, 1, none⟩ = some (.slice (some ⟨bs, 0, none⟩) 2 2) ∧ w'.cell? ⟨w.heap.size, 2, none⟩ = some (.slice (some ⟨eb, 0, none⟩) 2 2)) ∧ (w'.cell? ⟨w.heap.size + 1, 0, none⟩ = some (.int .i64 1) ∧ w'.cell? ⟨w.heap.size + 1, 1, none⟩ = some (.int .i64 2) ∧ w'.cell? ⟨w.heap.size + 1, 2, none⟩ = some (.int .i64 0) ∧ w'.cell? ⟨w.heap.size + 1, 3, none⟩ = some (.int .i64 0) ∧ w'.cell? ⟨w.heap.size + 1, 4, none⟩ = some (.int .i64 1)) ∧ Below ((w.alloc (pO bc bs eb)).alloc stO).heap.size ((w.alloc (pO bc bs eb)).alloc stO) w')
    (first | exact argsS (bt hq.drew hb3) | exact argsS hq.drew)
    (first | (go_at_call 23; refine (longest_W bc bs eb sk _ (HP.out _ hq.drew)).mono ?_; rintro e w3 ⟨rfl, hb3⟩))
  have T3 := bt hq.drew hb3
  go_wp2_with (fail)
  go_ret
  exact ⟨rfl, bx (bx T3)⟩

end Go.Proofs.YtncgikfalimnjaaDoor

/- Piece: Check of the small piece that law 02 looks at, last part: its events. -/
namespace Go.Proofs.YtncgikfalimnjaaDoor
open Go Go.RowKit

set_option maxRecDepth 100000 in
set_option maxHeartbeats 1600000 in
theorem checkEvent_0 (bc bs eb sk : Nat) (w : World) (hP : PW w bc bs eb sk) : Calls Tryd.prog 57 #[pW bc bs eb, .int .i64 0] w fun e w' => e = .returned (.int .i64 0) ∧ Below w.heap.size w w' := by
  have HP : Hid (∀ w1, Below (w.alloc (pO bc bs eb)).heap.size (w.alloc (pO bc bs eb)) w1 → PW w1 bc bs eb sk) := fun w1 h => (hP.below (ba w _)).below h
  obtain ⟨⟨v0, v1, v2, v3, v4, v5⟩, _⟩ := (hP.below (ba w (pO bc bs eb))).cells
  clear hP
  go_enter Tryd.func57, Tryd.ntmps57
  go_wp2_with (first
    | (go_at_call 55; refine (validSign_any 3 false false _).mono ?_; rintro e w1 ⟨rfl, hb1⟩; rw [show (!wrB 3 false false || okB 3 false false) = true from rfl]; obtain ⟨x0, x1, x2, x3, x4, x5⟩ := evCells (x := e0W sk) hb1; simp only [World.size_alloc] at x0 x1 x2 x3 x4 x5)
    | (go_at_call 54; refine (written_any 3 false false _).mono ?_; rintro e w2 ⟨rfl, hb2⟩; rw [show wrB 3 false false = true from rfl]; obtain ⟨y0, y1, y2, y3, y4, y5⟩ := evCells (x := e0W sk) (bt hb1 hb2); simp only [World.size_alloc] at y0 y1 y2 y3 y4 y5; clear x0 x1 x2 x3 x4 x5; have T2 := bx (bt hb1 hb2); obtain ⟨s0, s1, s2, s3, s4⟩ := (HP.out _ T2).st; obtain ⟨p0, p1, p2⟩ := boxP (bt T2 (ba w2 stO))))
  refine wp_loop_rounds 2 ?_
  rw [rounds_succ]
  go_wp2_with (go_at_call 98; refine (checkStop_W bc bs eb sk _ (HP.out _ (bt T2 (ba w2 _)))).mono ?_; rintro e w3 ⟨rfl, hb3⟩; have z0 := (keepb hb3 0).1; simp at z0)
  rw [rounds_succ]
  go_wp2_with (fail)
  go_ret
  exact ⟨rfl, bx (bt T2 (bt (ba w2 _) hb3))⟩

set_option maxRecDepth 100000 in
set_option maxHeartbeats 1600000 in
theorem checkEvent_1 (bc bs eb sk : Nat) (w : World) (hP : PW w bc bs eb sk) : Calls Tryd.prog 57 #[pW bc bs eb, .int .i64 1] w fun e w' => e = .returned (.int .i64 0) ∧ Below w.heap.size w w' := by
  obtain ⟨_, v0, v1, v2, v3, v4, v5⟩ := (hP.below (ba w (pO bc bs eb))).cells
  clear hP
  go_enter Tryd.func57, Tryd.ntmps57
  go_wp2_with (go_at_call 55; refine (validSign_any 4 false false _).mono ?_; rintro e w1 ⟨rfl, hb1⟩; rw [show (!wrB 4 false false || okB 4 false false) = true from rfl]; obtain ⟨x0, x1, x2, x3, x4, x5⟩ := evCells (x := e1W) hb1; simp only [World.size_alloc] at x0 x1 x2 x3 x4 x5)
  refine wp_loop_rounds 1 ?_
  rw [rounds_succ]
  go_wp2_with (fail)
  go_ret
  exact ⟨rfl, bx (bx hb1)⟩

set_option maxRecDepth 100000 in
set_option maxHeartbeats 1600000 in
theorem check_W (bc bs eb sk : Nat) (w : World) (hP : PW w bc bs eb sk) : Calls Tryd.prog 20 #[pW bc bs eb] w fun e w' => e = .returned (.int .i64 0) ∧ Below w.heap.size w w' := by
  have HP : Hid (∀ w1, Below (w.alloc (pO bc bs eb)).heap.size (w.alloc (pO bc bs eb)) w1 → PW w1 bc bs eb sk) := fun w1 h => (hP.below (ba w _)).below h
  clear hP
  have hchk : chk [⟨60, 2, false⟩] [1, 2] = 0 := by decide
  go_enter Tryd.func20, Tryd.ntmps20
  go_wp2_with (go_at_call 56; refine (check_any (some ⟨bc, 0, none⟩) (some ⟨bs, 0, none⟩) 1 1 2 2 [⟨60, 2, false⟩] [1, 2] _ (HP.out _ (Below.refl _ _)).crs (HP.out _ (Below.refl _ _)).stp rfl rfl (by decide) (by decide)).mono ?_; rintro e w1 ⟨rfl, hb1⟩; rw [hchk]; obtain ⟨p0, p1, p2⟩ := boxP hb1)
  refine wp_loop_rounds 3 ?_
  rw [rounds_succ]
  go_wp2_with (go_at_call 57; refine (checkEvent_0 bc bs eb sk _ (HP.out _ hb1)).mono ?_; rintro e w2 ⟨rfl, hb2⟩; have T2 := bt hb1 hb2; obtain ⟨r0, r1, r2⟩ := boxP T2)
  rw [rounds_succ]
  go_wp2_with (go_at_call 57; refine (checkEvent_1 bc bs eb sk _ (HP.out _ T2)).mono ?_; rintro e w3 ⟨rfl, hb3⟩)
  rw [rounds_succ]
  go_wp2_with (fail)
  go_ret
  exact ⟨rfl, bx (bt T2 hb3)⟩

end Go.Proofs.YtncgikfalimnjaaDoor

/- Law 02's look at the chapter's examples returns true, in every world that holds the table of signs. -/
namespace Go.Proofs.YtncgikfalimnjaaDoor
open Go Go.RowKit

theorem sl_lit {w W : World} {cs : Array Value} {T : TypeId} {n size : Nat} {xs : List Value} (h : Below (w.alloc (.cells cs T)).heap.size (w.alloc (.cells cs T)) W) (hx : cs.toList = xs) (hn : xs.length = n * size) : Sl W W.heap.size size (some ⟨w.heap.size, 0, none⟩) n n xs := by
  refine ⟨Nat.le_refl _, hn, fun _ => ⟨_, _, rfl, by have := h.size; simp at this; omega, fun j u hj => ?_⟩⟩
  have := (keepb h j).1
  rw [Nat.zero_add, this, ← Array.getElem?_toList, hx]
  exact hj
theorem tm_W (sk : Nat) : ((tmL [e0W sk, e1W] 0 0 false false 0).map fun x => Value.int .i64 x.to) = [.int .i64 96, .int .i64 144] := rfl

set_option maxHeartbeats 1600000 in
theorem pw_made (w1 : World) : PW ((((((w1.alloc (.cells #[.int .i64 60, .int .i64 2, .bool false] 71)).alloc (.cells #[.int .i64 1, .int .i64 2] 3)).alloc (.cells #[.slice (some ⟨w1.heap.size, 0, none⟩) 1 1, .slice (some ⟨w1.heap.size + 1, 0, none⟩) 2 2] 34)).alloc (.cells #[.int .i64 1, .int .i64 2, .int .i64 0, .int .i64 0, .int .i64 1] 73)).alloc (.cells #[.bool false, .int .i64 3, .bool false, .bool false, .bool false, .slice (some ⟨w1.heap.size + 1 + 1 + 1, 0, none⟩) 1 1, .bool false, .int .i64 4, .bool false, .bool false, .bool true, .slice none 0 0] 62)).alloc (.cells #[.slice (some ⟨w1.heap.size, 0, none⟩) 1 1, .slice (some ⟨w1.heap.size + 1, 0, none⟩) 2 2, .slice (some ⟨w1.heap.size + 1 + 1 + 1 + 1, 0, none⟩) 2 2] 37)) w1.heap.size (w1.heap.size + 1) (w1.heap.size + 1 + 1 + 1 + 1) (w1.heap.size + 1 + 1 + 1) := by
  have b5 := ba (((((w1.alloc (.cells #[.int .i64 60, .int .i64 2, .bool false] 71)).alloc (.cells #[.int .i64 1, .int .i64 2] 3)).alloc (.cells #[.slice (some ⟨w1.heap.size, 0, none⟩) 1 1, .slice (some ⟨w1.heap.size + 1, 0, none⟩) 2 2] 34)).alloc (.cells #[.int .i64 1, .int .i64 2, .int .i64 0, .int .i64 0, .int .i64 1] 73)).alloc (.cells #[.bool false, .int .i64 3, .bool false, .bool false, .bool false, .slice (some ⟨w1.heap.size + 1 + 1 + 1, 0, none⟩) 1 1, .bool false, .int .i64 4, .bool false, .bool false, .bool true, .slice none 0 0] 62)) (.cells #[.slice (some ⟨w1.heap.size, 0, none⟩) 1 1, .slice (some ⟨w1.heap.size + 1, 0, none⟩) 2 2, .slice (some ⟨w1.heap.size + 1 + 1 + 1 + 1, 0, none⟩) 2 2] 37)
  have b4 := bt (ba ((((w1.alloc (.cells #[.int .i64 60, .int .i64 2, .bool false] 71)).alloc (.cells #[.int .i64 1, .int .i64 2] 3)).alloc (.cells #[.slice (some ⟨w1.heap.size, 0, none⟩) 1 1, .slice (some ⟨w1.heap.size + 1, 0, none⟩) 2 2] 34)).alloc (.cells #[.int .i64 1, .int .i64 2, .int .i64 0, .int .i64 0, .int .i64 1] 73)) (.cells #[.bool false, .int .i64 3, .bool false, .bool false, .bool false, .slice (some ⟨w1.heap.size + 1 + 1 + 1, 0, none⟩) 1 1, .bool false, .int .i64 4, .bool false, .bool false, .bool true, .slice none 0 0] 62)) b5
  have b3 := bt (ba (((w1.alloc (.cells #[.int .i64 60, .int .i64 2, .bool false] 71)).alloc (.cells #[.int .i64 1, .int .i64 2] 3)).alloc (.cells #[.slice (some ⟨w1.heap.size, 0, none⟩) 1 1, .slice (some ⟨w1.heap.size + 1, 0, none⟩) 2 2] 34)) (.cells #[.int .i64 1, .int .i64 2, .int .i64 0, .int .i64 0, .int .i64 1] 73)) b4
  have b2 := bt (ba ((w1.alloc (.cells #[.int .i64 60, .int .i64 2, .bool false] 71)).alloc (.cells #[.int .i64 1, .int .i64 2] 3)) (.cells #[.slice (some ⟨w1.heap.size, 0, none⟩) 1 1, .slice (some ⟨w1.heap.size + 1, 0, none⟩) 2 2] 34)) b3
  have b1 := bt (ba (w1.alloc (.cells #[.int .i64 60, .int .i64 2, .bool false] 71)) (.cells #[.int .i64 1, .int .i64 2] 3)) b2
  have hz : ((((((w1.alloc (.cells #[.int .i64 60, .int .i64 2, .bool false] 71)).alloc (.cells #[.int .i64 1, .int .i64 2] 3)).alloc (.cells #[.slice (some ⟨w1.heap.size, 0, none⟩) 1 1, .slice (some ⟨w1.heap.size + 1, 0, none⟩) 2 2] 34)).alloc (.cells #[.int .i64 1, .int .i64 2, .int .i64 0, .int .i64 0, .int .i64 1] 73)).alloc (.cells #[.bool false, .int .i64 3, .bool false, .bool false, .bool false, .slice (some ⟨w1.heap.size + 1 + 1 + 1, 0, none⟩) 1 1, .bool false, .int .i64 4, .bool false, .bool false, .bool true, .slice none 0 0] 62)).alloc (.cells #[.slice (some ⟨w1.heap.size, 0, none⟩) 1 1, .slice (some ⟨w1.heap.size + 1, 0, none⟩) 2 2, .slice (some ⟨w1.heap.size + 1 + 1 + 1 + 1, 0, none⟩) 2 2] 37)).heap.size = w1.heap.size + 6 := by simp
  have s1 := sl_lit (w := w1) (size := 3) (n := 1) b1 rfl rfl
  have s2 := sl_lit (w := (w1.alloc (.cells #[.int .i64 60, .int .i64 2, .bool false] 71))) (size := 1) (n := 2) b2 rfl rfl
  rw [show (w1.alloc (.cells #[.int .i64 60, .int .i64 2, .bool false] 71)).heap.size = w1.heap.size + 1 by simp] at s2
  refine ⟨s1, s2, by simpa using (keepb b1 1).1, ⟨by simpa using (keepb b5 0).1, by simpa using (keepb b5 1).1, by simpa using (keepb b5 2).1, by simpa using (keepb b5 3).1, by simpa using (keepb b5 4).1, by simpa using (keepb b5 5).1⟩, ⟨by simpa using (keepb b5 6).1, by simpa using (keepb b5 7).1, by simpa using (keepb b5 8).1, by simpa using (keepb b5 9).1, by simpa using (keepb b5 10).1, by simpa using (keepb b5 11).1⟩,
    ⟨by simpa using (keepb b4 0).1, by simpa using (keepb b4 1).1, by simpa using (keepb b4 2).1, by simpa using (keepb b4 3).1, by simpa using (keepb b4 4).1⟩, by omega, by omega, by omega⟩

set_option maxRecDepth 100000 in
set_option maxHeartbeats 3200000 in
theorem works2 (w : World) (hT : SgT w) : Calls Tryd.prog 16 #[] w fun e w' => e = .returned (.bool true) ∧ Below w.heap.size w w' := by
  have HT := Lib.hid hT
  clear hT
  go_enter Tryd.func16, Tryd.ntmps16
  go_wp2_with (go_at_call 17; refine (signs120 _ HT.out).mono ?_; rintro e w1 ⟨v, rfl, hr, hb1⟩; obtain ⟨g, cap, rfl⟩ := ownsRow_succ hr; have HR := Lib.hid hr; clear hr)
  have hP := pw_made w1
  have hb6 : Below w1.heap.size w1 ((((((w1.alloc (.cells #[.int .i64 60, .int .i64 2, .bool false] 71)).alloc (.cells #[.int .i64 1, .int .i64 2] 3)).alloc (.cells #[.slice (some ⟨w1.heap.size, 0, none⟩) 1 1, .slice (some ⟨w1.heap.size + 1, 0, none⟩) 2 2] 34)).alloc (.cells #[.int .i64 1, .int .i64 2, .int .i64 0, .int .i64 0, .int .i64 1] 73)).alloc (.cells #[.bool false, .int .i64 3, .bool false, .bool false, .bool false, .slice (some ⟨w1.heap.size + 1 + 1 + 1, 0, none⟩) 1 1, .bool false, .int .i64 4, .bool false, .bool false, .bool true, .slice none 0 0] 62)).alloc (.cells #[.slice (some ⟨w1.heap.size, 0, none⟩) 1 1, .slice (some ⟨w1.heap.size + 1, 0, none⟩) 2 2, .slice (some ⟨w1.heap.size + 1 + 1 + 1 + 1, 0, none⟩) 2 2] 37)) := bt (ba _ _) (bt (ba _ _) (bt (ba _ _) (bt (ba _ _) (bt (ba _ _) (ba _ _)))))
  obtain ⟨W6, hW6⟩ : ∃ W6, ((((((w1.alloc (.cells #[.int .i64 60, .int .i64 2, .bool false] 71)).alloc (.cells #[.int .i64 1, .int .i64 2] 3)).alloc (.cells #[.slice (some ⟨w1.heap.size, 0, none⟩) 1 1, .slice (some ⟨w1.heap.size + 1, 0, none⟩) 2 2] 34)).alloc (.cells #[.int .i64 1, .int .i64 2, .int .i64 0, .int .i64 0, .int .i64 1] 73)).alloc (.cells #[.bool false, .int .i64 3, .bool false, .bool false, .bool false, .slice (some ⟨w1.heap.size + 1 + 1 + 1, 0, none⟩) 1 1, .bool false, .int .i64 4, .bool false, .bool false, .bool true, .slice none 0 0] 62)).alloc (.cells #[.slice (some ⟨w1.heap.size, 0, none⟩) 1 1, .slice (some ⟨w1.heap.size + 1, 0, none⟩) 2 2, .slice (some ⟨w1.heap.size + 1 + 1 + 1 + 1, 0, none⟩) 2 2] 37)) = W6 := ⟨_, rfl⟩
  rw [hW6] at hP hb6 ⊢
  clear hW6
  refine (onsets_ok (some ⟨w1.heap.size, 0, none⟩) 1 1 (some ⟨w1.heap.size + 1, 0, none⟩) 2 2 (w1.heap.size + 1 + 1 + 1 + 1) 0 2 2 [e0W (w1.heap.size + 1 + 1 + 1), e1W] rfl (by decide) W6 hP.heb (fun k x hk => by
      match k, hk with
      | 0, hk => obtain rfl : e0W _ = x := by simpa using hk
                 exact hP.ev0
      | 1, hk => obtain rfl : e1W = x := by simpa using hk
                 exact hP.ev1)
    (fun o => check_W _ _ _ _ _ (hP.below (ba W6 o)))).mono ?_
  rintro e w3 ⟨v, rfl, hr2, hb3⟩
  rw [tm_W] at hr2
  obtain ⟨g2, cap2, rfl⟩ := ownsRow_succ hr2
  have hl := own_below HR.out (bt hb6 hb3)
  have l0 := World.ownsRow.cellAt hl 0 (by decide)
  have l1 := World.ownsRow.cellAt hl 1 (by decide)
  have l2 := World.ownsRow.cellAt hl 2 (by decide)
  have l3 := World.ownsRow.cellAt hl 3 (by decide)
  have l4 := World.ownsRow.cellAt hl 4 (by decide)
  have l5 := World.ownsRow.cellAt hl 5 (by decide)
  have m1 := World.ownsRow.cellAt hr2 1 (by decide)
  have m2 := World.ownsRow.cellAt hr2 2 (by decide)
  simp [sgL, sgv] at l0 l1 l2 l3 l4 l5 m1 m2
  clear hl hr2 hP
  go_wp2_with (fail)
  go_ret
  exact ⟨rfl, bt hb1 (bt hb6 hb3)⟩

end Go.Proofs.YtncgikfalimnjaaDoor
