/- Pieces: the first error of a stop. -/
import Derived.Test.YtdhjigaocamglaaDoorQdPcLong
import Derived.BigQuiet
import Derived.Deep.RegionHeld3
namespace Go.Proofs.YtdhjigaocamglaaDoor
open Go Go.RowKit

theorem stErr_course {C : List Cr} {P : List EvP} {k : Nat} {bf : Int} {s : St} (h : s.c < 1 ∨ (C.length : Int) < s.c) : stErr C P k bf s = 12 := by rw [stErr, if_pos h]
theorem stErr_fret {C : List Cr} {P : List EvP} {k : Nat} {bf : Int} {s : St} (h : ¬ (s.c < 1 ∨ (C.length : Int) < s.c)) (h2 : s.f < 0 ∨ (C.getD (s.c - 1).toNat z0).f < s.f) : stErr C P k bf s = 13 := by rw [stErr, if_neg h, if_pos h2]
theorem stErr_rest {C : List Cr} {P : List EvP} {k : Nat} {bf : Int} {s : St} (h : ¬ (s.c < 1 ∨ (C.length : Int) < s.c)) (h2 : ¬ (s.f < 0 ∨ (C.getD (s.c - 1).toNat z0).f < s.f)) :
    stErr C P k bf s = if s.c ≤ bf then 22 else if s.r < 0 ∨ 3 < s.r ∨ s.g < 0 ∨ 4 < s.g then 23 else if s.h < 0 ∨ (lgst P k s.c : Int) < s.h ∨ (0 < s.h ∧ s.f = 0) then 24 else 0 := by rw [stErr, if_neg h, if_neg h2]

theorem argsT {w w1 : World} {A : Option Addr} {n c : Nat} {A' : Option Addr} {m c' : Nat} {A2 : Option Addr} {q cq : Nat} {v0 v1 v2 v3 v4 : Int} (h : Below ((w.alloc (pcO A n c A' m c' A2 q cq)).alloc (.cells #[.int .i64 v0, .int .i64 v1, .int .i64 v2, .int .i64 v3, .int .i64 v4] 62)).heap.size ((w.alloc (pcO A n c A' m c' A2 q cq)).alloc (.cells #[.int .i64 v0, .int .i64 v1, .int .i64 v2, .int .i64 v3, .int .i64 v4] 62)) w1) :
    (w1.cell? ⟨w.heap.size, 0, none⟩ = some (.slice A n c) ∧ w1.cell? ⟨w.heap.size, 1, none⟩ = some (.slice A' m c') ∧ w1.cell? ⟨w.heap.size, 2, none⟩ = some (.slice A2 q cq)) ∧
    (w1.cell? ⟨w.heap.size + 1, 0, none⟩ = some (.int .i64 v0) ∧ w1.cell? ⟨w.heap.size + 1, 1, none⟩ = some (.int .i64 v1) ∧ w1.cell? ⟨w.heap.size + 1, 2, none⟩ = some (.int .i64 v2) ∧ w1.cell? ⟨w.heap.size + 1, 3, none⟩ = some (.int .i64 v3) ∧ w1.cell? ⟨w.heap.size + 1, 4, none⟩ = some (.int .i64 v4)) :=
  ⟨cell3 (bt (ba _ _) h), by have := cell5 h; simpa only [World.size_alloc] using this⟩

set_option maxRecDepth 100000 in
set_option maxHeartbeats 4000000 in
theorem checkStop_fret (b off n c : Nat) (A' : Option Addr) (m c' : Nat) (A2 : Option Addr) (q cq : Nat) (C : List Cr) (P : List EvP) (k : Nat) (bf : Int) (i : Nat) (sf sr sgr sh : Int) (w : World) (hC : Sl w w.heap.size 3 (some ⟨b, off, none⟩) n c (crC C)) (hn : n = C.length) (hnb : n ≤ 1000000) (hin : i < n)
    (hf : sf < 0 ∨ (¬ sf < 0 ∧ (C.getD i z0).f < sf)) :
    Calls Tryd.prog 85 #[pcV (some ⟨b, off, none⟩) n c A' m c' A2 q cq, .int .i64 k, .int .i64 bf, .agg #[.int .i64 ((i : Int) + 1), .int .i64 sf, .int .i64 sr, .int .i64 sgr, .int .i64 sh]] w fun e w' => e = .returned (.int .i64 (stErr C P k bf ⟨(i : Int) + 1, sf, sr, sgr, sh⟩)) ∧ Below w.heap.size w w' := by
  have hq0 := Below.refl ((w.alloc (pcO (some ⟨b, off, none⟩) n c A' m c' A2 q cq)).alloc (.cells #[.int .i64 ((i : Int) + 1), .int .i64 sf, .int .i64 sr, .int .i64 sgr, .int .i64 sh] 62)).heap.size ((w.alloc (pcO (some ⟨b, off, none⟩) n c A' m c' A2 q cq)).alloc (.cells #[.int .i64 ((i : Int) + 1), .int .i64 sf, .int .i64 sr, .int .i64 sgr, .int .i64 sh] 62))
  obtain ⟨b', off', hA, hbl, hcl⟩ := (hC.below (bt (ba w (pcO (some ⟨b, off, none⟩) n c A' m c' A2 q cq)) (ba _ (.cells #[.int .i64 ((i : Int) + 1), .int .i64 sf, .int .i64 sr, .int .i64 sgr, .int .i64 sh] 62)))).2.2 (by omega)
  injection hA with hA
  injection hA with hA1 hA2
  subst hA1 hA2
  obtain ⟨_, i1, _⟩ := crC_at C i (by omega)
  have kf := hcl _ _ i1
  rw [← Nat.add_assoc] at kf
  have hnot : ¬ ((i : Int) + 1 < 1 ∨ (C.length : Int) < (i : Int) + 1) := by omega
  have hii : (i : Int) < (n : Int) := by omega
  have hni : (n : Int) ≤ 1000000 := by omega
  have HI : Hid (((i : Int) + 1 - 1).toNat = i) := by unfold Hid; omega
  have hg1 : ¬ ((i : Int) + 1 < 1) := by omega
  have hg2 : ¬ ((n : Int) < (i : Int) + 1) := by omega
  clear hcl i1 hC
  have HX : Hid (stErr C P k bf ⟨(i : Int) + 1, sf, sr, sgr, sh⟩ = 13) := stErr_fret hnot (by dsimp only; rw [HI.out]; omega)
  clear hn hnot
  generalize (C.getD i z0).f = F at *
  rcases hf with hf | ⟨hf0, hf1⟩
  · have gf : decide (sf < 0) = true := by simpa using hf
    go_enter Tryd.func85, Tryd.ntmps85
    go_wp2_with (fail)
    go_quiet (fail)
    have hq := bd hq0 nq
    generalize ((w.alloc (pcO (some ⟨b, off, none⟩) n c A' m c' A2 q cq)).alloc (.cells #[.int .i64 ((i : Int) + 1), .int .i64 sf, .int .i64 sr, .int .i64 sgr, .int .i64 sh] 62)).drewN nq = wc at *
    obtain ⟨⟨p0, p1, p2⟩, ⟨q0, q1, q2, q3, q4⟩⟩ := argsT hq
    clear kf
    go_wp2_with (fail)
    go_ret
    exact ⟨ret_int HX.out.symm, bx (bx hq)⟩
  · have gf : decide (sf < 0) = false := by simpa using hf0
    go_enter Tryd.func85, Tryd.ntmps85
    go_wp2_with (fail)
    go_quiet (fail)
    have hq := bd hq0 nq
    generalize ((w.alloc (pcO (some ⟨b, off, none⟩) n c A' m c' A2 q cq)).alloc (.cells #[.int .i64 ((i : Int) + 1), .int .i64 sf, .int .i64 sr, .int .i64 sgr, .int .i64 sh] 62)).drewN nq = wc at *
    obtain ⟨⟨p0, p1, p2⟩, ⟨q0, q1, q2, q3, q4⟩⟩ := argsT hq
    clear kf
    go_wp2_with (fail)
    go_ret
    exact ⟨ret_int HX.out.symm, bx (bx hq)⟩

set_option maxRecDepth 100000 in
set_option maxHeartbeats 4000000 in
theorem checkStop_mark (b off n c : Nat) (A' : Option Addr) (m c' : Nat) (A2 : Option Addr) (q cq : Nat) (C : List Cr) (P : List EvP) (k : Nat) (bf : Int) (i : Nat) (sf sr sgr sh : Int) (w : World) (hC : Sl w w.heap.size 3 (some ⟨b, off, none⟩) n c (crC C)) (hn : n = C.length) (hnb : n ≤ 1000000) (hin : i < n)
    (hf0 : ¬ sf < 0) (hf1 : ¬ (C.getD i z0).f < sf) (x : Int) (hx : stErr C P k bf ⟨(i : Int) + 1, sf, sr, sgr, sh⟩ = x)
    (hm : (x = 22 ∧ (i : Int) + 1 ≤ bf) ∨ (x = 23 ∧ ¬ (i : Int) + 1 ≤ bf ∧ (sr < 0 ∨ (¬ sr < 0 ∧ 3 < sr) ∨ (¬ sr < 0 ∧ ¬ 3 < sr ∧ sgr < 0) ∨ (¬ sr < 0 ∧ ¬ 3 < sr ∧ ¬ sgr < 0 ∧ 4 < sgr)))) :
    Calls Tryd.prog 85 #[pcV (some ⟨b, off, none⟩) n c A' m c' A2 q cq, .int .i64 k, .int .i64 bf, .agg #[.int .i64 ((i : Int) + 1), .int .i64 sf, .int .i64 sr, .int .i64 sgr, .int .i64 sh]] w fun e w' => e = .returned (.int .i64 (stErr C P k bf ⟨(i : Int) + 1, sf, sr, sgr, sh⟩)) ∧ Below w.heap.size w w' := by
  have hq0 := Below.refl ((w.alloc (pcO (some ⟨b, off, none⟩) n c A' m c' A2 q cq)).alloc (.cells #[.int .i64 ((i : Int) + 1), .int .i64 sf, .int .i64 sr, .int .i64 sgr, .int .i64 sh] 62)).heap.size ((w.alloc (pcO (some ⟨b, off, none⟩) n c A' m c' A2 q cq)).alloc (.cells #[.int .i64 ((i : Int) + 1), .int .i64 sf, .int .i64 sr, .int .i64 sgr, .int .i64 sh] 62))
  obtain ⟨b', off', hA, hbl, hcl⟩ := (hC.below (bt (ba w (pcO (some ⟨b, off, none⟩) n c A' m c' A2 q cq)) (ba _ (.cells #[.int .i64 ((i : Int) + 1), .int .i64 sf, .int .i64 sr, .int .i64 sgr, .int .i64 sh] 62)))).2.2 (by omega)
  injection hA with hA
  injection hA with hA1 hA2
  subst hA1 hA2
  obtain ⟨_, i1, _⟩ := crC_at C i (by omega)
  have kf := hcl _ _ i1
  rw [← Nat.add_assoc] at kf
  have hnot : ¬ ((i : Int) + 1 < 1 ∨ (C.length : Int) < (i : Int) + 1) := by omega
  have hii : (i : Int) < (n : Int) := by omega
  have hni : (n : Int) ≤ 1000000 := by omega
  have HI : Hid (((i : Int) + 1 - 1).toNat = i) := by unfold Hid; omega
  have hg1 : ¬ ((i : Int) + 1 < 1) := by omega
  have hg2 : ¬ ((n : Int) < (i : Int) + 1) := by omega
  clear hcl i1 hC
  have HX := Lib.hid hx
  clear hn hnot hx
  generalize (C.getD i z0).f = F at *
  have gf : decide (sf < 0) = false := by simpa using hf0
  rcases hm with ⟨rfl, hm⟩ | ⟨rfl, ho, hm | ⟨hm1, hm2⟩ | ⟨hm1, hm2, hm3⟩ | ⟨hm1, hm2, hm3, hm4⟩⟩
  · go_enter Tryd.func85, Tryd.ntmps85
    go_wp2_with (fail)
    go_quiet (fail)
    have hq := bd hq0 nq
    generalize ((w.alloc (pcO (some ⟨b, off, none⟩) n c A' m c' A2 q cq)).alloc (.cells #[.int .i64 ((i : Int) + 1), .int .i64 sf, .int .i64 sr, .int .i64 sgr, .int .i64 sh] 62)).drewN nq = wc at *
    obtain ⟨⟨p0, p1, p2⟩, ⟨q0, q1, q2, q3, q4⟩⟩ := argsT hq
    clear kf
    go_wp2_with (fail)
    go_ret
    exact ⟨ret_int HX.out.symm, bx (bx hq)⟩
  · go_enter Tryd.func85, Tryd.ntmps85
    go_wp2_with (fail)
    go_quiet (fail)
    have hq := bd hq0 nq
    generalize ((w.alloc (pcO (some ⟨b, off, none⟩) n c A' m c' A2 q cq)).alloc (.cells #[.int .i64 ((i : Int) + 1), .int .i64 sf, .int .i64 sr, .int .i64 sgr, .int .i64 sh] 62)).drewN nq = wc at *
    obtain ⟨⟨p0, p1, p2⟩, ⟨q0, q1, q2, q3, q4⟩⟩ := argsT hq
    clear kf
    go_wp2_with (fail)
    go_ret
    exact ⟨ret_int HX.out.symm, bx (bx hq)⟩
  · go_enter Tryd.func85, Tryd.ntmps85
    go_wp2_with (fail)
    go_quiet (fail)
    have hq := bd hq0 nq
    generalize ((w.alloc (pcO (some ⟨b, off, none⟩) n c A' m c' A2 q cq)).alloc (.cells #[.int .i64 ((i : Int) + 1), .int .i64 sf, .int .i64 sr, .int .i64 sgr, .int .i64 sh] 62)).drewN nq = wc at *
    obtain ⟨⟨p0, p1, p2⟩, ⟨q0, q1, q2, q3, q4⟩⟩ := argsT hq
    clear kf
    go_wp2_with (fail)
    go_ret
    exact ⟨ret_int HX.out.symm, bx (bx hq)⟩
  · go_enter Tryd.func85, Tryd.ntmps85
    go_wp2_with (fail)
    go_quiet (fail)
    have hq := bd hq0 nq
    generalize ((w.alloc (pcO (some ⟨b, off, none⟩) n c A' m c' A2 q cq)).alloc (.cells #[.int .i64 ((i : Int) + 1), .int .i64 sf, .int .i64 sr, .int .i64 sgr, .int .i64 sh] 62)).drewN nq = wc at *
    obtain ⟨⟨p0, p1, p2⟩, ⟨q0, q1, q2, q3, q4⟩⟩ := argsT hq
    clear kf
    go_wp2_with (fail)
    go_ret
    exact ⟨ret_int HX.out.symm, bx (bx hq)⟩
  · go_enter Tryd.func85, Tryd.ntmps85
    go_wp2_with (fail)
    go_quiet (fail)
    have hq := bd hq0 nq
    generalize ((w.alloc (pcO (some ⟨b, off, none⟩) n c A' m c' A2 q cq)).alloc (.cells #[.int .i64 ((i : Int) + 1), .int .i64 sf, .int .i64 sr, .int .i64 sgr, .int .i64 sh] 62)).drewN nq = wc at *
    obtain ⟨⟨p0, p1, p2⟩, ⟨q0, q1, q2, q3, q4⟩⟩ := argsT hq
    clear kf
    go_wp2_with (fail)
    go_ret
    exact ⟨ret_int HX.out.symm, bx (bx hq)⟩

set_option maxRecDepth 100000 in
set_option maxHeartbeats 4000000 in
theorem checkStop_neg (b off n c : Nat) (A' : Option Addr) (m c' : Nat) (A2 : Option Addr) (q cq : Nat) (C : List Cr) (P : List EvP) (k : Nat) (bf : Int) (i : Nat) (sf sr sgr sh : Int) (w : World) (hC : Sl w w.heap.size 3 (some ⟨b, off, none⟩) n c (crC C)) (hn : n = C.length) (hnb : n ≤ 1000000) (hin : i < n)
    (hf0 : ¬ sf < 0) (hf1 : ¬ (C.getD i z0).f < sf) (ho : ¬ (i : Int) + 1 ≤ bf) (hm1 : ¬ sr < 0) (hm2 : ¬ 3 < sr) (hm3 : ¬ sgr < 0) (hm4 : ¬ 4 < sgr) (hh : sh < 0) :
    Calls Tryd.prog 85 #[pcV (some ⟨b, off, none⟩) n c A' m c' A2 q cq, .int .i64 k, .int .i64 bf, .agg #[.int .i64 ((i : Int) + 1), .int .i64 sf, .int .i64 sr, .int .i64 sgr, .int .i64 sh]] w fun e w' => e = .returned (.int .i64 (stErr C P k bf ⟨(i : Int) + 1, sf, sr, sgr, sh⟩)) ∧ Below w.heap.size w w' := by
  have hq0 := Below.refl ((w.alloc (pcO (some ⟨b, off, none⟩) n c A' m c' A2 q cq)).alloc (.cells #[.int .i64 ((i : Int) + 1), .int .i64 sf, .int .i64 sr, .int .i64 sgr, .int .i64 sh] 62)).heap.size ((w.alloc (pcO (some ⟨b, off, none⟩) n c A' m c' A2 q cq)).alloc (.cells #[.int .i64 ((i : Int) + 1), .int .i64 sf, .int .i64 sr, .int .i64 sgr, .int .i64 sh] 62))
  obtain ⟨b', off', hA, hbl, hcl⟩ := (hC.below (bt (ba w (pcO (some ⟨b, off, none⟩) n c A' m c' A2 q cq)) (ba _ (.cells #[.int .i64 ((i : Int) + 1), .int .i64 sf, .int .i64 sr, .int .i64 sgr, .int .i64 sh] 62)))).2.2 (by omega)
  injection hA with hA
  injection hA with hA1 hA2
  subst hA1 hA2
  obtain ⟨_, i1, _⟩ := crC_at C i (by omega)
  have kf := hcl _ _ i1
  rw [← Nat.add_assoc] at kf
  have hnot : ¬ ((i : Int) + 1 < 1 ∨ (C.length : Int) < (i : Int) + 1) := by omega
  have hii : (i : Int) < (n : Int) := by omega
  have hni : (n : Int) ≤ 1000000 := by omega
  have HI : Hid (((i : Int) + 1 - 1).toNat = i) := by unfold Hid; omega
  have hg1 : ¬ ((i : Int) + 1 < 1) := by omega
  have hg2 : ¬ ((n : Int) < (i : Int) + 1) := by omega
  clear hcl i1 hC
  have HX : Hid (stErr C P k bf ⟨(i : Int) + 1, sf, sr, sgr, sh⟩ = 24) := by
    unfold Hid
    rw [stErr_rest hnot (by dsimp only; rw [HI.out]; omega)]
    dsimp only
    rw [if_neg ho, if_neg (by omega)]
    rw [if_pos (.inl hh)]
  clear hn hnot
  generalize (C.getD i z0).f = F at *
  have gf : decide (sf < 0) = false := by simpa using hf0
  have gh : decide (sh < 0) = true := by simpa using hh
  go_enter Tryd.func85, Tryd.ntmps85
  go_wp2_with (fail)
  go_quiet (fail)
  have hq := bd hq0 nq
  generalize ((w.alloc (pcO (some ⟨b, off, none⟩) n c A' m c' A2 q cq)).alloc (.cells #[.int .i64 ((i : Int) + 1), .int .i64 sf, .int .i64 sr, .int .i64 sgr, .int .i64 sh] 62)).drewN nq = wc at *
  obtain ⟨⟨p0, p1, p2⟩, ⟨q0, q1, q2, q3, q4⟩⟩ := argsT hq
  clear kf
  go_wp2_with (fail)
  go_quiet (fail)
  have hq5 := bd hq nq
  generalize wc.drewN nq = wd at *
  go_wp2_with (fail)
  go_ret
  exact ⟨ret_int HX.out.symm, bx (bx hq5)⟩

set_option maxRecDepth 100000 in
set_option maxHeartbeats 4000000 in
theorem checkStop_far (b off n c : Nat) (A' : Option Addr) (m c' : Nat) (A2 : Option Addr) (q cq : Nat) (C : List Cr) (P : List EvP) (k : Nat) (bf : Int) (i : Nat) (sf sr sgr sh : Int) (w : World) (hC : Sl w w.heap.size 3 (some ⟨b, off, none⟩) n c (crC C)) (hn : n = C.length) (hnb : n ≤ 1000000) (hin : i < n)
    (hE : EsIn w A2 q cq P) (hqs : q ≤ 1000000) (hst : ∀ y ∈ P, y.L.length ≤ 1000000)
    (hf0 : ¬ sf < 0) (hf1 : ¬ (C.getD i z0).f < sf) (ho : ¬ (i : Int) + 1 ≤ bf) (hm1 : ¬ sr < 0) (hm2 : ¬ 3 < sr) (hm3 : ¬ sgr < 0) (hm4 : ¬ 4 < sgr) (hh : ¬ sh < 0) (hh1 : (lgst P k ((i : Int) + 1) : Int) < sh) :
    Calls Tryd.prog 85 #[pcV (some ⟨b, off, none⟩) n c A' m c' A2 q cq, .int .i64 k, .int .i64 bf, .agg #[.int .i64 ((i : Int) + 1), .int .i64 sf, .int .i64 sr, .int .i64 sgr, .int .i64 sh]] w fun e w' => e = .returned (.int .i64 (stErr C P k bf ⟨(i : Int) + 1, sf, sr, sgr, sh⟩)) ∧ Below w.heap.size w w' := by
  have hq0 := Below.refl ((w.alloc (pcO (some ⟨b, off, none⟩) n c A' m c' A2 q cq)).alloc (.cells #[.int .i64 ((i : Int) + 1), .int .i64 sf, .int .i64 sr, .int .i64 sgr, .int .i64 sh] 62)).heap.size ((w.alloc (pcO (some ⟨b, off, none⟩) n c A' m c' A2 q cq)).alloc (.cells #[.int .i64 ((i : Int) + 1), .int .i64 sf, .int .i64 sr, .int .i64 sgr, .int .i64 sh] 62))
  obtain ⟨b', off', hA, hbl, hcl⟩ := (hC.below (bt (ba w (pcO (some ⟨b, off, none⟩) n c A' m c' A2 q cq)) (ba _ (.cells #[.int .i64 ((i : Int) + 1), .int .i64 sf, .int .i64 sr, .int .i64 sgr, .int .i64 sh] 62)))).2.2 (by omega)
  injection hA with hA
  injection hA with hA1 hA2
  subst hA1 hA2
  obtain ⟨_, i1, _⟩ := crC_at C i (by omega)
  have kf := hcl _ _ i1
  rw [← Nat.add_assoc] at kf
  have hnot : ¬ ((i : Int) + 1 < 1 ∨ (C.length : Int) < (i : Int) + 1) := by omega
  have hii : (i : Int) < (n : Int) := by omega
  have hni : (n : Int) ≤ 1000000 := by omega
  have HI : Hid (((i : Int) + 1 - 1).toNat = i) := by unfold Hid; omega
  have hg1 : ¬ ((i : Int) + 1 < 1) := by omega
  have hg2 : ¬ ((n : Int) < (i : Int) + 1) := by omega
  clear hcl i1 hC
  have HX : Hid (stErr C P k bf ⟨(i : Int) + 1, sf, sr, sgr, sh⟩ = 24) := by
    unfold Hid
    rw [stErr_rest hnot (by dsimp only; rw [HI.out]; omega)]
    dsimp only
    rw [if_neg ho, if_neg (by omega)]
    rw [if_pos (.inr (.inl hh1))]
  have HE := Lib.hid hE
  have HST := Lib.hid hst
  have hlg := lgst_le P k ((i : Int) + 1)
  clear hE hst hn hnot
  generalize (C.getD i z0).f = F at *
  have gf : decide (sf < 0) = false := by simpa using hf0
  have gh : decide (sh < 0) = false := by simpa using hh
  have gl : decide ((lgst P k ((i : Int) + 1) : Int) < sh) = true := by simpa using hh1
  go_enter Tryd.func85, Tryd.ntmps85
  go_wp2_with (fail)
  go_quiet (fail)
  have hq := bd hq0 nq
  generalize ((w.alloc (pcO (some ⟨b, off, none⟩) n c A' m c' A2 q cq)).alloc (.cells #[.int .i64 ((i : Int) + 1), .int .i64 sf, .int .i64 sr, .int .i64 sgr, .int .i64 sh] 62)).drewN nq = wc at *
  obtain ⟨⟨p0, p1, p2⟩, ⟨q0, q1, q2, q3, q4⟩⟩ := argsT hq
  clear kf
  go_wp2_with (fail)
  refine wp_region_held_drew (S := (fun w' => (w'.cell? ⟨w.heap.size, 0, none⟩ = some (.slice (some ⟨b, off, none⟩) n c) ∧ w'.cell? ⟨w.heap.size, 1, none⟩ = some (.slice A' m c') ∧ w'.cell? ⟨w.heap.size, 2, none⟩ = some (.slice A2 q cq)) ∧ (w'.cell? ⟨w.heap.size + 1, 0, none⟩ = some (.int .i64 ((i : Int) + 1)) ∧ w'.cell? ⟨w.heap.size + 1, 1, none⟩ = some (.int .i64 sf) ∧ w'.cell? ⟨w.heap.size + 1, 2, none⟩ = some (.int .i64 sr) ∧ w'.cell? ⟨w.heap.size + 1, 3, none⟩ = some (.int .i64 sgr) ∧ w'.cell? ⟨w.heap.size + 1, 4, none⟩ = some (.int .i64 sh)))) (by kernel_rfl) (argsT hq.drew) (fun hHeld => ?_)
  change wpAnyH _ _ _ _ _ 23 #[false, false, false, false, false, false, false, false, false, false, false, false, false, false, false, false, false, false, false, false, false, false, false] _ _
  refine wpAnyH_take (i := 0) (v := ?_) rfl (by kernel_rfl) (by kernel_rfl) (by kernel_rfl) (fun _ _ _ h => h) (Or.inl ⟨by rfl, ?_⟩) (by assumption) ?_
  rotate_left
  · intro w hSw
    (try dsimp only at hSw)
    go_simp
    try with_reducible rfl
  (try simp only [Act.put, List.getElem_toArray, List.getElem_cons_zero, List.setIfInBounds_toArray, List.set_cons_zero, List.set_cons_succ])
  refine wpAnyH_take (i := 1) (v := ?_) rfl (by kernel_rfl) (by kernel_rfl) (by kernel_rfl) (fun _ _ _ h => h) (Or.inl ⟨by rfl, ?_⟩) (by assumption) ?_
  rotate_left
  · intro w hSw
    (try dsimp only at hSw)
    go_simp
    try with_reducible rfl
  (try simp only [Act.put, List.getElem_toArray, List.getElem_cons_succ, List.getElem_cons_zero, List.setIfInBounds_toArray, List.set_cons_zero, List.set_cons_succ])
  refine wpAnyH_take (i := 2) (v := ?_) rfl (by kernel_rfl) (by kernel_rfl) (by kernel_rfl) (fun _ _ _ h => h) (Or.inl ⟨by rfl, ?_⟩) (by assumption) ?_
  rotate_left
  · intro w hSw
    (try dsimp only at hSw)
    go_simp
    try with_reducible rfl
  (try simp only [Act.put, List.getElem_toArray, List.getElem_cons_succ, List.getElem_cons_zero, List.setIfInBounds_toArray, List.set_cons_zero, List.set_cons_succ])
  refine wpAnyH_take (i := 3) (v := ?_) rfl (by kernel_rfl) (by kernel_rfl) (by kernel_rfl) (fun _ _ _ h => h) (Or.inl ⟨by rfl, ?_⟩) (by assumption) ?_
  rotate_left
  · intro w hSw
    (try dsimp only at hSw)
    go_simp
    try with_reducible rfl
  (try simp only [Act.put, List.getElem_toArray, List.getElem_cons_succ, List.getElem_cons_zero, List.setIfInBounds_toArray, List.set_cons_zero, List.set_cons_succ])
  refine wpAnyH_take (i := 4) (v := ?_) rfl (by kernel_rfl) (by kernel_rfl) (by kernel_rfl) (fun _ _ _ h => h) (Or.inl ⟨by rfl, ?_⟩) (by assumption) ?_
  rotate_left
  · intro w hSw
    (try dsimp only at hSw)
    go_simp
    try with_reducible rfl
  (try simp only [Act.put, List.getElem_toArray, List.getElem_cons_succ, List.getElem_cons_zero, List.setIfInBounds_toArray, List.set_cons_zero, List.set_cons_succ])
  refine wpAnyH_take (i := 5) (v := ?_) rfl (by kernel_rfl) (by kernel_rfl) (by kernel_rfl) (fun _ _ _ h => h) (Or.inl ⟨by rfl, ?_⟩) (by assumption) ?_
  rotate_left
  · intro w hSw
    (try dsimp only at hSw)
    go_simp
    try with_reducible rfl
  (try simp only [Act.put, List.getElem_toArray, List.getElem_cons_succ, List.getElem_cons_zero, List.setIfInBounds_toArray, List.set_cons_zero, List.set_cons_succ])
  refine wpAnyH_take (i := 6) (v := ?_) rfl (by kernel_rfl) (by kernel_rfl) (by kernel_rfl) (fun _ _ _ h => h) (Or.inl ⟨by rfl, ?_⟩) (by assumption) ?_
  rotate_left
  · intro w hSw
    (try dsimp only at hSw)
    go_simp
    try with_reducible rfl
  (try simp only [Act.put, List.getElem_toArray, List.getElem_cons_succ, List.getElem_cons_zero, List.setIfInBounds_toArray, List.set_cons_zero, List.set_cons_succ])
  refine wpAnyH_take (i := 7) (v := ?_) rfl (by kernel_rfl) (by kernel_rfl) (by kernel_rfl) (fun _ _ _ h => h) (Or.inl ⟨by rfl, ?_⟩) (by assumption) ?_
  rotate_left
  · intro w hSw
    (try dsimp only at hSw)
    go_simp
    try with_reducible rfl
  (try simp only [Act.put, List.getElem_toArray, List.getElem_cons_succ, List.getElem_cons_zero, List.setIfInBounds_toArray, List.set_cons_zero, List.set_cons_succ])
  refine wpAnyH_take (i := 8) (v := ?_) rfl (by kernel_rfl) (by kernel_rfl) (by kernel_rfl) (fun _ _ _ h => h) (Or.inl ⟨by rfl, ?_⟩) (by assumption) ?_
  rotate_left
  · intro w hSw
    (try dsimp only at hSw)
    go_simp
    try with_reducible rfl
  (try simp only [Act.put, List.getElem_toArray, List.getElem_cons_succ, List.getElem_cons_zero, List.setIfInBounds_toArray, List.set_cons_zero, List.set_cons_succ])
  refine wpAnyH_take (i := 9) (v := ?_) rfl (by kernel_rfl) (by kernel_rfl) (by kernel_rfl) (fun _ _ _ h => h) (Or.inl ⟨by rfl, ?_⟩) (by assumption) ?_
  rotate_left
  · intro w hSw
    (try dsimp only at hSw)
    go_simp
    try with_reducible rfl
  (try simp only [Act.put, List.getElem_toArray, List.getElem_cons_succ, List.getElem_cons_zero, List.setIfInBounds_toArray, List.set_cons_zero, List.set_cons_succ])
  refine wpAnyH_ready (rs := [10]) (by kernel_rfl) (by simp) ?_
  refine AllReadyH.cons rfl (fun K hK => ?_) ?_
  rotate_left
  · exact AllReadyH.nil
  go_simp
  refine (longest_any _ _ _ _ _ _ A2 q cq P k ((i : Int) + 1) _ ((HE.out.below (bt (ba _ _) (ba _ _))).below hq.drew) hqs HST.out).mono ?_
  rintro e w5 ⟨rfl, hb5⟩
  go_simp
  refine hK.out _ _ ?_ (fun hHeld => ?_)
  · exact argsT (bt hq.drew hb5)
  clear hK K
  (try simp only [List.setIfInBounds_toArray, List.set_cons_zero, List.set_cons_succ])
  refine wpAnyH_take (i := 11) (v := ?_) rfl (by kernel_rfl) (by kernel_rfl) (by kernel_rfl) (fun _ _ _ h => h) (Or.inl ⟨by rfl, ?_⟩) (by assumption) ?_
  rotate_left
  · intro w hSw
    (try dsimp only at hSw)
    go_simp
    try with_reducible rfl
  (try simp only [Act.put, List.getElem_toArray, List.getElem_cons_succ, List.getElem_cons_zero, List.setIfInBounds_toArray, List.set_cons_zero, List.set_cons_succ])
  refine wpAnyH_take (i := 12) (v := ?_) rfl (by kernel_rfl) (by kernel_rfl) (by kernel_rfl) (fun _ _ _ h => h) (Or.inl ⟨by rfl, ?_⟩) (by assumption) ?_
  rotate_left
  · intro w hSw
    (try dsimp only at hSw)
    go_simp
    try with_reducible rfl
  (try simp only [Act.put, List.getElem_toArray, List.getElem_cons_succ, List.getElem_cons_zero, List.setIfInBounds_toArray, List.set_cons_zero, List.set_cons_succ])
  refine wpAnyH_take (i := 13) (v := ?_) rfl (by kernel_rfl) (by kernel_rfl) (by kernel_rfl) (fun _ _ _ h => h) (Or.inl ⟨by rfl, ?_⟩) (by assumption) ?_
  rotate_left
  · intro w hSw
    (try dsimp only at hSw)
    go_simp
    try with_reducible rfl
  (try simp only [Act.put, List.getElem_toArray, List.getElem_cons_succ, List.getElem_cons_zero, List.setIfInBounds_toArray, List.set_cons_zero, List.set_cons_succ])
  refine wpAnyH_take (i := 14) (v := undef) rfl (by kernel_rfl) (by kernel_rfl) (by kernel_rfl) (fun _ _ _ h => h) (Or.inr ⟨by rfl, rfl⟩) (by assumption) ?_
  (try simp only [Act.put, List.getElem_toArray, List.getElem_cons_succ, List.getElem_cons_zero, List.setIfInBounds_toArray, List.set_cons_zero, List.set_cons_succ])
  refine wpAnyH_take (i := 15) (v := undef) rfl (by kernel_rfl) (by kernel_rfl) (by kernel_rfl) (fun _ _ _ h => h) (Or.inr ⟨by rfl, rfl⟩) (by assumption) ?_
  (try simp only [Act.put, List.getElem_toArray, List.getElem_cons_succ, List.getElem_cons_zero, List.setIfInBounds_toArray, List.set_cons_zero, List.set_cons_succ])
  refine wpAnyH_take (i := 16) (v := undef) rfl (by kernel_rfl) (by kernel_rfl) (by kernel_rfl) (fun _ _ _ h => h) (Or.inr ⟨by rfl, rfl⟩) (by assumption) ?_
  (try simp only [Act.put, List.getElem_toArray, List.getElem_cons_succ, List.getElem_cons_zero, List.setIfInBounds_toArray, List.set_cons_zero, List.set_cons_succ])
  refine wpAnyH_take (i := 17) (v := undef) rfl (by kernel_rfl) (by kernel_rfl) (by kernel_rfl) (fun _ _ _ h => h) (Or.inr ⟨by rfl, rfl⟩) (by assumption) ?_
  (try simp only [Act.put, List.getElem_toArray, List.getElem_cons_succ, List.getElem_cons_zero, List.setIfInBounds_toArray, List.set_cons_zero, List.set_cons_succ])
  refine wpAnyH_take (i := 18) (v := undef) rfl (by kernel_rfl) (by kernel_rfl) (by kernel_rfl) (fun _ _ _ h => h) (Or.inr ⟨by rfl, rfl⟩) (by assumption) ?_
  (try simp only [Act.put, List.getElem_toArray, List.getElem_cons_succ, List.getElem_cons_zero, List.setIfInBounds_toArray, List.set_cons_zero, List.set_cons_succ])
  refine wpAnyH_take (i := 19) (v := undef) rfl (by kernel_rfl) (by kernel_rfl) (by kernel_rfl) (fun _ _ _ h => h) (Or.inr ⟨by rfl, rfl⟩) (by assumption) ?_
  (try simp only [Act.put, List.getElem_toArray, List.getElem_cons_succ, List.getElem_cons_zero, List.setIfInBounds_toArray, List.set_cons_zero, List.set_cons_succ])
  refine wpAnyH_take (i := 20) (v := undef) rfl (by kernel_rfl) (by kernel_rfl) (by kernel_rfl) (fun _ _ _ h => h) (Or.inr ⟨by rfl, rfl⟩) (by assumption) ?_
  (try simp only [Act.put, List.getElem_toArray, List.getElem_cons_succ, List.getElem_cons_zero, List.setIfInBounds_toArray, List.set_cons_zero, List.set_cons_succ])
  refine wpAnyH_take (i := 21) (v := undef) rfl (by kernel_rfl) (by kernel_rfl) (by kernel_rfl) (fun _ _ _ h => h) (Or.inr ⟨by rfl, rfl⟩) (by assumption) ?_
  (try simp only [Act.put, List.getElem_toArray, List.getElem_cons_succ, List.getElem_cons_zero, List.setIfInBounds_toArray, List.set_cons_zero, List.set_cons_succ])
  refine wpAnyH_take (i := 22) (v := ?_) rfl (by kernel_rfl) (by kernel_rfl) (by kernel_rfl) (fun _ _ _ h => h) (Or.inl ⟨by rfl, ?_⟩) (by assumption) ?_
  rotate_left
  · intro w hSw
    (try dsimp only at hSw)
    go_simp
    try with_reducible rfl
  (try simp only [Act.put, List.getElem_toArray, List.getElem_cons_succ, List.getElem_cons_zero, List.setIfInBounds_toArray, List.set_cons_zero, List.set_cons_succ])
  refine wpAnyH_done (by kernel_rfl) ?_ _
  go_wp2_with (fail)
  go_ret
  exact ⟨ret_int HX.out.symm, bx (bx (bt hq.drew hb5))⟩

set_option maxRecDepth 100000 in
set_option maxHeartbeats 4000000 in
theorem checkStop_zero (b off n c : Nat) (A' : Option Addr) (m c' : Nat) (A2 : Option Addr) (q cq : Nat) (C : List Cr) (P : List EvP) (k : Nat) (bf : Int) (i : Nat) (sf sr sgr sh : Int) (w : World) (hC : Sl w w.heap.size 3 (some ⟨b, off, none⟩) n c (crC C)) (hn : n = C.length) (hnb : n ≤ 1000000) (hin : i < n)
    (hE : EsIn w A2 q cq P) (hqs : q ≤ 1000000) (hst : ∀ y ∈ P, y.L.length ≤ 1000000)
    (hf0 : ¬ sf < 0) (hf1 : ¬ (C.getD i z0).f < sf) (ho : ¬ (i : Int) + 1 ≤ bf) (hm1 : ¬ sr < 0) (hm2 : ¬ 3 < sr) (hm3 : ¬ sgr < 0) (hm4 : ¬ 4 < sgr) (hh : ¬ sh < 0) (hh1 : ¬ (lgst P k ((i : Int) + 1) : Int) < sh) (hh2 : ¬ 0 < sh) :
    Calls Tryd.prog 85 #[pcV (some ⟨b, off, none⟩) n c A' m c' A2 q cq, .int .i64 k, .int .i64 bf, .agg #[.int .i64 ((i : Int) + 1), .int .i64 sf, .int .i64 sr, .int .i64 sgr, .int .i64 sh]] w fun e w' => e = .returned (.int .i64 (stErr C P k bf ⟨(i : Int) + 1, sf, sr, sgr, sh⟩)) ∧ Below w.heap.size w w' := by
  have hq0 := Below.refl ((w.alloc (pcO (some ⟨b, off, none⟩) n c A' m c' A2 q cq)).alloc (.cells #[.int .i64 ((i : Int) + 1), .int .i64 sf, .int .i64 sr, .int .i64 sgr, .int .i64 sh] 62)).heap.size ((w.alloc (pcO (some ⟨b, off, none⟩) n c A' m c' A2 q cq)).alloc (.cells #[.int .i64 ((i : Int) + 1), .int .i64 sf, .int .i64 sr, .int .i64 sgr, .int .i64 sh] 62))
  obtain ⟨b', off', hA, hbl, hcl⟩ := (hC.below (bt (ba w (pcO (some ⟨b, off, none⟩) n c A' m c' A2 q cq)) (ba _ (.cells #[.int .i64 ((i : Int) + 1), .int .i64 sf, .int .i64 sr, .int .i64 sgr, .int .i64 sh] 62)))).2.2 (by omega)
  injection hA with hA
  injection hA with hA1 hA2
  subst hA1 hA2
  obtain ⟨_, i1, _⟩ := crC_at C i (by omega)
  have kf := hcl _ _ i1
  rw [← Nat.add_assoc] at kf
  have hnot : ¬ ((i : Int) + 1 < 1 ∨ (C.length : Int) < (i : Int) + 1) := by omega
  have hii : (i : Int) < (n : Int) := by omega
  have hni : (n : Int) ≤ 1000000 := by omega
  have HI : Hid (((i : Int) + 1 - 1).toNat = i) := by unfold Hid; omega
  have hg1 : ¬ ((i : Int) + 1 < 1) := by omega
  have hg2 : ¬ ((n : Int) < (i : Int) + 1) := by omega
  clear hcl i1 hC
  have HX : Hid (stErr C P k bf ⟨(i : Int) + 1, sf, sr, sgr, sh⟩ = 0) := by
    unfold Hid
    rw [stErr_rest hnot (by dsimp only; rw [HI.out]; omega)]
    dsimp only
    rw [if_neg ho, if_neg (by omega)]
    rw [if_neg (by omega)]
  have HE := Lib.hid hE
  have HST := Lib.hid hst
  have hlg := lgst_le P k ((i : Int) + 1)
  clear hE hst hn hnot
  generalize (C.getD i z0).f = F at *
  have gf : decide (sf < 0) = false := by simpa using hf0
  have gh : decide (sh < 0) = false := by simpa using hh
  have gl : decide ((lgst P k ((i : Int) + 1) : Int) < sh) = false := by simpa using hh1
  have gp : decide (0 < sh) = false := by simpa using hh2
  go_enter Tryd.func85, Tryd.ntmps85
  go_wp2_with (fail)
  go_quiet (fail)
  have hq := bd hq0 nq
  generalize ((w.alloc (pcO (some ⟨b, off, none⟩) n c A' m c' A2 q cq)).alloc (.cells #[.int .i64 ((i : Int) + 1), .int .i64 sf, .int .i64 sr, .int .i64 sgr, .int .i64 sh] 62)).drewN nq = wc at *
  obtain ⟨⟨p0, p1, p2⟩, ⟨q0, q1, q2, q3, q4⟩⟩ := argsT hq
  clear kf
  go_wp2_with (fail)
  refine wp_region_held_drew (S := (fun w' => (w'.cell? ⟨w.heap.size, 0, none⟩ = some (.slice (some ⟨b, off, none⟩) n c) ∧ w'.cell? ⟨w.heap.size, 1, none⟩ = some (.slice A' m c') ∧ w'.cell? ⟨w.heap.size, 2, none⟩ = some (.slice A2 q cq)) ∧ (w'.cell? ⟨w.heap.size + 1, 0, none⟩ = some (.int .i64 ((i : Int) + 1)) ∧ w'.cell? ⟨w.heap.size + 1, 1, none⟩ = some (.int .i64 sf) ∧ w'.cell? ⟨w.heap.size + 1, 2, none⟩ = some (.int .i64 sr) ∧ w'.cell? ⟨w.heap.size + 1, 3, none⟩ = some (.int .i64 sgr) ∧ w'.cell? ⟨w.heap.size + 1, 4, none⟩ = some (.int .i64 sh)))) (by kernel_rfl) (argsT hq.drew) (fun hHeld => ?_)
  change wpAnyH _ _ _ _ _ 23 #[false, false, false, false, false, false, false, false, false, false, false, false, false, false, false, false, false, false, false, false, false, false, false] _ _
  refine wpAnyH_take (i := 0) (v := ?_) rfl (by kernel_rfl) (by kernel_rfl) (by kernel_rfl) (fun _ _ _ h => h) (Or.inl ⟨by rfl, ?_⟩) (by assumption) ?_
  rotate_left
  · intro w hSw
    (try dsimp only at hSw)
    go_simp
    try with_reducible rfl
  (try simp only [Act.put, List.getElem_toArray, List.getElem_cons_zero, List.setIfInBounds_toArray, List.set_cons_zero, List.set_cons_succ])
  refine wpAnyH_take (i := 1) (v := ?_) rfl (by kernel_rfl) (by kernel_rfl) (by kernel_rfl) (fun _ _ _ h => h) (Or.inl ⟨by rfl, ?_⟩) (by assumption) ?_
  rotate_left
  · intro w hSw
    (try dsimp only at hSw)
    go_simp
    try with_reducible rfl
  (try simp only [Act.put, List.getElem_toArray, List.getElem_cons_succ, List.getElem_cons_zero, List.setIfInBounds_toArray, List.set_cons_zero, List.set_cons_succ])
  refine wpAnyH_take (i := 2) (v := ?_) rfl (by kernel_rfl) (by kernel_rfl) (by kernel_rfl) (fun _ _ _ h => h) (Or.inl ⟨by rfl, ?_⟩) (by assumption) ?_
  rotate_left
  · intro w hSw
    (try dsimp only at hSw)
    go_simp
    try with_reducible rfl
  (try simp only [Act.put, List.getElem_toArray, List.getElem_cons_succ, List.getElem_cons_zero, List.setIfInBounds_toArray, List.set_cons_zero, List.set_cons_succ])
  refine wpAnyH_take (i := 3) (v := ?_) rfl (by kernel_rfl) (by kernel_rfl) (by kernel_rfl) (fun _ _ _ h => h) (Or.inl ⟨by rfl, ?_⟩) (by assumption) ?_
  rotate_left
  · intro w hSw
    (try dsimp only at hSw)
    go_simp
    try with_reducible rfl
  (try simp only [Act.put, List.getElem_toArray, List.getElem_cons_succ, List.getElem_cons_zero, List.setIfInBounds_toArray, List.set_cons_zero, List.set_cons_succ])
  refine wpAnyH_take (i := 4) (v := ?_) rfl (by kernel_rfl) (by kernel_rfl) (by kernel_rfl) (fun _ _ _ h => h) (Or.inl ⟨by rfl, ?_⟩) (by assumption) ?_
  rotate_left
  · intro w hSw
    (try dsimp only at hSw)
    go_simp
    try with_reducible rfl
  (try simp only [Act.put, List.getElem_toArray, List.getElem_cons_succ, List.getElem_cons_zero, List.setIfInBounds_toArray, List.set_cons_zero, List.set_cons_succ])
  refine wpAnyH_take (i := 5) (v := ?_) rfl (by kernel_rfl) (by kernel_rfl) (by kernel_rfl) (fun _ _ _ h => h) (Or.inl ⟨by rfl, ?_⟩) (by assumption) ?_
  rotate_left
  · intro w hSw
    (try dsimp only at hSw)
    go_simp
    try with_reducible rfl
  (try simp only [Act.put, List.getElem_toArray, List.getElem_cons_succ, List.getElem_cons_zero, List.setIfInBounds_toArray, List.set_cons_zero, List.set_cons_succ])
  refine wpAnyH_take (i := 6) (v := ?_) rfl (by kernel_rfl) (by kernel_rfl) (by kernel_rfl) (fun _ _ _ h => h) (Or.inl ⟨by rfl, ?_⟩) (by assumption) ?_
  rotate_left
  · intro w hSw
    (try dsimp only at hSw)
    go_simp
    try with_reducible rfl
  (try simp only [Act.put, List.getElem_toArray, List.getElem_cons_succ, List.getElem_cons_zero, List.setIfInBounds_toArray, List.set_cons_zero, List.set_cons_succ])
  refine wpAnyH_take (i := 7) (v := ?_) rfl (by kernel_rfl) (by kernel_rfl) (by kernel_rfl) (fun _ _ _ h => h) (Or.inl ⟨by rfl, ?_⟩) (by assumption) ?_
  rotate_left
  · intro w hSw
    (try dsimp only at hSw)
    go_simp
    try with_reducible rfl
  (try simp only [Act.put, List.getElem_toArray, List.getElem_cons_succ, List.getElem_cons_zero, List.setIfInBounds_toArray, List.set_cons_zero, List.set_cons_succ])
  refine wpAnyH_take (i := 8) (v := ?_) rfl (by kernel_rfl) (by kernel_rfl) (by kernel_rfl) (fun _ _ _ h => h) (Or.inl ⟨by rfl, ?_⟩) (by assumption) ?_
  rotate_left
  · intro w hSw
    (try dsimp only at hSw)
    go_simp
    try with_reducible rfl
  (try simp only [Act.put, List.getElem_toArray, List.getElem_cons_succ, List.getElem_cons_zero, List.setIfInBounds_toArray, List.set_cons_zero, List.set_cons_succ])
  refine wpAnyH_take (i := 9) (v := ?_) rfl (by kernel_rfl) (by kernel_rfl) (by kernel_rfl) (fun _ _ _ h => h) (Or.inl ⟨by rfl, ?_⟩) (by assumption) ?_
  rotate_left
  · intro w hSw
    (try dsimp only at hSw)
    go_simp
    try with_reducible rfl
  (try simp only [Act.put, List.getElem_toArray, List.getElem_cons_succ, List.getElem_cons_zero, List.setIfInBounds_toArray, List.set_cons_zero, List.set_cons_succ])
  refine wpAnyH_ready (rs := [10]) (by kernel_rfl) (by simp) ?_
  refine AllReadyH.cons rfl (fun K hK => ?_) ?_
  rotate_left
  · exact AllReadyH.nil
  go_simp
  refine (longest_any _ _ _ _ _ _ A2 q cq P k ((i : Int) + 1) _ ((HE.out.below (bt (ba _ _) (ba _ _))).below hq.drew) hqs HST.out).mono ?_
  rintro e w5 ⟨rfl, hb5⟩
  go_simp
  refine hK.out _ _ ?_ (fun hHeld => ?_)
  · exact argsT (bt hq.drew hb5)
  clear hK K
  (try simp only [List.setIfInBounds_toArray, List.set_cons_zero, List.set_cons_succ])
  refine wpAnyH_take (i := 11) (v := ?_) rfl (by kernel_rfl) (by kernel_rfl) (by kernel_rfl) (fun _ _ _ h => h) (Or.inl ⟨by rfl, ?_⟩) (by assumption) ?_
  rotate_left
  · intro w hSw
    (try dsimp only at hSw)
    go_simp
    try with_reducible rfl
  (try simp only [Act.put, List.getElem_toArray, List.getElem_cons_succ, List.getElem_cons_zero, List.setIfInBounds_toArray, List.set_cons_zero, List.set_cons_succ])
  refine wpAnyH_take (i := 12) (v := ?_) rfl (by kernel_rfl) (by kernel_rfl) (by kernel_rfl) (fun _ _ _ h => h) (Or.inl ⟨by rfl, ?_⟩) (by assumption) ?_
  rotate_left
  · intro w hSw
    (try dsimp only at hSw)
    go_simp
    try with_reducible rfl
  (try simp only [Act.put, List.getElem_toArray, List.getElem_cons_succ, List.getElem_cons_zero, List.setIfInBounds_toArray, List.set_cons_zero, List.set_cons_succ])
  refine wpAnyH_take (i := 13) (v := ?_) rfl (by kernel_rfl) (by kernel_rfl) (by kernel_rfl) (fun _ _ _ h => h) (Or.inl ⟨by rfl, ?_⟩) (by assumption) ?_
  rotate_left
  · intro w hSw
    (try dsimp only at hSw)
    go_simp
    try with_reducible rfl
  (try simp only [Act.put, List.getElem_toArray, List.getElem_cons_succ, List.getElem_cons_zero, List.setIfInBounds_toArray, List.set_cons_zero, List.set_cons_succ])
  refine wpAnyH_take (i := 14) (v := ?_) rfl (by kernel_rfl) (by kernel_rfl) (by kernel_rfl) (fun _ _ _ h => h) (Or.inl ⟨by rfl, ?_⟩) (by assumption) ?_
  rotate_left
  · intro w hSw
    (try dsimp only at hSw)
    go_simp
    try with_reducible rfl
  (try simp only [Act.put, List.getElem_toArray, List.getElem_cons_succ, List.getElem_cons_zero, List.setIfInBounds_toArray, List.set_cons_zero, List.set_cons_succ])
  refine wpAnyH_take (i := 15) (v := ?_) rfl (by kernel_rfl) (by kernel_rfl) (by kernel_rfl) (fun _ _ _ h => h) (Or.inl ⟨by rfl, ?_⟩) (by assumption) ?_
  rotate_left
  · intro w hSw
    (try dsimp only at hSw)
    go_simp
    try with_reducible rfl
  (try simp only [Act.put, List.getElem_toArray, List.getElem_cons_succ, List.getElem_cons_zero, List.setIfInBounds_toArray, List.set_cons_zero, List.set_cons_succ])
  refine wpAnyH_take (i := 16) (v := ?_) rfl (by kernel_rfl) (by kernel_rfl) (by kernel_rfl) (fun _ _ _ h => h) (Or.inl ⟨by rfl, ?_⟩) (by assumption) ?_
  rotate_left
  · intro w hSw
    (try dsimp only at hSw)
    go_simp
    try with_reducible rfl
  (try simp only [Act.put, List.getElem_toArray, List.getElem_cons_succ, List.getElem_cons_zero, List.setIfInBounds_toArray, List.set_cons_zero, List.set_cons_succ])
  refine wpAnyH_take (i := 17) (v := ?_) rfl (by kernel_rfl) (by kernel_rfl) (by kernel_rfl) (fun _ _ _ h => h) (Or.inl ⟨by rfl, ?_⟩) (by assumption) ?_
  rotate_left
  · intro w hSw
    (try dsimp only at hSw)
    go_simp
    try with_reducible rfl
  (try simp only [Act.put, List.getElem_toArray, List.getElem_cons_succ, List.getElem_cons_zero, List.setIfInBounds_toArray, List.set_cons_zero, List.set_cons_succ])
  refine wpAnyH_take (i := 18) (v := undef) rfl (by kernel_rfl) (by kernel_rfl) (by kernel_rfl) (fun _ _ _ h => h) (Or.inr ⟨by rfl, rfl⟩) (by assumption) ?_
  (try simp only [Act.put, List.getElem_toArray, List.getElem_cons_succ, List.getElem_cons_zero, List.setIfInBounds_toArray, List.set_cons_zero, List.set_cons_succ])
  refine wpAnyH_take (i := 19) (v := undef) rfl (by kernel_rfl) (by kernel_rfl) (by kernel_rfl) (fun _ _ _ h => h) (Or.inr ⟨by rfl, rfl⟩) (by assumption) ?_
  (try simp only [Act.put, List.getElem_toArray, List.getElem_cons_succ, List.getElem_cons_zero, List.setIfInBounds_toArray, List.set_cons_zero, List.set_cons_succ])
  refine wpAnyH_take (i := 20) (v := undef) rfl (by kernel_rfl) (by kernel_rfl) (by kernel_rfl) (fun _ _ _ h => h) (Or.inr ⟨by rfl, rfl⟩) (by assumption) ?_
  (try simp only [Act.put, List.getElem_toArray, List.getElem_cons_succ, List.getElem_cons_zero, List.setIfInBounds_toArray, List.set_cons_zero, List.set_cons_succ])
  refine wpAnyH_take (i := 21) (v := ?_) rfl (by kernel_rfl) (by kernel_rfl) (by kernel_rfl) (fun _ _ _ h => h) (Or.inl ⟨by rfl, ?_⟩) (by assumption) ?_
  rotate_left
  · intro w hSw
    (try dsimp only at hSw)
    go_simp
    try with_reducible rfl
  (try simp only [Act.put, List.getElem_toArray, List.getElem_cons_succ, List.getElem_cons_zero, List.setIfInBounds_toArray, List.set_cons_zero, List.set_cons_succ])
  refine wpAnyH_take (i := 22) (v := ?_) rfl (by kernel_rfl) (by kernel_rfl) (by kernel_rfl) (fun _ _ _ h => h) (Or.inl ⟨by rfl, ?_⟩) (by assumption) ?_
  rotate_left
  · intro w hSw
    (try dsimp only at hSw)
    go_simp
    try with_reducible rfl
  (try simp only [Act.put, List.getElem_toArray, List.getElem_cons_succ, List.getElem_cons_zero, List.setIfInBounds_toArray, List.set_cons_zero, List.set_cons_succ])
  refine wpAnyH_done (by kernel_rfl) ?_ _
  go_wp2_with (fail)
  go_ret
  exact ⟨ret_int HX.out.symm, bx (bx (bt hq.drew hb5))⟩

set_option maxRecDepth 100000 in
set_option maxHeartbeats 4000000 in
theorem checkStop_held (b off n c : Nat) (A' : Option Addr) (m c' : Nat) (A2 : Option Addr) (q cq : Nat) (C : List Cr) (P : List EvP) (k : Nat) (bf : Int) (i : Nat) (sf sr sgr sh : Int) (w : World) (hC : Sl w w.heap.size 3 (some ⟨b, off, none⟩) n c (crC C)) (hn : n = C.length) (hnb : n ≤ 1000000) (hin : i < n)
    (hE : EsIn w A2 q cq P) (hqs : q ≤ 1000000) (hst : ∀ y ∈ P, y.L.length ≤ 1000000)
    (hf0 : ¬ sf < 0) (hf1 : ¬ (C.getD i z0).f < sf) (ho : ¬ (i : Int) + 1 ≤ bf) (hm1 : ¬ sr < 0) (hm2 : ¬ 3 < sr) (hm3 : ¬ sgr < 0) (hm4 : ¬ 4 < sgr) (hh : ¬ sh < 0) (hh1 : ¬ (lgst P k ((i : Int) + 1) : Int) < sh) (hh2 : 0 < sh) (hh3 : ¬ sf = 0) :
    Calls Tryd.prog 85 #[pcV (some ⟨b, off, none⟩) n c A' m c' A2 q cq, .int .i64 k, .int .i64 bf, .agg #[.int .i64 ((i : Int) + 1), .int .i64 sf, .int .i64 sr, .int .i64 sgr, .int .i64 sh]] w fun e w' => e = .returned (.int .i64 (stErr C P k bf ⟨(i : Int) + 1, sf, sr, sgr, sh⟩)) ∧ Below w.heap.size w w' := by
  have hq0 := Below.refl ((w.alloc (pcO (some ⟨b, off, none⟩) n c A' m c' A2 q cq)).alloc (.cells #[.int .i64 ((i : Int) + 1), .int .i64 sf, .int .i64 sr, .int .i64 sgr, .int .i64 sh] 62)).heap.size ((w.alloc (pcO (some ⟨b, off, none⟩) n c A' m c' A2 q cq)).alloc (.cells #[.int .i64 ((i : Int) + 1), .int .i64 sf, .int .i64 sr, .int .i64 sgr, .int .i64 sh] 62))
  obtain ⟨b', off', hA, hbl, hcl⟩ := (hC.below (bt (ba w (pcO (some ⟨b, off, none⟩) n c A' m c' A2 q cq)) (ba _ (.cells #[.int .i64 ((i : Int) + 1), .int .i64 sf, .int .i64 sr, .int .i64 sgr, .int .i64 sh] 62)))).2.2 (by omega)
  injection hA with hA
  injection hA with hA1 hA2
  subst hA1 hA2
  obtain ⟨_, i1, _⟩ := crC_at C i (by omega)
  have kf := hcl _ _ i1
  rw [← Nat.add_assoc] at kf
  have hnot : ¬ ((i : Int) + 1 < 1 ∨ (C.length : Int) < (i : Int) + 1) := by omega
  have hii : (i : Int) < (n : Int) := by omega
  have hni : (n : Int) ≤ 1000000 := by omega
  have HI : Hid (((i : Int) + 1 - 1).toNat = i) := by unfold Hid; omega
  have hg1 : ¬ ((i : Int) + 1 < 1) := by omega
  have hg2 : ¬ ((n : Int) < (i : Int) + 1) := by omega
  clear hcl i1 hC
  have HX : Hid (stErr C P k bf ⟨(i : Int) + 1, sf, sr, sgr, sh⟩ = 0) := by
    unfold Hid
    rw [stErr_rest hnot (by dsimp only; rw [HI.out]; omega)]
    dsimp only
    rw [if_neg ho, if_neg (by omega)]
    rw [if_neg (by omega)]
  have HE := Lib.hid hE
  have HST := Lib.hid hst
  have hlg := lgst_le P k ((i : Int) + 1)
  clear hE hst hn hnot
  generalize (C.getD i z0).f = F at *
  have gf : decide (sf < 0) = false := by simpa using hf0
  have gh : decide (sh < 0) = false := by simpa using hh
  have gl : decide ((lgst P k ((i : Int) + 1) : Int) < sh) = false := by simpa using hh1
  have gp : decide (0 < sh) = true := by simpa using hh2
  have gz : (sf == 0) = false := by simpa using hh3
  go_enter Tryd.func85, Tryd.ntmps85
  go_wp2_with (fail)
  go_quiet (fail)
  have hq := bd hq0 nq
  generalize ((w.alloc (pcO (some ⟨b, off, none⟩) n c A' m c' A2 q cq)).alloc (.cells #[.int .i64 ((i : Int) + 1), .int .i64 sf, .int .i64 sr, .int .i64 sgr, .int .i64 sh] 62)).drewN nq = wc at *
  obtain ⟨⟨p0, p1, p2⟩, ⟨q0, q1, q2, q3, q4⟩⟩ := argsT hq
  clear kf
  go_wp2_with (fail)
  refine wp_region_held_drew (S := (fun w' => (w'.cell? ⟨w.heap.size, 0, none⟩ = some (.slice (some ⟨b, off, none⟩) n c) ∧ w'.cell? ⟨w.heap.size, 1, none⟩ = some (.slice A' m c') ∧ w'.cell? ⟨w.heap.size, 2, none⟩ = some (.slice A2 q cq)) ∧ (w'.cell? ⟨w.heap.size + 1, 0, none⟩ = some (.int .i64 ((i : Int) + 1)) ∧ w'.cell? ⟨w.heap.size + 1, 1, none⟩ = some (.int .i64 sf) ∧ w'.cell? ⟨w.heap.size + 1, 2, none⟩ = some (.int .i64 sr) ∧ w'.cell? ⟨w.heap.size + 1, 3, none⟩ = some (.int .i64 sgr) ∧ w'.cell? ⟨w.heap.size + 1, 4, none⟩ = some (.int .i64 sh)))) (by kernel_rfl) (argsT hq.drew) (fun hHeld => ?_)
  change wpAnyH _ _ _ _ _ 23 #[false, false, false, false, false, false, false, false, false, false, false, false, false, false, false, false, false, false, false, false, false, false, false] _ _
  refine wpAnyH_take (i := 0) (v := ?_) rfl (by kernel_rfl) (by kernel_rfl) (by kernel_rfl) (fun _ _ _ h => h) (Or.inl ⟨by rfl, ?_⟩) (by assumption) ?_
  rotate_left
  · intro w hSw
    (try dsimp only at hSw)
    go_simp
    try with_reducible rfl
  (try simp only [Act.put, List.getElem_toArray, List.getElem_cons_zero, List.setIfInBounds_toArray, List.set_cons_zero, List.set_cons_succ])
  refine wpAnyH_take (i := 1) (v := ?_) rfl (by kernel_rfl) (by kernel_rfl) (by kernel_rfl) (fun _ _ _ h => h) (Or.inl ⟨by rfl, ?_⟩) (by assumption) ?_
  rotate_left
  · intro w hSw
    (try dsimp only at hSw)
    go_simp
    try with_reducible rfl
  (try simp only [Act.put, List.getElem_toArray, List.getElem_cons_succ, List.getElem_cons_zero, List.setIfInBounds_toArray, List.set_cons_zero, List.set_cons_succ])
  refine wpAnyH_take (i := 2) (v := ?_) rfl (by kernel_rfl) (by kernel_rfl) (by kernel_rfl) (fun _ _ _ h => h) (Or.inl ⟨by rfl, ?_⟩) (by assumption) ?_
  rotate_left
  · intro w hSw
    (try dsimp only at hSw)
    go_simp
    try with_reducible rfl
  (try simp only [Act.put, List.getElem_toArray, List.getElem_cons_succ, List.getElem_cons_zero, List.setIfInBounds_toArray, List.set_cons_zero, List.set_cons_succ])
  refine wpAnyH_take (i := 3) (v := ?_) rfl (by kernel_rfl) (by kernel_rfl) (by kernel_rfl) (fun _ _ _ h => h) (Or.inl ⟨by rfl, ?_⟩) (by assumption) ?_
  rotate_left
  · intro w hSw
    (try dsimp only at hSw)
    go_simp
    try with_reducible rfl
  (try simp only [Act.put, List.getElem_toArray, List.getElem_cons_succ, List.getElem_cons_zero, List.setIfInBounds_toArray, List.set_cons_zero, List.set_cons_succ])
  refine wpAnyH_take (i := 4) (v := ?_) rfl (by kernel_rfl) (by kernel_rfl) (by kernel_rfl) (fun _ _ _ h => h) (Or.inl ⟨by rfl, ?_⟩) (by assumption) ?_
  rotate_left
  · intro w hSw
    (try dsimp only at hSw)
    go_simp
    try with_reducible rfl
  (try simp only [Act.put, List.getElem_toArray, List.getElem_cons_succ, List.getElem_cons_zero, List.setIfInBounds_toArray, List.set_cons_zero, List.set_cons_succ])
  refine wpAnyH_take (i := 5) (v := ?_) rfl (by kernel_rfl) (by kernel_rfl) (by kernel_rfl) (fun _ _ _ h => h) (Or.inl ⟨by rfl, ?_⟩) (by assumption) ?_
  rotate_left
  · intro w hSw
    (try dsimp only at hSw)
    go_simp
    try with_reducible rfl
  (try simp only [Act.put, List.getElem_toArray, List.getElem_cons_succ, List.getElem_cons_zero, List.setIfInBounds_toArray, List.set_cons_zero, List.set_cons_succ])
  refine wpAnyH_take (i := 6) (v := ?_) rfl (by kernel_rfl) (by kernel_rfl) (by kernel_rfl) (fun _ _ _ h => h) (Or.inl ⟨by rfl, ?_⟩) (by assumption) ?_
  rotate_left
  · intro w hSw
    (try dsimp only at hSw)
    go_simp
    try with_reducible rfl
  (try simp only [Act.put, List.getElem_toArray, List.getElem_cons_succ, List.getElem_cons_zero, List.setIfInBounds_toArray, List.set_cons_zero, List.set_cons_succ])
  refine wpAnyH_take (i := 7) (v := ?_) rfl (by kernel_rfl) (by kernel_rfl) (by kernel_rfl) (fun _ _ _ h => h) (Or.inl ⟨by rfl, ?_⟩) (by assumption) ?_
  rotate_left
  · intro w hSw
    (try dsimp only at hSw)
    go_simp
    try with_reducible rfl
  (try simp only [Act.put, List.getElem_toArray, List.getElem_cons_succ, List.getElem_cons_zero, List.setIfInBounds_toArray, List.set_cons_zero, List.set_cons_succ])
  refine wpAnyH_take (i := 8) (v := ?_) rfl (by kernel_rfl) (by kernel_rfl) (by kernel_rfl) (fun _ _ _ h => h) (Or.inl ⟨by rfl, ?_⟩) (by assumption) ?_
  rotate_left
  · intro w hSw
    (try dsimp only at hSw)
    go_simp
    try with_reducible rfl
  (try simp only [Act.put, List.getElem_toArray, List.getElem_cons_succ, List.getElem_cons_zero, List.setIfInBounds_toArray, List.set_cons_zero, List.set_cons_succ])
  refine wpAnyH_take (i := 9) (v := ?_) rfl (by kernel_rfl) (by kernel_rfl) (by kernel_rfl) (fun _ _ _ h => h) (Or.inl ⟨by rfl, ?_⟩) (by assumption) ?_
  rotate_left
  · intro w hSw
    (try dsimp only at hSw)
    go_simp
    try with_reducible rfl
  (try simp only [Act.put, List.getElem_toArray, List.getElem_cons_succ, List.getElem_cons_zero, List.setIfInBounds_toArray, List.set_cons_zero, List.set_cons_succ])
  refine wpAnyH_ready (rs := [10]) (by kernel_rfl) (by simp) ?_
  refine AllReadyH.cons rfl (fun K hK => ?_) ?_
  rotate_left
  · exact AllReadyH.nil
  go_simp
  refine (longest_any _ _ _ _ _ _ A2 q cq P k ((i : Int) + 1) _ ((HE.out.below (bt (ba _ _) (ba _ _))).below hq.drew) hqs HST.out).mono ?_
  rintro e w5 ⟨rfl, hb5⟩
  go_simp
  refine hK.out _ _ ?_ (fun hHeld => ?_)
  · exact argsT (bt hq.drew hb5)
  clear hK K
  (try simp only [List.setIfInBounds_toArray, List.set_cons_zero, List.set_cons_succ])
  refine wpAnyH_take (i := 11) (v := ?_) rfl (by kernel_rfl) (by kernel_rfl) (by kernel_rfl) (fun _ _ _ h => h) (Or.inl ⟨by rfl, ?_⟩) (by assumption) ?_
  rotate_left
  · intro w hSw
    (try dsimp only at hSw)
    go_simp
    try with_reducible rfl
  (try simp only [Act.put, List.getElem_toArray, List.getElem_cons_succ, List.getElem_cons_zero, List.setIfInBounds_toArray, List.set_cons_zero, List.set_cons_succ])
  refine wpAnyH_take (i := 12) (v := ?_) rfl (by kernel_rfl) (by kernel_rfl) (by kernel_rfl) (fun _ _ _ h => h) (Or.inl ⟨by rfl, ?_⟩) (by assumption) ?_
  rotate_left
  · intro w hSw
    (try dsimp only at hSw)
    go_simp
    try with_reducible rfl
  (try simp only [Act.put, List.getElem_toArray, List.getElem_cons_succ, List.getElem_cons_zero, List.setIfInBounds_toArray, List.set_cons_zero, List.set_cons_succ])
  refine wpAnyH_take (i := 13) (v := ?_) rfl (by kernel_rfl) (by kernel_rfl) (by kernel_rfl) (fun _ _ _ h => h) (Or.inl ⟨by rfl, ?_⟩) (by assumption) ?_
  rotate_left
  · intro w hSw
    (try dsimp only at hSw)
    go_simp
    try with_reducible rfl
  (try simp only [Act.put, List.getElem_toArray, List.getElem_cons_succ, List.getElem_cons_zero, List.setIfInBounds_toArray, List.set_cons_zero, List.set_cons_succ])
  refine wpAnyH_take (i := 14) (v := ?_) rfl (by kernel_rfl) (by kernel_rfl) (by kernel_rfl) (fun _ _ _ h => h) (Or.inl ⟨by rfl, ?_⟩) (by assumption) ?_
  rotate_left
  · intro w hSw
    (try dsimp only at hSw)
    go_simp
    try with_reducible rfl
  (try simp only [Act.put, List.getElem_toArray, List.getElem_cons_succ, List.getElem_cons_zero, List.setIfInBounds_toArray, List.set_cons_zero, List.set_cons_succ])
  refine wpAnyH_take (i := 15) (v := ?_) rfl (by kernel_rfl) (by kernel_rfl) (by kernel_rfl) (fun _ _ _ h => h) (Or.inl ⟨by rfl, ?_⟩) (by assumption) ?_
  rotate_left
  · intro w hSw
    (try dsimp only at hSw)
    go_simp
    try with_reducible rfl
  (try simp only [Act.put, List.getElem_toArray, List.getElem_cons_succ, List.getElem_cons_zero, List.setIfInBounds_toArray, List.set_cons_zero, List.set_cons_succ])
  refine wpAnyH_take (i := 16) (v := ?_) rfl (by kernel_rfl) (by kernel_rfl) (by kernel_rfl) (fun _ _ _ h => h) (Or.inl ⟨by rfl, ?_⟩) (by assumption) ?_
  rotate_left
  · intro w hSw
    (try dsimp only at hSw)
    go_simp
    try with_reducible rfl
  (try simp only [Act.put, List.getElem_toArray, List.getElem_cons_succ, List.getElem_cons_zero, List.setIfInBounds_toArray, List.set_cons_zero, List.set_cons_succ])
  refine wpAnyH_take (i := 17) (v := ?_) rfl (by kernel_rfl) (by kernel_rfl) (by kernel_rfl) (fun _ _ _ h => h) (Or.inl ⟨by rfl, ?_⟩) (by assumption) ?_
  rotate_left
  · intro w hSw
    (try dsimp only at hSw)
    go_simp
    try with_reducible rfl
  (try simp only [Act.put, List.getElem_toArray, List.getElem_cons_succ, List.getElem_cons_zero, List.setIfInBounds_toArray, List.set_cons_zero, List.set_cons_succ])
  refine wpAnyH_take (i := 18) (v := ?_) rfl (by kernel_rfl) (by kernel_rfl) (by kernel_rfl) (fun _ _ _ h => h) (Or.inl ⟨by rfl, ?_⟩) (by assumption) ?_
  rotate_left
  · intro w hSw
    (try dsimp only at hSw)
    go_simp
    try with_reducible rfl
  (try simp only [Act.put, List.getElem_toArray, List.getElem_cons_succ, List.getElem_cons_zero, List.setIfInBounds_toArray, List.set_cons_zero, List.set_cons_succ])
  refine wpAnyH_take (i := 19) (v := ?_) rfl (by kernel_rfl) (by kernel_rfl) (by kernel_rfl) (fun _ _ _ h => h) (Or.inl ⟨by rfl, ?_⟩) (by assumption) ?_
  rotate_left
  · intro w hSw
    (try dsimp only at hSw)
    go_simp
    try with_reducible rfl
  (try simp only [Act.put, List.getElem_toArray, List.getElem_cons_succ, List.getElem_cons_zero, List.setIfInBounds_toArray, List.set_cons_zero, List.set_cons_succ])
  refine wpAnyH_take (i := 20) (v := ?_) rfl (by kernel_rfl) (by kernel_rfl) (by kernel_rfl) (fun _ _ _ h => h) (Or.inl ⟨by rfl, ?_⟩) (by assumption) ?_
  rotate_left
  · intro w hSw
    (try dsimp only at hSw)
    go_simp
    try with_reducible rfl
  (try simp only [Act.put, List.getElem_toArray, List.getElem_cons_succ, List.getElem_cons_zero, List.setIfInBounds_toArray, List.set_cons_zero, List.set_cons_succ])
  refine wpAnyH_take (i := 21) (v := ?_) rfl (by kernel_rfl) (by kernel_rfl) (by kernel_rfl) (fun _ _ _ h => h) (Or.inl ⟨by rfl, ?_⟩) (by assumption) ?_
  rotate_left
  · intro w hSw
    (try dsimp only at hSw)
    go_simp
    try with_reducible rfl
  (try simp only [Act.put, List.getElem_toArray, List.getElem_cons_succ, List.getElem_cons_zero, List.setIfInBounds_toArray, List.set_cons_zero, List.set_cons_succ])
  refine wpAnyH_take (i := 22) (v := ?_) rfl (by kernel_rfl) (by kernel_rfl) (by kernel_rfl) (fun _ _ _ h => h) (Or.inl ⟨by rfl, ?_⟩) (by assumption) ?_
  rotate_left
  · intro w hSw
    (try dsimp only at hSw)
    go_simp
    try with_reducible rfl
  (try simp only [Act.put, List.getElem_toArray, List.getElem_cons_succ, List.getElem_cons_zero, List.setIfInBounds_toArray, List.set_cons_zero, List.set_cons_succ])
  refine wpAnyH_done (by kernel_rfl) ?_ _
  go_wp2_with (fail)
  go_ret
  exact ⟨ret_int HX.out.symm, bx (bx (bt hq.drew hb5))⟩

set_option maxRecDepth 100000 in
set_option maxHeartbeats 4000000 in
theorem checkStop_open (b off n c : Nat) (A' : Option Addr) (m c' : Nat) (A2 : Option Addr) (q cq : Nat) (C : List Cr) (P : List EvP) (k : Nat) (bf : Int) (i : Nat) (sf sr sgr sh : Int) (w : World) (hC : Sl w w.heap.size 3 (some ⟨b, off, none⟩) n c (crC C)) (hn : n = C.length) (hnb : n ≤ 1000000) (hin : i < n)
    (hE : EsIn w A2 q cq P) (hqs : q ≤ 1000000) (hst : ∀ y ∈ P, y.L.length ≤ 1000000)
    (hf0 : ¬ sf < 0) (hf1 : ¬ (C.getD i z0).f < sf) (ho : ¬ (i : Int) + 1 ≤ bf) (hm1 : ¬ sr < 0) (hm2 : ¬ 3 < sr) (hm3 : ¬ sgr < 0) (hm4 : ¬ 4 < sgr) (hh : ¬ sh < 0) (hh1 : ¬ (lgst P k ((i : Int) + 1) : Int) < sh) (hh2 : 0 < sh) (hh3 : sf = 0) :
    Calls Tryd.prog 85 #[pcV (some ⟨b, off, none⟩) n c A' m c' A2 q cq, .int .i64 k, .int .i64 bf, .agg #[.int .i64 ((i : Int) + 1), .int .i64 sf, .int .i64 sr, .int .i64 sgr, .int .i64 sh]] w fun e w' => e = .returned (.int .i64 (stErr C P k bf ⟨(i : Int) + 1, sf, sr, sgr, sh⟩)) ∧ Below w.heap.size w w' := by
  subst hh3
  have hq0 := Below.refl ((w.alloc (pcO (some ⟨b, off, none⟩) n c A' m c' A2 q cq)).alloc (.cells #[.int .i64 ((i : Int) + 1), .int .i64 0, .int .i64 sr, .int .i64 sgr, .int .i64 sh] 62)).heap.size ((w.alloc (pcO (some ⟨b, off, none⟩) n c A' m c' A2 q cq)).alloc (.cells #[.int .i64 ((i : Int) + 1), .int .i64 0, .int .i64 sr, .int .i64 sgr, .int .i64 sh] 62))
  obtain ⟨b', off', hA, hbl, hcl⟩ := (hC.below (bt (ba w (pcO (some ⟨b, off, none⟩) n c A' m c' A2 q cq)) (ba _ (.cells #[.int .i64 ((i : Int) + 1), .int .i64 0, .int .i64 sr, .int .i64 sgr, .int .i64 sh] 62)))).2.2 (by omega)
  injection hA with hA
  injection hA with hA1 hA2
  subst hA1 hA2
  obtain ⟨_, i1, _⟩ := crC_at C i (by omega)
  have kf := hcl _ _ i1
  rw [← Nat.add_assoc] at kf
  have hnot : ¬ ((i : Int) + 1 < 1 ∨ (C.length : Int) < (i : Int) + 1) := by omega
  have hii : (i : Int) < (n : Int) := by omega
  have hni : (n : Int) ≤ 1000000 := by omega
  have HI : Hid (((i : Int) + 1 - 1).toNat = i) := by unfold Hid; omega
  have hg1 : ¬ ((i : Int) + 1 < 1) := by omega
  have hg2 : ¬ ((n : Int) < (i : Int) + 1) := by omega
  clear hcl i1 hC
  have HX : Hid (stErr C P k bf ⟨(i : Int) + 1, 0, sr, sgr, sh⟩ = 24) := by
    unfold Hid
    rw [stErr_rest hnot (by dsimp only; rw [HI.out]; omega)]
    dsimp only
    rw [if_neg ho, if_neg (by omega)]
    rw [if_pos (.inr (.inr ⟨hh2, rfl⟩))]
  have HE := Lib.hid hE
  have HST := Lib.hid hst
  have hlg := lgst_le P k ((i : Int) + 1)
  clear hE hst hn hnot
  generalize (C.getD i z0).f = F at *
  have gh : decide (sh < 0) = false := by simpa using hh
  have gl : decide ((lgst P k ((i : Int) + 1) : Int) < sh) = false := by simpa using hh1
  have gp : decide (0 < sh) = true := by simpa using hh2
  go_enter Tryd.func85, Tryd.ntmps85
  go_wp2_with (fail)
  go_quiet (fail)
  have hq := bd hq0 nq
  generalize ((w.alloc (pcO (some ⟨b, off, none⟩) n c A' m c' A2 q cq)).alloc (.cells #[.int .i64 ((i : Int) + 1), .int .i64 0, .int .i64 sr, .int .i64 sgr, .int .i64 sh] 62)).drewN nq = wc at *
  obtain ⟨⟨p0, p1, p2⟩, ⟨q0, q1, q2, q3, q4⟩⟩ := argsT hq
  clear kf
  go_wp2_with (fail)
  refine wp_region_held_drew (S := (fun w' => (w'.cell? ⟨w.heap.size, 0, none⟩ = some (.slice (some ⟨b, off, none⟩) n c) ∧ w'.cell? ⟨w.heap.size, 1, none⟩ = some (.slice A' m c') ∧ w'.cell? ⟨w.heap.size, 2, none⟩ = some (.slice A2 q cq)) ∧ (w'.cell? ⟨w.heap.size + 1, 0, none⟩ = some (.int .i64 ((i : Int) + 1)) ∧ w'.cell? ⟨w.heap.size + 1, 1, none⟩ = some (.int .i64 0) ∧ w'.cell? ⟨w.heap.size + 1, 2, none⟩ = some (.int .i64 sr) ∧ w'.cell? ⟨w.heap.size + 1, 3, none⟩ = some (.int .i64 sgr) ∧ w'.cell? ⟨w.heap.size + 1, 4, none⟩ = some (.int .i64 sh)))) (by kernel_rfl) (argsT hq.drew) (fun hHeld => ?_)
  change wpAnyH _ _ _ _ _ 23 #[false, false, false, false, false, false, false, false, false, false, false, false, false, false, false, false, false, false, false, false, false, false, false] _ _
  refine wpAnyH_take (i := 0) (v := ?_) rfl (by kernel_rfl) (by kernel_rfl) (by kernel_rfl) (fun _ _ _ h => h) (Or.inl ⟨by rfl, ?_⟩) (by assumption) ?_
  rotate_left
  · intro w hSw
    (try dsimp only at hSw)
    go_simp
    try with_reducible rfl
  (try simp only [Act.put, List.getElem_toArray, List.getElem_cons_zero, List.setIfInBounds_toArray, List.set_cons_zero, List.set_cons_succ])
  refine wpAnyH_take (i := 1) (v := ?_) rfl (by kernel_rfl) (by kernel_rfl) (by kernel_rfl) (fun _ _ _ h => h) (Or.inl ⟨by rfl, ?_⟩) (by assumption) ?_
  rotate_left
  · intro w hSw
    (try dsimp only at hSw)
    go_simp
    try with_reducible rfl
  (try simp only [Act.put, List.getElem_toArray, List.getElem_cons_succ, List.getElem_cons_zero, List.setIfInBounds_toArray, List.set_cons_zero, List.set_cons_succ])
  refine wpAnyH_take (i := 2) (v := ?_) rfl (by kernel_rfl) (by kernel_rfl) (by kernel_rfl) (fun _ _ _ h => h) (Or.inl ⟨by rfl, ?_⟩) (by assumption) ?_
  rotate_left
  · intro w hSw
    (try dsimp only at hSw)
    go_simp
    try with_reducible rfl
  (try simp only [Act.put, List.getElem_toArray, List.getElem_cons_succ, List.getElem_cons_zero, List.setIfInBounds_toArray, List.set_cons_zero, List.set_cons_succ])
  refine wpAnyH_take (i := 3) (v := ?_) rfl (by kernel_rfl) (by kernel_rfl) (by kernel_rfl) (fun _ _ _ h => h) (Or.inl ⟨by rfl, ?_⟩) (by assumption) ?_
  rotate_left
  · intro w hSw
    (try dsimp only at hSw)
    go_simp
    try with_reducible rfl
  (try simp only [Act.put, List.getElem_toArray, List.getElem_cons_succ, List.getElem_cons_zero, List.setIfInBounds_toArray, List.set_cons_zero, List.set_cons_succ])
  refine wpAnyH_take (i := 4) (v := ?_) rfl (by kernel_rfl) (by kernel_rfl) (by kernel_rfl) (fun _ _ _ h => h) (Or.inl ⟨by rfl, ?_⟩) (by assumption) ?_
  rotate_left
  · intro w hSw
    (try dsimp only at hSw)
    go_simp
    try with_reducible rfl
  (try simp only [Act.put, List.getElem_toArray, List.getElem_cons_succ, List.getElem_cons_zero, List.setIfInBounds_toArray, List.set_cons_zero, List.set_cons_succ])
  refine wpAnyH_take (i := 5) (v := ?_) rfl (by kernel_rfl) (by kernel_rfl) (by kernel_rfl) (fun _ _ _ h => h) (Or.inl ⟨by rfl, ?_⟩) (by assumption) ?_
  rotate_left
  · intro w hSw
    (try dsimp only at hSw)
    go_simp
    try with_reducible rfl
  (try simp only [Act.put, List.getElem_toArray, List.getElem_cons_succ, List.getElem_cons_zero, List.setIfInBounds_toArray, List.set_cons_zero, List.set_cons_succ])
  refine wpAnyH_take (i := 6) (v := ?_) rfl (by kernel_rfl) (by kernel_rfl) (by kernel_rfl) (fun _ _ _ h => h) (Or.inl ⟨by rfl, ?_⟩) (by assumption) ?_
  rotate_left
  · intro w hSw
    (try dsimp only at hSw)
    go_simp
    try with_reducible rfl
  (try simp only [Act.put, List.getElem_toArray, List.getElem_cons_succ, List.getElem_cons_zero, List.setIfInBounds_toArray, List.set_cons_zero, List.set_cons_succ])
  refine wpAnyH_take (i := 7) (v := ?_) rfl (by kernel_rfl) (by kernel_rfl) (by kernel_rfl) (fun _ _ _ h => h) (Or.inl ⟨by rfl, ?_⟩) (by assumption) ?_
  rotate_left
  · intro w hSw
    (try dsimp only at hSw)
    go_simp
    try with_reducible rfl
  (try simp only [Act.put, List.getElem_toArray, List.getElem_cons_succ, List.getElem_cons_zero, List.setIfInBounds_toArray, List.set_cons_zero, List.set_cons_succ])
  refine wpAnyH_take (i := 8) (v := ?_) rfl (by kernel_rfl) (by kernel_rfl) (by kernel_rfl) (fun _ _ _ h => h) (Or.inl ⟨by rfl, ?_⟩) (by assumption) ?_
  rotate_left
  · intro w hSw
    (try dsimp only at hSw)
    go_simp
    try with_reducible rfl
  (try simp only [Act.put, List.getElem_toArray, List.getElem_cons_succ, List.getElem_cons_zero, List.setIfInBounds_toArray, List.set_cons_zero, List.set_cons_succ])
  refine wpAnyH_take (i := 9) (v := ?_) rfl (by kernel_rfl) (by kernel_rfl) (by kernel_rfl) (fun _ _ _ h => h) (Or.inl ⟨by rfl, ?_⟩) (by assumption) ?_
  rotate_left
  · intro w hSw
    (try dsimp only at hSw)
    go_simp
    try with_reducible rfl
  (try simp only [Act.put, List.getElem_toArray, List.getElem_cons_succ, List.getElem_cons_zero, List.setIfInBounds_toArray, List.set_cons_zero, List.set_cons_succ])
  refine wpAnyH_ready (rs := [10]) (by kernel_rfl) (by simp) ?_
  refine AllReadyH.cons rfl (fun K hK => ?_) ?_
  rotate_left
  · exact AllReadyH.nil
  go_simp
  refine (longest_any _ _ _ _ _ _ A2 q cq P k ((i : Int) + 1) _ ((HE.out.below (bt (ba _ _) (ba _ _))).below hq.drew) hqs HST.out).mono ?_
  rintro e w5 ⟨rfl, hb5⟩
  go_simp
  refine hK.out _ _ ?_ (fun hHeld => ?_)
  · exact argsT (bt hq.drew hb5)
  clear hK K
  (try simp only [List.setIfInBounds_toArray, List.set_cons_zero, List.set_cons_succ])
  refine wpAnyH_take (i := 11) (v := ?_) rfl (by kernel_rfl) (by kernel_rfl) (by kernel_rfl) (fun _ _ _ h => h) (Or.inl ⟨by rfl, ?_⟩) (by assumption) ?_
  rotate_left
  · intro w hSw
    (try dsimp only at hSw)
    go_simp
    try with_reducible rfl
  (try simp only [Act.put, List.getElem_toArray, List.getElem_cons_succ, List.getElem_cons_zero, List.setIfInBounds_toArray, List.set_cons_zero, List.set_cons_succ])
  refine wpAnyH_take (i := 12) (v := ?_) rfl (by kernel_rfl) (by kernel_rfl) (by kernel_rfl) (fun _ _ _ h => h) (Or.inl ⟨by rfl, ?_⟩) (by assumption) ?_
  rotate_left
  · intro w hSw
    (try dsimp only at hSw)
    go_simp
    try with_reducible rfl
  (try simp only [Act.put, List.getElem_toArray, List.getElem_cons_succ, List.getElem_cons_zero, List.setIfInBounds_toArray, List.set_cons_zero, List.set_cons_succ])
  refine wpAnyH_take (i := 13) (v := ?_) rfl (by kernel_rfl) (by kernel_rfl) (by kernel_rfl) (fun _ _ _ h => h) (Or.inl ⟨by rfl, ?_⟩) (by assumption) ?_
  rotate_left
  · intro w hSw
    (try dsimp only at hSw)
    go_simp
    try with_reducible rfl
  (try simp only [Act.put, List.getElem_toArray, List.getElem_cons_succ, List.getElem_cons_zero, List.setIfInBounds_toArray, List.set_cons_zero, List.set_cons_succ])
  refine wpAnyH_take (i := 14) (v := ?_) rfl (by kernel_rfl) (by kernel_rfl) (by kernel_rfl) (fun _ _ _ h => h) (Or.inl ⟨by rfl, ?_⟩) (by assumption) ?_
  rotate_left
  · intro w hSw
    (try dsimp only at hSw)
    go_simp
    try with_reducible rfl
  (try simp only [Act.put, List.getElem_toArray, List.getElem_cons_succ, List.getElem_cons_zero, List.setIfInBounds_toArray, List.set_cons_zero, List.set_cons_succ])
  refine wpAnyH_take (i := 15) (v := ?_) rfl (by kernel_rfl) (by kernel_rfl) (by kernel_rfl) (fun _ _ _ h => h) (Or.inl ⟨by rfl, ?_⟩) (by assumption) ?_
  rotate_left
  · intro w hSw
    (try dsimp only at hSw)
    go_simp
    try with_reducible rfl
  (try simp only [Act.put, List.getElem_toArray, List.getElem_cons_succ, List.getElem_cons_zero, List.setIfInBounds_toArray, List.set_cons_zero, List.set_cons_succ])
  refine wpAnyH_take (i := 16) (v := ?_) rfl (by kernel_rfl) (by kernel_rfl) (by kernel_rfl) (fun _ _ _ h => h) (Or.inl ⟨by rfl, ?_⟩) (by assumption) ?_
  rotate_left
  · intro w hSw
    (try dsimp only at hSw)
    go_simp
    try with_reducible rfl
  (try simp only [Act.put, List.getElem_toArray, List.getElem_cons_succ, List.getElem_cons_zero, List.setIfInBounds_toArray, List.set_cons_zero, List.set_cons_succ])
  refine wpAnyH_take (i := 17) (v := ?_) rfl (by kernel_rfl) (by kernel_rfl) (by kernel_rfl) (fun _ _ _ h => h) (Or.inl ⟨by rfl, ?_⟩) (by assumption) ?_
  rotate_left
  · intro w hSw
    (try dsimp only at hSw)
    go_simp
    try with_reducible rfl
  (try simp only [Act.put, List.getElem_toArray, List.getElem_cons_succ, List.getElem_cons_zero, List.setIfInBounds_toArray, List.set_cons_zero, List.set_cons_succ])
  refine wpAnyH_take (i := 18) (v := ?_) rfl (by kernel_rfl) (by kernel_rfl) (by kernel_rfl) (fun _ _ _ h => h) (Or.inl ⟨by rfl, ?_⟩) (by assumption) ?_
  rotate_left
  · intro w hSw
    (try dsimp only at hSw)
    go_simp
    try with_reducible rfl
  (try simp only [Act.put, List.getElem_toArray, List.getElem_cons_succ, List.getElem_cons_zero, List.setIfInBounds_toArray, List.set_cons_zero, List.set_cons_succ])
  refine wpAnyH_take (i := 19) (v := ?_) rfl (by kernel_rfl) (by kernel_rfl) (by kernel_rfl) (fun _ _ _ h => h) (Or.inl ⟨by rfl, ?_⟩) (by assumption) ?_
  rotate_left
  · intro w hSw
    (try dsimp only at hSw)
    go_simp
    try with_reducible rfl
  (try simp only [Act.put, List.getElem_toArray, List.getElem_cons_succ, List.getElem_cons_zero, List.setIfInBounds_toArray, List.set_cons_zero, List.set_cons_succ])
  refine wpAnyH_take (i := 20) (v := ?_) rfl (by kernel_rfl) (by kernel_rfl) (by kernel_rfl) (fun _ _ _ h => h) (Or.inl ⟨by rfl, ?_⟩) (by assumption) ?_
  rotate_left
  · intro w hSw
    (try dsimp only at hSw)
    go_simp
    try with_reducible rfl
  (try simp only [Act.put, List.getElem_toArray, List.getElem_cons_succ, List.getElem_cons_zero, List.setIfInBounds_toArray, List.set_cons_zero, List.set_cons_succ])
  refine wpAnyH_take (i := 21) (v := ?_) rfl (by kernel_rfl) (by kernel_rfl) (by kernel_rfl) (fun _ _ _ h => h) (Or.inl ⟨by rfl, ?_⟩) (by assumption) ?_
  rotate_left
  · intro w hSw
    (try dsimp only at hSw)
    go_simp
    try with_reducible rfl
  (try simp only [Act.put, List.getElem_toArray, List.getElem_cons_succ, List.getElem_cons_zero, List.setIfInBounds_toArray, List.set_cons_zero, List.set_cons_succ])
  refine wpAnyH_take (i := 22) (v := ?_) rfl (by kernel_rfl) (by kernel_rfl) (by kernel_rfl) (fun _ _ _ h => h) (Or.inl ⟨by rfl, ?_⟩) (by assumption) ?_
  rotate_left
  · intro w hSw
    (try dsimp only at hSw)
    go_simp
    try with_reducible rfl
  (try simp only [Act.put, List.getElem_toArray, List.getElem_cons_succ, List.getElem_cons_zero, List.setIfInBounds_toArray, List.set_cons_zero, List.set_cons_succ])
  refine wpAnyH_done (by kernel_rfl) ?_ _
  go_wp2_with (fail)
  go_ret
  exact ⟨ret_int HX.out.symm, bx (bx (bt hq.drew hb5))⟩

set_option maxRecDepth 100000 in
set_option maxHeartbeats 4000000 in
theorem checkStop_any (A : Option Addr) (n c : Nat) (A' : Option Addr) (m c' : Nat) (A2 : Option Addr) (q cq : Nat) (C : List Cr) (P : List EvP) (k : Nat) (bf : Int) (s : St) (w : World) (hC : Sl w w.heap.size 3 A n c (crC C)) (hn : n = C.length) (hnb : n ≤ 1000000)
    (hE : EsIn w A2 q cq P) (hq : q ≤ 1000000) (hst : ∀ y ∈ P, y.L.length ≤ 1000000) :
    Calls Tryd.prog 85 #[pcV A n c A' m c' A2 q cq, .int .i64 k, .int .i64 bf, stV s] w fun e w' => e = .returned (.int .i64 (stErr C P k bf s)) ∧ Below w.heap.size w w' := by
  obtain ⟨sc, sf, sr, sgr, sh⟩ := s
  by_cases h1 : sc < 1
  · have HX := Lib.hid (stErr_course (C := C) (P := P) (k := k) (bf := bf) (s := ⟨sc, sf, sr, sgr, sh⟩) (.inl h1))
    clear hC hE hst hn
    go_enter Tryd.func85, Tryd.ntmps85
    go_wp2_with (fail)
    go_ret
    exact ⟨ret_int HX.out.symm, bx (ba _ _)⟩
  by_cases h2 : (n : Int) < sc
  · have HX := Lib.hid (stErr_course (C := C) (P := P) (k := k) (bf := bf) (s := ⟨sc, sf, sr, sgr, sh⟩) (.inr (by dsimp only; omega)))
    clear hC hE hst hn
    go_enter Tryd.func85, Tryd.ntmps85
    go_wp2_with (fail)
    go_ret
    exact ⟨ret_int HX.out.symm, bx (ba _ _)⟩
  obtain ⟨i, rfl⟩ : ∃ i : Nat, sc = (i : Int) + 1 := ⟨(sc - 1).toNat, by omega⟩
  have hin : i < n := by omega
  obtain ⟨b, off, rfl, _⟩ := hC.2.2 (by omega)
  have hnot : ¬ ((i : Int) + 1 < 1 ∨ (C.length : Int) < (i : Int) + 1) := by omega
  have HI : ((i : Int) + 1 - 1).toNat = i := by omega
  by_cases hf0 : sf < 0
  · exact checkStop_fret b off n c A' m c' A2 q cq C P k bf i sf sr sgr sh w hC hn hnb hin (.inl hf0)
  by_cases hf1 : (C.getD i z0).f < sf
  · exact checkStop_fret b off n c A' m c' A2 q cq C P k bf i sf sr sgr sh w hC hn hnb hin (.inr ⟨hf0, hf1⟩)
  have hr := stErr_rest (C := C) (P := P) (k := k) (bf := bf) (s := ⟨(i : Int) + 1, sf, sr, sgr, sh⟩) hnot (by dsimp only; rw [HI]; omega)
  dsimp only at hr
  by_cases ho : (i : Int) + 1 ≤ bf
  · exact checkStop_mark b off n c A' m c' A2 q cq C P k bf i sf sr sgr sh w hC hn hnb hin hf0 hf1 22 (by rw [hr, if_pos ho]) (.inl ⟨rfl, ho⟩)
  by_cases hm : sr < 0 ∨ 3 < sr ∨ sgr < 0 ∨ 4 < sgr
  · exact checkStop_mark b off n c A' m c' A2 q cq C P k bf i sf sr sgr sh w hC hn hnb hin hf0 hf1 23 (by rw [hr, if_neg ho, if_pos hm]) (.inr ⟨rfl, ho, by omega⟩)
  by_cases hh : sh < 0
  · exact checkStop_neg b off n c A' m c' A2 q cq C P k bf i sf sr sgr sh w hC hn hnb hin hf0 hf1 ho (by omega) (by omega) (by omega) (by omega) hh
  by_cases hh1 : (lgst P k ((i : Int) + 1) : Int) < sh
  · exact checkStop_far b off n c A' m c' A2 q cq C P k bf i sf sr sgr sh w hC hn hnb hin hE hq hst hf0 hf1 ho (by omega) (by omega) (by omega) (by omega) hh hh1
  by_cases hh2 : 0 < sh
  · by_cases hh3 : sf = 0
    · exact checkStop_open b off n c A' m c' A2 q cq C P k bf i sf sr sgr sh w hC hn hnb hin hE hq hst hf0 hf1 ho (by omega) (by omega) (by omega) (by omega) hh hh1 hh2 hh3
    · exact checkStop_held b off n c A' m c' A2 q cq C P k bf i sf sr sgr sh w hC hn hnb hin hE hq hst hf0 hf1 ho (by omega) (by omega) (by omega) (by omega) hh hh1 hh2 hh3
  · exact checkStop_zero b off n c A' m c' A2 q cq C P k bf i sf sr sgr sh w hC hn hnb hin hE hq hst hf0 hf1 ho (by omega) (by omega) (by omega) (by omega) hh hh1 hh2

end Go.Proofs.YtdhjigaocamglaaDoor
