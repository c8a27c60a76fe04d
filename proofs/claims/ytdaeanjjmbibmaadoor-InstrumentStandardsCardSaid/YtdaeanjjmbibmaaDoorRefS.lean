/- The reference's ParseName: case S. -/
import Derived.Test.YtdaeanjjmbibmaaDoorRefName3
namespace Go.Proofs.YtdaeanjjmbibmaaDoor
open Go.RowKit

set_option maxHeartbeats 64000000 in
theorem rparse_S (l : List UInt8) (c d : UInt8) (r : List UInt8) (n : Nat) (w : World) (hlr : l = c :: d :: r) (hn : n < 7) (hl : ltrOf c = some n) (hs : r.length < 4294967200) (hd : d = 35) :
    Calls Tryd.prog 98 #[.string ⟨l.toArray⟩] w fun e w' => e = .returned (.tuple #[.agg #[.int .i64 (nmL l), .int .i64 (nmA l), .int .i64 (nmO l)], .int .i64 (nmE l)]) ∧ Below w.heap.size w w' := by
  have LT : Hid (∀ (x : UInt8) (w : World), x = c → Calls Tryd.prog 119 #[.int .u8 x.toNat] w fun e w' => e = .returned (.int .i64 (ltrV c)) ∧ w = w') := fun x w h => by subst h; exact letter_any x w
  have hb0 : 0 < ((ByteArray.mk l.toArray).extract 1 l.length).size := by rw [ex1 hlr]; simp [ByteArray.size]
  have hA : ((((((ByteArray.mk l.toArray).extract 1 l.length)[0]'hb0).toNat : Nat) : Int) == 35) = true := by rw [byte0 (ex1 hlr) hb0, hd]; rfl
  have HC : Hid (∀ h, (ByteArray.mk l.toArray)[0]'h = c) := fun h => by subst hlr; rfl
  have HL := Lib.hid (ltrV_some hl)
  have hll : l.length = r.length + 2 := by rw [hlr]; rfl
  have hlen : ¬ (l.length : Int) < 2 := by omega
  have hn0 : ¬ (n : Int) < 0 := by omega
  have HQ := Lib.hid hlr
  have HLN := Lib.hid hl
  have HLL := Lib.hid hll
  clear hlr hl hll
  go_enter Tryd.func98, Tryd.ntmps98
  go_wp2_with (fail)
  refine (LT.out _ _ (HC.out _)).mono ?_
  rintro e w1 ⟨rfl, rfl⟩
  rw [HL.out]
  go_wp2_with (fail)
  refine (LT.out _ _ (HC.out _)).mono ?_
  rintro e w1 ⟨rfl, rfl⟩
  rw [HL.out]
  go_wp2_with (go_at_call 93; refine (right_any _ _ _ _).mono ?_; rintro e w2 ⟨rfl, hb⟩; have hbz := bx hb; obtain ⟨q0, q1⟩ := keepc hb 0; obtain ⟨q2, q3⟩ := keepc hb 1; obtain ⟨q4, q5⟩ := keepc hb 2; obtain ⟨z0, z1⟩ := keepc hbz 0; obtain ⟨z2, z3⟩ := keepc hbz 1; obtain ⟨z4, z5⟩ := keepc hbz 2; have hz : w.heap.size + 1 < w2.heap.size := (by have := hb.size; simp at this; omega); have hz2 : w.heap.size < w2.heap.size := (by omega); simp at q0 q2 q4 z0 z2 z4 q1 q3 q5 z1 z3 z5)
  all_goals
    have hll := HLL.out
    first
      | have H := end_pitch (fin_some HQ.out HLN.out (altS HQ.out (by with_reducible assumption)) (octM (ex2 HQ.out) (by with_reducible assumption))) (by with_reducible assumption)
      | have H := end_ok (fin_some HQ.out HLN.out (altS HQ.out (by with_reducible assumption)) (octM (ex2 HQ.out) (by with_reducible assumption))) (by with_reducible assumption)
      | (rename_i g1 g2 gK ga gr; have H := end_pitch (fin_some HQ.out HLN.out (altS HQ.out (by with_reducible assumption)) (octD (ex2 HQ.out) (by omega) g1 g2)) gr)
      | (rename_i g1 g2 gr; have H := end_pitch (fin_some HQ.out HLN.out (altS HQ.out (by with_reducible assumption)) (octD (ex2 HQ.out) (by omega) g1 g2)) gr)
      | (rename_i g1 g2 gK ga gr; have H := end_ok (fin_some HQ.out HLN.out (altS HQ.out (by with_reducible assumption)) (octD (ex2 HQ.out) (by omega) g1 g2)) gr)
      | (rename_i g1 g2 gr; have H := end_ok (fin_some HQ.out HLN.out (altS HQ.out (by with_reducible assumption)) (octD (ex2 HQ.out) (by omega) g1 g2)) gr)
      | (rename_i g1; have H := end_form (fin_none HQ.out HLN.out (altS HQ.out (by with_reducible assumption)) (octX (ex2 HQ.out) (by omega) (Or.inl g1))))
      | (rename_i g1; have H := end_form (fin_none HQ.out HLN.out (altS HQ.out (by with_reducible assumption)) (octX (ex2 HQ.out) (by omega) (Or.inr g1))))
      | have H := end_form (fin_none HQ.out HLN.out (altS HQ.out (by with_reducible assumption)) (octL (ex2 HQ.out) (by omega) (by with_reducible assumption)))
    rw [H.1, H.2.1, H.2.2.1, H.2.2.2]
    first
      | (refine bodyPost_ret (v := .tuple #[.agg #[.int .i64 _, .int .i64 _, .int .i64 _], .int .i64 _]) ?_ rfl ⟨rfl, bs3 (bx hbz) _ _ _⟩
         simp [results, Tryd.results98, go_sem, z0, z2, z4]
         done)
      | (refine bodyPost_ret (v := .tuple #[.agg #[.int .i64 _, .int .i64 _, .int .i64 _], .int .i64 _]) ?_ rfl ⟨rfl, bal (ba w _) _⟩
         simp [results, Tryd.results98, go_sem]
         done)


end Go.Proofs.YtdaeanjjmbibmaaDoor
