/- The reference's ParseName: where the first byte is no letter. -/
import Derived.Test.YtdaeanjjmbibmaaDoorRefName3
namespace Go.Proofs.YtdaeanjjmbibmaaDoor
open Go.RowKit

set_option maxHeartbeats 1600000 in
theorem rparse_miss (l : List UInt8) (c d : UInt8) (r : List UInt8) (w : World) (hlr : l = c :: d :: r) (hl : ltrOf c = none) (hs : r.length < 4294967200) :
    Calls Tryd.prog 98 #[.string ⟨l.toArray⟩] w fun e w' => e = .returned (.tuple #[.agg #[.int .i64 (nmL l), .int .i64 (nmA l), .int .i64 (nmO l)], .int .i64 (nmE l)]) ∧ Below w.heap.size w w' := by
  have LT : Hid (∀ (x : UInt8) (w : World), x = c → Calls Tryd.prog 119 #[.int .u8 x.toNat] w fun e w' => e = .returned (.int .i64 (ltrV c)) ∧ w = w') := fun x w h => by subst h; exact letter_any x w
  have HC : Hid (∀ h, (ByteArray.mk l.toArray)[0]'h = c) := fun h => by subst hlr; rfl
  have HL := Lib.hid (ltrV_none hl)
  have H : Hid (nmL l = 0 ∧ nmA l = 0 ∧ nmO l = 0 ∧ nmE l = 4) := end_form (by rw [hlr]; simp [pForm, hl])
  have hll : l.length = r.length + 2 := by rw [hlr]; rfl
  have hlen : ¬ (l.length : Int) < 2 := by omega
  clear hlr hl hll
  go_enter Tryd.func98, Tryd.ntmps98
  go_wp2_with (fail)
  refine (LT.out _ _ (HC.out _)).mono ?_
  rintro e w1 ⟨rfl, rfl⟩
  rw [HL.out]
  go_wp2_with (fail)
  refine bodyPost_ret (v := .tuple #[.agg #[.int .i64 0, .int .i64 0, .int .i64 0], .int .i64 4]) ?_ rfl ?_
  · simp [results, Tryd.results98, go_sem]
    done
  · rw [H.out.1, H.out.2.1, H.out.2.2.1, H.out.2.2.2]
    exact ⟨rfl, ba _ _⟩

end Go.Proofs.YtdaeanjjmbibmaaDoor
