/- What the program's retune, Tune and Transpose return for any instrument. -/
import Derived.Test.YtdaeanjjmbibmaaDoorTu
import Derived.Test.YtdaeanjjmbibmaaDoorPlaces
namespace Go.Proofs.YtdaeanjjmbibmaaDoor
open Go.RowKit

theorem tun_here (C : List Cr) (a b : Nat) (d : Int) (h : b < C.length) : (tun C a b d).getD b zc = C.getD b zc := by rw [tun_at _ _ _ _ _ h, if_neg (by omega)]

end Go.Proofs.YtdaeanjjmbibmaaDoor
