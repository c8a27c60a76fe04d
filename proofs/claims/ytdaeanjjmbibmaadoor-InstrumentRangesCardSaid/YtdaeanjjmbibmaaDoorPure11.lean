/- Plain functions: an instrument's compass. No program is imported here. -/
import Derived.Test.YtdaeanjjmbibmaaDoorPure3
namespace Go.Proofs.YtdaeanjjmbibmaaDoor

def loL : Int → List Cr → Int
  | b, [] => b
  | b, x :: r => loL (if x.p < b then x.p else b) r
def hiL (S : List Int) : Int → List Cr → Int
  | b, [] => b
  | b, x :: r => hiL S (if b < x.p + riseV S x.f then x.p + riseV S x.f else b) r
def coLo (C : List Cr) (S : List Int) : Int := if chk C S = 0 then loL 127 C else 0
def coHi (C : List Cr) (S : List Int) : Int := if chk C S = 0 then hiL S 0 C else 0

end Go.Proofs.YtdaeanjjmbibmaaDoor
