/- What the reference's Places returns for any instrument and pitch. -/
import Derived.Test.YtdaeanjjmbibmaaDoorPlaces
namespace Go.Proofs.YtdaeanjjmbibmaaDoor
open Go.RowKit

end Go.Proofs.YtdaeanjjmbibmaaDoor
