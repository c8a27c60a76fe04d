/- What the reference's Sound and At return for any instrument and place. -/
import Derived.Test.YtamfbglhachffaaDoorRefCheck
namespace Go.Proofs.YtamfbglhachffaaDoor
open Go.RowKit

end Go.Proofs.YtamfbglhachffaaDoor
