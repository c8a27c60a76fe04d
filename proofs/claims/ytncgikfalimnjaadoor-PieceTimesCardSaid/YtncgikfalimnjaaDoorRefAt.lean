/- What the reference's Sound and At return for any instrument and place. -/
import Derived.Test.YtncgikfalimnjaaDoorRefCheck
namespace Go.Proofs.YtncgikfalimnjaaDoor
open Go.RowKit

end Go.Proofs.YtncgikfalimnjaaDoor
