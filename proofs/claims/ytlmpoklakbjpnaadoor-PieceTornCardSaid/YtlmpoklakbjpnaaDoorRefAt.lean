/- What the reference's Sound and At return for any instrument and place. -/
import Derived.Test.YtlmpoklakbjpnaaDoorRefCheck
namespace Go.Proofs.YtlmpoklakbjpnaaDoor
open Go.RowKit

end Go.Proofs.YtlmpoklakbjpnaaDoor
