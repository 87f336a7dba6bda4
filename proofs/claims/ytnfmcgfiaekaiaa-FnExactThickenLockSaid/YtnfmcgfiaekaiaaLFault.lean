/- The laws of KeyFault and IsKey. -/
import Derived.Test.YtnfmcgfiaekaiaaSFault
namespace Go.Proofs.Ytnfmcgfiaekaiaa
open Go.RowKit

end Go.Proofs.Ytnfmcgfiaekaiaa
