/- The laws of NextKey and FirstKey. -/
import Derived.Test.YtnfmcgfiaekaiaaSNext
namespace Go.Proofs.Ytnfmcgfiaekaiaa
open Go.RowKit

end Go.Proofs.Ytnfmcgfiaekaiaa
