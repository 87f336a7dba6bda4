/- The laws of KeyFault and IsKey. -/
import Derived.Test.YtbadahnhlehidaaSFault
namespace Go.Proofs.Ytbadahnhlehidaa
open Go.RowKit

end Go.Proofs.Ytbadahnhlehidaa
