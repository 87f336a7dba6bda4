/- The laws of KeyFault and IsKey. -/
import Derived.Test.YtjoknbknhfnggaaSFault
namespace Go.Proofs.Ytjoknbknhfnggaa
open Go.RowKit

end Go.Proofs.Ytjoknbknhfnggaa
