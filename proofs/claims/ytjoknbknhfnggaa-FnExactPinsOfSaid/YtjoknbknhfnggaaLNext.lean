/- The laws of NextKey and FirstKey. -/
import Derived.Test.YtjoknbknhfnggaaSNext
namespace Go.Proofs.Ytjoknbknhfnggaa
open Go.RowKit

end Go.Proofs.Ytjoknbknhfnggaa
