/- The laws of NextKey and FirstKey. -/
import Derived.Test.YtbadahnhlehidaaSNext
namespace Go.Proofs.Ytbadahnhlehidaa
open Go.RowKit

end Go.Proofs.Ytbadahnhlehidaa
