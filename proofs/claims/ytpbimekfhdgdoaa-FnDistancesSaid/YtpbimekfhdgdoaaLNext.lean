/- The laws of NextKey and FirstKey. -/
import Derived.Test.YtpbimekfhdgdoaaSNext
namespace Go.Proofs.Ytpbimekfhdgdoaa
open Go.RowKit

end Go.Proofs.Ytpbimekfhdgdoaa
