/- The laws of KeyFault and IsKey. -/
import Derived.Test.YtpbimekfhdgdoaaSFault
namespace Go.Proofs.Ytpbimekfhdgdoaa
open Go.RowKit

end Go.Proofs.Ytpbimekfhdgdoaa
