/- The laws of KeyFault and IsKey. -/
import Derived.Test.YtpabccgndhmcdaaSFault
namespace Go.Proofs.Ytpabccgndhmcdaa
open Go.RowKit

end Go.Proofs.Ytpabccgndhmcdaa
