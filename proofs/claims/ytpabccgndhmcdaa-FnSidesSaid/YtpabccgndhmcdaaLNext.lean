/- The laws of NextKey and FirstKey. -/
import Derived.Test.YtpabccgndhmcdaaSNext
namespace Go.Proofs.Ytpabccgndhmcdaa
open Go.RowKit

end Go.Proofs.Ytpabccgndhmcdaa
