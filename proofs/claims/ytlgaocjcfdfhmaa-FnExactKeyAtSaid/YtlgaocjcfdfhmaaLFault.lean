/- The laws of KeyFault and IsKey. -/
import Derived.Test.YtlgaocjcfdfhmaaSFault
namespace Go.Proofs.Ytlgaocjcfdfhmaa
open Go.RowKit

end Go.Proofs.Ytlgaocjcfdfhmaa
