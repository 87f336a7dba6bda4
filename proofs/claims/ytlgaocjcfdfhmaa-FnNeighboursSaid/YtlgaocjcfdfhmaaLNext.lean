/- The laws of NextKey and FirstKey. -/
import Derived.Test.YtlgaocjcfdfhmaaSNext
namespace Go.Proofs.Ytlgaocjcfdfhmaa
open Go.RowKit

end Go.Proofs.Ytlgaocjcfdfhmaa
