/- The draw for FirstKeys. -/
import Derived.Test.YtbadahnhlehidaaDrawMk
namespace Go.Proofs.Ytbadahnhlehidaa
open Go.RowKit

/-- what a draw of a maker and a number answers -/
def DrawnMN (w : World) (e : Ending) (w' : World) : Prop :=
  ∃ (m : Mk) (k : Int), e = .returned (.tuple #[.agg #[.int .i64 m.C, .int .i64 m.D, .int .i64 m.S, .int .i64 m.M, .int .i64 m.L], .int .i64 k]) ∧ Small m ∧ Below w.heap.size w w'

end Go.Proofs.Ytbadahnhlehidaa
