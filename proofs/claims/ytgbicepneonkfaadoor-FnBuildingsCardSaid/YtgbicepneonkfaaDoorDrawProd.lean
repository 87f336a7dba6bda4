/- The draws for ProductOf, SumOf, ListText and PowerOf. -/
import Derived.Test.YtgbicepneonkfaaDoorDraw
namespace Go.Proofs.YtgbicepneonkfaaDoor
open Go.RowKit

/-- what the draw of a list answers, its source made anew -/
def DrawnL (w : World) (e : Ending) (w' : World) : Prop :=
  ∃ A m c xs, e = .returned (.slice A m c) ∧ Own w' w.heap.size w'.heap.size A m xs ∧ m ≤ 101 ∧ m ≤ c ∧ Below w.heap.size w w'

end Go.Proofs.YtgbicepneonkfaaDoor
