/- FirstKeys of the model. -/
import Derived.Test.YtpabccgndhmcdaaKeys
import Derived.Test.YtpabccgndhmcdaaLNext
namespace Go.Proofs.Ytpabccgndhmcdaa
open Go.RowKit

/-- what a call answers that gives a list of lists -/
def GivesPile (w : World) (p : Nat) (yss : List (List Int)) (e : Ending) (w' : World) : Prop :=
  ∃ V n c gs, e = .returned (.slice V n c) ∧ Pile w' w.heap.size (.slice V n c) n p gs yss ∧ n ≤ 300 ∧ Below w.heap.size w w'

end Go.Proofs.Ytpabccgndhmcdaa
