/- KeyText of the model, and the law. -/
import Derived.Test.YtpabccgndhmcdaaKText
import Derived.Test.YtpabccgndhmcdaaLFault
namespace Go.Proofs.Ytpabccgndhmcdaa
open Go.RowKit

def signsV (xs : List Int) : List Value := xs.map (fun v => Value.int .u8 (48 + v))
theorem signsV_step {xs : List Int} {k : Nat} {v : Int} (hv : xs[k]? = some v) : signsV (xs.take k) ++ [.int .u8 (48 + v)] = signsV (xs.take (k + 1)) := by
  obtain ⟨hk, rfl⟩ := List.getElem?_eq_some_iff.1 hv
  unfold signsV
  rw [List.take_succ_eq_append_getElem hk, List.map_append]; rfl

end Go.Proofs.Ytpabccgndhmcdaa
