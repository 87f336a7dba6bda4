/- l02Next, NextKey and FirstKey of the model. -/
import Derived.Test.YtpabccgndhmcdaaSFirst
import Derived.Test.YtpabccgndhmcdaaNext
namespace Go.Proofs.Ytpabccgndhmcdaa
open Go.RowKit

theorem depth_take {m : Mk} {xs : List Int} (h : allIn 0 (m.D - 1) xs = true) (q : Nat) : allIn 0 (m.D - 1) (xs.take q) = true := by
  unfold allIn at *
  rw [List.all_eq_true] at *
  exact fun v hv => h v (List.mem_of_mem_take hv)

end Go.Proofs.Ytpabccgndhmcdaa
