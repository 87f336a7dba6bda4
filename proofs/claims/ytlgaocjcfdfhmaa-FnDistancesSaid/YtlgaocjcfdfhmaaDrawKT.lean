/- The draw for KeyText. -/
import Derived.Test.YtlgaocjcfdfhmaaDrawKey
namespace Go.Proofs.Ytlgaocjcfdfhmaa
open Go.RowKit

/-- what a draw of a maker and a key answers -/
def DrawnMK (w : World) (e : Ending) (w' : World) : Prop :=
  ∃ (m : Mk) (A : Option Addr) (k c : Nat) (xs : List Int), e = .returned (.tuple #[.agg #[.int .i64 m.C, .int .i64 m.D, .int .i64 m.S, .int .i64 m.M, .int .i64 m.L], .slice A k c]) ∧ Small m ∧ Ints w' w'.heap.size A k xs ∧ k ≤ 1048576 ∧ k ≤ c ∧ c ≤ 9223372036854775807 ∧ Below w.heap.size w w'

end Go.Proofs.Ytlgaocjcfdfhmaa
