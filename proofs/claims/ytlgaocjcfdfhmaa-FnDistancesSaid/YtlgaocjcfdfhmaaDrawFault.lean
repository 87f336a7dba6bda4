/- The draws for KeyFault. -/
import Derived.Test.YtlgaocjcfdfhmaaDrawCuts
import Derived.Test.YtlgaocjcfdfhmaaFnBase
namespace Go.Proofs.Ytlgaocjcfdfhmaa
open Go.RowKit

/-- what a draw of a maker and cuts answers -/
def DrawnMC (w : World) (e : Ending) (w' : World) : Prop :=
  ∃ (m : Mk) (A : Option Addr) (k c : Nat) (xs : List Int), e = .returned (.tuple #[.agg #[.int .i64 m.C, .int .i64 m.D, .int .i64 m.S, .int .i64 m.M, .int .i64 m.L], .slice A k c]) ∧ Small m ∧ Ints w' w'.heap.size A k xs ∧ k ≤ 10 ∧ k ≤ c ∧ c ≤ 9223372036854775807 ∧ Below w.heap.size w w'

theorem below_put {W w : World} {B b : Nat} (h : Below B W w) (hb : B ≤ b) (m : Mk) : Below B W (put5 w b m) :=
  ((((h.setCell (p := ⟨b, 0, none⟩) hb _).setCell (p := ⟨b, 1, none⟩) hb _).setCell (p := ⟨b, 2, none⟩) hb _).setCell (p := ⟨b, 3, none⟩) hb _).setCell (p := ⟨b, 4, none⟩) hb _
theorem Own.put5 {w : World} {lo hi n : Nat} {A : Option Addr} {xs : List Int} (h : Own w lo hi A n xs) {b : Nat} (hb : b < lo) (m : Mk) : Own (put5 w b m) lo hi A n xs := by
  have k : ∀ (w : World) (i : Nat) (v : Value), Own w lo hi A n xs → Own (w.setCell ⟨b, i, none⟩ v) lo hi A n xs := fun w i v h =>
    h.apart (grown_set (p := ⟨b, i, none⟩) (World.grownBy.refl w (some b)) rfl v) (fun g e => by injection e with e; omega)
  exact k _ _ _ (k _ _ _ (k _ _ _ (k _ _ _ (k _ _ _ h))))

end Go.Proofs.Ytlgaocjcfdfhmaa
