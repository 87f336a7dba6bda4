/- The laws of IsBuilding and HeightOf. -/
import Derived.Test.YtnadcjclihflcaaBldC
import Derived.Test.YtnadcjclihflcaaOpenB
import Derived.Deep.RegionHeld3
namespace Go.Proofs.Ytnadcjclihflcaa
open Go.RowKit

theorem both_cells {w : World} {b g : Nat} {s t : TypeId} {u v x y : Value} (h : Cell2 w b s u v) (k : Cell2 w g t x y) : w.cell? ⟨b, 0, none⟩ = some u ∧ w.cell? ⟨b, 1, none⟩ = some v ∧ w.cell? ⟨g, 0, none⟩ = some x ∧ w.cell? ⟨g, 1, none⟩ = some y := ⟨h.cells.1, h.cells.2, k.cells.1, k.cells.2⟩

end Go.Proofs.Ytnadcjclihflcaa
