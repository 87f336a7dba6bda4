/- What the laws on locks keep while they call: their arguments' boxes. -/
import Derived.Test.YtbfnffecmglgfaaLockW
import Derived.Test.YtbfnffecmglgfaaOpMath
namespace Go.Proofs.Ytbfnffecmglgfaa
open Go Go.RowKit

/-- a law's maker and lock, in boxes of its own -/
structure LArg (w0 W : World) (m : Mk) (V : Option Addr) (n c : Nat) (yss : List (List Int)) : Prop where
  box : Boxed W w0.heap.size 77 m
  cell : Cell1 W (w0.heap.size + 1) 86 (.slice V n c)
  sets : Sets W W.heap.size V n yss
  below : Below w0.heap.size w0 W
theorem LArg.new (w : World) (m : Mk) (V : Option Addr) (n c : Nat) (yss : List (List Int)) (h : Sets w w.heap.size V n yss) : LArg w ((w.alloc (.cells #[.int .i64 m.C, .int .i64 m.D, .int .i64 m.S, .int .i64 m.M, .int .i64 m.L] 77)).alloc (.cells #[.slice V n c] 86)) m V n c yss := by
  have c0 := ((Below.refl w.heap.size w).alloc (Nat.le_refl _) (.cells #[.int .i64 m.C, .int .i64 m.D, .int .i64 m.S, .int .i64 m.M, .int .i64 m.L] 77)).alloc (by simp) (.cells #[.slice V n c] 86)
  have k0 := Cell1.new (w.alloc (.cells #[.int .i64 m.C, .int .i64 m.D, .int .i64 m.S, .int .i64 m.M, .int .i64 m.L] 77)) 86 (.slice V n c)
  rw [World.size_alloc] at k0
  exact ⟨(Boxed.new w 77 m).alloc _, k0, h.on c0, c0⟩
theorem LArg.on {w0 W W' : World} {m : Mk} {V : Option Addr} {n c : Nat} {yss : List (List Int)} (h : LArg w0 W m V n c yss) (b : Below W.heap.size W W') : LArg w0 W' m V n c yss := ⟨h.box.on b, h.cell.on b, h.sets.on b, below_trans' h.below b⟩
theorem LArg.drewN {w0 W : World} {m : Mk} {V : Option Addr} {n c : Nat} {yss : List (List Int)} (h : LArg w0 W m V n c yss) (k : Nat) : LArg w0 (W.drewN k) m V n c yss := h.on (below_drewN (Below.refl _ _) k)
theorem LArg.alloc {w0 W : World} {m : Mk} {V : Option Addr} {n c : Nat} {yss : List (List Int)} (h : LArg w0 W m V n c yss) (o : Obj) : LArg w0 (W.alloc o) m V n c yss := h.on ((Below.refl _ _).alloc (Nat.le_refl _) o)
theorem LArg.cells {w0 W : World} {m : Mk} {V : Option Addr} {n c : Nat} {yss : List (List Int)} (h : LArg w0 W m V n c yss) : W.cell? ⟨w0.heap.size, 0, none⟩ = some (.int .i64 m.C) ∧ W.cell? ⟨w0.heap.size, 1, none⟩ = some (.int .i64 m.D) ∧ W.cell? ⟨w0.heap.size, 2, none⟩ = some (.int .i64 m.S) ∧ W.cell? ⟨w0.heap.size, 3, none⟩ = some (.int .i64 m.M) ∧ W.cell? ⟨w0.heap.size, 4, none⟩ = some (.int .i64 m.L) ∧ W.cell? ⟨w0.heap.size + 1, 0, none⟩ = some (.slice V n c) := by
  obtain ⟨q0, q1, q2, q3, q4⟩ := h.box.cells
  exact ⟨q0, q1, q2, q3, q4, h.cell.cell⟩
theorem boxed_and {W : World} {b : Nat} {t : TypeId} {m : Mk} {p : Addr} {v : Value} (h : Boxed W b t m) (k : W.cell? p = some v) : W.cell? ⟨b, 0, none⟩ = some (.int .i64 m.C) ∧ W.cell? ⟨b, 1, none⟩ = some (.int .i64 m.D) ∧ W.cell? ⟨b, 2, none⟩ = some (.int .i64 m.S) ∧ W.cell? ⟨b, 3, none⟩ = some (.int .i64 m.M) ∧ W.cell? ⟨b, 4, none⟩ = some (.int .i64 m.L) ∧ W.cell? p = some v := by
  obtain ⟨q0, q1, q2, q3, q4⟩ := h.cells
  exact ⟨q0, q1, q2, q3, q4, k⟩
theorem Cell1.drewN {w : World} {b : Nat} {t : TypeId} {v : Value} (h : Cell1 w b t v) (k : Nat) : Cell1 (w.drewN k) b t v := h.on (below_drewN (Below.refl _ _) k)
theorem Sets.alloc {w : World} {n : Nat} {V : Option Addr} {yss : List (List Int)} (h : Sets w w.heap.size V n yss) (o : Obj) : Sets (w.alloc o) (w.alloc o).heap.size V n yss := h.on ((Below.refl _ _).alloc (Nat.le_refl _) o)
theorem Ints.drewH {w : World} {n : Nat} {A : Option Addr} {xs : List Int} (h : Ints w w.heap.size A n xs) (k : Nat) : Ints (w.drewN k) (w.drewN k).heap.size A n xs := ints_drewN h k

end Go.Proofs.Ytbfnffecmglgfaa
