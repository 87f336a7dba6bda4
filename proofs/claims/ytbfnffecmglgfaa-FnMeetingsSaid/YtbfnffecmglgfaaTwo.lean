/- Two locks: what stays while they are met or joined. -/
import Derived.Test.YtbfnffecmglgfaaSHull
namespace Go.Proofs.Ytbfnffecmglgfaa
open Go Go.RowKit

/-- what stays while two locks are met or joined -/
structure JArg (w W : World) (m : Mk) (V : Option Addr) (n c : Nat) (yss : List (List Int)) (V' : Option Addr) (n' c' : Nat) (zss : List (List Int)) : Prop where
  box : Boxed W w.heap.size 25 m
  a : Cell1 W (w.heap.size + 1) 30 (.slice V n c)
  b : Cell1 W (w.heap.size + 1 + 1) 30 (.slice V' n' c')
  o : Cell1 W (w.heap.size + 1 + 1 + 1) 30 (.slice none 0 0)
  sa : Sets W w.heap.size V n yss
  sb : Sets W w.heap.size V' n' zss
  bel : Below w.heap.size w W
section
variable {w W W' : World} {m : Mk} {V : Option Addr} {n c : Nat} {yss : List (List Int)} {V' : Option Addr} {n' c' : Nat} {zss : List (List Int)}
theorem JArg.on (h : JArg w W m V n c yss V' n' c' zss) (b : Below W.heap.size W W') : JArg w W' m V n c yss V' n' c' zss := ⟨h.box.on b, h.a.on b, h.b.on b, h.o.on b, h.sa.below (b.mono h.bel.size), h.sb.below (b.mono h.bel.size), below_trans' h.bel b⟩
theorem JArg.saw (h : JArg w W m V n c yss V' n' c' zss) : Sets W W.heap.size V n yss := h.sa.more h.bel.size
theorem JArg.sbw (h : JArg w W m V n c yss V' n' c' zss) : Sets W W.heap.size V' n' zss := h.sb.more h.bel.size
theorem JArg.alloc (h : JArg w W m V n c yss V' n' c' zss) (o : Obj) : JArg w (W.alloc o) m V n c yss V' n' c' zss := h.on ((Below.refl _ _).alloc (Nat.le_refl _) o)
theorem JArg.drewN (h : JArg w W m V n c yss V' n' c' zss) (k : Nat) : JArg w (W.drewN k) m V n c yss V' n' c' zss := h.on (below_drewN (Below.refl _ _) k)
theorem JArg.grown {o : Obj} {row : Option Nat} (h : JArg w W m V n c yss V' n' c' zss) (hg : (W.alloc o).grownBy W' row) (hr : ∀ k, row = some k → w.heap.size + 1 + 1 + 1 + 1 ≤ k) : JArg w W' m V n c yss V' n' c' zss := by
  have hsz := h.bel.size
  have hb := ((Below.refl w.heap.size W).alloc hsz o).grown hg (by simp; omega) (fun q e => by have := hr q e; omega)
  exact ⟨(h.box.alloc o).grown hg (fun e => by have := hr _ e.symm; omega), (h.a.alloc o).grown hg (fun e => by have := hr _ e.symm; omega), (h.b.alloc o).grown hg (fun e => by have := hr _ e.symm; omega), (h.o.alloc o).grown hg (fun e => by have := hr _ e.symm; omega), h.sa.below hb, h.sb.below hb, h.bel.trans hb⟩
theorem JArg.cells (h : JArg w W m V n c yss V' n' c' zss) : W.cell? ⟨w.heap.size, 0, none⟩ = some (.int .i64 m.C) ∧ W.cell? ⟨w.heap.size, 1, none⟩ = some (.int .i64 m.D) ∧ W.cell? ⟨w.heap.size, 2, none⟩ = some (.int .i64 m.S) ∧ W.cell? ⟨w.heap.size, 3, none⟩ = some (.int .i64 m.M) ∧ W.cell? ⟨w.heap.size, 4, none⟩ = some (.int .i64 m.L) ∧ W.cell? ⟨w.heap.size + 1, 0, none⟩ = some (.slice V n c) ∧ W.cell? ⟨w.heap.size + 1 + 1, 0, none⟩ = some (.slice V' n' c') := by
  obtain ⟨q0, q1, q2, q3, q4⟩ := h.box.cells
  exact ⟨q0, q1, q2, q3, q4, h.a.cell, h.b.cell⟩
theorem JArg.new (h : Sets w w.heap.size V n yss) (h' : Sets w w.heap.size V' n' zss) : JArg w ((((w.alloc (.cells #[.int .i64 m.C, .int .i64 m.D, .int .i64 m.S, .int .i64 m.M, .int .i64 m.L] 25)).alloc (.cells #[.slice V n c] 30)).alloc (.cells #[.slice V' n' c'] 30)).alloc (.cells #[.slice none 0 0] 30)) m V n c yss V' n' c' zss := by
  have c0 := ((((Below.refl w.heap.size w).alloc (Nat.le_refl _) (.cells #[.int .i64 m.C, .int .i64 m.D, .int .i64 m.S, .int .i64 m.M, .int .i64 m.L] 25)).alloc (by simp) (.cells #[.slice V n c] 30)).alloc (by simp; omega) (.cells #[.slice V' n' c'] 30)).alloc (by simp; omega) (.cells #[.slice none 0 0] 30)
  have x0 := (((Boxed.new w 25 m).alloc (.cells #[.slice V n c] 30)).alloc (.cells #[.slice V' n' c'] 30)).alloc (.cells #[.slice none 0 0] 30)
  have k0 := ((Cell1.new (w.alloc (.cells #[.int .i64 m.C, .int .i64 m.D, .int .i64 m.S, .int .i64 m.M, .int .i64 m.L] 25)) 30 (.slice V n c)).alloc (.cells #[.slice V' n' c'] 30)).alloc (.cells #[.slice none 0 0] 30)
  have l0 := (Cell1.new ((w.alloc (.cells #[.int .i64 m.C, .int .i64 m.D, .int .i64 m.S, .int .i64 m.M, .int .i64 m.L] 25)).alloc (.cells #[.slice V n c] 30)) 30 (.slice V' n' c')).alloc (.cells #[.slice none 0 0] 30)
  have o0 := Cell1.new (((w.alloc (.cells #[.int .i64 m.C, .int .i64 m.D, .int .i64 m.S, .int .i64 m.M, .int .i64 m.L] 25)).alloc (.cells #[.slice V n c] 30)).alloc (.cells #[.slice V' n' c'] 30)) 30 (.slice none 0 0)
  simp only [World.size_alloc] at k0 l0 o0
  exact ⟨x0, k0, l0, o0, h.below c0, h'.below c0, c0⟩
end

/-- the lists of two locks together -/
def joinP (yss zss : List (List Int)) (i d : Nat) : Bool := setP yss i d || setP zss i d
def jnL (m : Mk) (yss zss : List (List Int)) : List (List Int) := if lockB m yss && lockB m zss then lockOf m.C.toNat m.D.toNat (joinP yss zss) else []
def twoE (m : Mk) (yss zss : List (List Int)) : Int := if lockB m yss && lockB m zss then 0 else 1


end Go.Proofs.Ytbfnffecmglgfaa
