/- Makers: the law of IsMaker. -/
import Derived.Test.YtlgaocjcfdfhmaaMk
namespace Go.Proofs.Ytlgaocjcfdfhmaa
open Go.RowKit

/-- a block that holds a maker -/
def Boxed (w : World) (b : Nat) (t : TypeId) (m : Mk) : Prop := w.heap[b]? = some (.cells #[.int .i64 m.C, .int .i64 m.D, .int .i64 m.S, .int .i64 m.M, .int .i64 m.L] t (0, 0))
theorem Boxed.lt {w : World} {b : Nat} {t : TypeId} {m : Mk} (h : Boxed w b t m) : b < w.heap.size := by
  rcases Nat.lt_or_ge b w.heap.size with hlt | hge
  · exact hlt
  · unfold Boxed at h; rw [Array.getElem?_eq_none hge] at h; cases h
theorem Boxed.new (w : World) (t : TypeId) (m : Mk) : Boxed (w.alloc (.cells #[.int .i64 m.C, .int .i64 m.D, .int .i64 m.S, .int .i64 m.M, .int .i64 m.L] t)) w.heap.size t m := heap_alloc_new w _
theorem Boxed.below {w w' : World} {b B : Nat} {t : TypeId} {m : Mk} (h : Boxed w b t m) (hb : Below B w w') (hB : b < B) : Boxed w' b t m := (hb.block b hB).trans h
theorem Boxed.on {w w' : World} {b : Nat} {t : TypeId} {m : Mk} (h : Boxed w b t m) (hb : Below w.heap.size w w') : Boxed w' b t m := h.below hb h.lt
theorem Boxed.drewN {w : World} {b : Nat} {t : TypeId} {m : Mk} (h : Boxed w b t m) (n : Nat) : Boxed (w.drewN n) b t m := h
theorem Boxed.alloc {w : World} {b : Nat} {t : TypeId} {m : Mk} (h : Boxed w b t m) (o : Obj) : Boxed (w.alloc o) b t m := (Below.heap_alloc w o b h.lt).trans h
theorem Boxed.grown {w w' : World} {b : Nat} {t : TypeId} {m : Mk} {row : Option Nat} (h : Boxed w b t m) (hg : w.grownBy w' row) (hr : some b ≠ row) : Boxed w' b t m := (hg.block b h.lt hr).trans h
theorem Boxed.cells {w : World} {b : Nat} {t : TypeId} {m : Mk} (h : Boxed w b t m) : w.cell? ⟨b, 0, none⟩ = some (.int .i64 m.C) ∧ w.cell? ⟨b, 1, none⟩ = some (.int .i64 m.D) ∧ w.cell? ⟨b, 2, none⟩ = some (.int .i64 m.S) ∧ w.cell? ⟨b, 3, none⟩ = some (.int .i64 m.M) ∧ w.cell? ⟨b, 4, none⟩ = some (.int .i64 m.L) := by
  unfold Boxed at h
  refine ⟨?_, ?_, ?_, ?_, ?_⟩ <;> simp [World.cell?, h]

theorem toMaker_any (m : Mk) (w : World) :
    Calls Try.prog 42 #[.agg #[.int .i64 m.C, .int .i64 m.D, .int .i64 m.S, .int .i64 m.M, .int .i64 m.L]] w
      fun e w' => e = .returned (.agg #[.int .i64 m.C, .int .i64 m.D, .int .i64 m.S, .int .i64 m.M, .int .i64 m.L]) ∧ Below w.heap.size w w' := by
  go_enter Try.func42, Try.ntmps42
  go_wp2
  refine bodyPost_ret (v := .agg #[.int .i64 m.C, .int .i64 m.D, .int .i64 m.S, .int .i64 m.M, .int .i64 m.L]) (by simp [results, Try.results42, go_sem]) rfl ⟨rfl, ?_⟩
  exact (((Below.refl w.heap.size w).alloc (Nat.le_refl _) _).alloc (by simp) _).alloc (by simp; omega) _

end Go.Proofs.Ytlgaocjcfdfhmaa
