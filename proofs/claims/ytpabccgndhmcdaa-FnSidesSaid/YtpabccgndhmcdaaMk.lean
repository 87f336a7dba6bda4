/- Makers: their five numbers and what is valid; contracts of IsMaker, of the program and of the model. Makers: the law of IsMaker. -/
import Derived.Test.YtpabccgndhmcdaaOwn
namespace Go.Proofs.Ytpabccgndhmcdaa
open Go.RowKit

/-- the numbers of a maker: chambers, depths, step, same, least -/
structure Mk where
  C : Int
  D : Int
  S : Int
  M : Int
  L : Int

def Mk.ok (m : Mk) : Bool := inB m.C 2 6 && (inB m.D 2 8 && (inB m.S 1 (m.D - 1) && (inB m.M 1 m.C && inB m.L 1 (min m.C m.D))))
theorem Mk.ok_true {m : Mk} (h : m.ok = true) : 2 ≤ m.C ∧ m.C ≤ 6 ∧ 2 ≤ m.D ∧ m.D ≤ 8 ∧ 1 ≤ m.S ∧ m.S ≤ m.D - 1 ∧ 1 ≤ m.M ∧ m.M ≤ m.C ∧ 1 ≤ m.L ∧ m.L ≤ m.C ∧ m.L ≤ m.D := by
  unfold Mk.ok at h
  simp only [Bool.and_eq_true, inB_true] at h
  omega
theorem ok_no1 {m : Mk} (h : inB m.C 2 6 = false) : m.ok = false := by simp [Mk.ok, h]
theorem ok_no2 {m : Mk} (h : inB m.D 2 8 = false) : m.ok = false := by simp [Mk.ok, h]
theorem ok_no3 {m : Mk} (h : inB m.S 1 (m.D - 1) = false) : m.ok = false := by simp [Mk.ok, h]
theorem ok_no4 {m : Mk} (h : inB m.M 1 m.C = false) : m.ok = false := by simp [Mk.ok, h]
theorem ok_same {m : Mk} (h1 : inB m.C 2 6 = true) (h2 : inB m.D 2 8 = true) (h3 : inB m.S 1 (m.D - 1) = true) (h4 : inB m.M 1 m.C = true) : m.ok = inB m.L 1 (min m.C m.D) := by simp [Mk.ok, h1, h2, h3, h4]

theorem isWithin_at (n a b : Int) (w : World) (q : Bool) (h : inB n a b = q) :
    Calls Try.prog 62 #[.int .i64 n, .int .i64 a, .int .i64 b] w fun e w' => e = .returned (.bool q) ∧ w = w' := by
  subst h; exact isWithin_any n a b w

theorem l01In_at (n a b : Int) (w : World) (q : Bool) (h : inB n a b = q) :
    Calls Try.prog 63 #[.int .i64 n, .int .i64 a, .int .i64 b] w fun e w' => e = .returned (.bool q) ∧ w = w' := by
  subst h; exact l01In_any n a b w

end Go.Proofs.Ytpabccgndhmcdaa

namespace Go.Proofs.Ytpabccgndhmcdaa
open Go.RowKit

/-- a block that holds a maker -/
def Boxed (w : World) (b : Nat) (t : TypeId) (m : Mk) : Prop := w.heap[b]? = some (.cells #[.int .i64 m.C, .int .i64 m.D, .int .i64 m.S, .int .i64 m.M, .int .i64 m.L] t (0, 0))
theorem Boxed.lt {w : World} {b : Nat} {t : TypeId} {m : Mk} (h : Boxed w b t m) : b < w.heap.size := by
  rcases Nat.lt_or_ge b w.heap.size with hlt | hge
  · exact hlt
  · unfold Boxed at h; rw [Array.getElem?_eq_none hge] at h; cases h
theorem Boxed.new (w : World) (t : TypeId) (m : Mk) : Boxed (w.alloc (.cells #[.int .i64 m.C, .int .i64 m.D, .int .i64 m.S, .int .i64 m.M, .int .i64 m.L] t)) w.heap.size t m := heap_alloc_new w _
theorem Boxed.below {w w' : World} {b B : Nat} {t : TypeId} {m : Mk} (h : Boxed w b t m) (hb : Below B w w') (hB : b < B) : Boxed w' b t m := (hb.block b hB).trans h
theorem Boxed.on {w w' : World} {b : Nat} {t : TypeId} {m : Mk} (h : Boxed w b t m) (hb : Below w.heap.size w w') : Boxed w' b t m := h.below hb h.lt
theorem Boxed.drewN {w : World} {b : Nat} {t : TypeId} {m : Mk} (h : Boxed w b t m) (n : Nat) : Boxed (w.drewN n) b t m := h
theorem Boxed.alloc {w : World} {b : Nat} {t : TypeId} {m : Mk} (h : Boxed w b t m) (o : Obj) : Boxed (w.alloc o) b t m := (Below.heap_alloc w o b h.lt).trans h
theorem Boxed.grown {w w' : World} {b : Nat} {t : TypeId} {m : Mk} {row : Option Nat} (h : Boxed w b t m) (hg : w.grownBy w' row) (hr : some b ≠ row) : Boxed w' b t m := (hg.block b h.lt hr).trans h
theorem Boxed.cells {w : World} {b : Nat} {t : TypeId} {m : Mk} (h : Boxed w b t m) : w.cell? ⟨b, 0, none⟩ = some (.int .i64 m.C) ∧ w.cell? ⟨b, 1, none⟩ = some (.int .i64 m.D) ∧ w.cell? ⟨b, 2, none⟩ = some (.int .i64 m.S) ∧ w.cell? ⟨b, 3, none⟩ = some (.int .i64 m.M) ∧ w.cell? ⟨b, 4, none⟩ = some (.int .i64 m.L) := by
  unfold Boxed at h
  refine ⟨?_, ?_, ?_, ?_, ?_⟩ <;> simp [World.cell?, h]

end Go.Proofs.Ytpabccgndhmcdaa
