/- Draws of a number and of a list of numbers. -/
import Derived.Test.YtlgaocjcfdfhmaaDrawRise
namespace Go.Proofs.Ytlgaocjcfdfhmaa
open Go.RowKit

theorem grown_alloc {a w : World} {row : Option Nat} (h : a.grownBy w row) (o : Obj) : a.grownBy (w.alloc o) row :=
  ⟨h.os, h.tape, h.output, Nat.le_trans h.size (by simp), fun i hi hne => (Below.heap_alloc w o i (Nat.lt_of_lt_of_le hi h.size)).trans (h.block i hi hne)⟩
theorem Src.alloc {w : World} {B g n c : Nat} {A : Option Addr} (h : Src w B g A n c) (o : Obj) : Src (w.alloc o) B g A n c :=
  h.on ((Below.refl w.heap.size w).alloc (Nat.le_refl _) o) (by have := h.lt; have := h.1; omega)

/-- a store into a block that is newer than the first world -/
theorem grown_own {w a b : World} {row row' : Option Nat} (h : w.grownBy a row) (k : a.grownBy b row') (hr : ∀ q, row' = some q → w.heap.size ≤ q) : w.grownBy b row :=
  ⟨k.os.trans h.os, k.tape.trans h.tape, k.output.trans h.output, Nat.le_trans h.size k.size, fun i hi hne => (k.block i (Nat.lt_of_lt_of_le hi h.size) (fun e => by have := hr i e.symm; omega)).trans (h.block i hi hne)⟩

/-- what a draw of a number between two others answers -/
def DrawnIn (w : World) (B g : Nat) (A : Option Addr) (n c : Nat) (lo hi : Int) (e : Ending) (w' : World) : Prop :=
  ∃ r : Int, e = .returned (.int .i64 r) ∧ lo ≤ r ∧ r ≤ hi ∧ Src w' B g A n c ∧ w.grownBy w' (some g)

theorem row_cap {w : World} {base t n m c : Nat} {A : Option Addr} {xs : List Value} (h : w.ownsRow base t 1 (.slice A m c) n xs) : n ≤ c := by
  rcases h.2 with ⟨_, rfl⟩ | ⟨g, cap, cur, hv, _, _, hc, _⟩
  · exact Nat.zero_le _
  · injection hv with _ _ e
    omega
def lenOfV : Value → Nat
  | .slice _ n _ => n
  | _ => 0

/-- what a draw of a list answers -/
def DrawnOwn (w : World) (B g : Nat) (A : Option Addr) (n c : Nat) (e : Ending) (w' : World) : Prop :=
  ∃ A' m c' xs, e = .returned (.slice A' m c') ∧ Own w' w.heap.size w'.heap.size A' m xs ∧ m ≤ 101 ∧ m ≤ c' ∧ Src w' B g A n c ∧ w.grownBy w' (some g)

end Go.Proofs.Ytlgaocjcfdfhmaa
