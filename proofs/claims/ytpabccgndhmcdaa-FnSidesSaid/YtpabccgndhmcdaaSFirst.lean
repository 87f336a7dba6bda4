/- l02First of the model: its contract. l02First of the model: its walk. -/
import Derived.Test.YtpabccgndhmcdaaSBeg
import Derived.Test.YtpabccgndhmcdaaNext
import Derived.Laws.AppendOwnNone
import Derived.Deep.RegionHeld3
namespace Go.Proofs.Ytpabccgndhmcdaa
open Go.RowKit

/-- a row of its own that reads as a list -/
def OwnRow (w : World) (n : Nat) (xs : List Int) (e : Ending) (w' : World) : Prop := ∃ v, e = .returned v ∧ w'.ownsRow w.heap.size 2 1 v n (intsV xs) ∧ Below w.heap.size w w'

end Go.Proofs.Ytpabccgndhmcdaa

namespace Go.Proofs.Ytpabccgndhmcdaa
open Go.RowKit

/-- what l02First answers: res are the keys that it looks for the first of -/
def FirstOk (w : World) (lo : Nat) (res : List (List Int)) (e : Ending) (w' : World) : Prop :=
  ∃ A n c ok ys, e = .returned (.tuple #[.slice A n c, .bool ok]) ∧ Own w' lo w'.heap.size A n ys ∧ n ≤ 1048576 ∧ n ≤ c ∧ c ≤ 9223372036854775807 ∧ Below w.heap.size w w' ∧ ((ok = true ∧ res.head? = some ys) ∨ (ok = false ∧ res = []))
theorem Ints.alloc {w : World} {B n : Nat} {A : Option Addr} {xs : List Int} (h : Ints w B A n xs) (hB : B ≤ w.heap.size) (o : Obj) : Ints (w.alloc o) (w.alloc o).heap.size A n xs :=
  (h.below ((Below.refl B w).alloc hB o)).more (by simp; omega)
/-- a block made before a call is still there behind it -/
theorem news_behind {w w2 : World} {d : Int} {t : TypeId} (hb : Below (w.alloc (.cells #[.int .i64 d] t)).drew.heap.size (w.alloc (.cells #[.int .i64 d] t)).drew w2) : ∀ (j : Nat) (u : Value), [Value.int .i64 d][j]? = some u → w2.cell? ((⟨w.heap.size, 0, none⟩ : Addr).add j) = some u := by
  intro j u hu
  have h1 := World.news_of_block (cs := #[.int .i64 d]) (t := t) (fr := (0, 0)) (heap_alloc_new w _) j u hu
  refine (hb.cell ?_).trans h1
  rw [block_of_add]
  show w.heap.size < (w.alloc _).heap.size
  simp

end Go.Proofs.Ytpabccgndhmcdaa
