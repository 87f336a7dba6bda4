/- The draw for ChooseOf. -/
import Derived.Test.YtlgaocjcfdfhmaaDraw2
namespace Go.Proofs.Ytlgaocjcfdfhmaa
open Go.RowKit

theorem Src.on {w w' : World} {B g n c : Nat} {A : Option Addr} (h : Src w B g A n c) (hb : Below w.heap.size w w') (hB : B ≤ w.heap.size) : Src w' B g A n c := by
  obtain ⟨h1, h2, h3, p, s, hp, s0, s1, hh⟩ := h
  exact ⟨h1, h2, h3.keep (fun q hq => hb.cell (by omega)), p, s, hp, s0, s1, (hb.block g (lt_of_heap hh)).trans hh⟩
theorem Src.lt {w : World} {B g n c : Nat} {A : Option Addr} (h : Src w B g A n c) : g < w.heap.size := by
  obtain ⟨_, _, _, p, s, _, _, _, hh⟩ := h
  exact lt_of_heap hh
theorem ints_new (w : World) (xs : List Int) (t : TypeId) : Ints (w.alloc (.cells (xs.map (Value.int .i64)).toArray t)) (w.alloc (.cells (xs.map (Value.int .i64)).toArray t)).heap.size (some ⟨w.heap.size, 0, none⟩) xs.length xs := by
  refine ⟨rfl, fun _ => ⟨_, rfl, by simp, fun j v hv => ?_⟩⟩
  have e : (⟨w.heap.size, 0, none⟩ : Addr).add j = ⟨w.heap.size, j, none⟩ := by
    unfold Addr.add
    split
    · next h0 => subst h0; rfl
    · simp
  rw [e, World.cell?_alloc_at _ _ _ _ rfl, List.getElem?_toArray, List.getElem?_map, hv]
  rfl

/-- what the draw of two small numbers answers -/
def DrawnTwo (w : World) (lo hi lo2 hi2 : Int) (e : Ending) (w' : World) : Prop :=
  ∃ n k : Int, e = .returned (.tuple #[.int .i64 n, .int .i64 k]) ∧ lo ≤ n ∧ n ≤ hi ∧ lo2 ≤ k ∧ k ≤ hi2 ∧ Below w.heap.size w w'

end Go.Proofs.Ytlgaocjcfdfhmaa
