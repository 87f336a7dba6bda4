/- The draw for IsRising. -/
import Derived.Test.YtlgaocjcfdfhmaaDrawChoose
import Derived.Deep.AppendLies
namespace Go.Proofs.Ytlgaocjcfdfhmaa
open Go.RowKit

def listI (xs : List Int) : List Value := xs.map (Value.int .i64)
theorem listI_snoc (xs : List Int) (v : Int) : listI xs ++ [.int .i64 v] = listI (xs ++ [v]) := by simp [listI]
theorem row_base {w : World} {base t n : Nat} {v : Value} {xs : List Value} (h : w.ownsRow base t 1 v n xs) : ∀ k, v.ownBlock = some k → base ≤ k := by
  intro k hk
  rcases h.2 with ⟨rfl, _⟩ | ⟨g, cap, cur, rfl, hb, _⟩
  · cases hk
  · have : g = k := by simpa [Value.ownBlock] using hk
    omega
theorem row_apart {w w' : World} {base t n g : Nat} {v : Value} {xs : List Value} (h : w.ownsRow base t 1 v n xs) (hg : w.grownBy w' (some g)) (hlt : g < base) : w'.ownsRow base t 1 v n xs :=
  h.kept hg (by
    rcases hv : v.ownBlock with _ | k
    · exact .inl rfl
    · refine .inr (fun e => ?_)
      have := row_base h k hv
      injection e with e
      omega)
theorem row_empty {w : World} {base t : Nat} (hb : base ≤ w.heap.size) : (w.alloc (.cells #[] t)).ownsRow base t 1 (.slice (some ⟨w.heap.size, 0, none⟩) 0 0) 0 [] :=
  ⟨rfl, .inr ⟨w.heap.size, 0, #[], rfl, hb, heap_alloc_new w _, Nat.le_refl _, by unfold maxLen; omega, rfl, rfl⟩⟩
theorem row_ints {w : World} {base t n : Nat} {v : Value} {xs : List Int} (h : w.ownsRow base t 1 v n (listI xs)) (hl : xs.length = n) : ∃ A c, v = .slice A n c ∧ Own w base w.heap.size A n xs := by
  rcases h.2 with ⟨rfl, rfl⟩ | ⟨g, cap, cur, rfl, hb, hg, hnc, hcm, hcs, htk⟩
  · obtain rfl := List.eq_nil_of_length_eq_zero hl
    exact ⟨none, 0, rfl, Own.nil _ (Nat.le_refl _)⟩
  · have hlt : g < w.heap.size := lt_of_heap hg
    refine ⟨_, _, rfl, hl, Nat.le_refl _, fun _ => ⟨_, rfl, hb, hlt, fun j u hu => ?_⟩⟩
    have hc := h.cells (g := g) rfl j (.int .i64 u) (by unfold listI; rw [List.getElem?_map, hu]; rfl)
    refine ⟨?_, hc⟩
    unfold Addr.add
    split <;> simp [World.frozen?, hg]
theorem Src.apart {w w' : World} {B g n c : Nat} {A : Option Addr} {row : Option Nat} (h : Src w B g A n c) (hg : w.grownBy w' row) (hr : ∀ k, row = some k → g < k) : Src w' B g A n c := by
  obtain ⟨h1, h2, h3, p, s, hp, s0, s1, hh⟩ := h
  refine ⟨h1, h2, fun hn => ?_, p, s, hp, s0, s1, (hg.block g (lt_of_heap hh) (fun e => by have := hr g e.symm; omega)).trans hh⟩
  obtain ⟨ad, e, hb, hc⟩ := h3 hn
  refine ⟨ad, e, hb, fun j hj => ?_⟩
  obtain ⟨u, u0, u1, hu⟩ := hc j hj
  exact ⟨u, u0, u1, hg.cell hu (by rw [block_of_add]; intro e; have := hr _ e.symm; omega)⟩

/-- what the draw of a list and a small number answers -/
def DrawnList (w : World) (e : Ending) (w' : World) : Prop :=
  ∃ A n c xs m, e = .returned (.tuple #[.slice A n c, .int .i64 m]) ∧ Ints w' w'.heap.size A n xs ∧ n ≤ 1000 ∧ -1000 ≤ m ∧ m ≤ 1000 ∧ Below w.heap.size w w'

end Go.Proofs.Ytlgaocjcfdfhmaa
