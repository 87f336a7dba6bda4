/- What the laws of functions that give locks want: a lock's block that is laid ahead, and stores into it. -/
import Derived.Test.YtbfnffecmglgfaaLawKit
import Derived.Test.YtbfnffecmglgfaaSHull
import Derived.Deep.RegionHeld3
namespace Go.Proofs.Ytbfnffecmglgfaa
open Go Go.RowKit

/-- a region's walk, its words and its slots under names -/
theorem with_slots {P : Program} {md : Region.Mode} {ops : Array Oper} {Q : Exit → Act → World → Prop} {S : World → Prop} {fuel : Nat} {listed : Array Bool} {t : Array Value} {w : World} (h : ∀ (G : Nat → Array Bool → Act → World → Prop) (T : Array Value), G = wpAnyH P md ops Q S → T = t → G fuel listed { tmps := T, defers := [] } w) : wpAnyH P md ops Q S fuel listed { tmps := t, defers := [] } w := h _ _ rfl rfl
theorem cell_one {w : World} {b : Nat} {t : TypeId} {v u : Value} {p : Addr} (h : Cell1 w b t v) (hp : p.block = b) (hc : w.cell? p = some u) : u = v := by
  subst hp
  unfold Cell1 at h
  unfold World.cell? at hc
  simp only [h] at hc
  rcases hix : p with ⟨bk, off, inn⟩
  subst hix
  simp at hc
  rcases off with _ | off
  · rcases inn with _ | i
    · simp at hc
      exact hc.symm
    · simp at hc
  · simp at hc
theorem Sets.notat {w : World} {B n b : Nat} {V : Option Addr} {yss : List (List Int)} {t : TypeId} (h : Sets w B V n yss) (hne : ∀ ys ∈ yss, ys.length ≠ 0) (k : Cell1 w b t (.slice none 0 0)) (hn : 0 < n) : ∀ ad, V = some ad → ad.block ≠ b := by
  intro ad e hb
  obtain ⟨ad', ys, A, q, c, e', _, hy, hc, hi, _, _⟩ := h.at_ hn
  rw [e] at e'
  injection e' with e'
  subst e'
  have h1 := cell_one k (p := ad.add 0) (by rw [block_of_add]; exact hb) hc
  injection h1 with _ h2 _
  have := hi.len
  exact hne ys (List.mem_of_getElem? hy) (by omega)
theorem Sets.stored {w : World} {n g : Nat} {V : Option Addr} {yss : List (List Int)} {t : TypeId} (h : Sets w w.heap.size V n yss) (hne : ∀ ys ∈ yss, ys.length ≠ 0) (k : Cell1 w g t (.slice none 0 0)) (u : Value) : Sets (w.setCell ⟨g, 0, none⟩ u) (w.setCell ⟨g, 0, none⟩ u).heap.size V n yss := by
  rcases Nat.eq_zero_or_pos n with h0 | h0
  · subst h0
    exact ⟨h.1, fun h => absurd h (by omega)⟩
  · exact h.past (p := ⟨g, 0, none⟩) k (h.notat hne k h0) u
theorem boxed_and2 {W : World} {b : Nat} {t : TypeId} {m : Mk} {p p' : Addr} {v v' : Value} (h : Boxed W b t m) (k : W.cell? p = some v) (k' : W.cell? p' = some v') : W.cell? ⟨b, 0, none⟩ = some (.int .i64 m.C) ∧ W.cell? ⟨b, 1, none⟩ = some (.int .i64 m.D) ∧ W.cell? ⟨b, 2, none⟩ = some (.int .i64 m.S) ∧ W.cell? ⟨b, 3, none⟩ = some (.int .i64 m.M) ∧ W.cell? ⟨b, 4, none⟩ = some (.int .i64 m.L) ∧ W.cell? p = some v ∧ W.cell? p' = some v' := by
  obtain ⟨q0, q1, q2, q3, q4⟩ := h.cells
  exact ⟨q0, q1, q2, q3, q4, k, k'⟩
theorem below_of_drewN {W W' : World} {k : Nat} (h : W' = W.drewN k) : Below W.heap.size W W' := by rw [h]; exact below_drewN (Below.refl _ _) k
theorem below_alloc' (W : World) (o : Obj) : Below W.heap.size W (W.alloc o) := (Below.refl _ _).alloc (Nat.le_refl _) o

end Go.Proofs.Ytbfnffecmglgfaa
