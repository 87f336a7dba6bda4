/- Buildings as they come in: what the reading of an argument says of memory. -/
import Derived.Test.YtnadcjclihflcaaOpenS
import Derived.Test.YtnadcjclihflcaaBldK
import Derived.Lib.SmallJoins
namespace Go.Proofs.Ytnadcjclihflcaa
open Go Go.RowKit Go.WideShapes Go.ChangeShapes Go.Deep Go.ChangeAt Go.Joins

theorem open_rowB {H : Type} {enc : TypeId × Value → H} {P : Program} {w : World} {base : Nat} {spare : Nat → Bool} {held : Bool} {t e : TypeId} {fuel : Nat} {cs : List Value} {x : DataW H × List MemPlace}
    (ht : P.underlying t = some (.slice e)) (he : P.underlying e = some .bool) (hce : P.cellsOf e = 1) (h : DataW.trod enc P w base spare held fuel t cs = some x) :
    ∃ A q c ys, cs = [.slice A q c] ∧ Bools w w.heap.size A q ys ∧ q ≤ c ∧ c ≤ 9223372036854775807 := by
  rcases DataW.trod_slice ht h with ⟨hcs, _⟩ | ⟨a, len, cap, elems, rest, n, _, hcs, _, _, hl, hm, hlen, hel, _, _⟩
  · exact ⟨none, 0, 0, [], hcs, ⟨rfl, fun h => absurd h (by omega)⟩, Nat.le_refl _, by omega⟩
  · have each : ∀ j, j < len → ∃ b : Bool, w.cell? (a.add j) = some (.bool b) := by
      intro j hj
      have h1 := hel j hj
      rw [List.getElem?_eq_getElem (by omega), hce, Nat.mul_one, Option.bind_eq_some_iff] at h1
      obtain ⟨cs', hcs', hy⟩ := h1
      obtain ⟨b, h2, _⟩ := DataW.trod_bool he hy
      subst h2
      exact ⟨b, cell_of_cells?_one hcs'⟩
    have all : ∀ k, k ≤ len → ∃ ys : List Bool, ys.length = k ∧ ∀ (j : Nat) (v : Bool), ys[j]? = some v → w.cell? (a.add j) = some (.bool v) := by
      intro k
      induction k with
      | zero => intro _; exact ⟨[], rfl, fun j v hj => by simp at hj⟩
      | succ k ih =>
        intro hk
        obtain ⟨ys, h1, h2⟩ := ih (by omega)
        obtain ⟨b, h3⟩ := each k (by omega)
        refine ⟨ys ++ [b], by simp [h1], fun j v hv => ?_⟩
        rcases Nat.lt_or_ge j k with hlt | hge
        · rw [List.getElem?_append_left (by omega)] at hv
          exact h2 j v hv
        · have hjk : j = k := by
            have := (List.getElem?_eq_some_iff.1 hv).1
            simp [h1] at this
            omega
          subst hjk
          rw [List.getElem?_append_right (by omega), h1, Nat.sub_self] at hv
          simp at hv
          subst hv
          exact h3
    obtain ⟨ys, h1, h2⟩ := all len (Nat.le_refl _)
    refine ⟨some a, len, cap, ys, hcs, ⟨h1, fun hp => ⟨a, rfl, ?_, h2⟩⟩, hl, hm⟩
    obtain ⟨b, h3⟩ := each 0 hp
    have hb := World.block_lt_of_cell? w _ h3
    rwa [block_of_add] at hb
/-- a struct of a list of numbers and a list of truth values that came in, by value -/
theorem bld2 {H : Type} {enc : TypeId × Value → H} {P : Program} {w : World} {base b0 : Nat} {spare : Nat → Bool} {held : Bool} {r : Reach} {t s1 s2 i b : TypeId} {f0 f1 : Field} {v : Value} {d : DataW H} {p : List MemPlace}
    (hs : P.underlying t = some (.struct #[f0, f1])) (hone : oneCellFields P #[f0, f1] = true) (hC : P.cellsOf t = 2) (h1 : P.underlying s1 = some (.slice i)) (hi : P.underlying i = some (.int .i64)) (hci : P.cellsOf i = 1) (h2 : P.underlying s2 = some (.slice b)) (hb : P.underlying b = some .bool) (hcb : P.cellsOf b = 1)
    (hv : Value.okWide P w r b0 t v) (h : DataW.Trod enc P w base spare held t v d p) (e0 : f0.type = s1) (e1 : f1.type = s2) :
    ∃ A n c B k d zs ys, v = .agg #[.slice A n c, .slice B k d] ∧ Bld w A n B k zs ys ∧ n ≤ 9223372036854775807 ∧ k ≤ 9223372036854775807 := by
  obtain ⟨v0, v1, y0, y1, n, rfl, _, _, g0, g1⟩ := open_agg2 hs hone hC hv h
  rw [e0] at g0
  rw [e1] at g1
  obtain ⟨A, q, c, zs, c1, r1, r2, r3⟩ := open_row h1 hi hci g0
  obtain ⟨B, k, d, ys, c2, r4, r5, r6⟩ := open_rowB h2 hb hcb g1
  injection c1 with c1
  injection c2 with c2
  subst c1; subst c2
  exact ⟨A, q, c, B, k, d, zs, ys, rfl, ⟨r1, r4⟩, by omega, by omega⟩

end Go.Proofs.Ytnadcjclihflcaa
