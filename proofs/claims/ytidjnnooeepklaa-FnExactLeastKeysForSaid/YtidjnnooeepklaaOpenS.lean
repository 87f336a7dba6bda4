/- Lists of lists, and locks, as they come in: what the reading of an argument says of memory. -/
import Derived.Test.YtidjnnooeepklaaSets
import Derived.OpenShut
import Derived.ChangeOld
namespace Go.Proofs.Ytidjnnooeepklaa
open Go Go.RowKit Go.WideShapes Go.ChangeShapes

theorem open_row {H : Type} {enc : TypeId × Value → H} {P : Program} {w : World} {base : Nat} {spare : Nat → Bool} {held : Bool} {t e : TypeId} {fuel : Nat} {cs : List Value} {x : DataW H × List MemPlace}
    (ht : P.underlying t = some (.slice e)) (he : P.underlying e = some (.int .i64)) (hc : P.cellsOf e = 1) (h : DataW.trod enc P w base spare held fuel t cs = some x) :
    ∃ A q c ys, cs = [.slice A q c] ∧ Ints w w.heap.size A q ys ∧ q ≤ c ∧ c ≤ 9223372036854775807 := by
  rcases open_ints ht he hc h with ⟨hcs, _⟩ | ⟨a, len, cap, zs, hcs, _, hl, hm, hz, _, hcell, _⟩
  · exact ⟨none, 0, 0, [], hcs, ⟨rfl, fun h => absurd h (by omega)⟩, Nat.le_refl _, by omega⟩
  · have hlz : len ≤ zs.length := by rw [hz]; split <;> omega
    refine ⟨some a, len, cap, zs.take len, hcs, ⟨by rw [List.length_take]; omega, fun hp => ⟨a, rfl, ?_, fun j v hv => ?_⟩⟩, hl, hm⟩
    · have := hcell 0 (by omega)
      have hb := World.block_lt_of_cell? w _ this
      rwa [block_of_add] at hb
    · rw [List.getElem?_take] at hv
      split at hv
      · rw [hcell j (by have := (List.getElem?_eq_some_iff.1 hv).1; exact this), List.getD_eq_getElem?_getD, hv]; rfl
      · cases hv
theorem open_sets {H : Type} {enc : TypeId × Value → H} {P : Program} {w : World} {base : Nat} {spare : Nat → Bool} {held : Bool} {t e i : TypeId} {fuel : Nat} {cs : List Value} {x : DataW H × List MemPlace}
    (ht : P.underlying t = some (.slice e)) (he : P.underlying e = some (.slice i)) (hi : P.underlying i = some (.int .i64)) (hce : P.cellsOf e = 1) (hci : P.cellsOf i = 1)
    (h : DataW.trod enc P w base spare held fuel t cs = some x) :
    ∃ V n c yss, cs = [.slice V n c] ∧ Sets w w.heap.size V n yss ∧ n ≤ c ∧ c ≤ 9223372036854775807 := by
  rcases DataW.trod_slice ht h with ⟨hcs, _⟩ | ⟨a, len, cap, elems, rest, n, _, hcs, _, _, hl, hm, hlen, hel, _, _⟩
  · exact ⟨none, 0, 0, [], hcs, Sets.nil _, Nat.le_refl _, by omega⟩
  · have each : ∀ j, j < len → ∃ A q c ys, w.cell? (a.add j) = some (.slice A q c) ∧ Ints w w.heap.size A q ys ∧ q ≤ c ∧ c ≤ 9223372036854775807 := by
      intro j hj
      have h1 := hel j hj
      rw [List.getElem?_eq_getElem (by omega), hce, Nat.mul_one, Option.bind_eq_some_iff] at h1
      obtain ⟨cs', hcs', hy⟩ := h1
      obtain ⟨A, q, c, ys, rfl, h2, h3, h4⟩ := open_row he hi hci hy
      exact ⟨A, q, c, ys, cell_of_cells?_one hcs', h2, h3, h4⟩
    have all : ∃ yss : List (List Int), yss.length = len ∧ ∀ (j : Nat) (ys : List Int), yss[j]? = some ys → ∃ A q c, w.cell? (a.add j) = some (.slice A q c) ∧ Ints w w.heap.size A q ys ∧ q ≤ c ∧ c ≤ 9223372036854775807 := by
      have go : ∀ k, k ≤ len → ∃ yss : List (List Int), yss.length = k ∧ ∀ (j : Nat) (ys : List Int), yss[j]? = some ys → ∃ A q c, w.cell? (a.add j) = some (.slice A q c) ∧ Ints w w.heap.size A q ys ∧ q ≤ c ∧ c ≤ 9223372036854775807 := by
        intro k
        induction k with
        | zero => intro _; exact ⟨[], rfl, fun j ys hj => by simp at hj⟩
        | succ k ih =>
          intro hk
          obtain ⟨yss, h1, h2⟩ := ih (by omega)
          obtain ⟨A, q, c, ys, h3, h4, h5, h6⟩ := each k (by omega)
          refine ⟨yss ++ [ys], by simp [h1], fun j zs hz => ?_⟩
          rcases Nat.lt_or_ge j k with hlt | hge
          · rw [List.getElem?_append_left (by omega)] at hz
            exact h2 j zs hz
          · have hjk : j = k := by
              have := (List.getElem?_eq_some_iff.1 hz).1
              simp [h1] at this
              omega
            subst hjk
            rw [List.getElem?_append_right (by omega), h1, Nat.sub_self] at hz
            simp at hz
            subst hz
            exact ⟨A, q, c, h3, h4, h5, h6⟩
      exact go len (Nat.le_refl _)
    obtain ⟨yss, h1, h2⟩ := all
    refine ⟨some a, len, cap, yss, hcs, ⟨h1, fun hp => ⟨a, rfl, ?_, h2⟩⟩, hl, hm⟩
    obtain ⟨A, q, c, ys, h3, _⟩ := each 0 hp
    have hb := World.block_lt_of_cell? w _ h3
    rwa [block_of_add] at hb
/-- a struct of one list of lists that came in, by value -/
theorem sets1 {H : Type} {enc : TypeId × Value → H} {P : Program} {w : World} {base b0 : Nat} {spare : Nat → Bool} {held : Bool} {r : Reach} {t s e i : TypeId} {f0 : Field} {v : Value} {d : DataW H} {p : List MemPlace}
    (hs : P.underlying t = some (.struct #[f0])) (ho : f0.offset = 0) (hC : P.cellsOf t = 1) (hsl : P.underlying s = some (.slice e)) (he : P.underlying e = some (.slice i)) (hi : P.underlying i = some (.int .i64)) (hcs : P.cellsOf s = 1) (hce : P.cellsOf e = 1) (hci : P.cellsOf i = 1)
    (hv : Value.okWide P w r b0 t v) (h : DataW.Trod enc P w base spare held t v d p) (e0 : f0.type = s) :
    ∃ V n c yss, v = .agg #[.slice V n c] ∧ Sets w w.heap.size V n yss ∧ n ≤ c ∧ c ≤ 9223372036854775807 := by
  obtain ⟨cs, rfl, hsz⟩ := okWide_struct hs hv
  have h1 : cs.size = 1 := hsz.trans hC
  obtain ⟨c0, rfl⟩ : ∃ c0, cs = #[c0] := by
    obtain ⟨l⟩ := cs
    match l, h1 with
    | [c0], _ => exact ⟨c0, rfl⟩
  obtain ⟨fuel, hf⟩ := h
  obtain ⟨xs, n, _, _, _, hlen, hg⟩ := DataW.trod_struct hs hf
  have h2 := hg 0 f0 rfl
  have hx : xs[0]? = some (xs[0]'(by rw [hlen]; exact Nat.zero_lt_one)) := List.getElem?_eq_getElem _
  rw [hx, e0, ho, hcs] at h2
  obtain ⟨V, m, c, yss, h3, h4⟩ := open_sets hsl he hi hce hci h2
  refine ⟨V, m, c, yss, ?_, h4⟩
  have : c0 = .slice V m c := by simpa [Value.cells] using h3
  rw [this]

end Go.Proofs.Ytidjnnooeepklaa
