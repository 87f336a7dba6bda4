/- A drawn lock: its lists lie from a block on, its row may be written. -/
import Derived.Test.YtbfnffecmglgfaaFar
namespace Go.Proofs.Ytbfnffecmglgfaa
open Go Go.RowKit

structure Lk (w : World) (lo : Nat) (V : Option Addr) (n c : Nat) (zss : List (List Int)) : Prop where
  far : Far w lo V n c zss
  free : RowFree w (.slice V n c)
theorem Lk.step {w w' : World} {lo n c : Nat} {V : Option Addr} {zss : List (List Int)} (h : Lk w lo V n c zss) (hs : Far w' lo V n c zss) (hk : ∀ ad, V = some ad → ad.block < w.heap.size → w'.heap[ad.block]? = w.heap[ad.block]?) : Lk w' lo V n c zss := ⟨hs, fun ad k c' e j hj => by
  have hn : 0 < n := by injection e with _ e2 _; omega
  obtain ⟨ad', e', hab, _⟩ := h.far.sets.2 hn
  have e3 : ad' = ad := by injection e with e1 _ _; rw [e'] at e1; injection e1
  subst e3
  have hb := hk ad' e' hab
  have hb' : w'.heap[(ad'.add j).block]? = w.heap[(ad'.add j).block]? := by rw [block_of_add]; exact hb
  rw [World.frozen?_of_block (w := w) hb', World.cell?_of_block (w := w) hb']
  exact h.free ad' k c' e j hj⟩
theorem Lk.on {w w' : World} {lo n c : Nat} {V : Option Addr} {zss : List (List Int)} (h : Lk w lo V n c zss) (hb : Below w.heap.size w w') : Lk w' lo V n c zss :=
  h.step (h.far.on hb) (fun _ _ hlt => hb.block _ hlt)
theorem Lk.grown {w w' : World} {lo n c g : Nat} {V : Option Addr} {zss : List (List Int)} (h : Lk w lo V n c zss) (hg : w.grownBy w' (some g)) (hp : g < lo) : Lk w' lo V n c zss :=
  h.step (h.far.grown hg hp) (fun ad e hlt => hg.block _ hlt (fun e4 => by injection e4 with e4; have := h.far.top ad e; omega))
/-- what a store into the row wants, and what it leaves -/
theorem Lk.swap {w : World} {lo n c j q c' : Nat} {ad : Addr} {zss : List (List Int)} {A : Option Addr} {ys : List Int} (h : Lk w lo (some ad) n c zss) (hj : j < n) (hi : Ints w w.heap.size A q ys) (hlo : 0 < q → ∀ a, A = some a → lo ≤ a.block ∧ a.block ≠ ad.block) (hq : q ≤ c') (hc' : c' ≤ 9223372036854775807) :
    Far (w.setCell (ad.add j) (.slice A q c')) lo (some ad) n c (zss.set j ys) := by
  refine ⟨h.far.sets.swap h.free hj hi (fun h0 a e => (hlo h0 a e).2) hq hc', h.far.top, fun bd k c2 e i hi2 a q2 c3 hcc h0 => ?_⟩
  obtain ⟨e1, e2, _⟩ := Value.slice.inj e
  injection e1 with e1
  subst e1; subst e2
  by_cases hij : i = j
  · subst hij
    have hx : zss[i]? = some (zss[i]'(by rw [h.far.sets.1]; exact hj)) := List.getElem?_eq_getElem _
    obtain ⟨ad', e', _, hc⟩ := h.far.sets.2 (by omega)
    injection e' with e'
    subst e'
    obtain ⟨A0, q0, c0, h1, _⟩ := hc i _ hx
    rw [World.cell?_setCell_same _ _ _ h1] at hcc
    injection hcc with hcc
    obtain ⟨e3, e4, _⟩ := Value.slice.inj hcc
    subst e4
    exact (hlo h0 a e3).1
  · rw [World.cell?_setCell_other _ _ _ _ (add_ne ad (Ne.symm hij))] at hcc
    exact h.far.low ad n c rfl i hi2 a q2 c3 hcc h0
/-- .. of a place -/
theorem Lk.place {w : World} {lo n c j : Nat} {V : Option Addr} {zss : List (List Int)} (h : Lk w lo V n c zss) (hj : j < n) : ∃ ad v, V = some ad ∧ lo ≤ ad.block ∧ ad.block < w.heap.size ∧ w.frozen? (ad.add j) = false ∧ w.cell? (ad.add j) = some v := by
  obtain ⟨ad, e, hb, hc⟩ := h.far.sets.2 (by omega)
  have hx : zss[j]? = some (zss[j]'(by rw [h.far.sets.1]; exact hj)) := List.getElem?_eq_getElem _
  obtain ⟨A0, q0, c0, h1, _⟩ := hc j _ hx
  exact ⟨ad, _, e, h.far.top ad e, hb, (h.free ad n c (by rw [e]) j hj).1, h1⟩
/-- few, short lists -/
def Few (k : Nat) (zss : List (List Int)) : Prop := k ≤ 8 ∧ ∀ ys ∈ zss, ys.length ≤ 9
theorem Few.set {k j : Nat} {zss : List (List Int)} {ys : List Int} (h : Few k zss) (hy : ys.length ≤ 9) : Few k (zss.set j ys) := ⟨h.1, fun x hx => by
  rcases List.mem_or_eq_of_mem_set hx with hx | rfl
  · exact h.2 x hx
  · exact hy⟩

end Go.Proofs.Ytbfnffecmglgfaa
