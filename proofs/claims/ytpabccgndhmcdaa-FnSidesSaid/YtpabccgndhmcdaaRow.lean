/- Rows of a call's own that grow by append: words. -/
import Derived.Test.YtpabccgndhmcdaaOwn
import Derived.Laws.AppendOwn
import Derived.Maps.AppendAt
import Derived.Deep.AppendLies
import Derived.OwnWalk
namespace Go.Proofs.Ytpabccgndhmcdaa
open Go.RowKit

theorem heapLt {w : World} {g : Nat} {o : Obj} (h : w.heap[g]? = some o) : g < w.heap.size := by
  rcases Nat.lt_or_ge g w.heap.size with hlt | hge
  · exact hlt
  · rw [Array.getElem?_eq_none hge] at h; cases h
theorem rowBase {w : World} {base t s n : Nat} {v : Value} {xs : List Value} (h : w.ownsRow base t s v n xs) : ∀ k, v.ownBlock = some k → base ≤ k := by
  intro k hk
  rcases h.2 with ⟨rfl, _⟩ | ⟨g, cap, cur, rfl, hb, _⟩
  · cases hk
  · have : g = k := by simpa [Value.ownBlock] using hk
    omega
theorem rowNil {w : World} {base t s : Nat} (hb : base ≤ w.heap.size) : (w.alloc (.cells #[] t)).ownsRow base t s (.slice (some ⟨w.heap.size, 0, none⟩) 0 0) 0 [] :=
  ⟨by simp, .inr ⟨w.heap.size, 0, #[], rfl, hb, heap_alloc_new w _, Nat.le_refl _, by unfold maxLen; omega, by simp, by simp⟩⟩
theorem rowBelow {w w2 : World} {base t s n : Nat} {v : Value} {xs : List Value} (h : w.ownsRow base t s v n xs) (hb : Below w.heap.size w w2) : w2.ownsRow base t s v n xs := by
  refine ⟨h.1, ?_⟩
  rcases h.2 with h0 | ⟨g, cap, cur, e, h1, hg, rest⟩
  · exact .inl h0
  · exact .inr ⟨g, cap, cur, e, h1, (hb.block g (heapLt hg)).trans hg, rest⟩
theorem rowDrewN {w : World} {base t s n : Nat} {v : Value} {xs : List Value} (h : w.ownsRow base t s v n xs) (k : Nat) : (w.drewN k).ownsRow base t s v n xs := h
theorem rowMore {w : World} {base base' t s n : Nat} {v : Value} {xs : List Value} (h : w.ownsRow base t s v n xs) (hb : base' ≤ base) : w.ownsRow base' t s v n xs := by
  refine ⟨h.1, ?_⟩
  rcases h.2 with h0 | ⟨g, cap, cur, e, h1, hg, rest⟩
  · exact .inl h0
  · exact .inr ⟨g, cap, cur, e, by omega, hg, rest⟩
def intsV (xs : List Int) : List Value := xs.map (Value.int .i64)
theorem intsV_snoc (xs : List Int) (v : Int) : intsV xs ++ [.int .i64 v] = intsV (xs ++ [v]) := by simp [intsV]
theorem intsV_len (xs : List Int) : (intsV xs).length = xs.length := by simp [intsV]
theorem intsV_one (xs : List Int) : ∀ u ∈ intsV xs, u.oneCell' = true := by
  intro u hu
  unfold intsV at hu
  obtain ⟨v, _, rfl⟩ := List.mem_map.1 hu
  rfl
/-- a row of integers as a list of the call's own, with its capacity -/
theorem rowInts {w : World} {base t n : Nat} {v : Value} {xs : List Int} (h : w.ownsRow base t 1 v n (intsV xs)) (hl : xs.length = n) : ∃ A c, v = .slice A n c ∧ Own w base w.heap.size A n xs ∧ n ≤ c ∧ c ≤ 9223372036854775807 := by
  rcases h.2 with ⟨rfl, rfl⟩ | ⟨g, cap, cur, rfl, hb, hg, hnc, hcm, hcs, htk⟩
  · obtain rfl := List.eq_nil_of_length_eq_zero hl
    exact ⟨none, 0, rfl, Own.nil _ (Nat.le_refl _), by omega, by omega⟩
  · have hlt : g < w.heap.size := heapLt hg
    refine ⟨_, _, rfl, ⟨hl, Nat.le_refl _, fun _ => ⟨_, rfl, hb, hlt, fun j u hu => ?_⟩⟩, hnc, by unfold maxLen at hcm; omega⟩
    have hc := h.cells (g := g) rfl j (.int .i64 u) (by unfold intsV; rw [List.getElem?_map, hu]; rfl)
    refine ⟨?_, hc⟩
    unfold Addr.add
    split <;> simp [World.frozen?, hg]

def capOf : Value → Nat
  | .slice _ _ c => c
  | _ => 0
/-- .. of a row whose slice is known -/
theorem rowIntsAt {w : World} {base t n g cap : Nat} {xs : List Int} (h : w.ownsRow base t 1 (.slice (some ⟨g, 0, none⟩) n cap) n (intsV xs)) (hl : xs.length = n) : Own w base w.heap.size (some ⟨g, 0, none⟩) n xs ∧ n ≤ cap ∧ cap ≤ 9223372036854775807 := by
  rcases h.2 with ⟨e, _⟩ | ⟨g', cap', cur, e, hb, hg, hnc, hcm, hcs, htk⟩
  · have := congrArg Value.ownBlock e
    simp [Value.ownBlock] at this
  · have e1 : g = g' := by have := congrArg Value.ownBlock e; simpa [Value.ownBlock] using this
    have e2 : cap = cap' := congrArg capOf e
    subst e1; subst e2
    have hlt : g < w.heap.size := heapLt hg
    refine ⟨⟨hl, Nat.le_refl _, fun _ => ⟨_, rfl, hb, hlt, fun j u hu => ?_⟩⟩, hnc, by unfold maxLen at hcm; omega⟩
    have hc := h.cells (g := g) rfl j (.int .i64 u) (by unfold intsV; rw [List.getElem?_map, hu]; rfl)
    refine ⟨?_, hc⟩
    unfold Addr.add
    split <;> simp [World.frozen?, hg]

/-- a block that holds one value -/
def Cell1 (w : World) (b : Nat) (t : TypeId) (v : Value) : Prop := w.heap[b]? = some (.cells #[v] t (0, 0))
theorem Cell1.lt {w : World} {b : Nat} {t : TypeId} {v : Value} (h : Cell1 w b t v) : b < w.heap.size := heapLt h
theorem Cell1.new (w : World) (t : TypeId) (v : Value) : Cell1 (w.alloc (.cells #[v] t)) w.heap.size t v := heap_alloc_new w _
theorem Cell1.on {w w' : World} {b : Nat} {t : TypeId} {v : Value} (h : Cell1 w b t v) (hb : Below w.heap.size w w') : Cell1 w' b t v := (hb.block b h.lt).trans h
theorem Cell1.below {w w' : World} {b B : Nat} {t : TypeId} {v : Value} (h : Cell1 w b t v) (hb : Below B w w') (hB : b < B) : Cell1 w' b t v := (hb.block b hB).trans h
theorem Cell1.alloc {w : World} {b : Nat} {t : TypeId} {v : Value} (h : Cell1 w b t v) (o : Obj) : Cell1 (w.alloc o) b t v := (Below.heap_alloc w o b h.lt).trans h
theorem Cell1.grown {w w' : World} {b : Nat} {t : TypeId} {v : Value} {row : Option Nat} (h : Cell1 w b t v) (hg : w.grownBy w' row) (hr : some b ≠ row) : Cell1 w' b t v := (hg.block b h.lt hr).trans h
theorem Cell1.cell {w : World} {b : Nat} {t : TypeId} {v : Value} (h : Cell1 w b t v) : w.cell? ⟨b, 0, none⟩ = some v := by unfold Cell1 at h; simp [World.cell?, h]
theorem Cell1.thawed {w : World} {b : Nat} {t : TypeId} {v : Value} (h : Cell1 w b t v) : w.frozen? ⟨b, 0, none⟩ = false := by unfold Cell1 at h; simp [World.frozen?, h]
theorem Cell1.put {w : World} {b : Nat} {t : TypeId} {v : Value} (h : Cell1 w b t v) (u : Value) : Cell1 (w.setCell ⟨b, 0, none⟩ u) b t u := by
  unfold Cell1 at *
  simp [World.setCell, Array.getElem?_modify, h]
theorem Cell1.other {w : World} {b : Nat} {t : TypeId} {v : Value} (h : Cell1 w b t v) {p : Addr} (hp : b ≠ p.block) (u : Value) : Cell1 (w.setCell p u) b t v := (Below.heap_setCell w p u b hp).trans h

/-- what a call answers that gives a list of its own and a code -/
def GivesList (w : World) (code : Int) (xs : List Int) (e : Ending) (w' : World) : Prop :=
  ∃ A n c, e = .returned (.tuple #[.slice A n c, .int .i64 code]) ∧ Own w' w.heap.size w'.heap.size A n xs ∧ n ≤ 1048576 ∧ n ≤ c ∧ c ≤ 9223372036854775807 ∧ Below w.heap.size w w'
theorem Own.widen {W w : World} {n : Nat} {A : Option Addr} {xs : List Int} {lo : Nat} (h : Own w lo w.heap.size A n xs) (h1 : W.heap.size ≤ lo) : Own w W.heap.size w.heap.size A n xs := h.more h1 (Nat.le_refl _) (Nat.le_refl _)

theorem Try.info5' : (Try.prog.info? 5).map (fun i => (i.zero, i.size, i.bytes)) = some (some (.int .u8 0), 1, 1) := by kernel_rfl

end Go.Proofs.Ytpabccgndhmcdaa
