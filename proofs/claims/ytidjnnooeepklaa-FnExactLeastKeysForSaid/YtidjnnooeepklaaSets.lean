/- The statement 'for x := range f' where f lends the same memory to every round: what a round is handed lies in cells of f's own, and the round must leave them as they lie. Lists of lists of numbers in memory: those that a call may read, those that a call has made. Words alone. The laws' functions on lists of lists and on locks. -/
import Derived.RangeFuncNested
import Derived.RangeFuncBound
import Derived.RangeFuncCalls
import Derived.RangeFuncLeaves
import Derived.Shelf.Abstract
import Derived.Shelf.RegionOpen
import Derived.WalkKit
import Derived.OwnWalkIn
import Derived.TacticsInMore
import Derived.LoopNIn
import Derived.LoopIn
import Derived.Test.YtidjnnooeepklaaOwn
import Derived.Test.YtidjnnooeepklaaSNext
namespace Go.Proofs.Ytidjnnooeepklaa
open Go Go.RowKit

/-- whatever lay from block B on lies as it lay -/
structure Above (B : Nat) (A C : World) : Prop where
  size : A.heap.size ≤ C.heap.size
  block : ∀ k, B ≤ k → k < A.heap.size → C.heap[k]? = A.heap[k]?
theorem Above.refl (B : Nat) (A : World) : Above B A A := ⟨Nat.le_refl _, fun _ _ _ => rfl⟩
theorem Above.trans {B : Nat} {A C D : World} (h : Above B A C) (k : Above B C D) : Above B A D :=
  ⟨Nat.le_trans h.size k.size, fun i h1 h2 => (k.block i h1 (Nat.lt_of_lt_of_le h2 h.size)).trans (h.block i h1 h2)⟩
theorem Above.mono {B B' : Nat} {A C : World} (h : Above B A C) (hB : B ≤ B') : Above B' A C := ⟨h.size, fun i h1 h2 => h.block i (Nat.le_trans hB h1) h2⟩
theorem Above.putObj {B l : Nat} (A : World) (o : Obj) (h : l < B) : Above B A (A.putObj l o) :=
  ⟨by simp, fun k hk _ => World.putObj_heap_other (by omega)⟩
theorem Above.setCell {B : Nat} (A : World) {p : Addr} (v : Value) (h : p.block < B) : Above B A (A.setCell p v) :=
  ⟨by simp [World.setCell], fun k hk _ => Below.heap_setCell A p v k (by omega)⟩
theorem Above.alloc (B : Nat) (A : World) (o : Obj) : Above B A (A.alloc o) := ⟨by simp, fun k _ h => Below.heap_alloc A o k h⟩
theorem Above.of_below {B : Nat} {A C : World} (h : Below A.heap.size A C) : Above B A C := ⟨h.size, fun k _ hk => h.block k hk⟩
theorem Above.of_grown {B : Nat} {A C : World} {row : Option Nat} (h : A.grownBy C row) (hr : ∀ r, row = some r → r < B) : Above B A C :=
  ⟨h.size, fun k hk hl => h.block k hl (fun e => by have := hr k e.symm; omega)⟩
theorem Above.drewN (B : Nat) (A : World) (n : Nat) : Above B A (A.drewN n) := ⟨Nat.le_refl _, fun _ _ _ => rfl⟩
theorem Above.drew (B : Nat) (A : World) : Above B A A.drew := ⟨Nat.le_refl _, fun _ _ _ => rfl⟩
/-- a list of the iterator's own is not touched -/
theorem Own.above {w w' : World} {lo n B : Nat} {A : Option Addr} {xs : List Int} (h : Own w lo w.heap.size A n xs) (hb : Above B w w') (hB : B ≤ lo) : Own w' lo w'.heap.size A n xs :=
  ⟨h.1, Nat.le_refl _, fun hn => by
    obtain ⟨ad, e, h1, h2, hc⟩ := h.2.2 hn
    refine ⟨ad, e, h1, Nat.lt_of_lt_of_le h2 hb.size, fun j v hv => ?_⟩
    have hk := hb.block (ad.add j).block (by rw [block_of_add]; omega) (by rw [block_of_add]; exact h2)
    rw [World.frozen?_of_block (w := w) hk, World.cell?_of_block (w := w) hk]
    exact hc j v hv⟩

/-- what is said of a world abides whatever leaves the blocks below B -/
def Under {β : Type} (B : Nat) (J : β → World → Prop) : Prop := ∀ s A C, J s A → Below B A C → J s C
theorem Under.and {β : Type} {B : Nat} {I J : β → World → Prop} (h : Under B I) (k : Under B J) : Under B (fun s W => I s W ∧ J s W) := fun s A C hs hb => ⟨h s A C hs.1 hb, k s A C hs.2 hb⟩
theorem below_putObj {B l : Nat} (W : World) (o : Obj) (h : B ≤ l) : Below B W (W.putObj l o) :=
  ⟨rfl, rfl, rfl, by simp, fun k hk => World.putObj_heap_other (by omega)⟩

/-- the list x, of n numbers, lies at v, from block B on -/
def Lent (n B : Nat) (x : List Int) (v : Value) (W : World) : Prop := ∃ a, v = .slice (some a) n n ∧ Own W B W.heap.size (some a) n x
theorem Lent.above {n B : Nat} {x : List Int} {v : Value} {A C : World} (h : Lent n B x v A) (hb : Above B A C) : Lent n B x v C := by
  obtain ⟨a, e, ho⟩ := h
  exact ⟨a, e, ho.above hb (Nat.le_refl _)⟩

/-- what an iterator owes that lends lists of k numbers, one after the other (Mid: of those that have come, the one at hand the last): all is done, S says which have come; or a round has said 'no more', Sp says which had come -/
def Lends (F : Fence) (n : Nat) (P : Program) (gf : Nat) (rb lb : Array Value) (k : Nat) (Mid S Sp : List (List Int) → Prop) (w : World) : Prop :=
  ∀ (l : Nat) (J Jx : List (List Int) → World → Prop) (W : World), Below w.heap.size w W → Under W.heap.size J →
    (∀ pre x v W1, J pre W1 → Mid (pre ++ [x]) → Lent k W.heap.size x v W1 → YieldAt F (n - 1) P l #[v] W1 fun e W' =>
      (e = .returned (.bool true) ∧ J (pre ++ [x]) W' ∧ Above W.heap.size W1 W') ∨ (e = .returned (.bool false) ∧ Jx (pre ++ [x]) W' ∧ Above W.heap.size W1 W')) →
    J [] W →
    CallsIn F n P gf (rb ++ #[.func (.yield l) #[] #[]] ++ lb) W fun e W' => (∃ v, e = .returned v) ∧ ((∃ xs, S xs ∧ J xs W') ∨ (∃ pre, Sp pre ∧ Jx pre W'))

/-- how a round may be left: the caller's own cells (below B) alone have turned -/
def lentPost (B : Nat) (I : List (List Int) → World → Prop) (Ix : Code → List (List Int) → World → Prop) (xs : List (List Int)) (W : World) : Exit → Act → World → Prop
  | .normal, _, W' => Above B W W' ∧ I xs W'
  | .ret, _, W' => Above B W W' ∧ Ix .ret xs W'
  | .exit id, _, W' => Above B W W' ∧ Ix (.exit id) xs W'
  | .goto t, _, W' => Above B W W' ∧ Ix (.goto t) xs W'
  | .panic _, _, _ => False
  | .outgrown, _, _ => False

/-- the statement over such an iterator -/
theorem wpIn_lent {F : Fence} {n : Nat} {P : Program} {g : Operand} {ps : Array Tmp} {assign body : Code} {Q : Exit → Act → World → Prop} {a : Act} {w : World}
    (hro : F.round = none) (h1 : 1 ≤ n) {gf : Nat} {rb lb : Array Value} (hg : a.eval g = .func (.func gf) rb lb) (hFg : F.fn gf) (eg : ∀ args w, (callFunc gf args).run P w = .ok (.enter gf args) w)
    {k : Nat} {Mid S Sp : List (List Int) → Prop} {w0 : World} (hseq : Lends F (n - 1) P gf rb lb k Mid S Sp w0) (hb0 : Below w0.heap.size w0 w) (hps : ps.size = 1)
    (I : List (List Int) → World → Prop) (Ix : Code → List (List Int) → World → Prop) (hI : Under w.heap.size I) (hIx : ∀ c s W o, Ix c s W → Ix c s (W.putObj (w.heap.size + 1) o)) (h0 : I [] w) (a₁ : Value → Act)
    (hassign : ∀ (l : Nat) (v : Value) (W : World) (K : Act → World → Prop), K (a₁ v) W →
      assign.wpIn (F.inRound l) (n - 1 - 1) P (Exit.then K (fun _ _ _ => False)) { tmps := (ps.zip #[v]).foldl (fun t (p, v) => t.setIfInBounds p v) a.tmps, defers := [] } W)
    (hbody : ∀ (l : Nat) (pre : List (List Int)) (x : List Int) (v : Value) (W : World), I pre W → Mid (pre ++ [x]) → w.heap.size + 2 ≤ W.heap.size → Lent k (w.heap.size + 2) x v W → body.wpIn (F.inRound l) (n - 1 - 1) P (lentPost w.heap.size I Ix (pre ++ [x]) W) (a₁ v) W)
    (hdone : ∀ (xs : List (List Int)) (W : World), S xs → I xs W → W.heap[w.heap.size]? = some (.deferred (some [])) → Q .normal { a with defers := { target := .collected w.heap.size, args := #[] } :: a.defers } W)
    (hstop : ∀ (c : Code) (pre : List (List Int)) (W : World), Sp pre → Ix c pre W → W.heap[w.heap.size]? = some (.deferred (some [])) → c.wpIn F n P Q { a with defers := { target := .collected w.heap.size, args := #[] } :: a.defers } W) :
    (Code.rangeFunc g ps assign body).wpIn F n P Q a w := by
  refine wpIn_rangeFunc (fun fn hfn => ?_)
  rw [hro]
  let L : LoopState → Option Code → Obj := fun s j => .loop { state := s, pending := j, fn, tmps := a.tmps, params := ps, assign, body, defers := w.heap.size }
  let D : Obj := .deferred (some [])
  generalize hB : w.heap.size = B at *
  have hl0 : ((w.alloc D).alloc (L .ready none)).heap[B + 1]? = some (L .ready none) := by
    have := World.alloc_heap_new (w.alloc D) (L .ready none)
    rwa [World.size_alloc, hB] at this
  have hd0 : ((w.alloc D).alloc (L .ready none)).heap[B]? = some D := by
    rw [← hB]; exact (Below.heap_alloc _ _ _ (by simp)).trans (World.alloc_heap_new w D)
  have hs0 : ((w.alloc D).alloc (L .ready none)).heap.size = B + 2 := by simp [hB]
  have bl : Below B w ((w.alloc D).alloc (L .ready none)) := ((Below.refl B w).alloc (by omega) D).alloc (by simp; omega) _
  have hi0 := hI _ _ _ h0 bl
  have bw : Below w0.heap.size w0 ((w.alloc D).alloc (L .ready none)) := hb0.trans (bl.mono (by rw [← hB]; exact hb0.size))
  refine ⟨B + 1, [{ target := .collected B, args := #[] }], (w.alloc D).alloc (L .ready none), { target := .fn (.func gf) lb, args := rb ++ #[.func (.yield (B + 1)) #[] #[]] }, (w.alloc D).alloc (L .ready none), gf,
    rb ++ #[.func (.yield (B + 1)) #[] #[]] ++ lb, (w.alloc D).alloc (L .ready none), ?_, ?_, ?_, ?_, fun _ => h1, ?_⟩
  · rw [← hB]; exact run_enterLoop_outer _ _ _ _ _
  · simp only [resolve, hg]
    simp [go_sem]
  · intro f' hf'; simp [Target.leads] at hf'; subst hf'; exact hFg
  · simp [invoke, go_sem, eg]
  generalize hW0 : (w.alloc D).alloc (L .ready none) = V at *
  refine (hseq (B + 1) (fun pre W => I pre W ∧ W.heap[B + 1]? = some (L .ready none) ∧ W.heap[B]? = some D)
    (fun pre W => ∃ c, Ix c pre W ∧ W.heap[B + 1]? = some (L .done (some c)) ∧ W.heap[B]? = some D) V bw
    (fun s A C h hb => ⟨hI s A C h.1 (hb.mono (by omega)), (hb.block _ (by omega)).trans h.2.1, (hb.block _ (by omega)).trans h.2.2⟩)
    ?_ ⟨hi0, hl0, hd0⟩).mono ?_
  · -- a round
    rw [hs0]
    intro pre x v W hJ hM hx
    obtain ⟨hi, hl, hd⟩ := hJ
    have hlt : B + 1 < W.heap.size := (Array.getElem?_eq_some_iff.1 hl).1
    refine ⟨fn, _, assign, body, run_yield (P := P) (args := #[v]) hl (by simp [hps]), roundIn_of_wpIn hfn (hassign _ v W _ ⟨_, run_beginRound hl rfl, ?_⟩)⟩
    have hl2 : (W.putObj (B + 1) (L .busy none)).heap[B + 1]? = some (L .busy none) := World.putObj_heap_same hlt
    have hd2 : (W.putObj (B + 1) (L .busy none)).heap[B]? = some D := (World.putObj_heap_other (by omega)).trans hd
    have up : Above (B + 2) W (W.putObj (B + 1) (L .busy none)) := Above.putObj W _ (by omega)
    refine wpIn_mono (hbody _ pre x v _ (hI _ _ _ hi (below_putObj W _ (by omega))) hM (by simp; omega) (hx.above up)) ?_
    have fin : ∀ (j : Option Code) (W3 : World), Above B (W.putObj (B + 1) (L .busy none)) W3 →
        (Instr.endRound (B + 1) j).run P W3 = .ok (.bool j.isNone) (W3.putObj (B + 1) (L (if j.isNone then .ready else .done) j)) ∧ B + 1 < W3.heap.size ∧
        (W3.putObj (B + 1) (L (if j.isNone then .ready else .done) j)).heap[B + 1]? = some (L (if j.isNone then .ready else .done) j) ∧
        (W3.putObj (B + 1) (L (if j.isNone then .ready else .done) j)).heap[B]? = some D := by
      intro j W3 ha
      have h3 : W3.heap[B + 1]? = some (L .busy none) := (ha.block _ (by omega) (by simp; omega)).trans hl2
      have h4 : W3.heap[B]? = some D := (ha.block _ (by omega) (by simp; omega)).trans hd2
      have h5 := (Array.getElem?_eq_some_iff.1 h3).1
      exact ⟨run_endRound (P := P) j h3, h5, World.putObj_heap_same h5, (World.putObj_heap_other (by omega)).trans h4⟩
    intro e a3 W3 hp
    cases e with
    | normal =>
      obtain ⟨ha, hi3⟩ := hp
      obtain ⟨hr, h5, hl4, hd4⟩ := fin none W3 ha
      exact ⟨_, _, hr, .inl ⟨rfl, ⟨hI _ _ _ hi3 (below_putObj W3 _ (by omega)), hl4, hd4⟩, (up.trans (ha.mono (by omega))).trans (Above.putObj W3 _ (by omega))⟩⟩
    | ret =>
      obtain ⟨ha, hi3⟩ := hp
      obtain ⟨hr, h5, hl4, hd4⟩ := fin (some .ret) W3 ha
      exact ⟨_, _, hr, .inr ⟨rfl, ⟨.ret, hIx _ _ _ _ hi3, hl4, hd4⟩, (up.trans (ha.mono (by omega))).trans (Above.putObj W3 _ (by omega))⟩⟩
    | exit id =>
      obtain ⟨ha, hi3⟩ := hp
      obtain ⟨hr, h5, hl4, hd4⟩ := fin (some (.exit id)) W3 ha
      exact ⟨_, _, hr, .inr ⟨rfl, ⟨.exit id, hIx _ _ _ _ hi3, hl4, hd4⟩, (up.trans (ha.mono (by omega))).trans (Above.putObj W3 _ (by omega))⟩⟩
    | goto t =>
      obtain ⟨ha, hi3⟩ := hp
      obtain ⟨hr, h5, hl4, hd4⟩ := fin (some (.goto t)) W3 ha
      exact ⟨_, _, hr, .inr ⟨rfl, ⟨.goto t, hIx _ _ _ _ hi3, hl4, hd4⟩, (up.trans (ha.mono (by omega))).trans (Above.putObj W3 _ (by omega))⟩⟩
    | panic ch => exact hp.elim
    | outgrown => exact hp.elim
  · -- behind the iterator
    intro e W2 hh
    obtain ⟨⟨v, rfl⟩, hh⟩ := hh
    rcases hh with ⟨xs, hS, hi, hl, hd⟩ | ⟨pre, hSp, c, hi, hl, hd⟩
    · exact ⟨none, _, run_endLoop (P := P) hl (by simp), hdone xs _ hS (hI _ _ _ hi (below_putObj W2 _ (by omega))) ((World.putObj_heap_other (by omega)).trans hd)⟩
    · exact ⟨some c, _, run_endLoop (P := P) hl (by simp), hstop c pre _ hSp (hIx c _ _ _ hi) ((World.putObj_heap_other (by omega)).trans hd)⟩

end Go.Proofs.Ytidjnnooeepklaa

namespace Go.Proofs.Ytidjnnooeepklaa
open Go.RowKit

/-- The slice value '.slice V n c' reads as the lists yss, below block B. -/
def Sets (w : World) (B : Nat) (V : Option Addr) (n : Nat) (yss : List (List Int)) : Prop :=
  yss.length = n ∧ (0 < n → ∃ ad, V = some ad ∧ ad.block < B ∧ ∀ (j : Nat) (ys : List Int), yss[j]? = some ys → ∃ A q c, w.cell? (ad.add j) = some (.slice A q c) ∧ Ints w B A q ys ∧ q ≤ c ∧ c ≤ 9223372036854775807)

theorem Sets.len {w : World} {B n : Nat} {V : Option Addr} {yss : List (List Int)} (h : Sets w B V n yss) : yss.length = n := h.1
theorem Sets.at_ {w : World} {B n k : Nat} {V : Option Addr} {yss : List (List Int)} (h : Sets w B V n yss) (hk : k < n) :
    ∃ ad ys A q c, V = some ad ∧ ad.block < B ∧ yss[k]? = some ys ∧ w.cell? (ad.add k) = some (.slice A q c) ∧ Ints w B A q ys ∧ q ≤ c ∧ c ≤ 9223372036854775807 := by
  obtain ⟨ad, e, hb, hc⟩ := h.2 (by omega)
  have hy : yss[k]? = some (yss[k]'(by rw [h.1]; exact hk)) := List.getElem?_eq_getElem _
  obtain ⟨A, q, c, h1, h2, h3, h4⟩ := hc k _ hy
  exact ⟨ad, _, A, q, c, e, hb, hy, h1, h2, h3, h4⟩
theorem Sets.keep {w w' : World} {B n : Nat} {V : Option Addr} {yss : List (List Int)} (h : Sets w B V n yss) (hk : ∀ p : Addr, p.block < B → w'.cell? p = w.cell? p) : Sets w' B V n yss :=
  ⟨h.1, fun hn => by
    obtain ⟨ad, e, hb, hc⟩ := h.2 hn
    refine ⟨ad, e, hb, fun j ys hy => ?_⟩
    obtain ⟨A, q, c, h1, h2, h3⟩ := hc j ys hy
    exact ⟨A, q, c, (hk _ (by rw [block_of_add]; exact hb)).trans h1, h2.keep hk, h3⟩⟩
theorem Sets.more {w : World} {B B' n : Nat} {V : Option Addr} {yss : List (List Int)} (h : Sets w B V n yss) (hB : B ≤ B') : Sets w B' V n yss :=
  ⟨h.1, fun hn => by
    obtain ⟨ad, e, hb, hc⟩ := h.2 hn
    refine ⟨ad, e, by omega, fun j ys hy => ?_⟩
    obtain ⟨A, q, c, h1, h2, h3⟩ := hc j ys hy
    exact ⟨A, q, c, h1, h2.more hB, h3⟩⟩
theorem Sets.below {w w' : World} {B n : Nat} {V : Option Addr} {yss : List (List Int)} (h : Sets w B V n yss) (hb : Below B w w') : Sets w' B V n yss := h.keep fun _ hp => hb.cell hp
theorem Sets.on {w w' : World} {n : Nat} {V : Option Addr} {yss : List (List Int)} (h : Sets w w.heap.size V n yss) (hb : Below w.heap.size w w') : Sets w' w'.heap.size V n yss := (h.below hb).more hb.size
theorem Sets.drewN {w : World} {n : Nat} {V : Option Addr} {yss : List (List Int)} (h : Sets w w.heap.size V n yss) (k : Nat) : Sets (w.drewN k) (w.drewN k).heap.size V n yss := h.on (below_drewN (Below.refl _ _) k)
theorem Sets.nil {w : World} {B : Nat} (V : Option Addr) : Sets w B V 0 [] := ⟨rfl, fun h => absurd h (by omega)⟩

/-- how many numbers lie in the first k lists -/
def sizeAt (yss : List (List Int)) : Nat → Nat
  | 0 => 0
  | k + 1 => sizeAt yss k + (yss.getD k []).length
def sizeL (yss : List (List Int)) : Nat := sizeAt yss yss.length
theorem sizeAt_step {yss : List (List Int)} {k : Nat} {ys : List Int} (h : yss[k]? = some ys) : sizeAt yss (k + 1) = sizeAt yss k + ys.length := by
  show sizeAt yss k + _ = _
  rw [List.getD_eq_getElem?_getD, h]; rfl
theorem sizeAt_le (yss : List (List Int)) : ∀ {j k : Nat}, j ≤ k → sizeAt yss j ≤ sizeAt yss k
  | j, 0, h => by obtain rfl : j = 0 := by omega
                  exact Nat.le_refl _
  | j, k + 1, h => by
    rcases Nat.lt_or_ge j (k + 1) with h1 | h1
    · exact Nat.le_trans (sizeAt_le yss (show j ≤ k by omega)) (Nat.le_add_right _ _)
    · obtain rfl : j = k + 1 := by omega
      exact Nat.le_refl _
theorem size_one {yss : List (List Int)} {k : Nat} {ys : List Int} (h : yss[k]? = some ys) : ys.length ≤ sizeL yss := by
  have h1 := sizeAt_step h
  have h2 : k < yss.length := (List.getElem?_eq_some_iff.1 h).1
  have := sizeAt_le yss (show k + 1 ≤ yss.length by omega)
  unfold sizeL; omega
theorem sizeAt_under (yss : List (List Int)) {k : Nat} (h : k ≤ yss.length) : sizeAt yss k ≤ sizeL yss := sizeAt_le yss h

def ragV (gs : List (Option Addr × Nat × Nat)) : List Value := gs.map (fun a => Value.slice a.1 a.2.1 a.2.2)
/-- The slice value '.slice V n c' is a row of the call's own of n lists, which read as yss and lie in blocks of their own from lo on. -/
structure Rag (w : World) (lo : Nat) (V : Option Addr) (n : Nat) (gs : List (Option Addr × Nat × Nat)) (yss : List (List Int)) : Prop where
  len : yss.length = n
  glen : gs.length = n
  low : lo ≤ w.heap.size
  outer : 0 < n → ∃ ad, V = some ad ∧ lo ≤ ad.block ∧ ad.block < w.heap.size ∧ ∀ (j : Nat) (a : Option Addr × Nat × Nat), gs[j]? = some a → w.cell? (ad.add j) = some (.slice a.1 a.2.1 a.2.2)
  inner : ∀ (j : Nat) (a : Option Addr × Nat × Nat) (ys : List Int), gs[j]? = some a → yss[j]? = some ys → ys.length = a.2.1 ∧ a.2.1 ≤ a.2.2 ∧ a.2.2 ≤ 9223372036854775807 ∧
    (0 < a.2.1 → ∃ ad, a.1 = some ad ∧ Self w ad a.2.1 ys ∧ lo ≤ ad.block ∧ ∀ vd, V = some vd → vd.block ≠ ad.block)
  apart : ∀ (i j : Nat) (a b : Option Addr × Nat × Nat) (ad bd : Addr), i < j → gs[i]? = some a → gs[j]? = some b → 0 < a.2.1 → 0 < b.2.1 → a.1 = some ad → b.1 = some bd → ad.block ≠ bd.block

theorem Rag.nil {w : World} {lo : Nat} (V : Option Addr) (h : lo ≤ w.heap.size) : Rag w lo V 0 [] [] :=
  ⟨rfl, rfl, h, fun h => absurd h (by omega), fun j a ys hj _ => by simp at hj, fun i j a b ad bd _ hi => by simp at hi⟩
theorem Rag.at_ {w : World} {lo n k : Nat} {V : Option Addr} {gs : List (Option Addr × Nat × Nat)} {yss : List (List Int)} (h : Rag w lo V n gs yss) (hk : k < n) :
    ∃ (ad : Addr) (a : Option Addr × Nat × Nat) (ys : List Int), V = some ad ∧ lo ≤ ad.block ∧ ad.block < w.heap.size ∧ gs[k]? = some a ∧ yss[k]? = some ys ∧ w.cell? (ad.add k) = some (.slice a.1 a.2.1 a.2.2) := by
  obtain ⟨ad, e, h1, h2, hc⟩ := h.outer (by omega)
  have hg : gs[k]? = some (gs[k]'(by rw [h.glen]; exact hk)) := List.getElem?_eq_getElem _
  have hy : yss[k]? = some (yss[k]'(by rw [h.len]; exact hk)) := List.getElem?_eq_getElem _
  exact ⟨ad, _, _, e, h1, h2, hg, hy, hc k _ hg⟩
theorem Rag.sets {w : World} {lo n : Nat} {V : Option Addr} {gs : List (Option Addr × Nat × Nat)} {yss : List (List Int)} (h : Rag w lo V n gs yss) : Sets w w.heap.size V n yss :=
  ⟨h.len, fun hn => by
    obtain ⟨ad, e, h1, h2, hc⟩ := h.outer hn
    refine ⟨ad, e, h2, fun j ys hy => ?_⟩
    have hj : j < n := by rw [← h.len]; exact (List.getElem?_eq_some_iff.1 hy).1
    have hg : gs[j]? = some (gs[j]'(by rw [h.glen]; exact hj)) := List.getElem?_eq_getElem _
    obtain ⟨i1, i2, i3, i4⟩ := h.inner j _ ys hg hy
    refine ⟨_, _, _, hc j _ hg, ⟨i1, fun hp => ?_⟩, i2, i3⟩
    obtain ⟨a', e', hs, _⟩ := i4 hp
    obtain ⟨a2, e2, hb2, hc2⟩ := (Own.ints hs).2 hp
    injection e2 with e2
    subst e2
    exact ⟨a', e', hb2, hc2⟩⟩
theorem Rag.on {w w' : World} {lo n : Nat} {V : Option Addr} {gs : List (Option Addr × Nat × Nat)} {yss : List (List Int)} (h : Rag w lo V n gs yss) (hb : Below w.heap.size w w') : Rag w' lo V n gs yss :=
  ⟨h.len, h.glen, Nat.le_trans h.low hb.size, fun hn => by
    obtain ⟨ad, e, h1, h2, hc⟩ := h.outer hn
    exact ⟨ad, e, h1, Nat.lt_of_lt_of_le h2 hb.size, fun j a hj => (hb.cell (by rw [block_of_add]; exact h2)).trans (hc j a hj)⟩,
   fun j a ys hj hy => by
    obtain ⟨i1, i2, i3, i4⟩ := h.inner j a ys hj hy
    exact ⟨i1, i2, i3, fun hp => by
      obtain ⟨ad, e, hs, h1, h2⟩ := i4 hp
      exact ⟨ad, e, hs.on hb, h1, h2⟩⟩, h.apart⟩
theorem Rag.drewN {w : World} {lo n : Nat} {V : Option Addr} {gs : List (Option Addr × Nat × Nat)} {yss : List (List Int)} (h : Rag w lo V n gs yss) (k : Nat) : Rag (w.drewN k) lo V n gs yss := h.on (below_drewN (Below.refl _ _) k)
theorem Rag.more {w : World} {lo lo' n : Nat} {V : Option Addr} {gs : List (Option Addr × Nat × Nat)} {yss : List (List Int)} (h : Rag w lo V n gs yss) (hl : lo' ≤ lo) : Rag w lo' V n gs yss :=
  ⟨h.len, h.glen, Nat.le_trans hl h.low, fun hn => by
    obtain ⟨ad, e, h1, h2⟩ := h.outer hn
    exact ⟨ad, e, by omega, h2⟩,
   fun j a ys hj hy => by
    obtain ⟨i1, i2, i3, i4⟩ := h.inner j a ys hj hy
    exact ⟨i1, i2, i3, fun hp => by
      obtain ⟨ad, e, hs, h1, h2⟩ := i4 hp
      exact ⟨ad, e, hs, by omega, h2⟩⟩, h.apart⟩
/-- kept where no block from lo on turns -/
theorem Rag.aside {w w' : World} {lo n : Nat} {V : Option Addr} {gs : List (Option Addr × Nat × Nat)} {yss : List (List Int)} {row : Option Nat} (h : Rag w lo V n gs yss) (hg : w.grownBy w' row) (hr : ∀ g, row = some g → g < lo ∨ w.heap.size ≤ g) : Rag w' lo V n gs yss :=
  ⟨h.len, h.glen, Nat.le_trans h.low hg.size, fun hn => by
    obtain ⟨ad, e, h1, h2, hc⟩ := h.outer hn
    refine ⟨ad, e, h1, Nat.lt_of_lt_of_le h2 hg.size, fun j a hj => ?_⟩
    rw [World.cell?_of_block (w := w) (hg.block _ (by rw [block_of_add]; exact h2) (fun e' => by rw [block_of_add] at e'; have := hr _ e'.symm; omega))]
    exact hc j a hj,
   fun j a ys hj hy => by
    obtain ⟨i1, i2, i3, i4⟩ := h.inner j a ys hj hy
    exact ⟨i1, i2, i3, fun hp => by
      obtain ⟨ad, e, hs, h1, h2⟩ := i4 hp
      exact ⟨ad, e, hs.apart hg (fun er => by have := hr _ er; have := hs.lt; omega), h1, h2⟩⟩, h.apart⟩
theorem Rag.asetCell {w : World} {lo n : Nat} {V : Option Addr} {gs : List (Option Addr × Nat × Nat)} {yss : List (List Int)} (h : Rag w lo V n gs yss) {p : Addr} (hp : p.block < lo) (v : Value) : Rag (w.setCell p v) lo V n gs yss :=
  h.aside (row := some p.block) (grown_set (p := p) (World.grownBy.refl w (some p.block)) rfl v) (fun g e => by injection e with e; omega)
/-- one list of them has been written over -/
theorem Rag.write {w w' : World} {lo n k : Nat} {V : Option Addr} {gs : List (Option Addr × Nat × Nat)} {yss : List (List Int)} {a : Option Addr × Nat × Nat} {zs : List Int} {row : Option Nat} (h : Rag w lo V n gs yss) (ha : gs[k]? = some a) (hz : zs.length = a.2.1)
    (hs : ∀ ad, 0 < a.2.1 → a.1 = some ad → Self w' ad a.2.1 zs) (hg : w.grownBy w' row) (hr : ∀ g, row = some g → 0 < a.2.1 ∧ ∃ ad, a.1 = some ad ∧ g = ad.block) : Rag w' lo V n gs (yss.set k zs) := by
  have hk : k < n := by rw [← h.glen]; exact (List.getElem?_eq_some_iff.1 ha).1
  have hy : yss[k]? = some (yss[k]'(by rw [h.len]; exact hk)) := List.getElem?_eq_getElem _
  obtain ⟨s1, s2, s3, s4⟩ := h.inner k a _ ha hy
  refine ⟨by rw [List.length_set, h.len], h.glen, Nat.le_trans h.low hg.size, fun hn => ?_, fun j b ys hj hys => ?_, h.apart⟩
  · obtain ⟨ad, e, h1, h2, hc⟩ := h.outer hn
    refine ⟨ad, e, h1, Nat.lt_of_lt_of_le h2 hg.size, fun j b hj => ?_⟩
    rw [World.cell?_of_block (w := w) (hg.block _ (by rw [block_of_add]; exact h2) (fun e' => ?_))]
    · exact hc j b hj
    · rw [block_of_add] at e'
      obtain ⟨hp, bd, e1, e2⟩ := hr _ e'.symm
      obtain ⟨bd', e3, _, _, h4⟩ := s4 hp
      rw [e1] at e3
      injection e3 with e3
      subst e3
      exact h4 ad e e2
  · by_cases hjk : j = k
    · subst hjk
      rw [ha] at hj
      injection hj with hj
      subst hj
      rw [List.getElem?_set_self (by rw [h.len]; exact hk)] at hys
      injection hys with hys
      subst hys
      refine ⟨hz, s2, s3, fun hp => ?_⟩
      obtain ⟨ad, e, _, h1, h2⟩ := s4 hp
      exact ⟨ad, e, hs ad hp e, h1, h2⟩
    · rw [List.getElem?_set_ne (Ne.symm hjk)] at hys
      obtain ⟨t1, t2, t3, t4⟩ := h.inner j b ys hj hys
      refine ⟨t1, t2, t3, fun hp => ?_⟩
      obtain ⟨ad, e, hs', h1, h2⟩ := t4 hp
      refine ⟨ad, e, hs'.apart hg (fun er => ?_), h1, h2⟩
      obtain ⟨hp', bd, e1, e2⟩ := hr _ er
      rcases Nat.lt_or_gt_of_ne hjk with hlt | hgt
      · exact h.apart j k b a ad bd hlt hj ha hp hp' e e1 e2
      · exact h.apart k j a b bd ad hgt ha hj hp' hp e1 e e2.symm

/-- nothing has turned but blocks from lo on, below hi -/
structure Apart (lo hi : Nat) (w w' : World) : Prop where
  os : w'.os = w.os
  tape : w'.tape = w.tape
  output : w'.output = w.output
  size : w.heap.size ≤ w'.heap.size
  block : ∀ k, k < w.heap.size → k < lo ∨ hi ≤ k → w'.heap[k]? = w.heap[k]?
theorem Apart.refl (lo hi : Nat) (w : World) : Apart lo hi w w := ⟨rfl, rfl, rfl, Nat.le_refl _, fun _ _ _ => rfl⟩
theorem Apart.grown {lo hi : Nat} {w w1 w2 : World} {row : Option Nat} (h : Apart lo hi w w1) (hg : w1.grownBy w2 row) (hr : ∀ g, row = some g → lo ≤ g ∧ g < hi) : Apart lo hi w w2 :=
  ⟨hg.os.trans h.os, hg.tape.trans h.tape, hg.output.trans h.output, Nat.le_trans h.size hg.size, fun k hk hc =>
    (hg.block k (Nat.lt_of_lt_of_le hk h.size) (fun e => by have := hr k e.symm; omega)).trans (h.block k hk hc)⟩
theorem Apart.below {lo hi : Nat} {w w' : World} (h : Apart lo hi w w') (hl : lo ≤ w.heap.size) : Below lo w w' := ⟨h.os, h.tape, h.output, h.size, fun k hk => h.block k (by omega) (.inl hk)⟩
theorem Apart.after {lo hi : Nat} {w w1 w2 : World} (h : Apart lo hi w w1) (hb : Below w1.heap.size w1 w2) : Apart lo hi w w2 :=
  ⟨hb.os.trans h.os, hb.tape.trans h.tape, hb.output.trans h.output, Nat.le_trans h.size hb.size, fun k hk hc => (hb.block k (Nat.lt_of_lt_of_le hk h.size)).trans (h.block k hk hc)⟩
theorem Apart.before {lo hi : Nat} {w w1 w2 : World} (h : Apart lo hi w1 w2) (hb : Below w.heap.size w w1) : Apart lo hi w w2 :=
  ⟨h.os.trans hb.os, h.tape.trans hb.tape, h.output.trans hb.output, Nat.le_trans hb.size h.size, fun k hk hc => (h.block k (Nat.lt_of_lt_of_le hk hb.size) hc).trans (hb.block k hk)⟩
/-- the lists lie below hi -/
def Top (gs : List (Option Addr × Nat × Nat)) (hi : Nat) : Prop := ∀ (j : Nat) (a : Option Addr × Nat × Nat) (ad : Addr), gs[j]? = some a → 0 < a.2.1 → a.1 = some ad → ad.block < hi
theorem Rag.top {w : World} {lo n : Nat} {V : Option Addr} {gs : List (Option Addr × Nat × Nat)} {yss : List (List Int)} (h : Rag w lo V n gs yss) : Top gs w.heap.size := by
  intro j a ad hj hp e
  have hjn : j < n := by rw [← h.glen]; exact (List.getElem?_eq_some_iff.1 hj).1
  have hy : yss[j]? = some (yss[j]'(by rw [h.len]; exact hjn)) := List.getElem?_eq_getElem _
  obtain ⟨_, _, _, i4⟩ := h.inner j a _ hj hy
  obtain ⟨bd, e1, hs, _⟩ := i4 hp
  rw [e] at e1; injection e1 with e1; subst e1
  exact hs.lt
/-- lists that lie behind are not touched -/
theorem Rag.past {w w' : World} {lo hi lo' n : Nat} {V : Option Addr} {gs : List (Option Addr × Nat × Nat)} {yss : List (List Int)} (h : Rag w lo' V n gs yss) (ha : Apart lo hi w w') (hh : hi ≤ lo') : Rag w' lo' V n gs yss :=
  ⟨h.len, h.glen, Nat.le_trans h.low ha.size, fun hn => by
    obtain ⟨ad, e, h1, h2, hc⟩ := h.outer hn
    refine ⟨ad, e, h1, Nat.lt_of_lt_of_le h2 ha.size, fun j a hj => ?_⟩
    rw [World.cell?_of_block (w := w) (ha.block _ (by rw [block_of_add]; exact h2) (.inr (by rw [block_of_add]; omega)))]
    exact hc j a hj,
   fun j a ys hj hy => by
    obtain ⟨i1, i2, i3, i4⟩ := h.inner j a ys hj hy
    refine ⟨i1, i2, i3, fun hp => ?_⟩
    obtain ⟨ad, e, hs, h1, h2⟩ := i4 hp
    have hl := hs.lt
    refine ⟨ad, e, ⟨hs.1, by have := hs.2.1; have := ha.size; omega, fun hn => ?_⟩, h1, h2⟩
    obtain ⟨bd, e1, b1, b2, hc⟩ := hs.2.2 hn
    refine ⟨bd, e1, b1, b2, fun k v hv => ?_⟩
    have hb := ha.block (bd.add k).block (by rw [block_of_add]; omega) (.inr (by rw [block_of_add]; omega))
    rw [World.frozen?_of_block (w := w) hb, World.cell?_of_block (w := w) hb]
    exact hc k v hv, h.apart⟩

/-- a pile is such a row -/
theorem Pile.rag {w : World} {lo n p c : Nat} {V : Option Addr} {gs : List (Addr × Nat)} {yss : List (List Int)} (h : Pile w lo (.slice V n c) n p gs yss) (hlo : lo ≤ w.heap.size) : Rag w lo V n (gs.map (fun a => (some a.1, p, a.2))) yss := by
  refine ⟨h.len, by rw [List.length_map, h.glen], hlo, fun hn => ?_, fun j a ys hj hy => ?_, fun i j a b ad bd hij hi hj _ _ ea eb => ?_⟩
  · rcases h.row.2 with ⟨e, hn0⟩ | ⟨g, cap, cur, e, h1, hg, _⟩
    · omega
    · have hV : V = some ⟨g, 0, none⟩ := congrArg addrOf e
      subst hV
      refine ⟨_, rfl, h1, heapLt hg, fun j a hj => ?_⟩
      rw [List.getElem?_map] at hj
      rcases hgj : gs[j]? with _ | b
      · rw [hgj] at hj; cases hj
      · rw [hgj] at hj
        injection hj with hj
        subst hj
        exact h.row.cells (g := g) rfl j _ (by unfold slicesV; rw [List.getElem?_map, hgj]; rfl)
  · rw [List.getElem?_map] at hj
    rcases hgj : gs[j]? with _ | b
    · rw [hgj] at hj; cases hj
    · rw [hgj] at hj
      injection hj with hj
      subst hj
      obtain ⟨s, h1, h2, h3, h4⟩ := h.inner j b ys hgj hy
      exact ⟨s.1, h3, h4, fun _ => ⟨b.1, rfl, s, h1, fun vd hv => by
        subst hv
        intro e
        exact h2 (by simp [Value.ownBlock, e])⟩⟩
  · rw [List.getElem?_map] at hi hj
    rcases hgi : gs[i]? with _ | a'
    · rw [hgi] at hi; cases hi
    rcases hgj : gs[j]? with _ | b'
    · rw [hgj] at hj; cases hj
    rw [hgi] at hi; rw [hgj] at hj
    injection hi with hi
    injection hj with hj
    subst hi; subst hj
    injection ea with ea
    injection eb with eb
    subst ea; subst eb
    exact h.apart i j a' b' hij hgi hgj

/-- what a call answers that gives a list of lists and a code -/
def GivesRag (w : World) (yss : List (List Int)) (e : Ending) (w' : World) : Prop :=
  ∃ V n c gs, e = .returned (.slice V n c) ∧ Rag w' w.heap.size V n gs yss ∧ n ≤ c ∧ c ≤ 9223372036854775807 ∧ Below w.heap.size w w'
/-- .. and a code -/
def GivesRagE (w : World) (code : Int) (yss : List (List Int)) (e : Ending) (w' : World) : Prop :=
  ∃ V n c gs, e = .returned (.tuple #[.slice V n c, .int .i64 code]) ∧ Rag w' w.heap.size V n gs yss ∧ n ≤ c ∧ c ≤ 9223372036854775807 ∧ Below w.heap.size w w'
/-- what a call answers that gives a lock -/
def GivesLock (w : World) (yss : List (List Int)) (e : Ending) (w' : World) : Prop :=
  ∃ V n c gs, e = .returned (.agg #[.slice V n c]) ∧ Rag w' w.heap.size V n gs yss ∧ n ≤ c ∧ c ≤ 9223372036854775807 ∧ Below w.heap.size w w'
/-- .. and a code -/
def GivesLockE (w : World) (code : Int) (yss : List (List Int)) (e : Ending) (w' : World) : Prop :=
  ∃ V n c gs, e = .returned (.tuple #[.agg #[.slice V n c], .int .i64 code]) ∧ Rag w' w.heap.size V n gs yss ∧ n ≤ c ∧ c ≤ 9223372036854775807 ∧ Below w.heap.size w w'

end Go.Proofs.Ytidjnnooeepklaa

namespace Go.Proofs.Ytidjnnooeepklaa
open Go.RowKit

/-- what is left behind a measured list of lists: -1, or so much that all of it fits -/
def Fits (left : Int) (n : Nat) (yss : List (List Int)) (r : Int) : Prop := r = -1 ∨ (r = left - n - sizeL yss ∧ 0 ≤ r)

theorem szInts_any (A : Option Addr) (n c : Nat) (left : Int) (w : World) (l0 : 0 ≤ left) (l1 : left ≤ 1048576) (hn : n ≤ 9223372036854775807) :
    Calls Try.prog 94 #[.slice A n c, .int .i64 left] w fun e w' => e = .returned (.int .i64 (if left < n then -1 else left - n)) ∧ w = w' := by
  by_cases h : left < n
  · go_enter Try.func94, Try.ntmps94
    go_wp2
    go_ret
    exact ⟨rfl, rfl⟩
  · go_enter Try.func94, Try.ntmps94
    go_wp2
    go_ret
    exact ⟨rfl, rfl⟩

set_option maxHeartbeats 1000000 in
theorem szLists_any (V : Option Addr) (n c : Nat) (yss : List (List Int)) (left : Int) (w : World) (h : Sets w w.heap.size V n yss) (l0 : 0 ≤ left) (l1 : left ≤ 1048576) (hn : n ≤ 9223372036854775807) :
    Calls Try.prog 39 #[.slice V n c, .int .i64 left] w fun e w' => (∃ r, e = .returned (.int .i64 r) ∧ Fits left n yss r) ∧ w = w' := by
  by_cases h0 : left < n
  · go_enter Try.func39, Try.ntmps39
    go_wp2
    go_ret
    exact ⟨⟨_, rfl, .inl rfl⟩, rfl⟩
  have HS := Lib.hid h
  have HF : Hid (left - n = left - n - sizeAt yss 0) := Lib.hid (by simp [sizeAt])
  go_enter Try.func39, Try.ntmps39
  go_wp2
  go_loop [1, 5] (fun v i => ∃ (j : Nat) (r : Int), j ≤ n ∧ i = .int .i64 j ∧ v = .int .i64 r ∧ 0 ≤ r ∧ r ≤ 1048576 ∧ Hid (r = left - n - sizeAt yss j)) (fun _ i => n - (intOf i).toNat)
  case atStart => exact ⟨0, left - n, Nat.zero_le _, rfl, by go_num, by omega, by omega, HF⟩
  case round =>
    obtain ⟨j, r, hj, rfl, rfl, r0, r1, hr⟩ := hrel
    by_cases hlt : j < n
    · obtain ⟨ad, ys, A, q, cc, rfl, hab, hy, hc, hi, hq, hqm⟩ := HS.out.at_ hlt
      have HST := Lib.hid (sizeAt_step hy)
      have HYL := Lib.hid hi.len
      have hqm' : q ≤ 9223372036854775807 := by omega
      clear hy hi
      by_cases hq2 : r < q
      · have HE : Hid ((if r < (q : Int) then -1 else r - q) = -1) := Lib.hid (if_pos hq2)
        go_wp2_with fail
        refine (szInts_any _ _ _ r _ r0 r1 hqm').mono ?_
        rw [HE.out]
        rintro e w' ⟨rfl, rfl⟩
        go_wp2
        go_ret
        exact ⟨⟨_, rfl, .inl rfl⟩, rfl⟩
      · have HE : Hid ((if r < (q : Int) then -1 else r - q) = r - q) := Lib.hid (if_neg hq2)
        have hr0 : 0 ≤ r - q := by omega
        have hr1 : r - q ≤ 1048576 := by omega
        have HR : Hid (r - q = left - n - sizeAt yss (j + 1)) := Lib.hid (by have := hr.out; have := HST.out; have := HYL.out; omega)
        go_wp2_with fail
        refine (szInts_any _ _ _ r _ r0 r1 hqm').mono ?_
        rw [HE.out]
        rintro e w' ⟨rfl, rfl⟩
        generalize r - (q : Int) = r' at *
        clear hr HE hc
        go_wp2
        go_round
        case rel => exact ⟨j + 1, r', by omega, by go_num, rfl, hr0, hr1, HR⟩
        case measure => simp [intOf]; omega
    · obtain rfl : j = n := by omega
      have HE : Hid (Fits left j yss r) := Lib.hid (.inr ⟨by have := hr.out; unfold sizeL; rw [HS.out.len]; exact this, r0⟩)
      go_wp2
      go_ret
      exact ⟨⟨_, rfl, HE.out⟩, rfl⟩

theorem fits_at {yss : List (List Int)} {n k : Nat} {ys : List Int} (h : n + sizeL yss ≤ 1048576) (hy : yss[k]? = some ys) : ys.length ≤ 1048576 := by have := size_one hy; omega

/-- the outer cells of the copy that 'toInt64SS' makes, after k rounds -/
def outerV (gs : List (Option Addr × Nat × Nat)) (j : Nat) : Value :=
  match gs[j]? with
  | some a => .slice a.1 a.2.1 a.2.2
  | none => .slice none 0 0
theorem outer_push {gs : List (Option Addr × Nat × Nat)} {k : Nat} {a : Option Addr × Nat × Nat} (h : gs.length = k) (j : Nat) : (if j = k then Value.slice a.1 a.2.1 a.2.2 else outerV gs j) = outerV (gs ++ [a]) j := by
  unfold outerV
  by_cases e : j = k
  · subst e
    rw [if_pos rfl, List.getElem?_append_right (by omega), h, Nat.sub_self]; rfl
  · rw [if_neg e]
    rcases Nat.lt_or_ge j k with h1 | h1
    · rw [List.getElem?_append_left (by omega)]
    · rw [List.getElem?_eq_none (by omega), List.getElem?_eq_none (by rw [List.length_append]; simp; omega)]
/-- the first k lists of a row that is being made, in block g -/
structure Made (w : World) (lo g n k : Nat) (gs : List (Option Addr × Nat × Nat)) (yss : List (List Int)) : Prop where
  row : w.rowIs g 27 n (outerV gs)
  glen : gs.length = k
  low : lo ≤ g
  inner : ∀ (j : Nat) (a : Option Addr × Nat × Nat) (ys : List Int), gs[j]? = some a → yss[j]? = some ys → ys.length = a.2.1 ∧ a.2.1 ≤ a.2.2 ∧ a.2.2 ≤ 9223372036854775807 ∧
    (0 < a.2.1 → ∃ ad, a.1 = some ad ∧ Self w ad a.2.1 ys ∧ lo ≤ ad.block ∧ g ≠ ad.block)
  apart : ∀ (i j : Nat) (a b : Option Addr × Nat × Nat) (ad bd : Addr), i < j → gs[i]? = some a → gs[j]? = some b → 0 < a.2.1 → 0 < b.2.1 → a.1 = some ad → b.1 = some bd → ad.block ≠ bd.block
theorem Made.rag {w : World} {lo g n : Nat} {gs : List (Option Addr × Nat × Nat)} {yss : List (List Int)} (h : Made w lo g n n gs yss) (hl : yss.length = n) : Rag w lo (some ⟨g, 0, none⟩) n gs yss :=
  ⟨hl, h.glen, Nat.le_of_lt (Nat.lt_of_le_of_lt h.low h.row.lt), fun _ => ⟨_, rfl, h.low, h.row.lt, fun j a hj => by
    have hjn : j < n := by rw [← h.glen]; exact (List.getElem?_eq_some_iff.1 hj).1
    have e : (⟨g, 0, none⟩ : Addr).add j = ⟨g, j, none⟩ := by
      unfold Addr.add
      split
      · next h0 => subst h0; rfl
      · simp
    rw [e, h.row.cell hjn]
    unfold outerV
    rw [hj]⟩,
   fun j a ys hj hy => by
    obtain ⟨i1, i2, i3, i4⟩ := h.inner j a ys hj hy
    exact ⟨i1, i2, i3, fun hp => by
      obtain ⟨ad, e, hs, h1, h2⟩ := i4 hp
      exact ⟨ad, e, hs, h1, fun vd hv => by injection hv with hv; subst hv; exact h2⟩⟩, h.apart⟩
theorem Made.start {w : World} {lo n : Nat} {yss : List (List Int)} (h : lo ≤ w.heap.size) : Made (w.alloc (.cells (madeCells #[.slice none 0 0] n) 27)) lo w.heap.size n 0 [] yss :=
  ⟨(World.rowIs_made w (.slice none 0 0) n 27).congr (fun i _ => by simp [outerV]), rfl, h, fun j a ys hj => by simp at hj, fun i j a b ad bd _ hi => by simp at hi⟩
theorem Made.on {w w' : World} {lo g n k : Nat} {gs : List (Option Addr × Nat × Nat)} {yss : List (List Int)} (h : Made w lo g n k gs yss) (hb : Below w.heap.size w w') : Made w' lo g n k gs yss :=
  ⟨h.row.of_block (hb.block g h.row.lt), h.glen, h.low, fun j a ys hj hy => by
    obtain ⟨i1, i2, i3, i4⟩ := h.inner j a ys hj hy
    exact ⟨i1, i2, i3, fun hp => by
      obtain ⟨ad, e, hs, h1, h2⟩ := i4 hp
      exact ⟨ad, e, hs.on hb, h1, h2⟩⟩, h.apart⟩
/-- one list more, in a block that is new since W -/
theorem Made.push {W w : World} {lo g n k : Nat} {gs : List (Option Addr × Nat × Nat)} {yss : List (List Int)} {a : Option Addr × Nat × Nat} {ys : List Int} (h : Made W lo g n k gs yss) (hb : Below W.heap.size W w) (hy : yss[k]? = some ys)
    (h1 : ys.length = a.2.1) (h2 : a.2.1 ≤ a.2.2) (h3 : a.2.2 ≤ 9223372036854775807) (h4 : 0 < a.2.1 → ∃ ad, a.1 = some ad ∧ Self w ad a.2.1 ys ∧ W.heap.size ≤ ad.block) :
    Made (w.setCell ⟨g, k, none⟩ (.slice a.1 a.2.1 a.2.2)) lo g n (k + 1) (gs ++ [a]) yss := by
  have hw := h.on hb
  have hgl := h.row.lt
  have keep : ∀ (ad : Addr) (p : Nat) (zs : List Int), Self w ad p zs → g ≠ ad.block → Self (w.setCell ⟨g, k, none⟩ (.slice a.1 a.2.1 a.2.2)) ad p zs := by
    intro ad p zs hs hne
    refine hs.apart (row := some g) (grown_set (p := ⟨g, k, none⟩) (World.grownBy.refl w (some g)) rfl _) (by intro e; injection e with e; exact hne e)
  refine ⟨(hw.row.set k _).congr (fun j _ => outer_push h.glen j), by rw [List.length_append, h.glen]; rfl, h.low, ?_, ?_⟩
  · intro j b zs hj hz
    rcases Nat.lt_or_ge j k with hlt | hge
    · rw [List.getElem?_append_left (by rw [h.glen]; exact hlt)] at hj
      obtain ⟨i1, i2, i3, i4⟩ := hw.inner j b zs hj hz
      exact ⟨i1, i2, i3, fun hp => by
        obtain ⟨ad, e, hs, q1, q2⟩ := i4 hp
        exact ⟨ad, e, keep ad _ _ hs q2, q1, q2⟩⟩
    · have hjk : j = k := by
        have := (List.getElem?_eq_some_iff.1 hj).1
        rw [List.length_append, h.glen] at this
        simp at this
        omega
      subst hjk
      rw [List.getElem?_append_right (by rw [h.glen]; exact Nat.le_refl _), h.glen, Nat.sub_self] at hj
      simp at hj
      subst hj
      rw [hy] at hz
      injection hz with hz
      subst hz
      refine ⟨h1, h2, h3, fun hp => ?_⟩
      obtain ⟨ad, e, hs, hge'⟩ := h4 hp
      exact ⟨ad, e, keep ad _ _ hs (by omega), by have := h.low; omega, by omega⟩
  · intro i j b b' bd bd' hij hi hj hpb hpb' eb eb'
    have hi' : i < k := by
      have := (List.getElem?_eq_some_iff.1 hj).1
      rw [List.length_append, h.glen] at this
      simp at this
      omega
    rw [List.getElem?_append_left (by rw [h.glen]; exact hi')] at hi
    rcases Nat.lt_or_ge j k with hlt | hge
    · rw [List.getElem?_append_left (by rw [h.glen]; exact hlt)] at hj
      exact h.apart i j b b' bd bd' hij hi hj hpb hpb' eb eb'
    · have hjk : j = k := by
        have := (List.getElem?_eq_some_iff.1 hj).1
        rw [List.length_append, h.glen] at this
        simp at this
        omega
      subst hjk
      rw [List.getElem?_append_right (by rw [h.glen]; exact Nat.le_refl _), h.glen, Nat.sub_self] at hj
      simp at hj
      subst hj
      obtain ⟨ad, e, hs, hge'⟩ := h4 hpb'
      rw [e] at eb'
      injection eb' with eb'
      subst eb'
      have hyi : yss[i]? = some (yss[i]'(by have := (List.getElem?_eq_some_iff.1 hy).1; omega)) := List.getElem?_eq_getElem _
      obtain ⟨_, _, _, i4⟩ := h.inner i b _ hi hyi
      obtain ⟨ad2, e2, hs2, _⟩ := i4 hpb
      rw [eb] at e2
      injection e2 with e2
      subst e2
      have := hs2.lt
      omega

set_option maxHeartbeats 1000000 in
theorem toLists_any (V : Option Addr) (n c : Nat) (yss : List (List Int)) (w : World) (h : Sets w w.heap.size V n yss) (hn : n + sizeL yss ≤ 1048576) :
    Calls Try.prog 41 #[.slice V n c] w (GivesRag w yss) := by
  have HS := Lib.hid h
  have HN := Lib.hid hn
  have hn1 : n ≤ 1048576 := by omega
  have hmk := run_make_row' (P := Try.prog) 24 27 (.slice none 0 0) 24 Try.underlying24 Try.info27' rfl .i64 .i64 n (by omega) (by omega)
  clear h hn
  go_enter Try.func41, Try.ntmps41
  go_wp2
  clear hmk
  go_loopw [4] (fun i wr => ∃ (k : Nat) (gs : List (Option Addr × Nat × Nat)), k ≤ n ∧ i = .int .i64 k ∧ Hid (Made wr w.heap.size w.heap.size n k gs yss) ∧ Below w.heap.size w wr) (fun i _ => n - (intOf i).toNat)
  case atStart => exact ⟨0, [], Nat.zero_le _, rfl, Lib.hid (Made.start (Nat.le_refl _)), (Below.refl _ _).alloc (Nat.le_refl _) _⟩
  case round =>
    obtain ⟨k, gs, hk, rfl, hmade, hb⟩ := hrel
    by_cases hlt : k < n
    · obtain ⟨ad, ys, A, q, cc, rfl, hab, hy, hc, hi, hq, hqm⟩ := (HS.out.on hb).at_ hlt
      have hq1 : q ≤ 1048576 := by have := fits_at HN.out hy; have := hi.len; omega
      have HY := Lib.hid hy
      have HL := Lib.hid hi.len
      clear hy
      go_wp2_with fail
      refine (toInt64S_any _ _ _ ys _ hi hq1).mono ?_
      rintro e w2 ⟨g2, rfl, hg2, r2, b2⟩
      have hfz := (hmade.out.on b2).row.frozen k
      have hst := (hmade.out.on b2).row.cell hlt
      have O2 := Own.of_row (lo := wr.heap.size) r2 HL.out hg2
      have M2 := Lib.hid (hmade.out.push (a := (some ⟨g2, 0, none⟩, q, q)) b2 HY.out HL.out (Nat.le_refl _) (by simp; omega) (fun hp => ⟨⟨g2, 0, none⟩, rfl, (O2.self hp).1, hg2⟩))
      have B2 := Lib.hid (hb.trans (b2.mono hb.size))
      clear hi r2 O2 hb hc
      go_wp2
      go_roundw
      case rel => exact ⟨k + 1, _, by omega, by go_num, M2, B2.out.setCell (by simp) _⟩
      case measure => simp [intOf]; omega
    · obtain rfl : k = n := by omega
      go_wp2
      go_ret
      exact ⟨_, _, _, gs, rfl, hmade.out.rag HS.out.len, Nat.le_refl _, by omega, hb⟩

theorem eqSets_true (V V' : Option Addr) (n c c' : Nat) (yss : List (List Int)) (w : World) (h : Sets w w.heap.size V n yss) (h' : Sets w w.heap.size V' n yss) (hn : n + sizeL yss ≤ 1048576) :
    Calls Try.prog 42 #[.slice V n c, .slice V' n c'] w fun e w' => e = .returned (.bool true) ∧ ∃ q, w' = w.drewN q := by
  have HN := Lib.hid hn
  have hn1 : n ≤ 1048576 := by omega
  clear hn
  go_enter Try.func42, Try.ntmps42
  go_wp2
  go_loopw [5] (fun i wr => ∃ k q : Nat, k ≤ n ∧ i = .int .i64 k ∧ wr = w.drewN q) (fun i _ => n - (intOf i).toNat)
  case atStart => exact ⟨0, 0, Nat.zero_le _, rfl, rfl⟩
  case round =>
    obtain ⟨k, q, hk, rfl, rfl⟩ := hrel
    by_cases hlt : k < n
    · obtain ⟨ad, ys, A1, q1, c1, rfl, _, hy, hc, hi, _, _⟩ := h.at_ hlt
      obtain ⟨ad', ys', A2, q2, c2, rfl, _, hy', hc', hi', _, _⟩ := h'.at_ hlt
      obtain rfl : ys = ys' := by rw [hy] at hy'; injection hy'
      obtain rfl : q1 = q2 := by rw [← hi.len, ← hi'.len]
      have hq1 : q1 ≤ 1048576 := by have := fits_at HN.out hy; have := hi.len; omega
      have HI := Lib.hid hi
      have HI' := Lib.hid hi'
      have i0 : (0 : Int) ≤ (k : Int) := by omega
      have i1 : (k : Int) < (n : Int) := by omega
      clear hy hy' hi hi'
      go_wp2
      go_quiet ((go_at_call 43; exact quiet_add_on (eqInts_quiet _ _ _ _ _ ys _ (ints_drewN HI.out _) (ints_drewN HI'.out _) hq1)))
      go_wp2
      go_roundw
      case rel => exact ⟨k + 1, _, by omega, by go_num, rfl⟩
      case measure => simp [intOf]; omega
    · go_wp2
      go_ret
      exact ⟨rfl, q, rfl⟩

/-! marks -/
def rAt (k : Int) (yss : List (List Int)) (i : Nat) : Int := k + (sizeAt yss i : Nat)
/-- lists of the same lengths, marked one after the other -/
def marksR (k : Int) (yss : List (List Int)) : List (List Int) := (List.range yss.length).map (fun j => marks (rAt k yss j) (yss.getD j []).length)
def MarkedR (k : Int) (yss : List (List Int)) (i : Nat) (zss : List (List Int)) : Prop := zss.length = yss.length ∧ ∀ j, j < i → j < yss.length → zss[j]? = some (marks (rAt k yss j) (yss.getD j []).length)
theorem marksR_len (k : Int) (yss : List (List Int)) : (marksR k yss).length = yss.length := by simp [marksR]
theorem MarkedR.all {k : Int} {n : Nat} {yss zss : List (List Int)} (h : MarkedR k yss n zss) (hl : yss.length = n) : zss = marksR k yss := by
  refine List.ext_getElem? fun j => ?_
  unfold marksR
  rw [List.getElem?_map]
  rcases Nat.lt_or_ge j n with hlt | hge
  · rw [h.2 j hlt (by omega), List.getElem?_range (by omega)]; rfl
  · rw [List.getElem?_eq_none (by rw [h.1]; omega), List.getElem?_eq_none (by rw [List.length_range]; omega)]; rfl
theorem marksR_at {k : Int} {yss : List (List Int)} {j : Nat} {zs : List Int} (h : (marksR k yss)[j]? = some zs) : j < yss.length ∧ zs = marks (rAt k yss j) (yss.getD j []).length := by
  unfold marksR at h
  rw [List.getElem?_map] at h
  rcases hr : (List.range yss.length)[j]? with _ | u
  · rw [hr] at h; cases h
  · rw [hr] at h
    obtain ⟨hl, e⟩ := List.getElem?_eq_some_iff.1 hr
    rw [List.getElem_range] at e
    subst e
    exact ⟨by simpa using hl, by simpa using h.symm⟩
theorem rAt_range {k : Int} {yss : List (List Int)} {i : Nat} (k0 : 0 ≤ k) (k1 : k ≤ 4000000) (hs : sizeL yss ≤ 1048576) (hi : i ≤ yss.length) : 0 ≤ rAt k yss i ∧ rAt k yss i ≤ 6000000 := by
  have := sizeAt_under yss hi
  unfold rAt
  omega
theorem rAt_step {k : Int} {yss : List (List Int)} {i q : Nat} {ys : List Int} (h : yss[i]? = some ys) (hl : ys.length = q) : rAt k yss i + (q : Int) = rAt k yss (i + 1) := by
  unfold rAt
  rw [sizeAt_step h, hl]
  omega
theorem getD_list {yss : List (List Int)} {i : Nat} {ys : List Int} (h : yss[i]? = some ys) : yss.getD i [] = ys := by rw [List.getD_eq_getElem?_getD, h]; rfl

set_option maxRecDepth 100000 in
set_option maxHeartbeats 2000000 in
theorem markRag_any (V : Option Addr) (n c lo : Nat) (gs : List (Option Addr × Nat × Nat)) (yss : List (List Int)) (k : Int) (w : World) (h : Rag w lo V n gs yss) (hn : n + sizeL yss ≤ 1048576) (k0 : 0 ≤ k) (k1 : k ≤ 4000000) :
    Calls Try.prog 44 #[.slice V n c, .int .i64 k] w fun e w' => e = .returned (.int .i64 (rAt k yss n)) ∧ Rag w' lo V n gs (marksR k yss) ∧ ∀ hi, Top gs hi → Apart lo hi w w' := by
  have HP := Lib.hid h
  have HN := Lib.hid hn
  have hn1 : n ≤ 1048576 := by omega
  clear h hn
  have HK : Hid (k = rAt k yss 0) := Lib.hid (by unfold rAt; simp [sizeAt])
  go_enter Try.func44, Try.ntmps44
  go_wp2
  go_loopw [1, 5] (fun x y wr => ∃ (i : Nat) (zss : List (List Int)), i ≤ n ∧ y = .int .i64 i ∧ x = .int .i64 (rAt k yss i) ∧ Rag wr lo V n gs zss ∧ Hid (MarkedR k yss i zss) ∧ Hid (∀ hi, Top gs hi → Apart lo hi w wr)) (fun _ y _ => n - (intOf y).toNat)
  case atStart => exact ⟨0, yss, Nat.zero_le _, rfl, by rw [← HK.out], HP.out, Lib.hid ⟨rfl, fun j hj => absurd hj (by omega)⟩, Lib.hid (fun _ _ => Apart.refl _ _ _)⟩
  case round =>
    obtain ⟨i, zss, hi, rfl, rfl, hrag, hmk, hb⟩ := hrel
    by_cases hlt : i < n
    · obtain ⟨ad, a, zs, rfl, hlo, hsz2, ha, hz, hc⟩ := hrag.at_ hlt
      have hyi : yss[i]? = some (yss[i]'(by rw [HP.out.len]; exact hlt)) := List.getElem?_eq_getElem _
      generalize yss[i]'(by rw [HP.out.len]; exact hlt) = ys at hyi
      obtain ⟨p1, p2, p3, _⟩ := HP.out.inner i a ys ha hyi
      obtain ⟨i1, i2, i3, i4⟩ := hrag.inner i a zs ha hz
      obtain ⟨r0, r1⟩ := rAt_range (i := i) k0 k1 (show sizeL yss ≤ 1048576 by have := HN.out; omega) (by rw [HP.out.len]; omega)
      obtain ⟨r2, r3⟩ := rAt_range (i := i + 1) k0 k1 (show sizeL yss ≤ 1048576 by have := HN.out; omega) (by rw [HP.out.len]; omega)
      have HST := Lib.hid (rAt_step (k := k) hyi p1)
      have HGD := Lib.hid (getD_list hyi)
      have hq : a.2.1 ≤ 1048576 := by have := fits_at HN.out hyi; omega
      have HPI := Lib.hid hrag
      have HA := Lib.hid ha
      have HYL := Lib.hid p1
      have HIL := Lib.hid (show ys.length = a.2.1 from p1)
      have HBLO : Hid (∀ ad', 0 < a.2.1 → a.1 = some ad' → lo ≤ ad'.block ∧ Self wr ad' a.2.1 zs) := Lib.hid (fun ad' hp e => by
        obtain ⟨bd, e1, hs, h1, _⟩ := i4 hp
        rw [e1] at e; injection e with e; subst e; exact ⟨h1, hs⟩)
      have HO : Hid (∃ lo' hi', Own wr lo' hi' a.1 a.2.1 zs ∧ ((0 < a.2.1 ∧ ∃ bd, a.1 = some bd ∧ lo' = bd.block ∧ hi' = bd.block + 1) ∨ (a.2.1 = 0 ∧ hi' = 0))) := Lib.hid (by
        rcases Nat.eq_zero_or_pos a.2.1 with h0 | h0
        · refine ⟨0, 0, ?_, .inr ⟨h0, rfl⟩⟩
          have : zs = [] := List.eq_nil_of_length_eq_zero (by omega)
          subst this
          rw [h0]
          exact Own.nil _ (Nat.zero_le _)
        · obtain ⟨bd, e1, hs, h1, _⟩ := i4 h0
          refine ⟨bd.block, bd.block + 1, ?_, .inl ⟨h0, bd, e1, rfl, rfl⟩⟩
          rw [e1]; exact hs)
      obtain ⟨lo', hi', hO, hcase⟩ := HO.out
      have HOO := Lib.hid hO
      have HCS := Lib.hid hcase
      clear hrag ha hz hyi p1 p2 p3 i1 i2 i3 i4 HO hO hcase
      go_wp2_with fail
      refine (markInts_any _ _ _ _ (rAt k yss i) _ _ _ HOO.out hq r0 (by omega)).mono ?_
      rintro e w2 ⟨rfl, ho, row, hgr, hrow⟩
      have HR : Hid (∀ g, row = some g → 0 < a.2.1 ∧ ∃ bd, a.1 = some bd ∧ g = bd.block) := Lib.hid (fun g e => by
        have h1 := hrow g e
        rcases HCS.out with ⟨h0, bd, e1, e2, e3⟩ | ⟨h0, e2⟩
        · exact ⟨h0, bd, e1, by omega⟩
        · omega)
      have P2 := Lib.hid (HPI.out.write HA.out (marks_len (rAt k yss i) a.2.1) (fun bd hp e => by
        rcases HCS.out with ⟨h0, bd', e1, e2, e3⟩ | ⟨h0, e2⟩
        · rw [e1] at e; injection e with e; subst e
          rw [e1, e2, e3] at ho; exact ho
        · omega) hgr HR.out)
      have B2 : Hid (∀ hi, Top gs hi → Apart lo hi w w2) := Lib.hid (fun hi ht => (hb.out hi ht).grown hgr (fun g e => by
        obtain ⟨hp, bd, e1, e2⟩ := HR.out g e
        have h1 := (HBLO.out bd hp e1).1
        have h2 := ht i a bd HA.out hp e1
        omega))
      have M2 : Hid (MarkedR k yss (i + 1) (zss.set i (marks (rAt k yss i) a.2.1))) := Lib.hid ⟨by rw [List.length_set]; exact hmk.out.1, fun j hj hjl => by
        by_cases e : j = i
        · subst e
          rw [List.getElem?_set_self (by rw [HPI.out.len]; exact hlt), HGD.out, HIL.out]
        · rw [List.getElem?_set_ne (Ne.symm e)]
          exact hmk.out.2 j (by omega) hjl⟩
      rw [HST.out]
      clear ho hgr hrow hc HBLO HOO HCS
      go_wp2
      go_roundw
      case rel => exact ⟨i + 1, _, by omega, by go_num, rfl, P2.out, M2, B2⟩
      case measure => simp [intOf]; omega
    · obtain rfl : i = n := by omega
      have HE := Lib.hid (hmk.out.all HP.out.len)
      go_wp2
      go_ret
      refine ⟨rfl, ?_, hb.out⟩
      rw [← HE.out]
      exact hrag

set_option maxRecDepth 100000 in
set_option maxHeartbeats 2000000 in
theorem heldSets_any (V : Option Addr) (n c : Nat) (yss : List (List Int)) (k : Int) (w : World) (h : Sets w w.heap.size V n (marksR k yss)) (hn : n + sizeL yss ≤ 1048576) (k0 : 0 ≤ k) (k1 : k ≤ 4000000) :
    Calls Try.prog 52 #[.slice V n c, .int .i64 k] w fun e w' => e = .returned (.int .i64 (rAt k yss n)) ∧ w = w' := by
  have HK : Hid (k = rAt k yss 0) := Lib.hid (by unfold rAt; simp [sizeAt])
  have HP := Lib.hid h
  have HN := Lib.hid hn
  have hn1 : n ≤ 1048576 := by omega
  have HL : Hid (yss.length = n) := Lib.hid (by rw [← marksR_len k]; exact h.len)
  clear h hn
  go_enter Try.func52, Try.ntmps52
  go_wp2
  go_loop [1, 5] (fun x y => ∃ i : Nat, i ≤ n ∧ y = .int .i64 i ∧ x = .int .i64 (rAt k yss i)) (fun _ y => n - (intOf y).toNat)
  case atStart => exact ⟨0, Nat.zero_le _, rfl, by rw [← HK.out]⟩
  case round =>
    obtain ⟨i, hi, rfl, rfl⟩ := hrel
    by_cases hlt : i < n
    · obtain ⟨ad, zs, A, q, cc, rfl, hab, hz, hc, hin, _, _⟩ := HP.out.at_ hlt
      obtain ⟨_, rfl⟩ := marksR_at hz
      have hyi : yss[i]? = some (yss[i]'(by rw [HL.out]; exact hlt)) := List.getElem?_eq_getElem _
      generalize yss[i]'(by rw [HL.out]; exact hlt) = ys at hyi
      rw [getD_list hyi] at hin
      obtain rfl : ys.length = q := by rw [← hin.len, marks_len]
      obtain ⟨r0, r1⟩ := rAt_range (i := i) k0 k1 (show sizeL yss ≤ 1048576 by have := HN.out; omega) (by rw [HL.out]; omega)
      obtain ⟨r2, r3⟩ := rAt_range (i := i + 1) k0 k1 (show sizeL yss ≤ 1048576 by have := HN.out; omega) (by rw [HL.out]; omega)
      have HST := Lib.hid (rAt_step (k := k) hyi rfl)
      have hq : ys.length ≤ 1048576 := fits_at HN.out hyi
      have hneg : ¬ rAt k yss (i + 1) < 0 := by omega
      have HI := Lib.hid hin
      clear hin hz hyi
      generalize ys.length = q at *
      go_wp2_with fail
      refine (heldInts_any _ _ _ (rAt k yss i) _ HI.out hq r0 (by omega)).mono ?_
      rintro e w' ⟨rfl, rfl⟩
      rw [HST.out]
      go_wp2
      go_round
      case rel => exact ⟨i + 1, by omega, by go_num, rfl⟩
      case measure => simp [intOf]; omega
    · obtain rfl : i = n := by omega
      go_wp2
      go_ret
      exact ⟨rfl, rfl⟩

end Go.Proofs.Ytidjnnooeepklaa
