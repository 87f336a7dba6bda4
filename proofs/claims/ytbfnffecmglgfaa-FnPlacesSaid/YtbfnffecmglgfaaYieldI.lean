/- The statement 'for x := range f' where f hands out numbers that are not negative. -/
import Derived.Test.YtbfnffecmglgfaaSets
namespace Go.Proofs.Ytbfnffecmglgfaa
open Go Go.RowKit

/-- what an iterator owes that hands out numbers that are not negative, one after the other (Mid: of those that have come, the one at hand the last): all is done, S says which have come; or a round has said 'no more', Sp says which had come -/
def YieldsI (F : Fence) (n : Nat) (P : Program) (gf : Nat) (rb lb : Array Value) (K : World → Prop) (Mid S Sp : List Nat → Prop) (w : World) : Prop :=
  ∀ (l : Nat) (J Jx : List Nat → World → Prop) (W : World), Below w.heap.size w W → Under W.heap.size J → (∀ pre W1, J pre W1 → K W1) →
    (∀ (pre : List Nat) (x : Nat) (v : Value) (W1 : World), J pre W1 → Mid (pre ++ [x]) → v = .int .i64 (x : Int) → YieldAt F (n - 1) P l #[v] W1 fun e W' =>
      (e = .returned (.bool true) ∧ J (pre ++ [x]) W' ∧ Above W.heap.size W1 W') ∨ (e = .returned (.bool false) ∧ Jx (pre ++ [x]) W' ∧ Above W.heap.size W1 W')) →
    J [] W →
    CallsIn F n P gf (rb ++ #[.func (.yield l) #[] #[]] ++ lb) W fun e W' => (∃ v, e = .returned v) ∧ ((∃ xs, S xs ∧ J xs W') ∨ (∃ pre, Sp pre ∧ Jx pre W'))

/-- how a round may be left: the caller's own cells (below B) alone have turned -/
def yieldPostI (B : Nat) (I : List Nat → World → Prop) (Ix : Code → List Nat → World → Prop) (xs : List Nat) (W : World) : Exit → Act → World → Prop
  | .normal, _, W' => Above B W W' ∧ I xs W'
  | .ret, _, W' => Above B W W' ∧ Ix .ret xs W'
  | .exit id, _, W' => Above B W W' ∧ Ix (.exit id) xs W'
  | .goto t, _, W' => Above B W W' ∧ Ix (.goto t) xs W'
  | .panic _, _, _ => False
  | .outgrown, _, _ => False

/-- the statement over such an iterator -/
theorem wpIn_yieldI {F : Fence} {n : Nat} {P : Program} {g : Operand} {ps : Array Tmp} {assign body : Code} {Q : Exit → Act → World → Prop} {a : Act} {w : World}
    (hro : F.round = none) (h1 : 1 ≤ n) {gf : Nat} {rb lb : Array Value} (hg : a.eval g = .func (.func gf) rb lb) (hFg : F.fn gf) (eg : ∀ args w, (callFunc gf args).run P w = .ok (.enter gf args) w)
    {K : World → Prop} {Mid S Sp : List Nat → Prop} {w0 : World} (hseq : YieldsI F (n - 1) P gf rb lb K Mid S Sp w0) (hb0 : Below w0.heap.size w0 w) (hps : ps.size = 1)
    (I : List Nat → World → Prop) (Ix : Code → List Nat → World → Prop) (hI : Under w.heap.size I) (hIK : ∀ pre W, I pre W → K W) (hIx : ∀ c s W o, Ix c s W → Ix c s (W.putObj (w.heap.size + 1) o)) (h0 : I [] w) (a₁ : Value → Act)
    (hassign : ∀ (l : Nat) (v : Value) (W : World) (K : Act → World → Prop), K (a₁ v) W →
      assign.wpIn (F.inRound l) (n - 1 - 1) P (Exit.then K (fun _ _ _ => False)) { tmps := (ps.zip #[v]).foldl (fun t (p, v) => t.setIfInBounds p v) a.tmps, defers := [] } W)
    (hbody : ∀ (l : Nat) (pre : List Nat) (x : Nat) (v : Value) (W : World), I pre W → Mid (pre ++ [x]) → w.heap.size + 2 ≤ W.heap.size → v = .int .i64 (x : Int) → body.wpIn (F.inRound l) (n - 1 - 1) P (yieldPostI w.heap.size I Ix (pre ++ [x]) W) (a₁ v) W)
    (hdone : ∀ (xs : List Nat) (W : World), S xs → I xs W → W.heap[w.heap.size]? = some (.deferred (some [])) → Q .normal { a with defers := { target := .collected w.heap.size, args := #[] } :: a.defers } W)
    (hstop : ∀ (c : Code) (pre : List Nat) (W : World), Sp pre → Ix c pre W → W.heap[w.heap.size]? = some (.deferred (some [])) → c.wpIn F n P Q { a with defers := { target := .collected w.heap.size, args := #[] } :: a.defers } W) :
    (Code.rangeFunc g ps assign body).wpIn F n P Q a w := by
  refine wpIn_rangeFunc (fun fn hfn => ?_)
  rw [hro]
  let L : LoopState → Option Code → Obj := fun s j => .loop { state := s, pending := j, fn, tmps := a.tmps, params := ps, assign, body, defers := w.heap.size }
  let D : Obj := .deferred (some [])
  generalize hB : w.heap.size = B at *
  have hl0 : ((w.alloc D).alloc (L .ready none)).heap[B + 1]? = some (L .ready none) := by
    have := World.alloc_heap_new (w.alloc D) (L .ready none)
    rwa [World.size_alloc, hB] at this
  have hd0 : ((w.alloc D).alloc (L .ready none)).heap[B]? = some D := by
    rw [← hB]; exact (Below.heap_alloc _ _ _ (by simp)).trans (World.alloc_heap_new w D)
  have hs0 : ((w.alloc D).alloc (L .ready none)).heap.size = B + 2 := by simp [hB]
  have bl : Below B w ((w.alloc D).alloc (L .ready none)) := ((Below.refl B w).alloc (by omega) D).alloc (by simp; omega) _
  have hi0 := hI _ _ _ h0 bl
  have bw : Below w0.heap.size w0 ((w.alloc D).alloc (L .ready none)) := hb0.trans (bl.mono (by rw [← hB]; exact hb0.size))
  refine ⟨B + 1, [{ target := .collected B, args := #[] }], (w.alloc D).alloc (L .ready none), { target := .fn (.func gf) lb, args := rb ++ #[.func (.yield (B + 1)) #[] #[]] }, (w.alloc D).alloc (L .ready none), gf,
    rb ++ #[.func (.yield (B + 1)) #[] #[]] ++ lb, (w.alloc D).alloc (L .ready none), ?_, ?_, ?_, ?_, fun _ => h1, ?_⟩
  · rw [← hB]; exact run_enterLoop_outer _ _ _ _ _
  · simp only [resolve, hg]
    simp [go_sem]
  · intro f' hf'; simp [Target.leads] at hf'; subst hf'; exact hFg
  · simp [invoke, go_sem, eg]
  generalize hW0 : (w.alloc D).alloc (L .ready none) = V at *
  refine (hseq (B + 1) (fun pre W => I pre W ∧ W.heap[B + 1]? = some (L .ready none) ∧ W.heap[B]? = some D)
    (fun pre W => ∃ c, Ix c pre W ∧ W.heap[B + 1]? = some (L .done (some c)) ∧ W.heap[B]? = some D) V bw
    (fun s A C h hb => ⟨hI s A C h.1 (hb.mono (by omega)), (hb.block _ (by omega)).trans h.2.1, (hb.block _ (by omega)).trans h.2.2⟩) (fun pre W h => hIK pre W h.1)
    ?_ ⟨hi0, hl0, hd0⟩).mono ?_
  · -- a round
    rw [hs0]
    intro pre x v W hJ hM hx
    obtain ⟨hi, hl, hd⟩ := hJ
    have hlt : B + 1 < W.heap.size := (Array.getElem?_eq_some_iff.1 hl).1
    refine ⟨fn, _, assign, body, run_yield (P := P) (args := #[v]) hl (by simp [hps]), roundIn_of_wpIn hfn (hassign _ v W _ ⟨_, run_beginRound hl rfl, ?_⟩)⟩
    have hl2 : (W.putObj (B + 1) (L .busy none)).heap[B + 1]? = some (L .busy none) := World.putObj_heap_same hlt
    have hd2 : (W.putObj (B + 1) (L .busy none)).heap[B]? = some D := (World.putObj_heap_other (by omega)).trans hd
    have up : Above (B + 2) W (W.putObj (B + 1) (L .busy none)) := Above.putObj W _ (by omega)
    refine wpIn_mono (hbody _ pre x v _ (hI _ _ _ hi (below_putObj W _ (by omega))) hM (by simp; omega) hx) ?_
    have fin : ∀ (j : Option Code) (W3 : World), Above B (W.putObj (B + 1) (L .busy none)) W3 →
        (Instr.endRound (B + 1) j).run P W3 = .ok (.bool j.isNone) (W3.putObj (B + 1) (L (if j.isNone then .ready else .done) j)) ∧ B + 1 < W3.heap.size ∧
        (W3.putObj (B + 1) (L (if j.isNone then .ready else .done) j)).heap[B + 1]? = some (L (if j.isNone then .ready else .done) j) ∧
        (W3.putObj (B + 1) (L (if j.isNone then .ready else .done) j)).heap[B]? = some D := by
      intro j W3 ha
      have h3 : W3.heap[B + 1]? = some (L .busy none) := (ha.block _ (by omega) (by simp; omega)).trans hl2
      have h4 : W3.heap[B]? = some D := (ha.block _ (by omega) (by simp; omega)).trans hd2
      have h5 := (Array.getElem?_eq_some_iff.1 h3).1
      exact ⟨run_endRound (P := P) j h3, h5, World.putObj_heap_same h5, (World.putObj_heap_other (by omega)).trans h4⟩
    intro e a3 W3 hp
    cases e with
    | normal =>
      obtain ⟨ha, hi3⟩ := hp
      obtain ⟨hr, h5, hl4, hd4⟩ := fin none W3 ha
      exact ⟨_, _, hr, .inl ⟨rfl, ⟨hI _ _ _ hi3 (below_putObj W3 _ (by omega)), hl4, hd4⟩, (up.trans (ha.mono (by omega))).trans (Above.putObj W3 _ (by omega))⟩⟩
    | ret =>
      obtain ⟨ha, hi3⟩ := hp
      obtain ⟨hr, h5, hl4, hd4⟩ := fin (some .ret) W3 ha
      exact ⟨_, _, hr, .inr ⟨rfl, ⟨.ret, hIx _ _ _ _ hi3, hl4, hd4⟩, (up.trans (ha.mono (by omega))).trans (Above.putObj W3 _ (by omega))⟩⟩
    | exit id =>
      obtain ⟨ha, hi3⟩ := hp
      obtain ⟨hr, h5, hl4, hd4⟩ := fin (some (.exit id)) W3 ha
      exact ⟨_, _, hr, .inr ⟨rfl, ⟨.exit id, hIx _ _ _ _ hi3, hl4, hd4⟩, (up.trans (ha.mono (by omega))).trans (Above.putObj W3 _ (by omega))⟩⟩
    | goto t =>
      obtain ⟨ha, hi3⟩ := hp
      obtain ⟨hr, h5, hl4, hd4⟩ := fin (some (.goto t)) W3 ha
      exact ⟨_, _, hr, .inr ⟨rfl, ⟨.goto t, hIx _ _ _ _ hi3, hl4, hd4⟩, (up.trans (ha.mono (by omega))).trans (Above.putObj W3 _ (by omega))⟩⟩
    | panic ch => exact hp.elim
    | outgrown => exact hp.elim
  · -- behind the iterator
    intro e W2 hh
    obtain ⟨⟨v, rfl⟩, hh⟩ := hh
    rcases hh with ⟨xs, hS, hi, hl, hd⟩ | ⟨pre, hSp, c, hi, hl, hd⟩
    · exact ⟨none, _, run_endLoop (P := P) hl (by simp), hdone xs _ hS (hI _ _ _ hi (below_putObj W2 _ (by omega))) ((World.putObj_heap_other (by omega)).trans hd)⟩
    · exact ⟨some c, _, run_endLoop (P := P) hl (by simp), hstop c pre _ hSp (hIx c _ _ _ hi) ((World.putObj_heap_other (by omega)).trans hd)⟩

end Go.Proofs.Ytbfnffecmglgfaa
