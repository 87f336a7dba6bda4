/- The statement 'for x := range f' where f lends the same memory to every round and turns one block of its own alone: what the rounds themselves have made is kept, too. -/
import Derived.Test.YtjoknbknhfnggaaLent
namespace Go.Proofs.Ytjoknbknhfnggaa
open Go Go.RowKit

/-- from B on nothing that lay has turned, but block b -/
structure Beside (B b : Nat) (A C : World) : Prop where
  size : A.heap.size ≤ C.heap.size
  block : ∀ k, B ≤ k → k < A.heap.size → k ≠ b → C.heap[k]? = A.heap[k]?
theorem Beside.refl (B b : Nat) (A : World) : Beside B b A A := ⟨Nat.le_refl _, fun _ _ _ _ => rfl⟩
theorem Beside.trans {B b : Nat} {A C D : World} (h : Beside B b A C) (k : Beside B b C D) : Beside B b A D :=
  ⟨Nat.le_trans h.size k.size, fun i h1 h2 h3 => (k.block i h1 (Nat.lt_of_lt_of_le h2 h.size) h3).trans (h.block i h1 h2 h3)⟩
theorem Beside.above {B b : Nat} {A C : World} (h : Above B A C) : Beside B b A C := ⟨h.size, fun i h1 h2 _ => h.block i h1 h2⟩
theorem Beside.setCell {B : Nat} (A : World) {p : Addr} (v : Value) : Beside B p.block A (A.setCell p v) := ⟨by simp [World.setCell], fun k _ _ hk => Below.heap_setCell A p v k hk⟩
theorem Beside.low {B b : Nat} {A C : World} (h : Beside B b A C) (hb : Below B A C) : A.grownBy C (some b) := ⟨hb.os, hb.tape, hb.output, h.size, fun k hk hn => by
  rcases Nat.lt_or_ge k B with h1 | h1
  · exact hb.block k h1
  · exact h.block k h1 hk (fun e => hn (by rw [e]))⟩

/-- what is said of a world abides whatever leaves all blocks that lay but block b, which lies from B on -/
def Under1 {β : Type} (B b : Nat) (J : β → World → Prop) : Prop := ∀ s A C, J s A → Below B A C → Beside B b A C → J s C
theorem Under.one {β : Type} {B b : Nat} {J : β → World → Prop} (h : Under B J) : Under1 B b J := fun s A C hs hb _ => h s A C hs hb

/-- from B on nothing that lay has turned, but blocks of a kind -/
structure Spare (B : Nat) (P : Nat → Prop) (A C : World) : Prop where
  size : A.heap.size ≤ C.heap.size
  block : ∀ k, B ≤ k → k < A.heap.size → ¬ P k → C.heap[k]? = A.heap[k]?
theorem Spare.refl (B : Nat) (P : Nat → Prop) (A : World) : Spare B P A A := ⟨Nat.le_refl _, fun _ _ _ _ => rfl⟩
theorem Spare.trans {B : Nat} {P Q : Nat → Prop} {A C D : World} (h : Spare B P A C) (k : Spare B Q C D) (hq : ∀ i, i < A.heap.size → Q i → P i) : Spare B P A D :=
  ⟨Nat.le_trans h.size k.size, fun i h1 h2 h3 => (k.block i h1 (Nat.lt_of_lt_of_le h2 h.size) (fun hi => h3 (hq i h2 hi))).trans (h.block i h1 h2 h3)⟩
theorem Spare.above {B : Nat} {P : Nat → Prop} {A C : World} (h : Above B A C) : Spare B P A C := ⟨h.size, fun i h1 h2 _ => h.block i h1 h2⟩
theorem Spare.beside {B b : Nat} {P : Nat → Prop} {A C : World} (h : Beside B b A C) (hb : P b) : Spare B P A C := ⟨h.size, fun i h1 h2 h3 => h.block i h1 h2 (fun e => h3 (by rw [e]; exact hb))⟩
theorem Spare.mono {B B' : Nat} {P : Nat → Prop} {A C : World} (h : Spare B P A C) (hB : B ≤ B') : Spare B' P A C := ⟨h.size, fun i h1 h2 h3 => h.block i (Nat.le_trans hB h1) h2 h3⟩
/-- a list of the iterator's own is not touched -/
theorem Own.spare {w w' : World} {lo n B : Nat} {P : Nat → Prop} {A : Option Addr} {xs : List Int} (h : Own w lo w.heap.size A n xs) (hb : Spare B P w w') (hB : B ≤ lo) (hP : ∀ ad, A = some ad → ¬ P ad.block) : Own w' lo w'.heap.size A n xs :=
  ⟨h.1, Nat.le_refl _, fun hn => by
    obtain ⟨ad, e, h1, h2, hc⟩ := h.2.2 hn
    refine ⟨ad, e, h1, Nat.lt_of_lt_of_le h2 hb.size, fun j v hv => ?_⟩
    have hk := hb.block (ad.add j).block (by rw [block_of_add]; omega) (by rw [block_of_add]; exact h2) (by rw [block_of_add]; exact hP ad e)
    rw [World.frozen?_of_block (w := w) hk, World.cell?_of_block (w := w) hk]
    exact hc j v hv⟩
/-- the block that the rounds write over: the one that it was, or a new one -/
def Grows (s s' : Option Nat) (n : Nat) : Prop := s' = s ∨ ∃ k, s' = some k ∧ n ≤ k
theorem Grows.less {s s' : Option Nat} {n n' : Nat} (h : Grows s s' n) (hn : n' ≤ n) : Grows s s' n' := by
  rcases h with h | ⟨k, h1, h2⟩
  · exact .inl h
  · exact .inr ⟨k, h1, Nat.le_trans hn h2⟩
theorem Grows.trans {s t u : Option Nat} {n : Nat} (h : Grows s t n) (k : Grows t u n) : Grows s u n := by
  rcases k with rfl | k
  · exact h
  · exact .inr k
theorem Grows.ne {s s' : Option Nat} {n b : Nat} (h : Grows s s' n) (hs : s ≠ some b) (hb : b < n) : s' ≠ some b := by
  rcases h with rfl | ⟨k, rfl, h2⟩
  · exact hs
  · intro e; injection e with e; omega

/-- what an iterator owes that lends lists of k numbers, in the block behind its first new one, one after the other (Mid: of those that have come, the one at hand the last), while the rounds make lists of their own and write over one block of theirs: all is done, S says which have come; or a round has said 'no more', Sp says which had come -/
def Lends1 (F : Fence) (n : Nat) (P : Program) (gf : Nat) (rb lb : Array Value) (k : Nat) (Mid S Sp : List (List Int) → Prop) (w : World) : Prop :=
  ∀ (l : Nat) (J : List (List Int) → Option Nat → World → Prop) (Jx : List (List Int) → World → Prop) (W : World), Below w.heap.size w W → (∀ s, Under1 W.heap.size (W.heap.size + 1) (fun pre => J pre s)) → (∀ pre b W', J pre (some b) W' → b < W'.heap.size) →
    (∀ pre s x v W1, J pre s W1 → Mid (pre ++ [x]) → Lent k W.heap.size x v W1 → (∀ a n c, v = .slice (some a) n c → a.block = W.heap.size + 1) → s ≠ some (W.heap.size + 1) → YieldAt F (n - 1) P l #[v] W1 fun e W' =>
      Spare W.heap.size (fun k => s = some k) W1 W' ∧ ((e = .returned (.bool true) ∧ ∃ s', Grows s s' W1.heap.size ∧ J (pre ++ [x]) s' W') ∨ (e = .returned (.bool false) ∧ Jx (pre ++ [x]) W'))) →
    J [] none W →
    CallsIn F n P gf (rb ++ #[.func (.yield l) #[] #[]] ++ lb) W fun e W' => (∃ v, e = .returned v) ∧ ((∃ xs s, S xs ∧ J xs s W') ∨ (∃ pre, Sp pre ∧ Jx pre W'))

/-- how a round may be left: the caller's own cells (below B) and the block s alone have turned -/
def lentPost1 (B : Nat) (I : List (List Int) → Option Nat → World → Prop) (Ix : Code → List (List Int) → World → Prop) (xs : List (List Int)) (s : Option Nat) (W : World) : Exit → Act → World → Prop
  | .normal, _, W' => Spare B (fun k => s = some k) W W' ∧ ∃ s', Grows s s' W.heap.size ∧ I xs s' W'
  | .ret, _, W' => Spare B (fun k => s = some k) W W' ∧ Ix .ret xs W'
  | .exit id, _, W' => Spare B (fun k => s = some k) W W' ∧ Ix (.exit id) xs W'
  | .goto t, _, W' => Spare B (fun k => s = some k) W W' ∧ Ix (.goto t) xs W'
  | .panic _, _, _ => False
  | .outgrown, _, _ => False

/-- the statement over such an iterator -/
theorem wpIn_lent1 {F : Fence} {n : Nat} {P : Program} {g : Operand} {ps : Array Tmp} {assign body : Code} {Q : Exit → Act → World → Prop} {a : Act} {w : World}
    (hro : F.round = none) (h1 : 1 ≤ n) {gf : Nat} {rb lb : Array Value} (hg : a.eval g = .func (.func gf) rb lb) (hFg : F.fn gf) (eg : ∀ args w, (callFunc gf args).run P w = .ok (.enter gf args) w)
    {k : Nat} {Mid S Sp : List (List Int) → Prop} {w0 : World} (hseq : Lends1 F (n - 1) P gf rb lb k Mid S Sp w0) (hb0 : Below w0.heap.size w0 w) (hps : ps.size = 1)
    (I : List (List Int) → Option Nat → World → Prop) (Ix : Code → List (List Int) → World → Prop) (hI : ∀ xs s A C, I xs s A → Below w.heap.size A C → Beside (w.heap.size + 2) (w.heap.size + 3) A C → I xs s C) (hIs : ∀ xs b A, I xs (some b) A → w.heap.size + 2 ≤ b ∧ b < A.heap.size) (hIx : ∀ c s W o, Ix c s W → Ix c s (W.putObj (w.heap.size + 1) o)) (h0 : I [] none w) (a₁ : Value → Act)
    (hassign : ∀ (l : Nat) (v : Value) (W : World) (K : Act → World → Prop), K (a₁ v) W →
      assign.wpIn (F.inRound l) (n - 1 - 1) P (Exit.then K (fun _ _ _ => False)) { tmps := (ps.zip #[v]).foldl (fun t (p, v) => t.setIfInBounds p v) a.tmps, defers := [] } W)
    (hbody : ∀ (l : Nat) (pre : List (List Int)) (s : Option Nat) (x : List Int) (v : Value) (W : World), I pre s W → Mid (pre ++ [x]) → w.heap.size + 2 ≤ W.heap.size → Lent k (w.heap.size + 2) x v W → (∀ a n c, v = .slice (some a) n c → a.block = w.heap.size + 3) → s ≠ some (w.heap.size + 3) → body.wpIn (F.inRound l) (n - 1 - 1) P (lentPost1 w.heap.size I Ix (pre ++ [x]) s W) (a₁ v) W)
    (hdone : ∀ (xs : List (List Int)) (s : Option Nat) (W : World), S xs → I xs s W → W.heap[w.heap.size]? = some (.deferred (some [])) → Q .normal { a with defers := { target := .collected w.heap.size, args := #[] } :: a.defers } W)
    (hstop : ∀ (c : Code) (pre : List (List Int)) (W : World), Sp pre → Ix c pre W → W.heap[w.heap.size]? = some (.deferred (some [])) → c.wpIn F n P Q { a with defers := { target := .collected w.heap.size, args := #[] } :: a.defers } W) :
    (Code.rangeFunc g ps assign body).wpIn F n P Q a w := by
  refine wpIn_rangeFunc (fun fn hfn => ?_)
  rw [hro]
  let L : LoopState → Option Code → Obj := fun s j => .loop { state := s, pending := j, fn, tmps := a.tmps, params := ps, assign, body, defers := w.heap.size }
  let D : Obj := .deferred (some [])
  generalize hB : w.heap.size = B at *
  have hl0 : ((w.alloc D).alloc (L .ready none)).heap[B + 1]? = some (L .ready none) := by
    have := World.alloc_heap_new (w.alloc D) (L .ready none)
    rwa [World.size_alloc, hB] at this
  have hd0 : ((w.alloc D).alloc (L .ready none)).heap[B]? = some D := by
    rw [← hB]; exact (Below.heap_alloc _ _ _ (by simp)).trans (World.alloc_heap_new w D)
  have hs0 : ((w.alloc D).alloc (L .ready none)).heap.size = B + 2 := by simp [hB]
  have bl : Below B w ((w.alloc D).alloc (L .ready none)) := ((Below.refl B w).alloc (by omega) D).alloc (by simp; omega) _
  have hi0 := hI _ _ _ _ h0 bl (Beside.above ((Above.alloc _ _ _).trans (Above.alloc _ _ _)))
  have bw : Below w0.heap.size w0 ((w.alloc D).alloc (L .ready none)) := hb0.trans (bl.mono (by rw [← hB]; exact hb0.size))
  refine ⟨B + 1, [{ target := .collected B, args := #[] }], (w.alloc D).alloc (L .ready none), { target := .fn (.func gf) lb, args := rb ++ #[.func (.yield (B + 1)) #[] #[]] }, (w.alloc D).alloc (L .ready none), gf,
    rb ++ #[.func (.yield (B + 1)) #[] #[]] ++ lb, (w.alloc D).alloc (L .ready none), ?_, ?_, ?_, ?_, fun _ => h1, ?_⟩
  · rw [← hB]; exact run_enterLoop_outer _ _ _ _ _
  · simp only [resolve, hg]
    simp [go_sem]
  · intro f' hf'; simp [Target.leads] at hf'; subst hf'; exact hFg
  · simp [invoke, go_sem, eg]
  generalize hW0 : (w.alloc D).alloc (L .ready none) = V at *
  refine (hseq (B + 1) (fun pre s W => I pre s W ∧ W.heap[B + 1]? = some (L .ready none) ∧ W.heap[B]? = some D)
    (fun pre W => ∃ c, Ix c pre W ∧ W.heap[B + 1]? = some (L .done (some c)) ∧ W.heap[B]? = some D) V bw
    (fun s xs A C h hb hs => ⟨hI xs s A C h.1 (hb.mono (by omega)) (by rw [hs0] at hs; exact hs), (hb.block _ (by omega)).trans h.2.1, (hb.block _ (by omega)).trans h.2.2⟩) (fun pre b W' h => (hIs _ _ _ h.1).2)
    ?_ ⟨hi0, hl0, hd0⟩).mono ?_
  · -- a round
    rw [hs0]
    intro pre s x v W hJ hM hx hap hsg
    obtain ⟨hi, hl, hd⟩ := hJ
    have hlt : B + 1 < W.heap.size := (Array.getElem?_eq_some_iff.1 hl).1
    refine ⟨fn, _, assign, body, run_yield (P := P) (args := #[v]) hl (by simp [hps]), roundIn_of_wpIn hfn (hassign _ v W _ ⟨_, run_beginRound hl rfl, ?_⟩)⟩
    have hl2 : (W.putObj (B + 1) (L .busy none)).heap[B + 1]? = some (L .busy none) := World.putObj_heap_same hlt
    have hd2 : (W.putObj (B + 1) (L .busy none)).heap[B]? = some D := (World.putObj_heap_other (by omega)).trans hd
    have up : Above (B + 2) W (W.putObj (B + 1) (L .busy none)) := Above.putObj W _ (by omega)
    refine wpIn_mono (hbody _ pre s x v _ (hI _ _ _ _ hi (below_putObj W _ (by omega)) (Beside.above up)) hM (by simp; omega) (hx.above up) hap hsg) ?_
    have hnb : s ≠ some B ∧ s ≠ some (B + 1) := ⟨fun e => by subst e; have := (hIs _ _ _ hi).1; omega, fun e => by subst e; have := (hIs _ _ _ hi).1; omega⟩
    have fin : ∀ (j : Option Code) (W3 : World), Spare B (fun k => s = some k) (W.putObj (B + 1) (L .busy none)) W3 →
        (Instr.endRound (B + 1) j).run P W3 = .ok (.bool j.isNone) (W3.putObj (B + 1) (L (if j.isNone then .ready else .done) j)) ∧ B + 1 < W3.heap.size ∧
        (W3.putObj (B + 1) (L (if j.isNone then .ready else .done) j)).heap[B + 1]? = some (L (if j.isNone then .ready else .done) j) ∧
        (W3.putObj (B + 1) (L (if j.isNone then .ready else .done) j)).heap[B]? = some D := by
      intro j W3 ha
      have h3 : W3.heap[B + 1]? = some (L .busy none) := (ha.block _ (by omega) (by simp; omega) hnb.2).trans hl2
      have h4 : W3.heap[B]? = some D := (ha.block _ (by omega) (by simp; omega) hnb.1).trans hd2
      have h5 := (Array.getElem?_eq_some_iff.1 h3).1
      exact ⟨run_endRound (P := P) j h3, h5, World.putObj_heap_same h5, (World.putObj_heap_other (by omega)).trans h4⟩
    have upp : Spare (B + 2) (fun k => s = some k) W (W.putObj (B + 1) (L .busy none)) := Spare.above up
    intro e a3 W3 hp
    cases e with
    | normal =>
      obtain ⟨ha, s', hg, hi3⟩ := hp
      obtain ⟨hr, h5, hl4, hd4⟩ := fin none W3 ha
      exact ⟨_, _, hr, (upp.trans (ha.mono (by omega)) (fun _ _ h => h)).trans (Q := fun _ => False) (Spare.above (Above.putObj W3 _ (by omega))) (fun _ _ h => h.elim), .inl ⟨rfl, s', by simpa using hg, hI _ _ _ _ hi3 (below_putObj W3 _ (by omega)) (Beside.above (Above.putObj W3 _ (by omega))), hl4, hd4⟩⟩
    | ret =>
      obtain ⟨ha, hi3⟩ := hp
      obtain ⟨hr, h5, hl4, hd4⟩ := fin (some .ret) W3 ha
      exact ⟨_, _, hr, (upp.trans (ha.mono (by omega)) (fun _ _ h => h)).trans (Q := fun _ => False) (Spare.above (Above.putObj W3 _ (by omega))) (fun _ _ h => h.elim), .inr ⟨rfl, .ret, hIx _ _ _ _ hi3, hl4, hd4⟩⟩
    | exit id =>
      obtain ⟨ha, hi3⟩ := hp
      obtain ⟨hr, h5, hl4, hd4⟩ := fin (some (.exit id)) W3 ha
      exact ⟨_, _, hr, (upp.trans (ha.mono (by omega)) (fun _ _ h => h)).trans (Q := fun _ => False) (Spare.above (Above.putObj W3 _ (by omega))) (fun _ _ h => h.elim), .inr ⟨rfl, .exit id, hIx _ _ _ _ hi3, hl4, hd4⟩⟩
    | goto t =>
      obtain ⟨ha, hi3⟩ := hp
      obtain ⟨hr, h5, hl4, hd4⟩ := fin (some (.goto t)) W3 ha
      exact ⟨_, _, hr, (upp.trans (ha.mono (by omega)) (fun _ _ h => h)).trans (Q := fun _ => False) (Spare.above (Above.putObj W3 _ (by omega))) (fun _ _ h => h.elim), .inr ⟨rfl, .goto t, hIx _ _ _ _ hi3, hl4, hd4⟩⟩
    | panic ch => exact hp.elim
    | outgrown => exact hp.elim
  · -- behind the iterator
    intro e W2 hh
    obtain ⟨⟨v, rfl⟩, hh⟩ := hh
    rcases hh with ⟨xs, s, hS, hi, hl, hd⟩ | ⟨pre, hSp, c, hi, hl, hd⟩
    · exact ⟨none, _, run_endLoop (P := P) hl (by simp), hdone xs s _ hS (hI _ _ _ _ hi (below_putObj W2 _ (by omega)) (Beside.above (Above.putObj W2 _ (by omega)))) ((World.putObj_heap_other (by omega)).trans hd)⟩
    · exact ⟨some c, _, run_endLoop (P := P) hl (by simp), hstop c pre _ hSp (hIx c _ _ _ hi) ((World.putObj_heap_other (by omega)).trans hd)⟩

end Go.Proofs.Ytjoknbknhfnggaa
