/- The statement 'for x := range f' where f hands out numbers, and the rounds write over rows that they have made: a round must leave the iterator's own block as it lies, and all else that has come stays between two rounds. -/
import Derived.Test.YtbfnffecmglgfaaWearP
namespace Go.Proofs.Ytbfnffecmglgfaa
open Go Go.RowKit

/-- what an iterator owes that hands out numbers and writes nowhere: between two rounds all that lies stays; a round leaves the iterator's first new block as it lies -/
def Yields1 (F : Fence) (n : Nat) (P : Program) (gf : Nat) (rb lb : Array Value) (Mid S Sp : List Nat → Prop) (w : World) : Prop :=
  ∀ (l : Nat) (J Jx : List Nat → World → Prop) (W : World), Below w.heap.size w W → (∀ pre A C, J pre A → Below A.heap.size A C → J pre C) →
    (∀ (pre : List Nat) (x : Nat) (v : Value) (W1 : World), J pre W1 → Mid (pre ++ [x]) → W.heap.size < W1.heap.size → v = .int .i64 (x : Int) → YieldAt F (n - 1) P l #[v] W1 fun e W' =>
      W1.heap.size ≤ W'.heap.size ∧ W'.heap[W.heap.size]? = W1.heap[W.heap.size]? ∧ ((e = .returned (.bool true) ∧ J (pre ++ [x]) W') ∨ (e = .returned (.bool false) ∧ Jx (pre ++ [x]) W'))) →
    J [] W →
    CallsIn F n P gf (rb ++ #[.func (.yield l) #[] #[]] ++ lb) W fun e W' => (∃ v, e = .returned v) ∧ ((∃ xs, S xs ∧ J xs W') ∨ (∃ pre, Sp pre ∧ Jx pre W'))

/-- a round leaves three blocks as they lie -/
structure Three (B : Nat) (A C : World) : Prop where
  size : A.heap.size ≤ C.heap.size
  b0 : C.heap[B]? = A.heap[B]?
  b1 : C.heap[B + 1]? = A.heap[B + 1]?
  b2 : C.heap[B + 2]? = A.heap[B + 2]?
def yieldPost1 (B : Nat) (I : List Nat → World → Prop) (Ix : Code → List Nat → World → Prop) (xs : List Nat) (W : World) : Exit → Act → World → Prop
  | .normal, _, W' => Three B W W' ∧ I xs W'
  | .ret, _, W' => Three B W W' ∧ Ix .ret xs W'
  | .exit id, _, W' => Three B W W' ∧ Ix (.exit id) xs W'
  | .goto t, _, W' => Three B W W' ∧ Ix (.goto t) xs W'
  | .panic _, _, _ => False
  | .outgrown, _, _ => False

/-- the statement over such an iterator -/
theorem wpIn_yield1 {F : Fence} {n : Nat} {P : Program} {g : Operand} {ps : Array Tmp} {assign body : Code} {Q : Exit → Act → World → Prop} {a : Act} {w : World}
    (hro : F.round = none) (h1 : 1 ≤ n) {gf : Nat} {rb lb : Array Value} (hg : a.eval g = .func (.func gf) rb lb) (hFg : F.fn gf) (eg : ∀ args w, (callFunc gf args).run P w = .ok (.enter gf args) w)
    {Mid S Sp : List Nat → Prop} {w0 : World} (hseq : Yields1 F (n - 1) P gf rb lb Mid S Sp w0) (hb0 : Below w0.heap.size w0 w) (hps : ps.size = 1)
    (I : List Nat → World → Prop) (Ix : Code → List Nat → World → Prop) (hI : ∀ xs A C, I xs A → Below A.heap.size A C → I xs C) (hIp : ∀ xs A o, I xs A → w.heap.size + 1 < A.heap.size → I xs (A.putObj (w.heap.size + 1) o)) (hIx : ∀ c s W o, Ix c s W → Ix c s (W.putObj (w.heap.size + 1) o)) (h0 : I [] w) (a₁ : Value → Act)
    (hassign : ∀ (l : Nat) (v : Value) (W : World) (K : Act → World → Prop), K (a₁ v) W →
      assign.wpIn (F.inRound l) (n - 1 - 1) P (Exit.then K (fun _ _ _ => False)) { tmps := (ps.zip #[v]).foldl (fun t (p, v) => t.setIfInBounds p v) a.tmps, defers := [] } W)
    (hbody : ∀ (l : Nat) (pre : List Nat) (x : Nat) (v : Value) (W : World), I pre W → Mid (pre ++ [x]) → w.heap.size + 3 ≤ W.heap.size → v = .int .i64 (x : Int) → body.wpIn (F.inRound l) (n - 1 - 1) P (yieldPost1 w.heap.size I Ix (pre ++ [x]) W) (a₁ v) W)
    (hdone : ∀ (xs : List Nat) (W : World), S xs → I xs W → W.heap[w.heap.size]? = some (.deferred (some [])) → Q .normal { a with defers := { target := .collected w.heap.size, args := #[] } :: a.defers } W)
    (hstop : ∀ (c : Code) (pre : List Nat) (W : World), Sp pre → Ix c pre W → W.heap[w.heap.size]? = some (.deferred (some [])) → c.wpIn F n P Q { a with defers := { target := .collected w.heap.size, args := #[] } :: a.defers } W) :
    (Code.rangeFunc g ps assign body).wpIn F n P Q a w := by
  refine wpIn_rangeFunc (fun fn hfn => ?_)
  rw [hro]
  let L : LoopState → Option Code → Obj := fun s j => .loop { state := s, pending := j, fn, tmps := a.tmps, params := ps, assign, body, defers := w.heap.size }
  let D : Obj := .deferred (some [])
  generalize hB : w.heap.size = B at *
  have hl0 : ((w.alloc D).alloc (L .ready none)).heap[B + 1]? = some (L .ready none) := by
    have := World.alloc_heap_new (w.alloc D) (L .ready none)
    rwa [World.size_alloc, hB] at this
  have hd0 : ((w.alloc D).alloc (L .ready none)).heap[B]? = some D := by
    rw [← hB]; exact (Below.heap_alloc _ _ _ (by simp)).trans (World.alloc_heap_new w D)
  have hs0 : ((w.alloc D).alloc (L .ready none)).heap.size = B + 2 := by simp [hB]
  have bl : Below B w ((w.alloc D).alloc (L .ready none)) := ((Below.refl B w).alloc (by omega) D).alloc (by simp; omega) _
  have hi0 := hI _ _ _ h0 (by rw [hB]; exact bl)
  have bw : Below w0.heap.size w0 ((w.alloc D).alloc (L .ready none)) := hb0.trans (bl.mono (by rw [← hB]; exact hb0.size))
  refine ⟨B + 1, [{ target := .collected B, args := #[] }], (w.alloc D).alloc (L .ready none), { target := .fn (.func gf) lb, args := rb ++ #[.func (.yield (B + 1)) #[] #[]] }, (w.alloc D).alloc (L .ready none), gf,
    rb ++ #[.func (.yield (B + 1)) #[] #[]] ++ lb, (w.alloc D).alloc (L .ready none), ?_, ?_, ?_, ?_, fun _ => h1, ?_⟩
  · rw [← hB]; exact run_enterLoop_outer _ _ _ _ _
  · simp only [resolve, hg]
    simp [go_sem]
  · intro f' hf'; simp [Target.leads] at hf'; subst hf'; exact hFg
  · simp [invoke, go_sem, eg]
  generalize hW0 : (w.alloc D).alloc (L .ready none) = V at *
  refine (hseq (B + 1) (fun pre W => I pre W ∧ W.heap[B + 1]? = some (L .ready none) ∧ W.heap[B]? = some D)
    (fun pre W => ∃ c, Ix c pre W ∧ W.heap[B + 1]? = some (L .done (some c)) ∧ W.heap[B]? = some D) V bw
    (fun s A C h hb => ⟨hI s A C h.1 hb, (hb.block _ (Array.getElem?_eq_some_iff.1 h.2.1).1).trans h.2.1, (hb.block _ (Array.getElem?_eq_some_iff.1 h.2.2).1).trans h.2.2⟩)
    ?_ ⟨hi0, hl0, hd0⟩).mono ?_
  · -- a round
    rw [hs0]
    intro pre x v W hJ hM hsz hx
    obtain ⟨hi, hl, hd⟩ := hJ
    have hlt : B + 1 < W.heap.size := (Array.getElem?_eq_some_iff.1 hl).1
    refine ⟨fn, _, assign, body, run_yield (P := P) (args := #[v]) hl (by simp [hps]), roundIn_of_wpIn hfn (hassign _ v W _ ⟨_, run_beginRound hl rfl, ?_⟩)⟩
    have hl2 : (W.putObj (B + 1) (L .busy none)).heap[B + 1]? = some (L .busy none) := World.putObj_heap_same hlt
    have hd2 : (W.putObj (B + 1) (L .busy none)).heap[B]? = some D := (World.putObj_heap_other (by omega)).trans hd
    have hb2 : (W.putObj (B + 1) (L .busy none)).heap[B + 2]? = W.heap[B + 2]? := World.putObj_heap_other (by omega)
    have hsp : (W.putObj (B + 1) (L .busy none)).heap.size = W.heap.size := by simp
    refine wpIn_mono (hbody _ pre x v _ (hIp _ _ _ hi hlt) hM (by simp; omega) hx) ?_
    have fin : ∀ (j : Option Code) (W3 : World), Three B (W.putObj (B + 1) (L .busy none)) W3 →
        (Instr.endRound (B + 1) j).run P W3 = .ok (.bool j.isNone) (W3.putObj (B + 1) (L (if j.isNone then .ready else .done) j)) ∧ B + 1 < W3.heap.size ∧
        (W3.putObj (B + 1) (L (if j.isNone then .ready else .done) j)).heap[B + 1]? = some (L (if j.isNone then .ready else .done) j) ∧
        (W3.putObj (B + 1) (L (if j.isNone then .ready else .done) j)).heap[B]? = some D ∧
        (W3.putObj (B + 1) (L (if j.isNone then .ready else .done) j)).heap[B + 2]? = W.heap[B + 2]? ∧
        W.heap.size ≤ (W3.putObj (B + 1) (L (if j.isNone then .ready else .done) j)).heap.size := by
      intro j W3 ha
      have h3 : W3.heap[B + 1]? = some (L .busy none) := ha.b1.trans hl2
      have h4 : W3.heap[B]? = some D := ha.b0.trans hd2
      have h5 := (Array.getElem?_eq_some_iff.1 h3).1
      have h6 := ha.size
      exact ⟨run_endRound (P := P) j h3, h5, World.putObj_heap_same h5, (World.putObj_heap_other (by omega)).trans h4, (World.putObj_heap_other (by omega)).trans (ha.b2.trans hb2), by simp; omega⟩
    intro e a3 W3 hp
    cases e with
    | normal =>
      obtain ⟨ha, hi3⟩ := hp
      obtain ⟨hr, h5, hl4, hd4, hb4, hs4⟩ := fin none W3 ha
      exact ⟨_, _, hr, hs4, hb4, .inl ⟨rfl, hIp _ _ _ hi3 h5, hl4, hd4⟩⟩
    | ret =>
      obtain ⟨ha, hi3⟩ := hp
      obtain ⟨hr, h5, hl4, hd4, hb4, hs4⟩ := fin (some .ret) W3 ha
      exact ⟨_, _, hr, hs4, hb4, .inr ⟨rfl, .ret, hIx _ _ _ _ hi3, hl4, hd4⟩⟩
    | exit id =>
      obtain ⟨ha, hi3⟩ := hp
      obtain ⟨hr, h5, hl4, hd4, hb4, hs4⟩ := fin (some (.exit id)) W3 ha
      exact ⟨_, _, hr, hs4, hb4, .inr ⟨rfl, .exit id, hIx _ _ _ _ hi3, hl4, hd4⟩⟩
    | goto t =>
      obtain ⟨ha, hi3⟩ := hp
      obtain ⟨hr, h5, hl4, hd4, hb4, hs4⟩ := fin (some (.goto t)) W3 ha
      exact ⟨_, _, hr, hs4, hb4, .inr ⟨rfl, .goto t, hIx _ _ _ _ hi3, hl4, hd4⟩⟩
    | panic ch => exact hp.elim
    | outgrown => exact hp.elim
  · -- behind the iterator
    intro e W2 hh
    obtain ⟨⟨v, rfl⟩, hh⟩ := hh
    rcases hh with ⟨xs, hS, hi, hl, hd⟩ | ⟨pre, hSp, c, hi, hl, hd⟩
    · exact ⟨none, _, run_endLoop (P := P) hl (by simp), hdone xs _ hS (hIp _ _ _ hi (Array.getElem?_eq_some_iff.1 hl).1) ((World.putObj_heap_other (by omega)).trans hd)⟩
    · exact ⟨some c, _, run_endLoop (P := P) hl (by simp), hstop c pre _ hSp (hIx c _ _ _ hi) ((World.putObj_heap_other (by omega)).trans hd)⟩

set_option maxRecDepth 100000 in
set_option maxHeartbeats 4000000 in
theorem loose_yield1 (v : Nat) (t : Nat) (hv : v < 256) (ht : t ≤ 4) (q : Nat) (w : World) :
    Yields1 Fence.wide q Try.prog 132 #[.agg #[.int .u8 (v : Int), .int .i64 (t : Int)]] #[] (AheadI (frT (fun d => v.testBit d) (t : Int) (70 + t + 1))) (fun l => l = frT (fun d => v.testBit d) (t : Int) (70 + t + 1)) (PartI (frT (fun d => v.testBit d) (t : Int) (70 + t + 1))) w := by
  intro l J Jx W hW hJ hY h0
  have HJ := Lib.hid hJ
  have HY := Lib.hid hY
  have hx := Cell2.new W 135 (.int .u8 (v : Int)) (.int .i64 (t : Int))
  have b0 := (Below.refl W.heap.size W).alloc (Nat.le_refl _) (.cells #[.int .u8 (v : Int), .int .i64 (t : Int)] 135)
  have hj0 := hJ _ _ _ h0 b0
  have HS : Hid (W.heap.size < (W.alloc (.cells #[.int .u8 (v : Int), .int .i64 (t : Int)] 135)).heap.size) := Lib.hid (by rw [World.size_alloc]; omega)
  have n0 : IntKind.i64.wrap (70 + (t : Int)) = 70 + (t : Int) := IntWalk.i64_in _ (by omega)
  have n1 : IntKind.i64.wrap (70 + (t : Int) + 1) = 70 + (t : Int) + 1 := IntWalk.i64_in _ (by omega)
  obtain ⟨q0, q1⟩ := hx.cells
  clear hW hJ hY h0 b0
  refine callsIn_of_wp Try.func132 rfl trivial ?_ rfl
  simp only [Try.ntmps132, List.size_toArray, List.length_cons, List.length_nil, Nat.reduceAdd, Nat.reduceSub, Array.replicate_succ, Array.replicate_zero, List.push_toArray, List.append_toArray, List.nil_append, List.cons_append]
  gi_wp2
  clear q0 q1
  gi_loopw [9] (fun i wr => ∃ k : Nat, k ≤ 70 + t + 1 ∧ i = .int .i64 k ∧ Hid (J (frT (fun d => v.testBit d) (t : Int) k) wr) ∧ Hid (Cell2 wr W.heap.size 135 (.int .u8 (v : Int)) (.int .i64 (t : Int))) ∧ W.heap.size < wr.heap.size) (fun i _ => 70 + t + 1 - (intOf i).toNat)
  case atStart => exact ⟨0, Nat.zero_le _, rfl, Lib.hid hj0, Lib.hid hx, HS.out⟩
  case round =>
    clear hx hj0 HS
    obtain ⟨k, hk, rfl, hj, hbox, hsz⟩ := hrel
    by_cases hlt : (k : Int) < 70 + (t : Int) + 1
    · obtain ⟨c0, c1⟩ := hbox.out.cells
      rcases hm : freeAt (fun d => v.testBit d) (t : Int) (k : Int) with _ | _
      · have HE := Lib.hid (frT_no hm)
        gi_wp2_with fail
        refine ⟨trivial, (fun h => by cases h), (callsIn_wide.2 (isFreeAt_any v (t : Int) (k : Int) _ hv (by omega) (by omega) (by omega) (by omega))).mono ?_⟩
        rw [hm]
        rintro e w1 ⟨rfl, b1⟩
        have J1 := Lib.hid (HJ.out _ _ _ hj.out b1)
        have X1 := Lib.hid (hbox.out.on b1)
        have s1 := b1.size
        have hs1 : W.heap.size < w1.heap.size := by omega
        clear c0 c1
        gi_wp2
        refine ⟨(fun _ h => by cases h), ?_⟩
        gi_wp2
        go_roundw
        case rel => exact ⟨k + 1, by omega, by go_num, by rw [HE.out]; exact J1, X1, hs1⟩
        case measure => simp [intOf]; omega
      · have HE := Lib.hid (frT_yes hm)
        gi_wp2_with fail
        refine ⟨trivial, (fun h => by cases h), (callsIn_wide.2 (isFreeAt_any v (t : Int) (k : Int) _ hv (by omega) (by omega) (by omega) (by omega))).mono ?_⟩
        rw [hm]
        rintro e w1 ⟨rfl, b1⟩
        have J1 := HJ.out _ _ _ hj.out b1
        have X1 := Lib.hid (hbox.out.on b1)
        have s1 := b1.size
        have hs1 : W.heap.size < w1.heap.size := by omega
        clear c0 c1
        obtain ⟨R, hR⟩ := frT_ahead (fun d => v.testBit d) (t : Int) (k + 1) (70 + t + 1 - (k + 1))
        rw [show k + 1 + (70 + t + 1 - (k + 1)) = 70 + t + 1 by omega, HE.out] at hR
        have HRR := Lib.hid hR
        obtain ⟨fn, tmps, assign, body, hy, hRR⟩ := HY.out (frT (fun d => v.testBit d) (t : Int) k) k (.int .i64 (k : Int)) w1 J1 ⟨R, hR⟩ hs1 rfl
        clear hR
        gi_wp2
        refine ⟨(fun h => by cases h), hRR.mono ?_⟩
        rintro e W3 ⟨hs3, hb3, ⟨rfl, hJ3⟩ | ⟨rfl, hJx3⟩⟩
        · have J3 := Lib.hid hJ3
          have X3 : Hid (Cell2 W3 W.heap.size 135 (.int .u8 (v : Int)) (.int .i64 (t : Int))) := Lib.hid (hb3.trans X1.out)
          have hs3' : W.heap.size < W3.heap.size := by omega
          clear hJ3 hb3
          gi_wp2
          go_roundw
          case rel => exact ⟨k + 1, by omega, by go_num, by rw [HE.out]; exact J3, X3, hs3'⟩
          case measure => simp [intOf]; omega
        · have J3 := Lib.hid hJx3
          clear hJx3 hb3
          gi_wp2
          refine bodyPost_ret (results_none rfl _ _ _) rfl ?_
          exact ⟨⟨_, rfl⟩, .inr ⟨_, ⟨_, _, R, by rw [HRR.out, List.append_assoc]; rfl, rfl⟩, J3.out⟩⟩
    · obtain rfl : k = 70 + t + 1 := by omega
      gi_wp2
      go_end0
      exact ⟨⟨_, rfl⟩, .inl hj.out⟩

end Go.Proofs.Ytbfnffecmglgfaa
