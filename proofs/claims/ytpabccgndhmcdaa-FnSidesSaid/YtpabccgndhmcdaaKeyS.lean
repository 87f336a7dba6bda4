/- Side codes as keys of maps: the key's law, what a key reads as, a set of side codes, a look-up in a map of bools. The codes near a family: what they are, and the contract of the function that adds them to a set. -/
import Derived.Test.YtpabccgndhmcdaaSide
import Derived.Maps.OwnSet
import Derived.DeepKeys4
import Derived.Maps.RangeWalk
namespace Go.Proofs.Ytpabccgndhmcdaa
open Go.RowKit Go.Maps

theorem sk_laid : laidOutB Try.prog = true := by kernel_rfl
theorem sk_row : (83 : TypeId) < Try.prog.types.size := of_decide_eq_true (by kernel_rfl)
theorem sk_cells : Try.prog.cellsOf 83 = 5 := by kernel_rfl
theorem sk_one : Try.prog.cellsOf 2 = 1 := by kernel_rfl
theorem sk_type : Try.prog.keyType 83 = true := by kernel_rfl
theorem sk_wide : (match Try.prog.underlying 83 with | some (.array _ _) | some (.struct _) => true | _ => false) = true := by rw [Try.underlying83]
theorem sk_law : Keyed Try.prog 83 := Keyed.of_law (deep_law_laid sk_laid (m := 2) (by omega) sk_row (by kernel_rfl) sk_wide)
theorem zero_bool (w : World) : (zeroValue 4).run Try.prog w = .ok (.bool false) w := by kernel_rfl

/-- the j-th number of a list, 0 behind its end -/
def nth (xs : List Int) (j : Nat) : Int := xs.getD j 0
/-- a side code as a value: the five numbers of its array -/
def keyV (xs : List Int) : Value := .agg #[.int .i64 (nth xs 0), .int .i64 (nth xs 1), .int .i64 (nth xs 2), .int .i64 (nth xs 3), .int .i64 (nth xs 4)]
/-- lists of s small numbers -/
def Sc (s : Nat) (xs : List Int) : Prop := xs.length = s ∧ ∀ v ∈ xs, 0 ≤ v ∧ v ≤ 4
theorem small_getD {xs : List Int} (h : ∀ v ∈ xs, 0 ≤ v ∧ v ≤ 4) (j : Nat) : 0 ≤ nth xs j ∧ nth xs j ≤ 4 := by
  unfold nth
  rw [List.getD_eq_getElem?_getD]
  rcases hx : xs[j]? with _ | u
  · simp
  · exact h u (List.mem_of_getElem? hx)
theorem wf_small {a : Int} (h : 0 ≤ a ∧ a ≤ 4) : (Lit.int .i64 a).wf = true := by
  have : a = 0 ∨ a = 1 ∨ a = 2 ∨ a = 3 ∨ a = 4 := by omega
  rcases this with rfl | rfl | rfl | rfl | rfl <;> decide
theorem key_of5 {a b c d e : Int} (ha : (Lit.int .i64 a).wf = true) (hb : (Lit.int .i64 b).wf = true) (hc : (Lit.int .i64 c).wf = true) (hd : (Lit.int .i64 d).wf = true) (he : (Lit.int .i64 e).wf = true) :
    keyOf Try.prog 83 (.agg #[.int .i64 a, .int .i64 b, .int .i64 c, .int .i64 d, .int .i64 e]) = some (.string (keyBytes [.int .i64 a, .int .i64 b, .int .i64 c, .int .i64 d, .int .i64 e])) := by
  obtain ⟨m, hm⟩ : ∃ m, Try.prog.types.size = m + 1 := ⟨Try.prog.types.size - 1, (Nat.succ_pred_eq_of_pos (Nat.lt_of_le_of_lt (Nat.zero_le _) sk_row)).symm⟩
  unfold keyOf
  rw [Try.underlying83]
  simp [sk_type, Value.formed, Try.underlying83, sk_cells, sk_one, hm, Program.keyLits, Try.underlying2, List.range_succ, Value.cells, ha, hb, hc, hd, he]
def keyL (xs : List Int) : Lit := .string (keyBytes [.int .i64 (nth xs 0), .int .i64 (nth xs 1), .int .i64 (nth xs 2), .int .i64 (nth xs 3), .int .i64 (nth xs 4)])
theorem keyL_is {xs : List Int} (h : ∀ v ∈ xs, 0 ≤ v ∧ v ≤ 4) : keyOf Try.prog 83 (keyV xs) = some (keyL xs) :=
  key_of5 (wf_small (small_getD h 0)) (wf_small (small_getD h 1)) (wf_small (small_getD h 2)) (wf_small (small_getD h 3)) (wf_small (small_getD h 4))
theorem keyV_inj {s : Nat} {xs ys : List Int} (hs : s ≤ 5) (hx : xs.length = s) (hy : ys.length = s) (h : keyV xs = keyV ys) : xs = ys := by
  unfold keyV at h
  simp only [Value.agg.injEq, Array.mk.injEq, List.cons.injEq, Value.int.injEq, true_and, and_true] at h
  obtain ⟨h0, h1, h2, h3, h4⟩ := h
  refine list_same (by omega) fun j hj => ?_
  have : j = 0 ∨ j = 1 ∨ j = 2 ∨ j = 3 ∨ j = 4 := by omega
  rcases this with rfl | rfl | rfl | rfl | rfl <;> assumption
theorem keyL_inj {s : Nat} {xs ys : List Int} (hs : s ≤ 5) (hx : Sc s xs) (hy : Sc s ys) (h : keyL xs = keyL ys) : xs = ys := by
  have e := keyL_is hy.2
  rw [← h] at e
  exact keyV_inj hs hx.1 hy.1 (sk_law.inj (keyL_is hx.2) e)
theorem keyL_key {xs : List Int} (h : ∀ v ∈ xs, 0 ≤ v ∧ v ≤ 4) : WideAt.IsKeyLit (keyL xs) := sk_law.key (keyL_is h)

/-- the map D holds true at just the side codes of which P says so -/
def NearIs (s : Nat) (D : DataW Unit) (P : List Int → Bool) : Prop := ∀ xs, Sc s xs → D.atKey (keyL xs) (.lit (.bool false)) = .lit (.bool (P xs))
theorem NearIs.none (s : Nat) : NearIs s (.map []) (fun _ => false) := fun _ _ => rfl
theorem NearIs.put {s : Nat} {D : DataW Unit} {P : List Int → Bool} {ys : List Int} (h : NearIs s D P) (hs : s ≤ 5) (hD : IsMap D) (hy : Sc s ys) :
    NearIs s (D.put (keyL ys) (.lit (.bool true))) (fun xs => P xs || xs == ys) := by
  intro xs hx
  by_cases e : xs = ys
  · subst e
    rw [atKey_put_same hD (keyL_key hx.2)]
    simp
  · have hne : keyL xs ≠ keyL ys := fun h => e (keyL_inj hs hx hy h)
    rw [atKey_put_other hne, h xs hx]
    have : (xs == ys) = false := by simpa using e
    simp [this]
theorem NearIs.same {s : Nat} {D : DataW Unit} {P P' : List Int → Bool} (h : NearIs s D P) (hp : ∀ xs, Sc s xs → P xs = P' xs) : NearIs s D P' :=
  fun xs hx => by rw [h xs hx, hp xs hx]

theorem plainElem_bool_inv {H : Type} {P : Program} {e : TypeId} (he : P.underlying e = some .bool) {v : Value} {z : DataW H × List MemPlace} (h : plainElem P e v = some z) : ∃ x, v = .bool x ∧ z = (.lit (.bool x), []) := by
  unfold plainElem at h
  rw [he] at h
  cases v <;> simp at h
  subst h
  exact ⟨_, rfl, rfl⟩
/-- 'm[k]' in a map of bools, at the operation -/
theorem wpList_lookup_own_bool {H : Type} {P : Program} (w : World) {ops : Array Oper} {rest : List Oper} {o : Oper} {a : Act} {Q : Exit → Act → World → Prop}
    (hg : o.guard = none) (m x : Operand) (t : TypeId) (hop : o.op = Op.lookup t m x false)
    (k e : TypeId) (K : Keyed P k) (ht : P.underlying t = some (.map k e)) (he : P.underlying e = some .bool) (hz : (zeroValue e).run P w = .ok (.bool false) w) (b n : Nat) (D : DataW H)
    (hm : a.eval m = .map (some b)) (hown : w.ownsMap P k (plainElem P e) b n D) (key : Value) (kl : Lit) (hx : a.eval x = key) (hkey : keyOf P k key = some kl)
    (hK : ∀ c : Bool, D.atKey kl (.lit (.bool false)) = .lit (.bool c) → wpList P ops Q rest (a.put o.dst (.bool c)) w) :
    wpList P ops Q (o :: rest) a w := by
  refine wpList_plain hg fun K' hK' => ?_
  obtain ⟨v, ps, hrun, hv⟩ := hown.lookup K ht hz (plainElem_bool he false) hkey
  obtain ⟨c, rfl, hc⟩ := plainElem_bool_inv he hv
  simp only [Prod.mk.injEq] at hc
  unfold Oper.wp
  simp [execOp, hop, hm, hx, hrun, Result.andThen]
  exact hK' _ _ (hK c hc.1)

end Go.Proofs.Ytpabccgndhmcdaa

namespace Go.Proofs.Ytpabccgndhmcdaa
open Go.RowKit Go.Maps

/-- ys is xs ahead of place p, and differs from it at no more than m places from there on -/
def reachB (v : Int) (s : Nat) (xs : List Int) (p : Nat) (m : Int) (ys : List Int) : Bool := allIn 0 (v - 1) ys && (decide (diffTo xs ys p = 0) && decide (diffTo xs ys s ≤ m))
theorem getD_set (xs : List Int) (p : Nat) (a : Int) (hp : p < xs.length) (j : Nat) : (xs.set p a).getD j 0 = if j = p then a else xs.getD j 0 := by
  rw [List.getD_eq_getElem?_getD, List.getD_eq_getElem?_getD, List.getElem?_set]
  by_cases h : p = j
  · subst h; simp [hp]
  · rw [if_neg h, if_neg (fun e => h e.symm)]
theorem diff_set_low (xs ys : List Int) (p : Nat) (a : Int) (hp : p < xs.length) : ∀ k, k ≤ p → diffTo (xs.set p a) ys k = diffTo xs ys k
  | 0, _ => rfl
  | k + 1, h => by
    show diffTo (xs.set p a) ys k + unlike ((xs.set p a).getD k 0) (ys.getD k 0) = diffTo xs ys k + unlike (xs.getD k 0) (ys.getD k 0)
    rw [diff_set_low xs ys p a hp k (by omega), getD_set xs p a hp, if_neg (by omega)]
theorem diff_set_high (xs ys : List Int) (p : Nat) (a : Int) (hp : p < xs.length) : ∀ k, p < k → diffTo (xs.set p a) ys k + unlike (xs.getD p 0) (ys.getD p 0) = diffTo xs ys k + unlike a (ys.getD p 0)
  | 0, h => absurd h (by omega)
  | k + 1, h => by
    show diffTo (xs.set p a) ys k + unlike ((xs.set p a).getD k 0) (ys.getD k 0) + unlike (xs.getD p 0) (ys.getD p 0) = diffTo xs ys k + unlike (xs.getD k 0) (ys.getD k 0) + unlike a (ys.getD p 0)
    rw [getD_set xs p a hp]
    by_cases e : k = p
    · subst e
      rw [if_pos rfl, diff_set_low xs ys k a hp k (Nat.le_refl _)]
      omega
    · rw [if_neg e]
      have := diff_set_high xs ys p a hp k (by omega)
      omega
theorem diff_mono (xs ys : List Int) (k : Nat) : ∀ n, k ≤ n → diffTo xs ys k ≤ diffTo xs ys n
  | 0, h => by rw [show k = 0 by omega]; exact Int.le_refl _
  | n + 1, h => by
    by_cases e : k = n + 1
    · rw [e]; exact Int.le_refl _
    · have := diff_mono xs ys k n (by omega)
      have h2 := (unlike_le (xs.getD n 0) (ys.getD n 0)).1
      show _ ≤ diffTo xs ys n + unlike (xs.getD n 0) (ys.getD n 0)
      omega
theorem diff_next (xs ys : List Int) (k : Nat) : diffTo xs ys (k + 1) = diffTo xs ys k + unlike (xs.getD k 0) (ys.getD k 0) := rfl
theorem unlike_one {x y : Int} (h : x ≠ y) : unlike x y = 1 := by unfold unlike; rw [if_neg h]
theorem unlike_zero (x : Int) : unlike x x = 0 := by unfold unlike; rw [if_pos rfl]

/-- the codes that differ at place p by one of the first i numbers -/
def someB (v : Int) (s : Nat) (xs : List Int) (p : Nat) (m : Int) (i : Nat) (ys : List Int) : Bool :=
  (List.range i).any (fun (a : Nat) => decide ((a : Int) ≠ xs.getD p 0) && reachB v s (xs.set p (a : Int)) (p + 1) (m - 1) ys)
theorem some_step (v : Int) (s : Nat) (xs : List Int) (p : Nat) (m : Int) (i : Nat) (ys : List Int) :
    someB v s xs p m (i + 1) ys = (someB v s xs p m i ys || (decide ((i : Int) ≠ xs.getD p 0) && reachB v s (xs.set p (i : Int)) (p + 1) (m - 1) ys)) := by
  unfold someB
  rw [List.range_succ, List.any_append]
  simp
/-- where nothing is left to differ -/
theorem reach_none (v : Int) (s : Nat) (xs : List Int) (p : Nat) (ys : List Int) (hp : p < s) : reachB v s xs p 0 ys = reachB v s xs (p + 1) 0 ys := by
  unfold reachB
  congr 1
  rw [Bool.eq_iff_iff]
  simp only [Bool.and_eq_true, decide_eq_true_eq]
  have h1 := diff_mono xs ys p s (by omega)
  have h2 := diff_mono xs ys (p + 1) s (by omega)
  have h3 := (diffTo_in xs ys p).1
  have h4 := (diffTo_in xs ys (p + 1)).1
  constructor <;> intro h <;> omega
theorem reach_split (v : Int) (s : Nat) (xs : List Int) (p : Nat) (m : Int) (ys : List Int) (hp : p < s) (hx : xs.length = s) (hy : ys.length = s) (hv : 0 ≤ v) :
    reachB v s xs p m ys = (reachB v s xs (p + 1) m ys || someB v s xs p m v.toNat ys) := by
  rcases hall : allIn 0 (v - 1) ys with _ | _
  · have : someB v s xs p m v.toNat ys = false := by
      unfold someB
      rw [List.any_eq_false]
      intro a _
      simp [reachB, hall]
    rw [this]
    simp [reachB, hall]
  have hyp : 0 ≤ ys.getD p 0 ∧ ys.getD p 0 ≤ v - 1 := by
    have h1 : ys[p]? = some (ys[p]'(by omega)) := List.getElem?_eq_getElem _
    rw [List.getD_eq_getElem?_getD, h1]
    exact allIn_at hall h1
  rw [Bool.eq_iff_iff]
  simp only [Bool.or_eq_true]
  have e1 := diff_next xs ys p
  have h3 := (diffTo_in xs ys p).1
  have hu := (unlike_le (xs.getD p 0) (ys.getD p 0)).1
  constructor
  · intro h
    simp only [reachB, hall, Bool.true_and, Bool.and_eq_true, decide_eq_true_eq] at h
    by_cases e : xs.getD p 0 = ys.getD p 0
    · left
      simp only [reachB, hall, Bool.true_and, Bool.and_eq_true, decide_eq_true_eq]
      rw [e1, e, unlike_zero]
      exact ⟨by omega, h.2⟩
    · right
      unfold someB
      rw [List.any_eq_true]
      refine ⟨(ys.getD p 0).toNat, List.mem_range.2 (by omega), ?_⟩
      have et : (((ys.getD p 0).toNat : Nat) : Int) = ys.getD p 0 := Int.toNat_of_nonneg hyp.1
      rw [et]
      have h5 := diff_set_low xs ys p (ys.getD p 0) (by omega) p (Nat.le_refl _)
      have h6 := diff_set_high xs ys p (ys.getD p 0) (by omega) s hp
      have h7 := diff_next (xs.set p (ys.getD p 0)) ys p
      rw [getD_set xs p _ (by omega), if_pos rfl, unlike_zero] at h7
      rw [unlike_zero, unlike_one e] at h6
      simp only [reachB, hall, Bool.true_and, Bool.and_eq_true, decide_eq_true_eq]
      exact ⟨fun h => e h.symm, by omega, by omega⟩
  · intro h
    simp only [reachB, hall, Bool.true_and, Bool.and_eq_true, decide_eq_true_eq]
    rcases h with h | h
    · simp only [reachB, hall, Bool.true_and, Bool.and_eq_true, decide_eq_true_eq] at h
      exact ⟨by omega, h.2⟩
    · unfold someB at h
      rw [List.any_eq_true] at h
      obtain ⟨a, ha, h⟩ := h
      simp only [reachB, hall, Bool.true_and, Bool.and_eq_true, decide_eq_true_eq] at h
      obtain ⟨hne, h1, h2⟩ := h
      have h5 := diff_set_low xs ys p (a : Int) (by omega) p (Nat.le_refl _)
      have h6 := diff_set_high xs ys p (a : Int) (by omega) s hp
      have h7 := diff_next (xs.set p (a : Int)) ys p
      rw [getD_set xs p _ (by omega), if_pos rfl] at h7
      have h8 := (diffTo_in (xs.set p (a : Int)) ys p).1
      have h9 := (unlike_le (a : Int) (ys.getD p 0)).1
      have h10 := (unlike_le (xs.getD p 0) (ys.getD p 0))
      exact ⟨by omega, by omega⟩
theorem reach_end (v : Int) (s : Nat) (xs : List Int) (m : Int) (ys : List Int) (hm : 0 ≤ m) (hx : xs.length = s) (hy : ys.length = s) (hall : allIn 0 (v - 1) xs = true) : reachB v s xs s m ys = (ys == xs) := by
  by_cases e : ys = xs
  · subst e
    simp [reachB, hall, diffTo_self, hm]
  · have h1 : (ys == xs) = false := by simpa using e
    rw [h1]
    have h2 : ¬ diffTo xs ys s = 0 := fun h => e ((diffI_zero (by omega)).1 (show diffTo xs ys xs.length = 0 by rw [hx]; exact h)).symm
    simp [reachB, h2]
theorem reach_zero (v : Int) (s : Nat) (xs : List Int) (m : Int) (ys : List Int) : reachB v s xs 0 m ys = (allIn 0 (v - 1) ys && decide (diffTo xs ys s ≤ m)) := by
  unfold reachB
  rw [decide_eq_true (show diffTo xs ys 0 = 0 from rfl), Bool.true_and]

/-- block g of w holds a side code -/
def Box5 (w : World) (g : Nat) (xs : List Int) : Prop := w.heap[g]? = some (.cells #[.int .i64 (nth xs 0), .int .i64 (nth xs 1), .int .i64 (nth xs 2), .int .i64 (nth xs 3), .int .i64 (nth xs 4)] 83 (0, 0))
/-- block g of w holds a side system -/
def Box2 (w : World) (g : Nat) (s v : Int) : Prop := w.heap[g]? = some (.cells #[.int .i64 s, .int .i64 v] 66 (0, 0))
theorem Box5.new (w : World) (xs : List Int) : Box5 (w.alloc (.cells #[.int .i64 (nth xs 0), .int .i64 (nth xs 1), .int .i64 (nth xs 2), .int .i64 (nth xs 3), .int .i64 (nth xs 4)] 83)) w.heap.size xs := heap_alloc_new w _
theorem Box2.new (w : World) (s v : Int) : Box2 (w.alloc (.cells #[.int .i64 s, .int .i64 v] 66)) w.heap.size s v := heap_alloc_new w _
theorem Box5.lt {w : World} {g : Nat} {xs : List Int} (h : Box5 w g xs) : g < w.heap.size := heapLt h
theorem Box2.lt {w : World} {g : Nat} {s v : Int} (h : Box2 w g s v) : g < w.heap.size := heapLt h
theorem Box5.alloc {w : World} {g : Nat} {xs : List Int} (h : Box5 w g xs) (o : Obj) : Box5 (w.alloc o) g xs := (Below.heap_alloc w o g h.lt).trans h
theorem Box2.alloc {w : World} {g : Nat} {s v : Int} (h : Box2 w g s v) (o : Obj) : Box2 (w.alloc o) g s v := (Below.heap_alloc w o g h.lt).trans h
theorem Box5.grown {w w' : World} {g : Nat} {xs : List Int} {row : Option Nat} (h : Box5 w g xs) (hg : w.grownBy w' row) (hr : some g ≠ row) : Box5 w' g xs := (hg.block g h.lt hr).trans h
theorem Box2.grown {w w' : World} {g : Nat} {s v : Int} {row : Option Nat} (h : Box2 w g s v) (hg : w.grownBy w' row) (hr : some g ≠ row) : Box2 w' g s v := (hg.block g h.lt hr).trans h
theorem Box5.on {w w' : World} {g : Nat} {xs : List Int} (h : Box5 w g xs) (hb : Below w.heap.size w w') : Box5 w' g xs := (hb.block g h.lt).trans h
theorem Box2.on {w w' : World} {g : Nat} {s v : Int} (h : Box2 w g s v) (hb : Below w.heap.size w w') : Box2 w' g s v := (hb.block g h.lt).trans h
theorem Box5.aside {w : World} {g : Nat} {xs : List Int} (h : Box5 w g xs) {a : Addr} (ha : g ≠ a.block) (u : Value) : Box5 (w.setCell a u) g xs := (Below.heap_setCell w a u g ha).trans h
theorem Box2.aside {w : World} {g : Nat} {s v : Int} (h : Box2 w g s v) {a : Addr} (ha : g ≠ a.block) (u : Value) : Box2 (w.setCell a u) g s v := (Below.heap_setCell w a u g ha).trans h
theorem Box2.cells {w : World} {g : Nat} {s v : Int} (h : Box2 w g s v) : w.cell? ⟨g, 0, none⟩ = some (.int .i64 s) ∧ w.cell? ⟨g, 1, none⟩ = some (.int .i64 v) := by
  unfold Box2 at h
  constructor <;> simp [World.cell?, h]
theorem Box5.cells {w : World} {g : Nat} {xs : List Int} (h : Box5 w g xs) : w.cell? ⟨g, 0, none⟩ = some (.int .i64 (nth xs 0)) ∧ w.cell? ⟨g, 1, none⟩ = some (.int .i64 (nth xs 1)) ∧ w.cell? ⟨g, 2, none⟩ = some (.int .i64 (nth xs 2)) ∧ w.cell? ⟨g, 3, none⟩ = some (.int .i64 (nth xs 3)) ∧ w.cell? ⟨g, 4, none⟩ = some (.int .i64 (nth xs 4)) := by
  unfold Box5 at h
  refine ⟨?_, ?_, ?_, ?_, ?_⟩ <;> simp [World.cell?, h]
theorem Box5.cell {w : World} {g p : Nat} {xs : List Int} (h : Box5 w g xs) (hp : p < 5) : w.cell? ⟨g, p, none⟩ = some (.int .i64 (nth xs p)) := by
  obtain ⟨h0, h1, h2, h3, h4⟩ := h.cells
  have : p = 0 ∨ p = 1 ∨ p = 2 ∨ p = 3 ∨ p = 4 := by omega
  rcases this with rfl | rfl | rfl | rfl | rfl <;> assumption
theorem Box5.thawed {w : World} {g : Nat} {xs : List Int} (h : Box5 w g xs) (p : Nat) : w.frozen? ⟨g, p, none⟩ = false := by
  unfold Box5 at h
  simp [World.frozen?, h]

theorem Box5.set {w : World} {g p : Nat} {xs : List Int} (h : Box5 w g xs) (hp : p < xs.length) (h5 : xs.length ≤ 5) (a : Int) : Box5 (w.setCell ⟨g, p, none⟩ (.int .i64 a)) g (xs.set p a) := by
  have e : ∀ j, nth (xs.set p a) j = if j = p then a else nth xs j := fun j => getD_set xs p a hp j
  unfold Box5 at h ⊢
  rw [e 0, e 1, e 2, e 3, e 4]
  have hq : p = 0 ∨ p = 1 ∨ p = 2 ∨ p = 3 ∨ p = 4 := by omega
  rcases hq with rfl | rfl | rfl | rfl | rfl <;> simp [World.setCell, Array.getElem?_modify, h]

theorem grown_new {a w : World} {row : Option Nat} (h : a.grownBy w row) {p : Addr} (hp : a.heap.size ≤ p.block) (u : Value) : a.grownBy (w.setCell p u) row :=
  ⟨h.os, h.tape, h.output, by simpa [World.setCell] using h.size, fun i hi hne => (Below.heap_setCell w p u i (by omega)).trans (h.block i hi hne)⟩

end Go.Proofs.Ytpabccgndhmcdaa
