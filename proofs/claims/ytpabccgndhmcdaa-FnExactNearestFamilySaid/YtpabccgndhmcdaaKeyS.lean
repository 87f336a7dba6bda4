/- Side codes as keys of maps: the key's law, what a key reads as, a set of side codes, a look-up in a map of bools. -/
import Derived.Test.YtpabccgndhmcdaaSideN
import Derived.Maps.OwnSet
import Derived.DeepKeys4
namespace Go.Proofs.Ytpabccgndhmcdaa
open Go.RowKit Go.Maps

theorem sk_laid : laidOutB Try.prog = true := by kernel_rfl
theorem sk_row : (83 : TypeId) < Try.prog.types.size := of_decide_eq_true (by kernel_rfl)
theorem sk_cells : Try.prog.cellsOf 83 = 5 := by kernel_rfl
theorem sk_one : Try.prog.cellsOf 2 = 1 := by kernel_rfl
theorem sk_type : Try.prog.keyType 83 = true := by kernel_rfl
theorem sk_wide : (match Try.prog.underlying 83 with | some (.array _ _) | some (.struct _) => true | _ => false) = true := by rw [Try.underlying83]
theorem sk_law : Keyed Try.prog 83 := Keyed.of_law (deep_law_laid sk_laid (m := 2) (by omega) sk_row (by kernel_rfl) sk_wide)
theorem zero_bool (w : World) : (zeroValue 4).run Try.prog w = .ok (.bool false) w := by kernel_rfl

/-- the j-th number of a list, 0 behind its end -/
def nth (xs : List Int) (j : Nat) : Int := xs.getD j 0
/-- a side code as a value: the five numbers of its array -/
def keyV (xs : List Int) : Value := .agg #[.int .i64 (nth xs 0), .int .i64 (nth xs 1), .int .i64 (nth xs 2), .int .i64 (nth xs 3), .int .i64 (nth xs 4)]
/-- lists of s small numbers -/
def Sc (s : Nat) (xs : List Int) : Prop := xs.length = s ∧ ∀ v ∈ xs, 0 ≤ v ∧ v ≤ 4
theorem small_getD {xs : List Int} (h : ∀ v ∈ xs, 0 ≤ v ∧ v ≤ 4) (j : Nat) : 0 ≤ nth xs j ∧ nth xs j ≤ 4 := by
  unfold nth
  rw [List.getD_eq_getElem?_getD]
  rcases hx : xs[j]? with _ | u
  · simp
  · exact h u (List.mem_of_getElem? hx)
theorem wf_small {a : Int} (h : 0 ≤ a ∧ a ≤ 4) : (Lit.int .i64 a).wf = true := by
  have : a = 0 ∨ a = 1 ∨ a = 2 ∨ a = 3 ∨ a = 4 := by omega
  rcases this with rfl | rfl | rfl | rfl | rfl <;> decide
theorem key_of5 {a b c d e : Int} (ha : (Lit.int .i64 a).wf = true) (hb : (Lit.int .i64 b).wf = true) (hc : (Lit.int .i64 c).wf = true) (hd : (Lit.int .i64 d).wf = true) (he : (Lit.int .i64 e).wf = true) :
    keyOf Try.prog 83 (.agg #[.int .i64 a, .int .i64 b, .int .i64 c, .int .i64 d, .int .i64 e]) = some (.string (keyBytes [.int .i64 a, .int .i64 b, .int .i64 c, .int .i64 d, .int .i64 e])) := by
  obtain ⟨m, hm⟩ : ∃ m, Try.prog.types.size = m + 1 := ⟨Try.prog.types.size - 1, (Nat.succ_pred_eq_of_pos (Nat.lt_of_le_of_lt (Nat.zero_le _) sk_row)).symm⟩
  unfold keyOf
  rw [Try.underlying83]
  simp [sk_type, Value.formed, Try.underlying83, sk_cells, sk_one, hm, Program.keyLits, Try.underlying2, List.range_succ, Value.cells, ha, hb, hc, hd, he]
def keyL (xs : List Int) : Lit := .string (keyBytes [.int .i64 (nth xs 0), .int .i64 (nth xs 1), .int .i64 (nth xs 2), .int .i64 (nth xs 3), .int .i64 (nth xs 4)])
theorem keyL_is {xs : List Int} (h : ∀ v ∈ xs, 0 ≤ v ∧ v ≤ 4) : keyOf Try.prog 83 (keyV xs) = some (keyL xs) :=
  key_of5 (wf_small (small_getD h 0)) (wf_small (small_getD h 1)) (wf_small (small_getD h 2)) (wf_small (small_getD h 3)) (wf_small (small_getD h 4))
theorem keyV_inj {s : Nat} {xs ys : List Int} (hs : s ≤ 5) (hx : xs.length = s) (hy : ys.length = s) (h : keyV xs = keyV ys) : xs = ys := by
  unfold keyV at h
  simp only [Value.agg.injEq, Array.mk.injEq, List.cons.injEq, Value.int.injEq, true_and, and_true] at h
  obtain ⟨h0, h1, h2, h3, h4⟩ := h
  refine list_same (by omega) fun j hj => ?_
  have : j = 0 ∨ j = 1 ∨ j = 2 ∨ j = 3 ∨ j = 4 := by omega
  rcases this with rfl | rfl | rfl | rfl | rfl <;> assumption
theorem keyL_inj {s : Nat} {xs ys : List Int} (hs : s ≤ 5) (hx : Sc s xs) (hy : Sc s ys) (h : keyL xs = keyL ys) : xs = ys := by
  have e := keyL_is hy.2
  rw [← h] at e
  exact keyV_inj hs hx.1 hy.1 (sk_law.inj (keyL_is hx.2) e)
theorem keyL_key {xs : List Int} (h : ∀ v ∈ xs, 0 ≤ v ∧ v ≤ 4) : WideAt.IsKeyLit (keyL xs) := sk_law.key (keyL_is h)

/-- the map D holds true at just the side codes of which P says so -/
def NearIs (s : Nat) (D : DataW Unit) (P : List Int → Bool) : Prop := ∀ xs, Sc s xs → D.atKey (keyL xs) (.lit (.bool false)) = .lit (.bool (P xs))
theorem NearIs.none (s : Nat) : NearIs s (.map []) (fun _ => false) := fun _ _ => rfl
theorem NearIs.put {s : Nat} {D : DataW Unit} {P : List Int → Bool} {ys : List Int} (h : NearIs s D P) (hs : s ≤ 5) (hD : IsMap D) (hy : Sc s ys) :
    NearIs s (D.put (keyL ys) (.lit (.bool true))) (fun xs => P xs || xs == ys) := by
  intro xs hx
  by_cases e : xs = ys
  · subst e
    rw [atKey_put_same hD (keyL_key hx.2)]
    simp
  · have hne : keyL xs ≠ keyL ys := fun h => e (keyL_inj hs hx hy h)
    rw [atKey_put_other hne, h xs hx]
    have : (xs == ys) = false := by simpa using e
    simp [this]
theorem NearIs.same {s : Nat} {D : DataW Unit} {P P' : List Int → Bool} (h : NearIs s D P) (hp : ∀ xs, Sc s xs → P xs = P' xs) : NearIs s D P' :=
  fun xs hx => by rw [h xs hx, hp xs hx]

theorem plainElem_bool_inv {H : Type} {P : Program} {e : TypeId} (he : P.underlying e = some .bool) {v : Value} {z : DataW H × List MemPlace} (h : plainElem P e v = some z) : ∃ x, v = .bool x ∧ z = (.lit (.bool x), []) := by
  unfold plainElem at h
  rw [he] at h
  cases v <;> simp at h
  subst h
  exact ⟨_, rfl, rfl⟩
/-- 'm[k]' in a map of bools, at the operation -/
theorem wpList_lookup_own_bool {H : Type} {P : Program} (w : World) {ops : Array Oper} {rest : List Oper} {o : Oper} {a : Act} {Q : Exit → Act → World → Prop}
    (hg : o.guard = none) (m x : Operand) (t : TypeId) (hop : o.op = Op.lookup t m x false)
    (k e : TypeId) (K : Keyed P k) (ht : P.underlying t = some (.map k e)) (he : P.underlying e = some .bool) (hz : (zeroValue e).run P w = .ok (.bool false) w) (b n : Nat) (D : DataW H)
    (hm : a.eval m = .map (some b)) (hown : w.ownsMap P k (plainElem P e) b n D) (key : Value) (kl : Lit) (hx : a.eval x = key) (hkey : keyOf P k key = some kl)
    (hK : ∀ c : Bool, D.atKey kl (.lit (.bool false)) = .lit (.bool c) → wpList P ops Q rest (a.put o.dst (.bool c)) w) :
    wpList P ops Q (o :: rest) a w := by
  refine wpList_plain hg fun K' hK' => ?_
  obtain ⟨v, ps, hrun, hv⟩ := hown.lookup K ht hz (plainElem_bool he false) hkey
  obtain ⟨c, rfl, hc⟩ := plainElem_bool_inv he hv
  simp only [Prod.mk.injEq] at hc
  unfold Oper.wp
  simp [execOp, hop, hm, hx, hrun, Result.andThen]
  exact hK' _ _ (hK c hc.1)

end Go.Proofs.Ytpabccgndhmcdaa
