/- The fewest keys for some doors: what the walk over all numbers keeps, doors as bits. -/
import Derived.Test.YtidjnnooeepklaaTabL
import Derived.Test.YtidjnnooeepklaaOpMath
namespace Go.Proofs.Ytidjnnooeepklaa
open Go Go.RowKit

/-- what the walk over all numbers, from the greatest down, keeps -/
def bestF (n : Nat) (p : Nat → Bool) : Nat → Nat → Nat
  | 0, r => r
  | v + 1, r => bestF n p v (if decide (popU n v < popU n r) && p v then v else r)
theorem bestF_best {n : Nat} {p : Nat → Bool} : ∀ v r, v ≤ 2 ^ n → v ≤ r + 1 → bestU n p v r → bestU n p 0 (bestF n p v r)
  | 0, r, _, _, h => h
  | v + 1, r, h1, h2, h => by
    unfold bestF
    rcases hp : (decide (popU n v < popU n r) && p v) with _ | _
    · refine bestF_best v r (by omega) (by omega) (best_keep h ?_ (by omega))
      rcases hv : p v with _ | _
      · exact .inl rfl
      · rw [hv, Bool.and_true, decide_eq_false_iff_not] at hp
        exact .inr (by omega)
    · rw [Bool.and_eq_true, decide_eq_true_iff] at hp
      exact bestF_best v v (by omega) (by omega) (best_new h hp.2 (by omega) hp.1)
theorem best_start {n : Nat} {p : Nat → Bool} (h : p (2 ^ n - 1) = true) : bestU n p (2 ^ n) (2 ^ n - 1) := by
  have : 0 < 2 ^ n := Nat.two_pow_pos n
  exact ⟨by omega, h, fun u h1 h2 => by omega⟩
/-- do the keys of a number open some doors -/
def lkP (T : List (List Int)) (ds : List Int) (u : Nat) : Bool := opB T (lisU T.length u) ds
def lkR (T : List (List Int)) (ds : List Int) : Nat := bestF T.length (lkP T ds) (2 ^ T.length) (2 ^ T.length - 1)
def lkE (T : List (List Int)) (ds : List Int) : Int := if tabB T then (if riseB (colT T : Int) ds then (if lkP T ds (2 ^ T.length - 1) then 0 else 4) else 2) else 1
def lkL (T : List (List Int)) (ds : List Int) : List Int := if lkE T ds = 0 then lisU T.length (lkR T ds) else []
theorem lk_best {T : List (List Int)} {ds : List Int} (h : lkP T ds (2 ^ T.length - 1) = true) : bestU T.length (lkP T ds) 0 (lkR T ds) :=
  bestF_best _ _ (Nat.le_refl _) (by have := Nat.two_pow_pos T.length; omega) (best_start h)

/-- the doors of a list as bits -/
def dorM : List Int → Nat
  | [] => 0
  | d :: t => 2 ^ d.toNat ||| dorM t
theorem dorM_bit : ∀ (ds : List Int) (k : Nat), (dorM ds).testBit k = ds.any fun d => decide (d.toNat = k)
  | [], k => by simp [dorM]
  | d :: t, k => by
    unfold dorM
    rw [Nat.testBit_or, dorM_bit t k, Nat.testBit_two_pow, List.any_cons]
theorem dorM_lt : ∀ (ds : List Int), (∀ d ∈ ds, 0 ≤ d ∧ d < 12) → dorM ds < 4096
  | [], _ => by simp [dorM]
  | d :: t, h => by
    unfold dorM
    have h1 := dorM_lt t (fun x hx => h x (List.mem_cons_of_mem _ hx))
    have h2 := h d (List.mem_cons_self ..)
    exact Nat.or_lt_two_pow (n := 12) (Nat.pow_lt_pow_right (by omega) (by omega)) h1
theorem dorM_step {ds : List Int} {k : Nat} {v : Int} (hv : ds[k]? = some v) : dorM (ds.take (k + 1)) = dorM (ds.take k) ||| 2 ^ v.toNat := by
  refine Nat.eq_of_testBit_eq (fun j => ?_)
  obtain ⟨hl, e⟩ := List.getElem?_eq_some_iff.1 hv
  rw [Nat.testBit_or, dorM_bit, dorM_bit, Nat.testBit_two_pow, List.take_succ_eq_append_getElem hl, List.any_append, e]
  simp
/-- the doors that the keys of a number open: those of the first k keys -/
def opU (n : Nat) (F : Nat → Nat) (u : Nat) : Nat → Nat
  | 0 => 0
  | k + 1 => if u.testBit (n - 1 - k) then opU n F u k ||| F k else opU n F u k
theorem opU_lt {n : Nat} {F : Nat → Nat} {u : Nat} (hF : ∀ i, i < n → F i < 4096) : ∀ k, k ≤ n → opU n F u k < 4096
  | 0, _ => by simp [opU]
  | k + 1, hk => by
    have ih := opU_lt (u := u) hF k (by omega)
    unfold opU
    split
    · exact Nat.or_lt_two_pow (n := 12) ih (hF k (by omega))
    · exact ih
theorem opU_succ (n : Nat) (F : Nat → Nat) (u k : Nat) : opU n F u (k + 1) = if u.testBit (n - 1 - k) then opU n F u k ||| F k else opU n F u k := rfl
theorem opU_bit {n : Nat} {F : Nat → Nat} {u d : Nat} : ∀ k, (opU n F u k).testBit d = (List.range k).any fun i => u.testBit (n - 1 - i) && (F i).testBit d
  | 0 => by simp [opU]
  | k + 1 => by
    have ih := opU_bit (n := n) (F := F) (u := u) (d := d) k
    rw [List.range_succ, List.any_append, ← ih, opU_succ]
    rcases hb : u.testBit (n - 1 - k) with _ | _
    · simp [hb]
    · simp [hb, Nat.testBit_or]
theorem where_any (p : Nat → Bool) (n : Nat) (f : Int → Bool) : (whereL p n).any f = (List.range n).any fun k => p k && f (k : Int) := by
  unfold whereL
  rw [List.any_map, List.any_filter]
  rfl
theorem cover_is {T : List (List Int)} {ds : List Int} {n : Nat} (hl : T.length = n) (u : Nat) :
    decide (dorM ds &&& opU n (fun i => bitN (getR T i)) u n = dorM ds) = lkP T ds u := by
  unfold lkP opB
  rw [hl, Bool.eq_iff_iff, decide_eq_true_iff, List.all_eq_true]
  have hany : ∀ d : Nat, (opU n (fun i => bitN (getR T i)) u n).testBit d = (lisU n u).any fun k => decide ((getR T k.toNat).getD d 0 = 1) := by
    intro d
    rw [opU_bit]
    unfold lisU
    rw [where_any]
    congr 1
    funext k
    rw [bitN_bit, Int.toNat_natCast]
  constructor
  · intro h d hd
    rw [← hany]
    have h1 := congrArg (fun z => Nat.testBit z d.toNat) h
    simp only [Nat.testBit_and] at h1
    have h2 : (dorM ds).testBit d.toNat = true := by
      rw [dorM_bit, List.any_eq_true]; exact ⟨d, hd, by simp⟩
    rw [h2, Bool.true_and] at h1
    exact h1
  · intro h
    refine Nat.eq_of_testBit_eq (fun k => ?_)
    rw [Nat.testBit_and]
    rcases hb : (dorM ds).testBit k with _ | _
    · rfl
    · rw [dorM_bit, List.any_eq_true] at hb
      obtain ⟨d, hd, he⟩ := hb
      have := h d hd
      rw [← hany, of_decide_eq_true he] at this
      rw [this]; rfl
set_option maxRecDepth 100000 in
theorem pop_ones : ∀ n, n < 11 → ∀ u, u < 2 ^ n → onesN 10 u = popU n u := by decide +kernel
theorem lis_len (n u : Nat) : (lisU n u).length ≤ n := where_len _ _

end Go.Proofs.Ytidjnnooeepklaa
