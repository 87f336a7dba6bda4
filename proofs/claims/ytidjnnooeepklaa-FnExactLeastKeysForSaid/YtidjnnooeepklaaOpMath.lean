/- The table of states: sums over it, and that it counts the keys. No program text. IsRising of the program and of the model answer alike: contracts and the law's walk. Openers of a lock, and the lists of a lock from what frees its chambers: plain functions of lists. No program text. Sets of depths as bits, and the block of a lock whose sets are bits. The statement 'for x := range f' where f lends the same memory to every round and turns one block of its own alone: what the rounds themselves have made is kept, too. The laws of KeyFault and IsKey. KeyText of the model, and the law. -/
import Derived.Test.YtidjnnooeepklaaRow
import Derived.Test.YtidjnnooeepklaaOwn
import Derived.Test.YtidjnnooeepklaaSets
import Derived.RegionTactic
import Derived.BigRegion
import Derived.Test.YtidjnnooeepklaaFault
namespace Go.Proofs.Ytidjnnooeepklaa

def sumN : Nat → (Nat → Int) → Int
  | 0, _ => 0
  | n + 1, f => sumN n f + f n
theorem sumN_congr {f g : Nat → Int} : ∀ {n : Nat}, (∀ i, i < n → f i = g i) → sumN n f = sumN n g
  | 0, _ => rfl
  | n + 1, h => by
    show sumN n f + f n = sumN n g + g n
    rw [sumN_congr (fun i hi => h i (by omega)), h n (by omega)]
theorem sumN_le {f g : Nat → Int} : ∀ {n : Nat}, (∀ i, i < n → f i ≤ g i) → sumN n f ≤ sumN n g
  | 0, _ => Int.le_refl _
  | n + 1, h => by
    show sumN n f + f n ≤ sumN n g + g n
    have := sumN_le (f := f) (g := g) (n := n) (fun i hi => h i (by omega))
    have := h n (by omega)
    omega
theorem sumN_nonneg {f : Nat → Int} : ∀ {n : Nat}, (∀ i, i < n → 0 ≤ f i) → 0 ≤ sumN n f
  | 0, _ => Int.le_refl _
  | n + 1, h => by
    show 0 ≤ sumN n f + f n
    have := sumN_nonneg (f := f) (n := n) (fun i hi => h i (by omega))
    have := h n (by omega)
    omega
theorem sumN_up {f : Nat → Int} {a b : Nat} (h : a ≤ b) (h0 : ∀ i, i < b → 0 ≤ f i) : sumN a f ≤ sumN b f := by
  induction b with
  | zero => obtain rfl : a = 0 := by omega
            exact Int.le_refl _
  | succ b ih =>
    by_cases e : a = b + 1
    · subst e; exact Int.le_refl _
    · have := ih (by omega) (fun i hi => h0 i (by omega))
      have h1 := h0 b (by omega)
      show _ ≤ sumN b f + f b
      omega
theorem sumN_at {f : Nat → Int} {n i : Nat} (hi : i < n) (h0 : ∀ i, i < n → 0 ≤ f i) : f i ≤ sumN n f := by
  have h1 := sumN_up (f := f) (a := i + 1) (b := n) (by omega) h0
  have h2 : 0 ≤ sumN i f := sumN_nonneg (fun j hj => h0 j (by omega))
  have h3 : sumN (i + 1) f = sumN i f + f i := rfl
  omega
theorem sumN_mul {f : Nat → Int} (x : Int) : ∀ n, sumN n (fun i => x * f i) = x * sumN n f
  | 0 => by simp [sumN]
  | n + 1 => by
    show sumN n _ + x * f n = x * (sumN n f + f n)
    rw [sumN_mul x n, Int.mul_add]

/-- the place of a state -/
def idx (l r u : Nat) : Nat := l * 1792 + r * 256 + u
theorem idx_inj {l r u l' r' u' : Nat} (hr : r < 7) (hr' : r' < 7) (hu : u < 256) (hu' : u' < 256) (h : idx l r u = idx l' r' u') : l = l' ∧ r = r' ∧ u = u' := by
  unfold idx at h; omega
theorem idx_lt {l r u : Nat} (hl : l < 8) (hr : r < 7) (hu : u < 256) : idx l r u < 14336 := by unfold idx; omega
def rowS (F : Nat → Int) (W : Nat → Nat → Nat → Int) (l r n : Nat) : Int := sumN n (fun u => F (idx l r u) * W l r u)
def colS (F : Nat → Int) (W : Nat → Nat → Nat → Int) (l n : Nat) : Int := sumN n (fun r => rowS F W l (r + 1) 256)
def totS (F : Nat → Int) (W : Nat → Nat → Nat → Int) (M n : Nat) : Int := sumN n (fun l => colS F W l M)
def upd (F : Nat → Int) (i : Nat) (x : Int) : Nat → Int := fun j => if j = i then F j + x else F j

theorem rowS_upd (F : Nat → Int) (W : Nat → Nat → Nat → Int) {l r c r' v : Nat} (x : Int) (hr : r < 7) (hr' : r' < 7) (hv : v < 256) : ∀ n, n ≤ 256 → rowS (upd F (idx c r' v) x) W l r n = rowS F W l r n + if l = c ∧ r = r' ∧ v < n then x * W c r' v else 0
  | 0, _ => by simp [rowS, sumN]
  | n + 1, hn => by
    have ih := rowS_upd F W (l := l) (r := r) (c := c) (r' := r') (v := v) x hr hr' hv n (by omega)
    show rowS (upd F (idx c r' v) x) W l r n + (upd F (idx c r' v) x) (idx l r n) * W l r n = rowS F W l r n + F (idx l r n) * W l r n + _
    rw [ih]
    unfold upd
    by_cases e : idx l r n = idx c r' v
    · obtain ⟨rfl, rfl, rfl⟩ := idx_inj hr hr' (by omega) hv e
      rw [if_pos rfl, if_neg (by omega), if_pos (by omega), Int.add_mul]
      omega
    · rw [if_neg e]
      by_cases h1 : l = c ∧ r = r' ∧ v < n
      · rw [if_pos h1, if_pos (by omega)]; omega
      · rw [if_neg h1, if_neg]
        · omega
        · rintro ⟨rfl, rfl, h2⟩
          obtain rfl : v = n := by omega
          exact e rfl
theorem colS_upd (F : Nat → Int) (W : Nat → Nat → Nat → Int) {l c r' v : Nat} (x : Int) (hr' : r' < 7) (hv : v < 256) : ∀ n, n ≤ 6 → colS (upd F (idx c r' v) x) W l n = colS F W l n + if l = c ∧ 1 ≤ r' ∧ r' ≤ n then x * W c r' v else 0
  | 0, _ => by simp [colS, sumN]; omega
  | n + 1, hn => by
    have ih := colS_upd F W (l := l) (c := c) (r' := r') (v := v) x hr' hv n (by omega)
    show colS (upd F (idx c r' v) x) W l n + rowS (upd F (idx c r' v) x) W l (n + 1) 256 = colS F W l n + rowS F W l (n + 1) 256 + _
    rw [ih, rowS_upd F W x (by omega) hr' hv 256 (by omega)]
    by_cases h1 : l = c ∧ n + 1 = r' ∧ v < 256
    · rw [if_pos h1, if_neg (by omega), if_pos (by omega)]; omega
    · rw [if_neg h1]
      by_cases h2 : l = c ∧ 1 ≤ r' ∧ r' ≤ n
      · rw [if_pos h2, if_pos (by omega)]; omega
      · rw [if_neg h2, if_neg (by omega)]; omega
theorem totS_upd (F : Nat → Int) (W : Nat → Nat → Nat → Int) {M c r' v : Nat} (x : Int) (hM : M ≤ 6) (h1 : 1 ≤ r') (h2 : r' ≤ M) (hv : v < 256) : ∀ n, totS (upd F (idx c r' v) x) W M n = totS F W M n + if c < n then x * W c r' v else 0
  | 0 => by simp [totS, sumN]
  | n + 1 => by
    have ih := totS_upd F W (M := M) (c := c) (r' := r') (v := v) x hM h1 h2 hv n
    show totS (upd F (idx c r' v) x) W M n + colS (upd F (idx c r' v) x) W n M = totS F W M n + colS F W n M + _
    rw [ih, colS_upd F W x (by omega) hv M hM]
    by_cases e : n = c
    · subst e
      rw [if_neg (by omega), if_pos ⟨rfl, h1, h2⟩, if_pos (by omega)]; omega
    · rw [if_neg (c := n = c ∧ 1 ≤ r' ∧ r' ≤ M) (by omega)]
      by_cases h3 : c < n
      · rw [if_pos h3, if_pos (by omega)]; omega
      · rw [if_neg h3, if_neg (by omega)]; omega

/-! one cut more -/
def nxtR (l r c : Nat) : Nat := if c = l then r + 1 else 1
def nxtU (u c : Nat) : Nat := u ||| (1 <<< c)
def nxtOk (m : Mk) (l r c : Nat) : Bool := inB ((c : Int) - (l : Int)) (-m.S) m.S && decide ((nxtR l r c : Int) ≤ m.M)
def nextW (m : Mk) (W : Nat → Nat → Nat → Int) (l r u : Nat) : Int := sumN m.D.toNat (fun c => if nxtOk m l r c then W c (nxtR l r c) (nxtU u c) else 0)
def addsN (m : Mk) (F : Nat → Int) (l r u : Nat) (x : Int) : Nat → (Nat → Int)
  | 0 => F
  | c + 1 => if nxtOk m l r c then upd (addsN m F l r u x c) (idx c (nxtR l r c) (nxtU u c)) x else addsN m F l r u x c
theorem nxtU_lt {u c : Nat} (hu : u < 256) (hc : c < 8) : nxtU u c < 256 := by
  have h : ∀ c, c < 8 → 1 <<< c < 256 := by decide
  exact Nat.or_lt_two_pow (n := 8) hu (h c hc)
theorem nxtR_range {m : Mk} {l r c : Nat} (h : nxtOk m l r c = true) (hM : 0 ≤ m.M) : 1 ≤ nxtR l r c ∧ nxtR l r c ≤ m.M.toNat := by
  unfold nxtOk at h
  rw [Bool.and_eq_true] at h
  have := h.2
  simp at this
  refine ⟨by unfold nxtR; split <;> omega, by omega⟩
def NonNeg (F : Nat → Int) : Prop := ∀ i, 0 ≤ F i
theorem upd_nonneg {F : Nat → Int} {i : Nat} {x : Int} (h : NonNeg F) (hx : 0 ≤ x) : NonNeg (upd F i x) := by
  intro j
  unfold upd
  have := h j
  split <;> omega
theorem adds_nonneg {m : Mk} {F : Nat → Int} {l r u : Nat} {x : Int} (h : NonNeg F) (hx : 0 ≤ x) : ∀ n, NonNeg (addsN m F l r u x n)
  | 0 => h
  | n + 1 => by
    unfold addsN
    split
    · exact upd_nonneg (adds_nonneg h hx n) hx
    · exact adds_nonneg h hx n
theorem totS_adds {m : Mk} {F : Nat → Int} {W : Nat → Nat → Nat → Int} {l r u : Nat} {x : Int} (h0 : 0 ≤ m.M) (hM : m.M ≤ 6) (hu : u < 256) (hD : m.D ≤ 8) : ∀ n, n ≤ m.D.toNat → totS (addsN m F l r u x n) W m.M.toNat m.D.toNat = totS F W m.M.toNat m.D.toNat + x * sumN n (fun c => if nxtOk m l r c then W c (nxtR l r c) (nxtU u c) else 0)
  | 0, _ => by simp [addsN, sumN]
  | n + 1, hn => by
    have ih := totS_adds (F := F) (W := W) (l := l) (r := r) (u := u) (x := x) h0 hM hu hD n (by omega)
    show totS (if nxtOk m l r n = true then upd (addsN m F l r u x n) (idx n (nxtR l r n) (nxtU u n)) x else addsN m F l r u x n) W m.M.toNat m.D.toNat = totS F W m.M.toNat m.D.toNat + x * (sumN n (fun c => if nxtOk m l r c then W c (nxtR l r c) (nxtU u c) else 0) + (if nxtOk m l r n = true then W n (nxtR l r n) (nxtU u n) else 0))
    by_cases hq : nxtOk m l r n = true
    · obtain ⟨r1, r2⟩ := nxtR_range hq h0
      rw [if_pos hq, if_pos hq, totS_upd _ W x (by omega) r1 r2 (nxtU_lt hu (by omega)), ih, if_pos (by omega), Int.mul_add]
      omega
    · rw [if_neg hq, if_neg hq, ih, Int.add_zero]

/-! bounds -/
def one3 : Nat → Nat → Nat → Int := fun _ _ _ => 1
theorem rowS_nonneg {F : Nat → Int} {W : Nat → Nat → Nat → Int} {l r n : Nat} (h : NonNeg F) (hW : ∀ l r u, 0 ≤ W l r u) : 0 ≤ rowS F W l r n := sumN_nonneg (fun _ _ => Int.mul_nonneg (h _) (hW _ _ _))
theorem colS_nonneg {F : Nat → Int} {W : Nat → Nat → Nat → Int} {l n : Nat} (h : NonNeg F) (hW : ∀ l r u, 0 ≤ W l r u) : 0 ≤ colS F W l n := sumN_nonneg (fun _ _ => rowS_nonneg h hW)
theorem totS_nonneg {F : Nat → Int} {W : Nat → Nat → Nat → Int} {M n : Nat} (h : NonNeg F) (hW : ∀ l r u, 0 ≤ W l r u) : 0 ≤ totS F W M n := sumN_nonneg (fun _ _ => colS_nonneg h hW)
/-- partial sums are no more than the whole -/
theorem part_le {F : Nat → Int} {W : Nat → Nat → Nat → Int} {M D l r n : Nat} (h : NonNeg F) (hW : ∀ l r u, 0 ≤ W l r u) (hl : l < D) (hr : r < M) (hn : n ≤ 256) : totS F W M l + colS F W l r + rowS F W l (r + 1) n ≤ totS F W M D := by
  have h1 : rowS F W l (r + 1) n ≤ rowS F W l (r + 1) 256 := sumN_up hn (fun i _ => Int.mul_nonneg (h _) (hW _ _ _))
  have h2 : colS F W l (r + 1) ≤ colS F W l M := sumN_up (by omega) (fun i _ => rowS_nonneg h hW)
  have h3 : colS F W l (r + 1) = colS F W l r + rowS F W l (r + 1) 256 := rfl
  have h4 : totS F W M (l + 1) ≤ totS F W M D := sumN_up (by omega) (fun i _ => colS_nonneg h hW)
  have h5 : totS F W M (l + 1) = totS F W M l + colS F W l M := rfl
  omega
theorem entry_le {F : Nat → Int} {M D l r u : Nat} (h : NonNeg F) (hl : l < D) (h1 : 1 ≤ r) (hr : r ≤ M) (hu : u < 256) : F (idx l r u) ≤ totS F one3 M D := by
  have ho : ∀ l r u, 0 ≤ one3 l r u := fun _ _ _ => by unfold one3; omega
  have := part_le (F := F) (W := one3) (M := M) (D := D) (l := l) (r := r - 1) (n := u + 1) h ho hl (by omega) (by omega)
  rw [show r - 1 + 1 = r by omega] at this
  have a := totS_nonneg (F := F) (W := one3) (M := M) (n := l) h ho
  have b := colS_nonneg (F := F) (W := one3) (l := l) (n := r - 1) h ho
  have c : rowS F one3 l r (u + 1) = rowS F one3 l r u + F (idx l r u) * 1 := rfl
  have d := rowS_nonneg (F := F) (W := one3) (l := l) (r := r) (n := u) h ho
  omega
theorem next_one {m : Mk} (hD : m.D ≤ 8) (l r u : Nat) : 0 ≤ nextW m one3 l r u ∧ nextW m one3 l r u ≤ 8 := by
  constructor
  · refine sumN_nonneg (fun c _ => ?_)
    unfold one3; split <;> omega
  · have h : ∀ n, sumN n (fun c => if nxtOk m l r c then one3 c (nxtR l r c) (nxtU u c) else 0) ≤ n := by
      intro n
      induction n with
      | zero => simp [sumN]
      | succ n ih =>
        show sumN n _ + (if nxtOk m l r n then one3 n (nxtR l r n) (nxtU u n) else 0) ≤ _
        have : (if nxtOk m l r n then one3 n (nxtR l r n) (nxtU u n) else 0) ≤ 1 := by unfold one3; split <;> omega
        omega
    have := h m.D.toNat
    unfold nextW
    omega
theorem rowS_le {F : Nat → Int} {W W' : Nat → Nat → Nat → Int} {l r n : Nat} (h : NonNeg F) (hW : ∀ l r u, W l r u ≤ W' l r u) : rowS F W l r n ≤ rowS F W' l r n := sumN_le (fun _ _ => Int.mul_le_mul_of_nonneg_left (hW _ _ _) (h _))
theorem totS_le {F : Nat → Int} {W W' : Nat → Nat → Nat → Int} {M n : Nat} (h : NonNeg F) (hW : ∀ l r u, W l r u ≤ W' l r u) : totS F W M n ≤ totS F W' M n := sumN_le (fun _ _ => sumN_le (fun _ _ => rowS_le h hW))
theorem rowS_mul {F : Nat → Int} {W : Nat → Nat → Nat → Int} (x : Int) {l r n : Nat} : rowS F (fun l r u => x * W l r u) l r n = x * rowS F W l r n := by
  unfold rowS
  rw [← sumN_mul]
  refine sumN_congr (fun i _ => ?_)
  rw [← Int.mul_assoc, Int.mul_comm (F _) x, Int.mul_assoc]
theorem totS_mul {F : Nat → Int} {W : Nat → Nat → Nat → Int} (x : Int) {M n : Nat} : totS F (fun l r u => x * W l r u) M n = x * totS F W M n := by
  unfold totS
  rw [← sumN_mul]
  refine sumN_congr (fun i _ => ?_)
  unfold colS
  rw [← sumN_mul]
  exact sumN_congr (fun i _ => rowS_mul x)
theorem tot_next {m : Mk} {F : Nat → Int} (h : NonNeg F) (hD : m.D ≤ 8) : totS F (nextW m one3) m.M.toNat m.D.toNat ≤ 8 * totS F one3 m.M.toNat m.D.toNat := by
  rw [← totS_mul]
  exact totS_le h (fun l r u => by have := (next_one hD l r u).2; unfold one3 at *; omega)

/-! the states of beginnings -/
def pc (u : Nat) : Nat := (List.range 8).foldl (fun a b => a + if u.testBit b then 1 else 0) 0
def maskOf (xs : List Int) : Nat := xs.foldl (fun a v => nxtU a v.toNat) 0
def lastOf (xs : List Int) : Nat := (xs.getD (xs.length - 1) 0).toNat
theorem pc_or : ∀ u, u < 256 → ∀ c, c < 8 → pc (nxtU u c) = pc u + if u.testBit c then 0 else 1 := by decide +kernel
theorem bit_or {u c j : Nat} : (nxtU u c).testBit j = (u.testBit j || decide (j = c)) := by
  unfold nxtU
  rw [Nat.testBit_or, Nat.one_shiftLeft, Nat.testBit_two_pow]
  congr 1
  rw [Bool.eq_iff_iff]; simp [eq_comm]
theorem mask_snoc (xs : List Int) (d : Nat) : maskOf (xs ++ [(d : Int)]) = nxtU (maskOf xs) d := by
  unfold maskOf; rw [List.foldl_append]; simp
theorem mask_from (xs : List Int) : ∀ a, a < 256 → allIn 0 7 xs = true → xs.foldl (fun a v => nxtU a v.toNat) a < 256 := by
  induction xs with
  | nil => exact fun a h _ => h
  | cons x r ih =>
    intro a ha hd
    have h1 : allIn 0 7 r = true ∧ inB x 0 7 = true := by
      unfold allIn at *
      rw [List.all_cons, Bool.and_eq_true] at hd
      exact ⟨hd.2, hd.1⟩
    have h2 := inB_true.1 h1.2
    exact ih _ (nxtU_lt ha (by omega)) h1.1
theorem mask_lt {xs : List Int} (h : allIn 0 7 xs = true) : maskOf xs < 256 := mask_from xs 0 (by decide) h
theorem mask_bit_from (xs : List Int) (j : Nat) : ∀ a, (∀ v ∈ xs, 0 ≤ v) → (xs.foldl (fun a v => nxtU a v.toNat) a).testBit j = (a.testBit j || xs.any (fun v => decide (v = (j : Int)))) := by
  induction xs with
  | nil => intro a _; simp
  | cons x r ih =>
    intro a hx
    rw [List.foldl_cons, ih _ (fun v hv => hx v (List.mem_cons_of_mem _ hv)), bit_or, List.any_cons, Bool.or_assoc]
    congr 2
    have := hx x (List.mem_cons_self ..)
    rw [Bool.eq_iff_iff]; simp; omega
theorem mask_bit {xs : List Int} (j : Nat) (h : ∀ v ∈ xs, 0 ≤ v) : (maskOf xs).testBit j = xs.any (fun v => decide (v = (j : Int))) := by
  unfold maskOf
  rw [mask_bit_from xs j 0 h]; simp
theorem kinds_snoc (xs : List Int) (d : Int) : kinds (xs ++ [d]) = kinds xs + if xs.any (fun v => decide (v = d)) = true then 0 else 1 := by
  unfold kinds
  rw [List.length_append]
  show kindsAt (xs ++ [d]) xs.length + (if ((xs ++ [d]).take xs.length).any (fun v => decide (v = (xs ++ [d]).getD xs.length 0)) = true then 0 else 1) = _
  rw [kindsAt_left (Nat.le_refl _), List.take_left' rfl]
  have : (xs ++ [d]).getD xs.length 0 = d := by rw [List.getD_eq_getElem?_getD, List.getElem?_append_right (Nat.le_refl _)]; simp
  rw [this]
theorem nonneg_of {xs : List Int} {b : Int} (h : allIn 0 b xs = true) : ∀ v ∈ xs, 0 ≤ v := by
  intro v hv
  unfold allIn at h
  exact (inB_true.1 (List.all_eq_true.1 h v hv)).1
theorem snoc_ind {P : List Int → Prop} (h0 : P []) (h1 : ∀ xs d, P xs → P (xs ++ [d])) (xs : List Int) : P xs := by
  have : ∀ ys : List Int, P ys.reverse := by
    intro ys
    induction ys with
    | nil => exact h0
    | cons y r ih => rw [List.reverse_cons]; exact h1 _ _ ih
  have h := this xs.reverse
  rwa [List.reverse_reverse] at h
theorem pc_mask (xs : List Int) : allIn 0 7 xs = true → pc (maskOf xs) = kinds xs := by
  refine snoc_ind (P := fun xs => allIn 0 7 xs = true → pc (maskOf xs) = kinds xs) (fun _ => rfl) ?_ xs
  intro xs d ih hd
  have h1 : allIn 0 7 xs = true ∧ inB d 0 7 = true := by
    unfold allIn at *
    rw [List.all_append, Bool.and_eq_true] at hd
    refine ⟨hd.1, ?_⟩
    simpa using hd.2
  have h2 := inB_true.1 h1.2
  obtain ⟨e, rfl⟩ := Int.eq_ofNat_of_zero_le h2.1
  have hm := mask_snoc xs e
  rw [hm, pc_or _ (mask_lt h1.1) e (by omega), ih h1.1, mask_bit e (nonneg_of h1.1), kinds_snoc]
theorem last_snoc (xs : List Int) (d : Nat) : lastOf (xs ++ [(d : Int)]) = d := by
  unfold lastOf
  rw [List.length_append, List.getD_eq_getElem?_getD, List.getElem?_append_right (by simp)]
  simp
theorem run_snoc {xs : List Int} {d : Nat} (hp : 0 < xs.length) (h : ∀ v ∈ xs, 0 ≤ v) : runAt (xs ++ [(d : Int)]) (xs.length + 1) = nxtR (lastOf xs) (runAt xs xs.length) d := by
  have hl : xs[xs.length - 1]? = some (xs[xs.length - 1]'(by omega)) := List.getElem?_eq_getElem _
  have h0 := h _ (List.mem_of_getElem? hl)
  have e1 : (xs ++ [(d : Int)]).getD xs.length 0 = (d : Int) := by rw [List.getD_eq_getElem?_getD, List.getElem?_append_right (Nat.le_refl _)]; simp
  have e2 : (xs ++ [(d : Int)]).getD (xs.length - 1) 0 = xs[xs.length - 1]'(by omega) := by rw [getD_left (by omega), getD_at hl]
  show (if 0 < xs.length ∧ (xs ++ [(d : Int)]).getD xs.length 0 ≠ (xs ++ [(d : Int)]).getD (xs.length - 1) 0 then 1 else runAt (xs ++ [(d : Int)]) xs.length + 1) = _
  rw [e1, e2, runAt_left (Nat.le_refl _)]
  unfold nxtR lastOf
  rw [getD_at hl]
  by_cases hd : (d : Int) = xs[xs.length - 1]'(by omega)
  · rw [if_neg (fun h => h.2 hd), if_pos (by omega)]
  · rw [if_pos ⟨hp, hd⟩, if_neg (by omega)]
theorem range_all_succ {p : Nat → Bool} (n : Nat) : (List.range (n + 1)).all p = ((List.range n).all p && p n) := by
  rw [List.range_succ, List.all_append]; simp
theorem begins_snoc {m : Mk} {xs : List Int} {d : Nat} (hp : 0 < xs.length) (h : ∀ v ∈ xs, 0 ≤ v) (hb : beginsB m xs = true) : beginsB m (xs ++ [(d : Int)]) = nxtOk m (lastOf xs) (runAt xs xs.length) d := by
  unfold beginsB at hb
  rw [Bool.and_eq_true] at hb
  have hl : xs[xs.length - 1]? = some (xs[xs.length - 1]'(by omega)) := List.getElem?_eq_getElem _
  have h0 := h _ (List.mem_of_getElem? hl)
  have e1 : (xs ++ [(d : Int)]).getD xs.length 0 = (d : Int) := by rw [List.getD_eq_getElem?_getD, List.getElem?_append_right (Nat.le_refl _)]; simp
  have e2 : (xs ++ [(d : Int)]).getD (xs.length - 1) 0 = xs[xs.length - 1]'(by omega) := by rw [getD_left (by omega), getD_at hl]
  have s1 : (List.range xs.length).all (stepAt m.S (xs ++ [(d : Int)])) = true := by
    have := hb.1
    unfold stepsB at this
    rw [List.all_eq_true] at *
    intro j hj
    rw [stepAt_left (List.mem_range.1 hj)]
    exact this j hj
  have s2 : (List.range xs.length).all (runOk m.M (xs ++ [(d : Int)])) = true := by
    have := hb.2
    unfold runsB at this
    rw [List.all_eq_true] at *
    intro j hj
    have h3 := List.mem_range.1 hj
    unfold runOk at *
    rw [runAt_left (by omega)]
    exact this j hj
  unfold beginsB stepsB runsB
  rw [List.length_append, show [(d : Int)].length = 1 from rfl, range_all_succ, range_all_succ, s1, s2, Bool.true_and, Bool.true_and]
  unfold nxtOk
  congr 1
  · unfold stepAt
    rw [e1, e2, decide_eq_false (by omega), Bool.false_or]
    unfold lastOf
    rw [getD_at hl, show ((xs[xs.length - 1].toNat : Nat) : Int) = xs[xs.length - 1] by omega]
  · unfold runOk
    rw [run_snoc hp h]

/-! the count -/
def nW (m : Mk) : Nat → (Nat → Nat → Nat → Int) → (Nat → Nat → Nat → Int)
  | 0, W => W
  | k + 1, W => nW m k (nextW m W)
theorem nW_comm (m : Mk) : ∀ (k : Nat) (W : Nat → Nat → Nat → Int), nW m (k + 1) W = nextW m (nW m k W)
  | 0, _ => rfl
  | k + 1, W => nW_comm m k (nextW m W)
def leastW (m : Mk) : Nat → Nat → Nat → Int := fun _ _ u => if m.L ≤ (pc u : Int) then 1 else 0
theorem flat_sum (f : Nat → List (List Int)) : ∀ n, (((List.range n).flatMap f).length : Int) = sumN n (fun d => ((f d).length : Int))
  | 0 => rfl
  | n + 1 => by
    rw [List.range_succ, List.flatMap_append, List.length_append]
    show _ = sumN n _ + _
    rw [← flat_sum f n]
    simp
theorem tails_sum (m : Mk) (k : Nat) (xs : List Int) : ((tails m k xs 0).length : Int) = sumN m.D.toNat (fun d => ((keysFrom m k (xs ++ [(d : Int)])).length : Int)) := by
  unfold tails
  rw [List.drop_zero]
  exact flat_sum _ _
theorem len_keys {m : Mk} (hD : m.D ≤ 8) : ∀ (k : Nat) (xs : List Int), 0 < xs.length → allIn 0 (m.D - 1) xs = true → beginsB m xs = true → ((keysFrom m k xs).length : Int) = nW m k (leastW m) (lastOf xs) (runAt xs xs.length) (maskOf xs)
  | 0, xs, hp, hd, hb => by
    show _ = leastW m _ _ _
    unfold leastW
    rw [pc_mask xs (allIn_wide hd (Int.le_refl _) (by omega))]
    by_cases h : m.L ≤ (kinds xs : Int)
    · rw [keys_zero_yes hb h, if_pos h]; rfl
    · rw [keys_zero_no hb h, if_neg h]; rfl
  | k + 1, xs, hp, hd, hb => by
    rw [keys_succ hb, nW_comm, tails_sum]
    unfold nextW
    refine sumN_congr (fun d hdD => ?_)
    have hn := nonneg_of hd
    rcases hq : nxtOk m (lastOf xs) (runAt xs xs.length) d with _ | _
    · rw [keys_stop (by rw [begins_snoc hp hn hb]; exact hq), if_neg (by simp)]; rfl
    · rw [if_pos rfl, len_keys hD k (xs ++ [(d : Int)]) (by simp) (depth_snoc' hd (by omega)) (by rw [begins_snoc hp hn hb]; exact hq), last_snoc, mask_snoc, List.length_append]
      rw [show [(d : Int)].length = 1 from rfl, run_snoc hp hn]
where
  depth_snoc' {m : Mk} {xs : List Int} {d : Nat} (h : allIn 0 (m.D - 1) xs = true) (hd : (d : Int) < m.D) : allIn 0 (m.D - 1) (xs ++ [(d : Int)]) = true := by
    unfold allIn at *
    rw [List.all_append, h]
    simp [inB]; omega
theorem count_all {m : Mk} (hm : m.ok = true) : ((allKeys m).length : Int) = sumN m.D.toNat (fun c => nW m (m.C.toNat - 1) (leastW m) c 1 (1 <<< c)) := by
  obtain ⟨m1, m2, m3, m4, m5, m6, m7, m8, m9, m10, m11⟩ := Mk.ok_true hm
  unfold allKeys
  rw [show m.C.toNat = m.C.toNat - 1 + 1 by omega, keys_succ (beginsB_nil m), tails_sum]
  refine sumN_congr (fun d hd => ?_)
  have hb : beginsB m [(d : Int)] = true := by
    unfold beginsB stepsB runsB
    simp [stepAt, runOk, runAt]
    omega
  show ((keysFrom m (m.C.toNat - 1) [(d : Int)]).length : Int) = _
  rw [len_keys m4 (m.C.toNat - 1) [(d : Int)] (by simp) (by simp [allIn, inB]; omega) hb]
  have e1 : lastOf [(d : Int)] = d := last_snoc [] d
  have e2 : maskOf [(d : Int)] = 1 <<< d := by
    have := mask_snoc [] d
    simp only [List.nil_append] at this
    rw [this]
    unfold nxtU maskOf
    simp
  have e3 : runAt [(d : Int)] 1 = 1 := by simp [runAt]
  rw [e1, e2, show [(d : Int)].length = 1 from rfl, e3]
  rfl

end Go.Proofs.Ytidjnnooeepklaa

namespace Go.Proofs.Ytidjnnooeepklaa
open Go.RowKit

def stepB (m : Int) (xs : List Int) (j : Nat) : Bool := decide (0 ≤ xs.getD j 0) && decide (xs.getD j 0 < m) && (decide (j = 0) || decide (xs.getD (j - 1) 0 < xs.getD j 0))
def riseB (m : Int) (xs : List Int) : Bool := (List.range xs.length).all (stepB m xs)
theorem riseB_no {m : Int} {xs : List Int} {k n : Nat} (hl : xs.length = n) (hk : k < n) (h : stepB m xs k = false) : riseB m xs = false := by
  unfold riseB
  rw [List.all_eq_false]
  exact ⟨k, by simp; omega, by simp [h]⟩
theorem riseB_yes {m : Int} {xs : List Int} {k n : Nat} (hl : xs.length = n) (hk : ¬ k < n) (h : ∀ j, j < k → stepB m xs j = true) : riseB m xs = true := by
  unfold riseB
  rw [List.all_eq_true]
  intro j hj
  exact h j (by have := List.mem_range.1 hj; omega)
theorem getD_of {xs : List Int} {k : Nat} {v : Int} (hv : xs[k]? = some v) : xs.getD k 0 = v := by
  rw [List.getD_eq_getElem?_getD, hv]; rfl
theorem step_next {m : Int} {xs : List Int} {k : Nat} (h : ∀ j, j < k → stepB m xs j = true) (hk : stepB m xs k = true) : ∀ j, j < k + 1 → stepB m xs j = true := by
  intro j hj
  by_cases e : j = k
  · subst e; exact hk
  · exact h j (by omega)
theorem step_neg {m v : Int} {xs : List Int} {k : Nat} (hv : xs[k]? = some v) (h : v < 0) : stepB m xs k = false := by
  unfold stepB; rw [getD_of hv, decide_eq_false (by omega)]; rfl
theorem step_big {m v : Int} {xs : List Int} {k : Nat} (hv : xs[k]? = some v) (h : m ≤ v) : stepB m xs k = false := by
  unfold stepB; rw [getD_of hv, decide_eq_false (p := v < m) (by omega), Bool.and_false]; rfl
theorem step_first {m v : Int} {xs : List Int} {k : Nat} (hv : xs[k]? = some v) (h : 0 ≤ v) (h2 : v < m) (hk : ¬ 0 < k) : stepB m xs k = true := by
  unfold stepB; rw [getD_of hv, decide_eq_true h, decide_eq_true h2, decide_eq_true (show k = 0 by omega)]; rfl
theorem step_low {m v u : Int} {xs : List Int} {k : Nat} (hv : xs[k]? = some v) (hu : xs[k - 1]? = some u) (hk : 0 < k) (h : v ≤ u) : stepB m xs k = false := by
  unfold stepB; rw [getD_of hv, getD_of hu, decide_eq_false (show ¬ k = 0 by omega), decide_eq_false (show ¬ u < v by omega)]; simp
theorem step_up {m v u : Int} {xs : List Int} {k : Nat} (hv : xs[k]? = some v) (hu : xs[k - 1]? = some u) (h : 0 ≤ v) (h2 : v < m) (h3 : u < v) : stepB m xs k = true := by
  unfold stepB; rw [getD_of hv, getD_of hu, decide_eq_true h, decide_eq_true h2, decide_eq_true h3]; simp

theorem isRising_any (A : Option Addr) (n c : Nat) (xs : List Int) (m : Int) (w : World) (h : Ints w w.heap.size A n xs) (hn : n ≤ 1048576) :
    Calls Try.prog 101 #[.slice A n c, .int .i64 m] w fun e w' => e = .returned (.bool (riseB m xs)) ∧ w = w' := by
  have HL := Lib.hid h.len
  go_enter Try.func101, Try.ntmps101
  go_wp2
  go_loop [9] (fun i => ∃ k : Nat, k ≤ n ∧ i = .int .i64 k ∧ Hid (∀ j, j < k → stepB m xs j = true)) (fun i => n - (intOf i).toNat)
  case atStart => exact ⟨0, Nat.zero_le _, rfl, Lib.hid (fun j hj => absurd hj (by omega))⟩
  case round =>
    obtain ⟨k, hk, rfl, hall⟩ := hrel
    by_cases hlt : k < n
    · obtain ⟨ad, v, rfl, hab, hv, hc⟩ := h.at_ hlt
      have HV := Lib.hid hv
      clear hv
      by_cases h1 : v < 0
      · go_wp2
        go_ret
        exact ⟨ret_bool (riseB_no HL.out hlt (step_neg HV.out h1)).symm, rfl⟩
      by_cases h2 : v < m
      · by_cases h3 : 0 < k
        · obtain ⟨ad', u, e, _, hu, hc'⟩ := h.at_ (show k - 1 < n by omega)
          obtain rfl : ad = ad' := by injection e
          clear e
          have HU := Lib.hid hu
          clear hu
          by_cases h4 : v ≤ u
          · go_wp2
            go_ret
            exact ⟨ret_bool (riseB_no HL.out hlt (step_low HV.out HU.out h3 h4)).symm, rfl⟩
          · go_wp2
            go_round
            case rel => exact ⟨k + 1, by omega, by go_num, Lib.hid (step_next hall.out (step_up HV.out HU.out (by omega) h2 (by omega)))⟩
            case measure => simp [intOf]; omega
        · go_wp2
          go_round
          case rel => exact ⟨k + 1, by omega, by go_num, Lib.hid (step_next hall.out (step_first HV.out (by omega) h2 h3))⟩
          case measure => simp [intOf]; omega
      · go_wp2
        go_ret
        exact ⟨ret_bool (riseB_no HL.out hlt (step_big HV.out (by omega))).symm, rfl⟩
    · go_wp2
      go_ret
      exact ⟨ret_bool (riseB_yes HL.out hlt hall.out).symm, rfl⟩

set_option maxHeartbeats 2000000 in
theorem l01Rises_any (A : Option Addr) (n c : Nat) (xs : List Int) (m : Int) (w : World) (h : Ints w w.heap.size A n xs) (hn : n ≤ 1048576) :
    Calls Try.prog 98 #[.slice A n c, .int .i64 m] w fun e w' => e = .returned (.bool (riseB m xs)) ∧ Below w.heap.size w w' := by
  have HL := Lib.hid h.len
  go_enter Try.func98, Try.ntmps98
  go_wp2
  go_loopw [5] (fun i wr => ∃ k : Nat, k ≤ n ∧ i = .int .i64 k ∧ Hid (∀ j, j < k → stepB m xs j = true) ∧ Below w.heap.size w wr) (fun i _ => n - (intOf i).toNat)
  case atStart => exact ⟨0, Nat.zero_le _, rfl, Lib.hid (fun j hj => absurd hj (by omega)), Below.refl _ _⟩
  case round =>
    obtain ⟨k, hk, rfl, hall, hb⟩ := hrel
    have hi := h.below hb
    by_cases hlt : k < n
    · obtain ⟨ad, v, rfl, hab, hv, hc⟩ := hi.at_ hlt
      have HV := Lib.hid hv
      clear hv
      by_cases h1 : v < 0
      · have d1 : decide (v < 0) = true := by simpa using h1
        go_wp2
        go_quiet (fail)
        go_wp2
        go_ret
        exact ⟨ret_bool (riseB_no HL.out hlt (step_neg HV.out h1)).symm, below_drewN hb _⟩
      have d1 : decide (v < 0) = false := by simpa using h1
      by_cases h2 : v < m
      · have d2 : decide (m ≤ v) = false := by simpa using h2
        by_cases h3 : 0 < k
        · have d3 : decide (0 < k) = true := by simpa using h3
          obtain ⟨ad', u, e, _, hu, hc'⟩ := hi.at_ (show k - 1 < n by omega)
          obtain rfl : ad = ad' := by injection e
          clear e
          have HU := Lib.hid hu
          clear hu
          have s1 : IntKind.i64.wrap ((k : Int) - 1) = (k : Int) - 1 := IntWalk.i64_in _ (by omega)
          have s2 : 0 ≤ (k : Int) - 1 := by omega
          have s3 : ((k : Int) - 1).toNat = k - 1 := by omega
          have s4 : (k : Int) - 1 < (n : Int) := by omega
          by_cases h4 : v ≤ u
          · have d4 : decide (v ≤ u) = true := by simpa using h4
            go_wp2
            go_quiet (fail)
            go_wp2
            go_ret
            exact ⟨ret_bool (riseB_no HL.out hlt (step_low HV.out HU.out h3 h4)).symm, below_drewN hb _⟩
          · have d4 : decide (v ≤ u) = false := by simpa using h4
            go_wp2
            go_quiet (fail)
            go_wp2
            go_roundw
            case rel => clear s1 s2 s3 s4; exact ⟨k + 1, by omega, by go_num, Lib.hid (step_next hall.out (step_up HV.out HU.out (by omega) h2 (by omega))), below_drewN hb _⟩
            case measure => simp [intOf]; omega
        · have d3 : decide (0 < k) = false := by simpa using h3
          go_wp2
          go_quiet (fail)
          go_wp2
          go_roundw
          case rel => exact ⟨k + 1, by omega, by go_num, Lib.hid (step_next hall.out (step_first HV.out (by omega) h2 h3)), below_drewN hb _⟩
          case measure => simp [intOf]; omega
      · have d2 : decide (m ≤ v) = true := by simpa using h2
        go_wp2
        go_quiet (fail)
        go_wp2
        go_ret
        exact ⟨ret_bool (riseB_no HL.out hlt (step_big HV.out (by omega))).symm, below_drewN hb _⟩
    · go_wp2
      go_ret
      exact ⟨ret_bool (riseB_yes HL.out hlt hall.out).symm, hb⟩

theorem flat_congr {α β : Type} {f g : α → List β} : ∀ {l : List α}, (∀ x ∈ l, f x = g x) → l.flatMap f = l.flatMap g
  | [], _ => rfl
  | x :: l, h => by
    rw [List.flatMap_cons, List.flatMap_cons, h x (List.mem_cons_self ..), flat_congr (fun y hy => h y (List.mem_cons_of_mem _ hy))]

/-- the depths of a set -/
def setOf (D : Nat) (q : Nat → Bool) : List Int := ((List.range D).filter q).map (fun (d : Nat) => (d : Int))
theorem setOf_congr {D : Nat} {q r : Nat → Bool} (h : ∀ d, d < D → q d = r d) : setOf D q = setOf D r := by
  unfold setOf
  rw [List.filter_congr (fun d hd => h d (List.mem_range.1 hd))]
theorem setOf_snoc (D : Nat) (q : Nat → Bool) : setOf (D + 1) q = if q D then setOf D q ++ [(D : Int)] else setOf D q := by
  unfold setOf
  rw [List.range_succ, List.filter_append, List.map_append, List.filter_cons]
  cases q D <;> simp
theorem setOf_mem {D : Nat} {q : Nat → Bool} {v : Int} : v ∈ setOf D q ↔ ∃ d : Nat, d < D ∧ q d = true ∧ v = (d : Int) := by
  unfold setOf
  rw [List.mem_map]
  constructor
  · rintro ⟨d, hd, rfl⟩
    rw [List.mem_filter] at hd
    exact ⟨d, List.mem_range.1 hd.1, hd.2, rfl⟩
  · rintro ⟨d, h1, h2, rfl⟩
    exact ⟨d, List.mem_filter.2 ⟨List.mem_range.2 h1, h2⟩, rfl⟩
theorem any_setOf {D d : Nat} {q : Nat → Bool} (h : d < D) : (setOf D q).any (fun v => decide (v = (d : Int))) = q d := by
  rw [Bool.eq_iff_iff, List.any_eq_true]
  constructor
  · rintro ⟨v, hv, e⟩
    obtain ⟨d', _, h2, rfl⟩ := setOf_mem.1 hv
    have : d' = d := by simp at e; omega
    subst this; exact h2
  · intro hq
    exact ⟨(d : Int), setOf_mem.2 ⟨d, h, hq, rfl⟩, by simp⟩
/-- what a rising list is -/
theorem rise_facts {M : Int} {xs : List Int} (h : riseB M xs = true) : (∀ v ∈ xs, 0 ≤ v ∧ v < M) ∧ ∀ j, 0 < j → j < xs.length → xs.getD (j - 1) 0 < xs.getD j 0 := by
  unfold riseB at h
  rw [List.all_eq_true] at h
  refine ⟨fun v hv => ?_, fun j hj hl => ?_⟩
  · obtain ⟨j, hj⟩ := List.getElem?_of_mem hv
    have hl := (List.getElem?_eq_some_iff.1 hj).1
    have := h j (List.mem_range.2 hl)
    unfold stepB at this
    rw [getD_of hj] at this
    simp only [Bool.and_eq_true, decide_eq_true_eq] at this
    exact ⟨this.1.1, this.1.2⟩
  · have := h j (List.mem_range.2 hl)
    unfold stepB at this
    simp only [Bool.and_eq_true, Bool.or_eq_true, decide_eq_true_eq] at this
    omega
theorem rise_pairs {M : Int} : ∀ {xs : List Int}, riseB M xs = true → xs.Pairwise (· < ·) := by
  intro xs h
  obtain ⟨_, h2⟩ := rise_facts h
  have go : ∀ (ys : List Int), (∀ j, 0 < j → j < ys.length → ys.getD (j - 1) 0 < ys.getD j 0) → ys.Pairwise (· < ·) := by
    intro ys
    induction ys with
    | nil => intro _; exact List.Pairwise.nil
    | cons y r ih =>
      intro hs
      have hr : r.Pairwise (· < ·) := ih (fun j hj hl => by
        have := hs (j + 1) (by omega) (by simp; omega)
        rw [show j + 1 - 1 = (j - 1) + 1 by omega] at this
        simpa using this)
      refine List.pairwise_cons.2 ⟨?_, hr⟩
      rcases r with _ | ⟨z, r'⟩
      · intro a ha; cases ha
      · have hz : y < z := by
          have := hs 1 (by omega) (by simp)
          simpa using this
        intro a ha
        rcases List.mem_cons.1 ha with rfl | ha'
        · exact hz
        · have := (List.pairwise_cons.1 hr).1 a ha'
          omega
  exact go xs h2
/-- a rising list is walked as the range is, with a test -/
theorem rise_walk {β : Type} (f : Nat → List β) (D : Nat) : ∀ (r d : Nat), d + r = D → ∀ xs : List Int, xs.Pairwise (· < ·) → (∀ v ∈ xs, (d : Int) ≤ v ∧ v < (D : Int)) →
    ((List.range D).drop d).flatMap (fun (e : Nat) => if xs.any (fun v => decide (v = (e : Int))) then f e else []) = xs.flatMap (fun v => f v.toNat)
  | 0, d, hr, xs, _, hb => by
    rcases xs with _ | ⟨x, xs⟩
    · rw [List.drop_of_length_le (by rw [List.length_range]; omega)]; rfl
    · have := hb x (List.mem_cons_self ..); omega
  | r + 1, d, hr, xs, hp, hb => by
    have hd : d < D := by omega
    rw [List.drop_eq_getElem_cons (by rw [List.length_range]; exact hd), List.flatMap_cons, List.getElem_range]
    rcases xs with _ | ⟨x, xs⟩
    · have := rise_walk f D r (d + 1) (by omega) [] List.Pairwise.nil (fun v hv => by cases hv)
      rw [this]; rfl
    · have hx := hb x (List.mem_cons_self ..)
      obtain ⟨h1, h2⟩ := List.pairwise_cons.1 hp
      by_cases hxd : x = (d : Int)
      · subst hxd
        have e1 : ((d : Int) :: xs).any (fun v => decide (v = (d : Int))) = true := by simp
        rw [if_pos e1, List.flatMap_cons, show (d : Int).toNat = d by omega]
        congr 1
        rw [← rise_walk f D r (d + 1) (by omega) xs h2 (fun v hv => by have := h1 v hv; have := hb v (List.mem_cons_of_mem _ hv); omega)]
        refine flat_congr (fun e he => ?_)
        have hde : d + 1 ≤ e := by
          obtain ⟨j, hj⟩ := List.getElem?_of_mem he
          rw [List.getElem?_drop] at hj
          obtain ⟨_, h⟩ := List.getElem?_eq_some_iff.1 hj
          rw [List.getElem_range] at h
          omega
        rw [List.any_cons, decide_eq_false (by omega : ¬ (d : Int) = (e : Int)), Bool.false_or]
      · have e1 : (x :: xs).any (fun v => decide (v = (d : Int))) = false := by
          rw [List.any_eq_false]
          intro v hv
          have : (d : Int) < v := by
            rcases List.mem_cons.1 hv with rfl | hv'
            · omega
            · have := h1 v hv'; omega
          simp; omega
        rw [if_neg (by rw [e1]; simp), List.nil_append]
        exact rise_walk f D r (d + 1) (by omega) (x :: xs) hp (fun v hv => by
          rcases List.mem_cons.1 hv with rfl | hv'
          · omega
          · have := h1 v hv'; have := (hb v hv); omega)
theorem flat_one {α β : Type} (q : α → Bool) (f : α → β) : ∀ l : List α, l.flatMap (fun x => if q x then [f x] else []) = (l.filter q).map f
  | [] => rfl
  | x :: l => by
    rw [List.flatMap_cons, flat_one q f l, List.filter_cons]
    cases q x <;> simp
theorem rise_walk0 {β : Type} (f : Nat → List β) {D : Int} (hD : 0 ≤ D) {xs : List Int} (h : riseB D xs = true) :
    (List.range D.toNat).flatMap (fun (e : Nat) => if xs.any (fun v => decide (v = (e : Int))) then f e else []) = xs.flatMap (fun v => f v.toNat) := by
  have := rise_walk f D.toNat D.toNat 0 (by omega) xs (rise_pairs h) (fun v hv => by have := (rise_facts h).1 v hv; omega)
  rwa [List.drop_zero] at this
/-- .. and is the set of its depths -/
theorem rise_set {D : Int} (hD : 0 ≤ D) {xs : List Int} (h : riseB D xs = true) : setOf D.toNat (fun (d : Nat) => xs.any (fun v => decide (v = (d : Int)))) = xs := by
  have h1 := rise_walk0 (fun (e : Nat) => [((e : Nat) : Int)]) hD h
  rw [flat_one] at h1
  unfold setOf
  rw [h1]
  have go : ∀ ys : List Int, (∀ v ∈ ys, 0 ≤ v) → ys.flatMap (fun v => [((v.toNat : Nat) : Int)]) = ys := by
    intro ys
    induction ys with
    | nil => intro _; rfl
    | cons y r ih =>
      intro hv
      rw [List.flatMap_cons, ih (fun v h => hv v (List.mem_cons_of_mem _ h))]
      have := hv y (List.mem_cons_self ..)
      rw [show ((y.toNat : Nat) : Int) = y by omega]; rfl
  exact go xs (fun v hv => ((rise_facts h).1 v hv).1)
/-- the members of a rising list that keep a test -/
theorem rise_filter {D : Int} (hD : 0 ≤ D) {xs : List Int} (h : riseB D xs = true) (q : Nat → Bool) : setOf D.toNat (fun (d : Nat) => xs.any (fun v => decide (v = (d : Int))) && q d) = xs.filter (fun v => q v.toNat) := by
  have h1 := rise_walk0 (fun (e : Nat) => if q e then [((e : Nat) : Int)] else []) hD h
  have h2 : ∀ l : List Nat, l.flatMap (fun (e : Nat) => if xs.any (fun v => decide (v = (e : Int))) then (if q e then [((e : Nat) : Int)] else []) else []) = (l.filter (fun (d : Nat) => xs.any (fun v => decide (v = (d : Int))) && q d)).map (fun (d : Nat) => (d : Int)) := by
    intro l
    rw [← flat_one]
    refine flat_congr (fun e _ => ?_)
    cases xs.any (fun v => decide (v = (e : Int))) <;> cases q e <;> rfl
  unfold setOf
  rw [← h2, h1]
  have go : ∀ ys : List Int, (∀ v ∈ ys, 0 ≤ v) → ys.flatMap (fun v => if q v.toNat then [((v.toNat : Nat) : Int)] else []) = ys.filter (fun v => q v.toNat) := by
    intro ys
    induction ys with
    | nil => intro _; rfl
    | cons y r ih =>
      intro hv
      rw [List.flatMap_cons, ih (fun v h => hv v (List.mem_cons_of_mem _ h)), List.filter_cons]
      have := hv y (List.mem_cons_self ..)
      rw [show ((y.toNat : Nat) : Int) = y by omega]
      cases q y.toNat <;> rfl
  exact go xs (fun v hv => ((rise_facts h).1 v hv).1)

/-! locks -/

end Go.Proofs.Ytidjnnooeepklaa

namespace Go.Proofs.Ytidjnnooeepklaa

/-- the openers that begin with some cuts, k cuts are missing; p says which depths free a chamber -/
def opFrom (m : Mk) (p : Nat → Nat → Bool) : Nat → List Int → List (List Int)
  | 0, xs => if beginsB m xs && decide (m.L ≤ (kinds xs : Int)) then [xs] else []
  | k + 1, xs => if beginsB m xs then (List.range m.D.toNat).flatMap (fun (d : Nat) => if p xs.length d then opFrom m p k (xs ++ [(d : Int)]) else []) else []
def opTails (m : Mk) (p : Nat → Nat → Bool) (k : Nat) (xs : List Int) (d : Nat) : List (List Int) :=
  ((List.range m.D.toNat).drop d).flatMap (fun (d : Nat) => if p xs.length d then opFrom m p k (xs ++ [(d : Int)]) else [])
/-- the cuts from chamber a on free their chambers -/
def frees (p : Nat → Nat → Bool) (a : Nat) (xs : List Int) : Bool := (List.range xs.length).all (fun i => decide (i < a) || p i (xs.getD i 0).toNat)

theorem filter_none {α : Type} {q : α → Bool} : ∀ {l : List α}, (∀ x ∈ l, q x = false) → l.filter q = []
  | [], _ => rfl
  | x :: l, h => by
    rw [List.filter_cons, h x (List.mem_cons_self ..), filter_none (fun y hy => h y (List.mem_cons_of_mem _ hy))]; rfl
theorem filter_all {α : Type} {q : α → Bool} : ∀ {l : List α}, (∀ x ∈ l, q x = true) → l.filter q = l
  | [], _ => rfl
  | x :: l, h => by
    rw [List.filter_cons, h x (List.mem_cons_self ..), filter_all (fun y hy => h y (List.mem_cons_of_mem _ hy))]; rfl
theorem filter_flat {α β : Type} {q : β → Bool} {f : α → List β} : ∀ l : List α, (l.flatMap f).filter q = l.flatMap (fun x => (f x).filter q)
  | [] => rfl
  | x :: l => by rw [List.flatMap_cons, List.filter_append, filter_flat l, List.flatMap_cons]
theorem frees_here {p : Nat → Nat → Bool} {xs : List Int} : frees p xs.length xs = true := by
  unfold frees
  rw [List.all_eq_true]
  intro i hi
  rw [decide_eq_true (List.mem_range.1 hi)]; rfl
theorem frees_succ {p : Nat → Nat → Bool} {a : Nat} {xs : List Int} (h : a < xs.length) : frees p a xs = (p a (xs.getD a 0).toNat && frees p (a + 1) xs) := by
  rw [Bool.eq_iff_iff, Bool.and_eq_true]
  unfold frees
  rw [List.all_eq_true, List.all_eq_true]
  constructor
  · intro h1
    refine ⟨?_, fun i hi => ?_⟩
    · have := h1 a (List.mem_range.2 h)
      rw [decide_eq_false (by omega : ¬ a < a)] at this
      simpa using this
    · have := h1 i hi
      by_cases hia : i < a
      · rw [decide_eq_true (by omega : i < a + 1)]; rfl
      · rw [decide_eq_false hia] at this
        rw [Bool.false_or] at this
        rw [this, Bool.or_true]
  · rintro ⟨h1, h2⟩ i hi
    have := h2 i hi
    by_cases hia : i = a
    · subst hia; rw [h1, Bool.or_true]
    · by_cases hlt : i < a
      · rw [decide_eq_true hlt]; rfl
      · rw [decide_eq_false (by omega : ¬ i < a + 1), Bool.false_or] at this
        rw [this, Bool.or_true]
theorem frees_at {p : Nat → Nat → Bool} {xs : List Int} (h : frees p 0 xs = true) {i : Nat} (hi : i < xs.length) : p i (xs.getD i 0).toNat = true := by
  unfold frees at h
  have := List.all_eq_true.1 h i (List.mem_range.2 hi)
  rw [decide_eq_false (by omega : ¬ i < 0)] at this
  simpa using this

/-- openers are the keys whose cuts free their chambers -/
theorem op_filter (m : Mk) (p : Nat → Nat → Bool) : ∀ (k : Nat) (xs : List Int), opFrom m p k xs = (keysFrom m k xs).filter (frees p xs.length)
  | 0, xs => by
    unfold opFrom keysFrom
    split
    · rw [List.filter_cons, frees_here]; rfl
    · rfl
  | k + 1, xs => by
    unfold opFrom keysFrom
    split
    · rw [filter_flat]
      refine flat_congr (fun d hd => ?_)
      have hx : ∀ y ∈ keysFrom m k (xs ++ [(d : Int)]), xs.length < y.length ∧ (y.getD xs.length 0).toNat = d := by
        intro y hy
        obtain ⟨h1, h2, _⟩ := keys_facts hy
        rw [List.length_append] at h1 h2
        simp at h1
        refine ⟨by omega, ?_⟩
        have e : y = xs ++ [(d : Int)] ++ y.drop (xs.length + 1) := by
          have := List.take_append_drop (xs.length + 1) y
          simp only [List.length_singleton] at h2
          rw [h2] at this
          exact this.symm
        rw [e, getD_left (by simp), List.getD_eq_getElem?_getD, List.getElem?_append_right (Nat.le_refl _)]
        simp
      by_cases hp : p xs.length d = true
      · rw [if_pos hp, op_filter m p k]
        refine List.filter_congr (fun y hy => ?_)
        obtain ⟨h1, h2⟩ := hx y hy
        rw [List.length_append, frees_succ (a := xs.length) h1, h2, hp]; rfl
      · rw [if_neg hp]
        refine (filter_none (fun y hy => ?_)).symm
        obtain ⟨h1, h2⟩ := hx y hy
        rw [frees_succ h1, h2]
        simp [Bool.not_eq_true _ |>.mp hp]
    · rfl
theorem op_free (m : Mk) (k : Nat) (xs : List Int) : opFrom m (fun _ _ => true) k xs = keysFrom m k xs := by
  rw [op_filter]
  refine filter_all (fun y _ => ?_)
  unfold frees
  simp
/-- all openers -/
def opAll (m : Mk) (p : Nat → Nat → Bool) : List (List Int) := opFrom m p m.C.toNat []
theorem op_all (m : Mk) (p : Nat → Nat → Bool) : opAll m p = (allKeys m).filter (frees p 0) := op_filter m p _ _
theorem op_keys (m : Mk) : opAll m (fun _ _ => true) = allKeys m := op_free m _ _
theorem op_mem {m : Mk} {p : Nat → Nat → Bool} {xs : List Int} (h : xs ∈ opAll m p) : xs ∈ allKeys m ∧ frees p 0 xs = true := by
  rw [op_all, List.mem_filter] at h; exact h
theorem op_congr {m : Mk} {p q : Nat → Nat → Bool} (h : ∀ i d, i < m.C.toNat → d < m.D.toNat → p i d = q i d) : ∀ (k : Nat) (xs : List Int), xs.length + k = m.C.toNat → opFrom m p k xs = opFrom m q k xs
  | 0, xs, _ => rfl
  | k + 1, xs, hk => by
    unfold opFrom
    split
    · refine flat_congr (fun d hd => ?_)
      rw [h xs.length d (by omega) (List.mem_range.1 hd), op_congr h k (xs ++ [(d : Int)]) (by simp; omega)]
    · rfl

theorem op_zero_yes {m : Mk} {p : Nat → Nat → Bool} {xs : List Int} (h : beginsB m xs = true) (h2 : m.L ≤ (kinds xs : Int)) : opFrom m p 0 xs = [xs] := by simp [opFrom, h, h2]
theorem op_zero_no {m : Mk} {p : Nat → Nat → Bool} {xs : List Int} (h : beginsB m xs = true) (h2 : ¬ m.L ≤ (kinds xs : Int)) : opFrom m p 0 xs = [] := by simp [opFrom, h, h2]
theorem op_stop {m : Mk} {p : Nat → Nat → Bool} {k : Nat} {xs : List Int} (h : beginsB m xs = false) : opFrom m p k xs = [] := by cases k <;> simp [opFrom, h]
theorem op_succ {m : Mk} {p : Nat → Nat → Bool} {k : Nat} {xs : List Int} (h : beginsB m xs = true) : opFrom m p (k + 1) xs = opTails m p k xs 0 := by simp [opFrom, opTails, h]
theorem opTails_end {m : Mk} {p : Nat → Nat → Bool} {k d : Nat} {xs : List Int} (h : ¬ d < m.D.toNat) : opTails m p k xs d = [] := by
  unfold opTails
  rw [List.drop_of_length_le (by rw [List.length_range]; omega)]; rfl
theorem opTails_step {m : Mk} {p : Nat → Nat → Bool} {k d : Nat} {xs : List Int} (h : d < m.D.toNat) : opTails m p k xs d = (if p xs.length d then opFrom m p k (xs ++ [(d : Int)]) else []) ++ opTails m p k xs (d + 1) := by
  unfold opTails
  rw [List.drop_eq_getElem_cons (by rw [List.length_range]; exact h), List.flatMap_cons, List.getElem_range]
theorem op_may {m : Mk} {p : Nat → Nat → Bool} {k : Nat} {xs : List Int} (hl : (xs.length : Int) + k = m.C) (hd : allIn 0 (m.D - 1) xs = true) (h : mayB m xs = false) : opFrom m p k xs = [] := by
  rw [op_filter, keys_may hl hd h]; rfl
/-- the openers behind a beginning that k chambers lack -/
def opBehind (m : Mk) (p : Nat → Nat → Bool) (xs : List Int) : Nat → List (List Int)
  | 0 => [xs]
  | k + 1 => opTails m p k xs 0
theorem op_behind {m : Mk} {p : Nat → Nat → Bool} {xs : List Int} {k : Nat} (hl : (xs.length : Int) + k = m.C) (h : mayB m xs = true) : opFrom m p k xs = opBehind m p xs k := by
  obtain ⟨h1, h2⟩ := may_begins h
  cases k with
  | zero => exact op_zero_yes h1 (by omega)
  | succ k => exact op_succ h1
theorem op_all_behind {m : Mk} (hm : m.ok = true) (p : Nat → Nat → Bool) : opBehind m p [] m.C.toNat = opAll m p := by
  obtain ⟨m1, _⟩ := Mk.ok_true hm
  obtain ⟨k, hk⟩ : ∃ k, m.C.toNat = k + 1 := ⟨m.C.toNat - 1, by omega⟩
  unfold opAll
  rw [hk]
  exact (op_succ rfl).symm

/-! sets -/
/-- the lists of a lock -/
def lockOf (C D : Nat) (p : Nat → Nat → Bool) : List (List Int) := (List.range C).map (fun i => setOf D (p i))
/-- what frees the chambers of a lock -/
def setP (L : List (List Int)) (i d : Nat) : Bool := (L.getD i []).any (fun v => decide (v = (d : Int)))

theorem lockOf_congr {C D : Nat} {p q : Nat → Nat → Bool} (h : ∀ i d, i < C → d < D → p i d = q i d) : lockOf C D p = lockOf C D q := by
  unfold lockOf
  exact List.map_congr_left (fun i hi => setOf_congr (fun d hd => h i d (List.mem_range.1 hi) hd))
theorem lockOf_len (C D : Nat) (p : Nat → Nat → Bool) : (lockOf C D p).length = C := by simp [lockOf]
theorem lockOf_at {C D i : Nat} {p : Nat → Nat → Bool} (h : i < C) : (lockOf C D p)[i]? = some (setOf D (p i)) := by
  unfold lockOf; rw [List.getElem?_map, List.getElem?_range h]; rfl
theorem lockOf_snoc (C D : Nat) (p : Nat → Nat → Bool) : lockOf (C + 1) D p = lockOf C D p ++ [setOf D (p C)] := by
  unfold lockOf; rw [List.range_succ, List.map_append]; rfl
theorem setP_lockOf {C D i d : Nat} {p : Nat → Nat → Bool} (hi : i < C) (hd : d < D) : setP (lockOf C D p) i d = p i d := by
  unfold setP
  rw [List.getD_eq_getElem?_getD, lockOf_at hi]
  exact any_setOf hd

/-- IsLock -/
def lockB (m : Mk) (L : List (List Int)) : Bool := m.ok && (decide ((L.length : Int) = m.C) && L.all (fun s => decide (s.length ≠ 0) && riseB m.D s))
theorem lockB_facts {m : Mk} {L : List (List Int)} (h : lockB m L = true) : m.ok = true ∧ (L.length : Int) = m.C ∧ ∀ (i : Nat) (s : List Int), L[i]? = some s → s.length ≠ 0 ∧ riseB m.D s = true := by
  unfold lockB at h
  simp only [Bool.and_eq_true, decide_eq_true_eq] at h
  refine ⟨h.1, h.2.1, fun i s hs => ?_⟩
  have := List.all_eq_true.1 h.2.2 s (List.mem_of_getElem? hs)
  simpa using this
theorem lockB_no {m : Mk} {L : List (List Int)} {i : Nat} {s : List Int} (hs : L[i]? = some s) (h : s.length = 0 ∨ riseB m.D s = false) : lockB m L = false := by
  unfold lockB
  have : L.all (fun s => decide (s.length ≠ 0) && riseB m.D s) = false := by
    rw [List.all_eq_false]
    refine ⟨s, List.mem_of_getElem? hs, ?_⟩
    rcases h with h | h <;> simp [h]
  rw [this, Bool.and_false, Bool.and_false]
theorem lockB_yes {m : Mk} {L : List (List Int)} (h1 : m.ok = true) (h2 : (L.length : Int) = m.C) (h3 : ∀ (i : Nat) (s : List Int), L[i]? = some s → s.length ≠ 0 ∧ riseB m.D s = true) : lockB m L = true := by
  unfold lockB
  rw [h1, decide_eq_true h2, Bool.true_and, Bool.true_and, List.all_eq_true]
  intro s hs
  obtain ⟨i, hi⟩ := List.getElem?_of_mem hs
  have := h3 i s hi
  simp [this.1, this.2]
/-- the lists of a lock, from what frees its chambers -/
theorem lock_is {m : Mk} {L : List (List Int)} (h : lockB m L = true) : lockOf m.C.toNat m.D.toNat (setP L) = L := by
  obtain ⟨h1, h2, h3⟩ := lockB_facts h
  obtain ⟨m1, m2, m3, _⟩ := Mk.ok_true h1
  refine List.ext_getElem? (fun i => ?_)
  rcases Nat.lt_or_ge i L.length with hlt | hge
  · have hi : L[i]? = some L[i] := List.getElem?_eq_getElem hlt
    rw [lockOf_at (by omega), hi]
    have e : setP L i = fun (d : Nat) => (L[i]).any (fun v => decide (v = (d : Int))) := by
      funext d
      unfold setP
      rw [List.getD_eq_getElem?_getD, hi]; rfl
    rw [e, rise_set (by omega) (h3 i _ hi).2]
  · rw [List.getElem?_eq_none (by rw [lockOf_len]; omega), List.getElem?_eq_none hge]

end Go.Proofs.Ytidjnnooeepklaa

namespace Go.Proofs.Ytidjnnooeepklaa
open Go Go.RowKit

/-- what frees the chambers of a lock whose sets are bits -/
def bitP (vs : Nat → Nat) (i d : Nat) : Bool := (vs i).testBit d
/-- the numbers after a depth has come to the set of a chamber -/
def bitAdd (vs : Nat → Nat) (i d : Nat) : Nat → Nat := fun j => if j = i then nxtU (vs i) d else vs j
theorem bitP_add (vs : Nat → Nat) (i d j e : Nat) : bitP (bitAdd vs i d) j e = (bitP vs j e || (decide (j = i) && decide (e = d))) := by
  unfold bitP bitAdd
  by_cases h : j = i
  · subst h; rw [if_pos rfl, bit_or]; simp
  · rw [if_neg h]; simp [h]
theorem bitAdd_lt {vs : Nat → Nat} (h : ∀ i, vs i < 256) (i : Nat) {d : Nat} (hd : d < 8) : ∀ j, bitAdd vs i d j < 256 := by
  intro j
  unfold bitAdd
  split
  · exact nxtU_lt (h i) hd
  · exact h j
/-- a block that holds a lock of bits -/
def BitBox (w : World) (b : Nat) (t : TypeId) (m : Mk) (vs : Nat → Nat) : Prop := w.heap[b]? = some (.cells #[.int .i64 m.C, .int .i64 m.D, .int .i64 m.S, .int .i64 m.M, .int .i64 m.L, .int .u8 (vs 0 : Nat), .int .u8 (vs 1 : Nat), .int .u8 (vs 2 : Nat), .int .u8 (vs 3 : Nat), .int .u8 (vs 4 : Nat), .int .u8 (vs 5 : Nat)] t (0, 0))
theorem BitBox.lt {w : World} {b : Nat} {t : TypeId} {m : Mk} {vs : Nat → Nat} (h : BitBox w b t m vs) : b < w.heap.size := heapLt h
theorem BitBox.new (w : World) (t : TypeId) (m : Mk) (vs : Nat → Nat) : BitBox (w.alloc (.cells #[.int .i64 m.C, .int .i64 m.D, .int .i64 m.S, .int .i64 m.M, .int .i64 m.L, .int .u8 (vs 0 : Nat), .int .u8 (vs 1 : Nat), .int .u8 (vs 2 : Nat), .int .u8 (vs 3 : Nat), .int .u8 (vs 4 : Nat), .int .u8 (vs 5 : Nat)] t)) w.heap.size t m vs := heap_alloc_new w _
theorem BitBox.below {w w' : World} {b B : Nat} {t : TypeId} {m : Mk} {vs : Nat → Nat} (h : BitBox w b t m vs) (hb : Below B w w') (hB : b < B) : BitBox w' b t m vs := (hb.block b hB).trans h
theorem BitBox.on {w w' : World} {b : Nat} {t : TypeId} {m : Mk} {vs : Nat → Nat} (h : BitBox w b t m vs) (hb : Below w.heap.size w w') : BitBox w' b t m vs := h.below hb h.lt
theorem BitBox.drewN {w : World} {b : Nat} {t : TypeId} {m : Mk} {vs : Nat → Nat} (h : BitBox w b t m vs) (n : Nat) : BitBox (w.drewN n) b t m vs := h
theorem BitBox.alloc {w : World} {b : Nat} {t : TypeId} {m : Mk} {vs : Nat → Nat} (h : BitBox w b t m vs) (o : Obj) : BitBox (w.alloc o) b t m vs := (Below.heap_alloc w o b h.lt).trans h
theorem BitBox.grown {w w' : World} {b : Nat} {t : TypeId} {m : Mk} {vs : Nat → Nat} {row : Option Nat} (h : BitBox w b t m vs) (hg : w.grownBy w' row) (hr : some b ≠ row) : BitBox w' b t m vs := (hg.block b h.lt hr).trans h
theorem BitBox.cells {w : World} {b : Nat} {t : TypeId} {m : Mk} {vs : Nat → Nat} (h : BitBox w b t m vs) : w.cell? ⟨b, 0, none⟩ = some (.int .i64 m.C) ∧ w.cell? ⟨b, 1, none⟩ = some (.int .i64 m.D) ∧ w.cell? ⟨b, 2, none⟩ = some (.int .i64 m.S) ∧ w.cell? ⟨b, 3, none⟩ = some (.int .i64 m.M) ∧ w.cell? ⟨b, 4, none⟩ = some (.int .i64 m.L) ∧
    w.cell? ⟨b, 5, none⟩ = some (.int .u8 (vs 0 : Nat)) ∧ w.cell? ⟨b, 6, none⟩ = some (.int .u8 (vs 1 : Nat)) ∧ w.cell? ⟨b, 7, none⟩ = some (.int .u8 (vs 2 : Nat)) ∧ w.cell? ⟨b, 8, none⟩ = some (.int .u8 (vs 3 : Nat)) ∧ w.cell? ⟨b, 9, none⟩ = some (.int .u8 (vs 4 : Nat)) ∧ w.cell? ⟨b, 10, none⟩ = some (.int .u8 (vs 5 : Nat)) := by
  unfold BitBox at h
  refine ⟨?_, ?_, ?_, ?_, ?_, ?_, ?_, ?_, ?_, ?_, ?_⟩ <;> simp [World.cell?, h]
theorem BitBox.bit {w : World} {b : Nat} {t : TypeId} {m : Mk} {vs : Nat → Nat} (h : BitBox w b t m vs) {i : Nat} (hi : i < 6) : w.cell? ⟨b, 5 + i, none⟩ = some (.int .u8 (vs i : Nat)) := by
  obtain ⟨_, _, _, _, _, h0, h1, h2, h3, h4, h5⟩ := h.cells
  match i, hi with
  | 0, _ => exact h0
  | 1, _ => exact h1
  | 2, _ => exact h2
  | 3, _ => exact h3
  | 4, _ => exact h4
  | 5, _ => exact h5
theorem BitBox.thawed {w : World} {b : Nat} {t : TypeId} {m : Mk} {vs : Nat → Nat} (h : BitBox w b t m vs) (i : Nat) : w.frozen? ⟨b, i, none⟩ = false := by
  unfold BitBox at h
  simp [World.frozen?, h]
/-- a depth has come to the set of a chamber -/
theorem BitBox.put {w : World} {b : Nat} {t : TypeId} {m : Mk} {vs : Nat → Nat} (h : BitBox w b t m vs) {i d : Nat} (hi : i < 6) : BitBox (w.setCell ⟨b, 5 + i, none⟩ (.int .u8 ((nxtU (vs i) d : Nat) : Int))) b t m (bitAdd vs i d) := by
  have hb := h.lt
  unfold BitBox at *
  match i, hi with
  | 0, _ => simp [World.setCell, bitAdd, Array.getElem?_modify, h]
  | 1, _ => simp [World.setCell, bitAdd, Array.getElem?_modify, h]
  | 2, _ => simp [World.setCell, bitAdd, Array.getElem?_modify, h]
  | 3, _ => simp [World.setCell, bitAdd, Array.getElem?_modify, h]
  | 4, _ => simp [World.setCell, bitAdd, Array.getElem?_modify, h]
  | 5, _ => simp [World.setCell, bitAdd, Array.getElem?_modify, h]

theorem u8_or : ∀ v, v < 256 → ∀ d, d < 8 → bits .or .u8 ((v : Nat) : Int) (2 ^ d % 256) = ((nxtU v d : Nat) : Int) := by decide +kernel
theorem u8_has : ∀ v, v < 256 → ∀ d, d < 8 → (bits .and .u8 (((v : Nat) : Int) / 2 ^ d) 1 == 1) = v.testBit d := by decide +kernel

end Go.Proofs.Ytidjnnooeepklaa

namespace Go.Proofs.Ytidjnnooeepklaa
open Go Go.RowKit

/-- from B on nothing that lay has turned, but block b -/
structure Beside (B b : Nat) (A C : World) : Prop where
  size : A.heap.size ≤ C.heap.size
  block : ∀ k, B ≤ k → k < A.heap.size → k ≠ b → C.heap[k]? = A.heap[k]?
theorem Beside.refl (B b : Nat) (A : World) : Beside B b A A := ⟨Nat.le_refl _, fun _ _ _ _ => rfl⟩
theorem Beside.trans {B b : Nat} {A C D : World} (h : Beside B b A C) (k : Beside B b C D) : Beside B b A D :=
  ⟨Nat.le_trans h.size k.size, fun i h1 h2 h3 => (k.block i h1 (Nat.lt_of_lt_of_le h2 h.size) h3).trans (h.block i h1 h2 h3)⟩
theorem Beside.above {B b : Nat} {A C : World} (h : Above B A C) : Beside B b A C := ⟨h.size, fun i h1 h2 _ => h.block i h1 h2⟩
theorem Beside.setCell {B : Nat} (A : World) {p : Addr} (v : Value) : Beside B p.block A (A.setCell p v) := ⟨by simp [World.setCell], fun k _ _ hk => Below.heap_setCell A p v k hk⟩
theorem Beside.low {B b : Nat} {A C : World} (h : Beside B b A C) (hb : Below B A C) : A.grownBy C (some b) := ⟨hb.os, hb.tape, hb.output, h.size, fun k hk hn => by
  rcases Nat.lt_or_ge k B with h1 | h1
  · exact hb.block k h1
  · exact h.block k h1 hk (fun e => hn (by rw [e]))⟩

/-- what is said of a world abides whatever leaves all blocks that lay but block b, which lies from B on -/
def Under1 {β : Type} (B b : Nat) (J : β → World → Prop) : Prop := ∀ s A C, J s A → Below B A C → Beside B b A C → J s C
theorem Under.one {β : Type} {B b : Nat} {J : β → World → Prop} (h : Under B J) : Under1 B b J := fun s A C hs hb _ => h s A C hs hb


/-- from B on nothing that lay has turned, but blocks of a kind -/
structure Spare (B : Nat) (P : Nat → Prop) (A C : World) : Prop where
  size : A.heap.size ≤ C.heap.size
  block : ∀ k, B ≤ k → k < A.heap.size → ¬ P k → C.heap[k]? = A.heap[k]?
theorem Spare.refl (B : Nat) (P : Nat → Prop) (A : World) : Spare B P A A := ⟨Nat.le_refl _, fun _ _ _ _ => rfl⟩
theorem Spare.trans {B : Nat} {P Q : Nat → Prop} {A C D : World} (h : Spare B P A C) (k : Spare B Q C D) (hq : ∀ i, i < A.heap.size → Q i → P i) : Spare B P A D :=
  ⟨Nat.le_trans h.size k.size, fun i h1 h2 h3 => (k.block i h1 (Nat.lt_of_lt_of_le h2 h.size) (fun hi => h3 (hq i h2 hi))).trans (h.block i h1 h2 h3)⟩
theorem Spare.above {B : Nat} {P : Nat → Prop} {A C : World} (h : Above B A C) : Spare B P A C := ⟨h.size, fun i h1 h2 _ => h.block i h1 h2⟩
theorem Spare.beside {B b : Nat} {P : Nat → Prop} {A C : World} (h : Beside B b A C) (hb : P b) : Spare B P A C := ⟨h.size, fun i h1 h2 h3 => h.block i h1 h2 (fun e => h3 (by rw [e]; exact hb))⟩
theorem Spare.mono {B B' : Nat} {P : Nat → Prop} {A C : World} (h : Spare B P A C) (hB : B ≤ B') : Spare B' P A C := ⟨h.size, fun i h1 h2 h3 => h.block i (Nat.le_trans hB h1) h2 h3⟩
/-- a list of the iterator's own is not touched -/
theorem Own.spare {w w' : World} {lo n B : Nat} {P : Nat → Prop} {A : Option Addr} {xs : List Int} (h : Own w lo w.heap.size A n xs) (hb : Spare B P w w') (hB : B ≤ lo) (hP : ∀ ad, A = some ad → ¬ P ad.block) : Own w' lo w'.heap.size A n xs :=
  ⟨h.1, Nat.le_refl _, fun hn => by
    obtain ⟨ad, e, h1, h2, hc⟩ := h.2.2 hn
    refine ⟨ad, e, h1, Nat.lt_of_lt_of_le h2 hb.size, fun j v hv => ?_⟩
    have hk := hb.block (ad.add j).block (by rw [block_of_add]; omega) (by rw [block_of_add]; exact h2) (by rw [block_of_add]; exact hP ad e)
    rw [World.frozen?_of_block (w := w) hk, World.cell?_of_block (w := w) hk]
    exact hc j v hv⟩
/-- the block that the rounds write over: the one that it was, or a new one -/
def Grows (s s' : Option Nat) (n : Nat) : Prop := s' = s ∨ ∃ k, s' = some k ∧ n ≤ k
theorem Grows.less {s s' : Option Nat} {n n' : Nat} (h : Grows s s' n) (hn : n' ≤ n) : Grows s s' n' := by
  rcases h with h | ⟨k, h1, h2⟩
  · exact .inl h
  · exact .inr ⟨k, h1, Nat.le_trans hn h2⟩
theorem Grows.trans {s t u : Option Nat} {n : Nat} (h : Grows s t n) (k : Grows t u n) : Grows s u n := by
  rcases k with rfl | k
  · exact h
  · exact .inr k
theorem Grows.ne {s s' : Option Nat} {n b : Nat} (h : Grows s s' n) (hs : s ≠ some b) (hb : b < n) : s' ≠ some b := by
  rcases h with rfl | ⟨k, rfl, h2⟩
  · exact hs
  · intro e; injection e with e; omega

/-- what an iterator owes that lends lists of k numbers, in the block behind its first new one, one after the other (Mid: of those that have come, the one at hand the last), while the rounds make lists of their own and write over one block of theirs: all is done, S says which have come; or a round has said 'no more', Sp says which had come -/
def Lends1 (F : Fence) (n : Nat) (P : Program) (gf : Nat) (rb lb : Array Value) (k : Nat) (Mid S Sp : List (List Int) → Prop) (w : World) : Prop :=
  ∀ (l : Nat) (J : List (List Int) → Option Nat → World → Prop) (Jx : List (List Int) → World → Prop) (W : World), Below w.heap.size w W → (∀ s, Under1 W.heap.size (W.heap.size + 1) (fun pre => J pre s)) → (∀ pre b W', J pre (some b) W' → b < W'.heap.size) →
    (∀ pre s x v W1, J pre s W1 → Mid (pre ++ [x]) → Lent k W.heap.size x v W1 → (∀ a n c, v = .slice (some a) n c → a.block = W.heap.size + 1) → s ≠ some (W.heap.size + 1) → YieldAt F (n - 1) P l #[v] W1 fun e W' =>
      Spare W.heap.size (fun k => s = some k) W1 W' ∧ ((e = .returned (.bool true) ∧ ∃ s', Grows s s' W1.heap.size ∧ J (pre ++ [x]) s' W') ∨ (e = .returned (.bool false) ∧ Jx (pre ++ [x]) W'))) →
    J [] none W →
    CallsIn F n P gf (rb ++ #[.func (.yield l) #[] #[]] ++ lb) W fun e W' => (∃ v, e = .returned v) ∧ ((∃ xs s, S xs ∧ J xs s W') ∨ (∃ pre, Sp pre ∧ Jx pre W'))

/-- how a round may be left: the caller's own cells (below B) and the block s alone have turned -/
def lentPost1 (B : Nat) (I : List (List Int) → Option Nat → World → Prop) (Ix : Code → List (List Int) → World → Prop) (xs : List (List Int)) (s : Option Nat) (W : World) : Exit → Act → World → Prop
  | .normal, _, W' => Spare B (fun k => s = some k) W W' ∧ ∃ s', Grows s s' W.heap.size ∧ I xs s' W'
  | .ret, _, W' => Spare B (fun k => s = some k) W W' ∧ Ix .ret xs W'
  | .exit id, _, W' => Spare B (fun k => s = some k) W W' ∧ Ix (.exit id) xs W'
  | .goto t, _, W' => Spare B (fun k => s = some k) W W' ∧ Ix (.goto t) xs W'
  | .panic _, _, _ => False
  | .outgrown, _, _ => False

/-- the statement over such an iterator -/
theorem wpIn_lent1 {F : Fence} {n : Nat} {P : Program} {g : Operand} {ps : Array Tmp} {assign body : Code} {Q : Exit → Act → World → Prop} {a : Act} {w : World}
    (hro : F.round = none) (h1 : 1 ≤ n) {gf : Nat} {rb lb : Array Value} (hg : a.eval g = .func (.func gf) rb lb) (hFg : F.fn gf) (eg : ∀ args w, (callFunc gf args).run P w = .ok (.enter gf args) w)
    {k : Nat} {Mid S Sp : List (List Int) → Prop} {w0 : World} (hseq : Lends1 F (n - 1) P gf rb lb k Mid S Sp w0) (hb0 : Below w0.heap.size w0 w) (hps : ps.size = 1)
    (I : List (List Int) → Option Nat → World → Prop) (Ix : Code → List (List Int) → World → Prop) (hI : ∀ xs s A C, I xs s A → Below w.heap.size A C → Beside (w.heap.size + 2) (w.heap.size + 3) A C → I xs s C) (hIs : ∀ xs b A, I xs (some b) A → w.heap.size + 2 ≤ b ∧ b < A.heap.size) (hIx : ∀ c s W o, Ix c s W → Ix c s (W.putObj (w.heap.size + 1) o)) (h0 : I [] none w) (a₁ : Value → Act)
    (hassign : ∀ (l : Nat) (v : Value) (W : World) (K : Act → World → Prop), K (a₁ v) W →
      assign.wpIn (F.inRound l) (n - 1 - 1) P (Exit.then K (fun _ _ _ => False)) { tmps := (ps.zip #[v]).foldl (fun t (p, v) => t.setIfInBounds p v) a.tmps, defers := [] } W)
    (hbody : ∀ (l : Nat) (pre : List (List Int)) (s : Option Nat) (x : List Int) (v : Value) (W : World), I pre s W → Mid (pre ++ [x]) → w.heap.size + 2 ≤ W.heap.size → Lent k (w.heap.size + 2) x v W → (∀ a n c, v = .slice (some a) n c → a.block = w.heap.size + 3) → s ≠ some (w.heap.size + 3) → body.wpIn (F.inRound l) (n - 1 - 1) P (lentPost1 w.heap.size I Ix (pre ++ [x]) s W) (a₁ v) W)
    (hdone : ∀ (xs : List (List Int)) (s : Option Nat) (W : World), S xs → I xs s W → W.heap[w.heap.size]? = some (.deferred (some [])) → Q .normal { a with defers := { target := .collected w.heap.size, args := #[] } :: a.defers } W)
    (hstop : ∀ (c : Code) (pre : List (List Int)) (W : World), Sp pre → Ix c pre W → W.heap[w.heap.size]? = some (.deferred (some [])) → c.wpIn F n P Q { a with defers := { target := .collected w.heap.size, args := #[] } :: a.defers } W) :
    (Code.rangeFunc g ps assign body).wpIn F n P Q a w := by
  refine wpIn_rangeFunc (fun fn hfn => ?_)
  rw [hro]
  let L : LoopState → Option Code → Obj := fun s j => .loop { state := s, pending := j, fn, tmps := a.tmps, params := ps, assign, body, defers := w.heap.size }
  let D : Obj := .deferred (some [])
  generalize hB : w.heap.size = B at *
  have hl0 : ((w.alloc D).alloc (L .ready none)).heap[B + 1]? = some (L .ready none) := by
    have := World.alloc_heap_new (w.alloc D) (L .ready none)
    rwa [World.size_alloc, hB] at this
  have hd0 : ((w.alloc D).alloc (L .ready none)).heap[B]? = some D := by
    rw [← hB]; exact (Below.heap_alloc _ _ _ (by simp)).trans (World.alloc_heap_new w D)
  have hs0 : ((w.alloc D).alloc (L .ready none)).heap.size = B + 2 := by simp [hB]
  have bl : Below B w ((w.alloc D).alloc (L .ready none)) := ((Below.refl B w).alloc (by omega) D).alloc (by simp; omega) _
  have hi0 := hI _ _ _ _ h0 bl (Beside.above ((Above.alloc _ _ _).trans (Above.alloc _ _ _)))
  have bw : Below w0.heap.size w0 ((w.alloc D).alloc (L .ready none)) := hb0.trans (bl.mono (by rw [← hB]; exact hb0.size))
  refine ⟨B + 1, [{ target := .collected B, args := #[] }], (w.alloc D).alloc (L .ready none), { target := .fn (.func gf) lb, args := rb ++ #[.func (.yield (B + 1)) #[] #[]] }, (w.alloc D).alloc (L .ready none), gf,
    rb ++ #[.func (.yield (B + 1)) #[] #[]] ++ lb, (w.alloc D).alloc (L .ready none), ?_, ?_, ?_, ?_, fun _ => h1, ?_⟩
  · rw [← hB]; exact run_enterLoop_outer _ _ _ _ _
  · simp only [resolve, hg]
    simp [go_sem]
  · intro f' hf'; simp [Target.leads] at hf'; subst hf'; exact hFg
  · simp [invoke, go_sem, eg]
  generalize hW0 : (w.alloc D).alloc (L .ready none) = V at *
  refine (hseq (B + 1) (fun pre s W => I pre s W ∧ W.heap[B + 1]? = some (L .ready none) ∧ W.heap[B]? = some D)
    (fun pre W => ∃ c, Ix c pre W ∧ W.heap[B + 1]? = some (L .done (some c)) ∧ W.heap[B]? = some D) V bw
    (fun s xs A C h hb hs => ⟨hI xs s A C h.1 (hb.mono (by omega)) (by rw [hs0] at hs; exact hs), (hb.block _ (by omega)).trans h.2.1, (hb.block _ (by omega)).trans h.2.2⟩) (fun pre b W' h => (hIs _ _ _ h.1).2)
    ?_ ⟨hi0, hl0, hd0⟩).mono ?_
  · -- a round
    rw [hs0]
    intro pre s x v W hJ hM hx hap hsg
    obtain ⟨hi, hl, hd⟩ := hJ
    have hlt : B + 1 < W.heap.size := (Array.getElem?_eq_some_iff.1 hl).1
    refine ⟨fn, _, assign, body, run_yield (P := P) (args := #[v]) hl (by simp [hps]), roundIn_of_wpIn hfn (hassign _ v W _ ⟨_, run_beginRound hl rfl, ?_⟩)⟩
    have hl2 : (W.putObj (B + 1) (L .busy none)).heap[B + 1]? = some (L .busy none) := World.putObj_heap_same hlt
    have hd2 : (W.putObj (B + 1) (L .busy none)).heap[B]? = some D := (World.putObj_heap_other (by omega)).trans hd
    have up : Above (B + 2) W (W.putObj (B + 1) (L .busy none)) := Above.putObj W _ (by omega)
    refine wpIn_mono (hbody _ pre s x v _ (hI _ _ _ _ hi (below_putObj W _ (by omega)) (Beside.above up)) hM (by simp; omega) (hx.above up) hap hsg) ?_
    have hnb : s ≠ some B ∧ s ≠ some (B + 1) := ⟨fun e => by subst e; have := (hIs _ _ _ hi).1; omega, fun e => by subst e; have := (hIs _ _ _ hi).1; omega⟩
    have fin : ∀ (j : Option Code) (W3 : World), Spare B (fun k => s = some k) (W.putObj (B + 1) (L .busy none)) W3 →
        (Instr.endRound (B + 1) j).run P W3 = .ok (.bool j.isNone) (W3.putObj (B + 1) (L (if j.isNone then .ready else .done) j)) ∧ B + 1 < W3.heap.size ∧
        (W3.putObj (B + 1) (L (if j.isNone then .ready else .done) j)).heap[B + 1]? = some (L (if j.isNone then .ready else .done) j) ∧
        (W3.putObj (B + 1) (L (if j.isNone then .ready else .done) j)).heap[B]? = some D := by
      intro j W3 ha
      have h3 : W3.heap[B + 1]? = some (L .busy none) := (ha.block _ (by omega) (by simp; omega) hnb.2).trans hl2
      have h4 : W3.heap[B]? = some D := (ha.block _ (by omega) (by simp; omega) hnb.1).trans hd2
      have h5 := (Array.getElem?_eq_some_iff.1 h3).1
      exact ⟨run_endRound (P := P) j h3, h5, World.putObj_heap_same h5, (World.putObj_heap_other (by omega)).trans h4⟩
    have upp : Spare (B + 2) (fun k => s = some k) W (W.putObj (B + 1) (L .busy none)) := Spare.above up
    intro e a3 W3 hp
    cases e with
    | normal =>
      obtain ⟨ha, s', hg, hi3⟩ := hp
      obtain ⟨hr, h5, hl4, hd4⟩ := fin none W3 ha
      exact ⟨_, _, hr, (upp.trans (ha.mono (by omega)) (fun _ _ h => h)).trans (Q := fun _ => False) (Spare.above (Above.putObj W3 _ (by omega))) (fun _ _ h => h.elim), .inl ⟨rfl, s', by simpa using hg, hI _ _ _ _ hi3 (below_putObj W3 _ (by omega)) (Beside.above (Above.putObj W3 _ (by omega))), hl4, hd4⟩⟩
    | ret =>
      obtain ⟨ha, hi3⟩ := hp
      obtain ⟨hr, h5, hl4, hd4⟩ := fin (some .ret) W3 ha
      exact ⟨_, _, hr, (upp.trans (ha.mono (by omega)) (fun _ _ h => h)).trans (Q := fun _ => False) (Spare.above (Above.putObj W3 _ (by omega))) (fun _ _ h => h.elim), .inr ⟨rfl, .ret, hIx _ _ _ _ hi3, hl4, hd4⟩⟩
    | exit id =>
      obtain ⟨ha, hi3⟩ := hp
      obtain ⟨hr, h5, hl4, hd4⟩ := fin (some (.exit id)) W3 ha
      exact ⟨_, _, hr, (upp.trans (ha.mono (by omega)) (fun _ _ h => h)).trans (Q := fun _ => False) (Spare.above (Above.putObj W3 _ (by omega))) (fun _ _ h => h.elim), .inr ⟨rfl, .exit id, hIx _ _ _ _ hi3, hl4, hd4⟩⟩
    | goto t =>
      obtain ⟨ha, hi3⟩ := hp
      obtain ⟨hr, h5, hl4, hd4⟩ := fin (some (.goto t)) W3 ha
      exact ⟨_, _, hr, (upp.trans (ha.mono (by omega)) (fun _ _ h => h)).trans (Q := fun _ => False) (Spare.above (Above.putObj W3 _ (by omega))) (fun _ _ h => h.elim), .inr ⟨rfl, .goto t, hIx _ _ _ _ hi3, hl4, hd4⟩⟩
    | panic ch => exact hp.elim
    | outgrown => exact hp.elim
  · -- behind the iterator
    intro e W2 hh
    obtain ⟨⟨v, rfl⟩, hh⟩ := hh
    rcases hh with ⟨xs, s, hS, hi, hl, hd⟩ | ⟨pre, hSp, c, hi, hl, hd⟩
    · exact ⟨none, _, run_endLoop (P := P) hl (by simp), hdone xs s _ hS (hI _ _ _ _ hi (below_putObj W2 _ (by omega)) (Beside.above (Above.putObj W2 _ (by omega)))) ((World.putObj_heap_other (by omega)).trans hd)⟩
    · exact ⟨some c, _, run_endLoop (P := P) hl (by simp), hstop c pre _ hSp (hIx c _ _ _ hi) ((World.putObj_heap_other (by omega)).trans hd)⟩

end Go.Proofs.Ytidjnnooeepklaa

namespace Go.Proofs.Ytidjnnooeepklaa
open Go.RowKit

end Go.Proofs.Ytidjnnooeepklaa

namespace Go.Proofs.Ytidjnnooeepklaa
open Go.RowKit

def signsV (xs : List Int) : List Value := xs.map (fun v => Value.int .u8 (48 + v))
theorem signsV_step {xs : List Int} {k : Nat} {v : Int} (hv : xs[k]? = some v) : signsV (xs.take k) ++ [.int .u8 (48 + v)] = signsV (xs.take (k + 1)) := by
  obtain ⟨hk, rfl⟩ := List.getElem?_eq_some_iff.1 hv
  unfold signsV
  rw [List.take_succ_eq_append_getElem hk, List.map_append]; rfl

end Go.Proofs.Ytidjnnooeepklaa
