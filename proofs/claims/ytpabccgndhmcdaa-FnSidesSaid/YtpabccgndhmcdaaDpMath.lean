/- The table of states: sums over it, and that it counts the keys. No program text. -/
import Derived.Test.YtpabccgndhmcdaaKeyMath
namespace Go.Proofs.Ytpabccgndhmcdaa

def sumN : Nat → (Nat → Int) → Int
  | 0, _ => 0
  | n + 1, f => sumN n f + f n
theorem sumN_congr {f g : Nat → Int} : ∀ {n : Nat}, (∀ i, i < n → f i = g i) → sumN n f = sumN n g
  | 0, _ => rfl
  | n + 1, h => by
    show sumN n f + f n = sumN n g + g n
    rw [sumN_congr (fun i hi => h i (by omega)), h n (by omega)]
theorem sumN_le {f g : Nat → Int} : ∀ {n : Nat}, (∀ i, i < n → f i ≤ g i) → sumN n f ≤ sumN n g
  | 0, _ => Int.le_refl _
  | n + 1, h => by
    show sumN n f + f n ≤ sumN n g + g n
    have := sumN_le (f := f) (g := g) (n := n) (fun i hi => h i (by omega))
    have := h n (by omega)
    omega
theorem sumN_nonneg {f : Nat → Int} : ∀ {n : Nat}, (∀ i, i < n → 0 ≤ f i) → 0 ≤ sumN n f
  | 0, _ => Int.le_refl _
  | n + 1, h => by
    show 0 ≤ sumN n f + f n
    have := sumN_nonneg (f := f) (n := n) (fun i hi => h i (by omega))
    have := h n (by omega)
    omega
theorem sumN_up {f : Nat → Int} {a b : Nat} (h : a ≤ b) (h0 : ∀ i, i < b → 0 ≤ f i) : sumN a f ≤ sumN b f := by
  induction b with
  | zero => obtain rfl : a = 0 := by omega
            exact Int.le_refl _
  | succ b ih =>
    by_cases e : a = b + 1
    · subst e; exact Int.le_refl _
    · have := ih (by omega) (fun i hi => h0 i (by omega))
      have h1 := h0 b (by omega)
      show _ ≤ sumN b f + f b
      omega
theorem sumN_at {f : Nat → Int} {n i : Nat} (hi : i < n) (h0 : ∀ i, i < n → 0 ≤ f i) : f i ≤ sumN n f := by
  have h1 := sumN_up (f := f) (a := i + 1) (b := n) (by omega) h0
  have h2 : 0 ≤ sumN i f := sumN_nonneg (fun j hj => h0 j (by omega))
  have h3 : sumN (i + 1) f = sumN i f + f i := rfl
  omega
theorem sumN_mul {f : Nat → Int} (x : Int) : ∀ n, sumN n (fun i => x * f i) = x * sumN n f
  | 0 => by simp [sumN]
  | n + 1 => by
    show sumN n _ + x * f n = x * (sumN n f + f n)
    rw [sumN_mul x n, Int.mul_add]

/-- the place of a state -/
def idx (l r u : Nat) : Nat := l * 1792 + r * 256 + u
theorem idx_inj {l r u l' r' u' : Nat} (hr : r < 7) (hr' : r' < 7) (hu : u < 256) (hu' : u' < 256) (h : idx l r u = idx l' r' u') : l = l' ∧ r = r' ∧ u = u' := by
  unfold idx at h; omega
theorem idx_lt {l r u : Nat} (hl : l < 8) (hr : r < 7) (hu : u < 256) : idx l r u < 14336 := by unfold idx; omega
def rowS (F : Nat → Int) (W : Nat → Nat → Nat → Int) (l r n : Nat) : Int := sumN n (fun u => F (idx l r u) * W l r u)
def colS (F : Nat → Int) (W : Nat → Nat → Nat → Int) (l n : Nat) : Int := sumN n (fun r => rowS F W l (r + 1) 256)
def totS (F : Nat → Int) (W : Nat → Nat → Nat → Int) (M n : Nat) : Int := sumN n (fun l => colS F W l M)
def upd (F : Nat → Int) (i : Nat) (x : Int) : Nat → Int := fun j => if j = i then F j + x else F j

theorem rowS_upd (F : Nat → Int) (W : Nat → Nat → Nat → Int) {l r c r' v : Nat} (x : Int) (hr : r < 7) (hr' : r' < 7) (hv : v < 256) : ∀ n, n ≤ 256 → rowS (upd F (idx c r' v) x) W l r n = rowS F W l r n + if l = c ∧ r = r' ∧ v < n then x * W c r' v else 0
  | 0, _ => by simp [rowS, sumN]
  | n + 1, hn => by
    have ih := rowS_upd F W (l := l) (r := r) (c := c) (r' := r') (v := v) x hr hr' hv n (by omega)
    show rowS (upd F (idx c r' v) x) W l r n + (upd F (idx c r' v) x) (idx l r n) * W l r n = rowS F W l r n + F (idx l r n) * W l r n + _
    rw [ih]
    unfold upd
    by_cases e : idx l r n = idx c r' v
    · obtain ⟨rfl, rfl, rfl⟩ := idx_inj hr hr' (by omega) hv e
      rw [if_pos rfl, if_neg (by omega), if_pos (by omega), Int.add_mul]
      omega
    · rw [if_neg e]
      by_cases h1 : l = c ∧ r = r' ∧ v < n
      · rw [if_pos h1, if_pos (by omega)]; omega
      · rw [if_neg h1, if_neg]
        · omega
        · rintro ⟨rfl, rfl, h2⟩
          obtain rfl : v = n := by omega
          exact e rfl
theorem colS_upd (F : Nat → Int) (W : Nat → Nat → Nat → Int) {l c r' v : Nat} (x : Int) (hr' : r' < 7) (hv : v < 256) : ∀ n, n ≤ 6 → colS (upd F (idx c r' v) x) W l n = colS F W l n + if l = c ∧ 1 ≤ r' ∧ r' ≤ n then x * W c r' v else 0
  | 0, _ => by simp [colS, sumN]; omega
  | n + 1, hn => by
    have ih := colS_upd F W (l := l) (c := c) (r' := r') (v := v) x hr' hv n (by omega)
    show colS (upd F (idx c r' v) x) W l n + rowS (upd F (idx c r' v) x) W l (n + 1) 256 = colS F W l n + rowS F W l (n + 1) 256 + _
    rw [ih, rowS_upd F W x (by omega) hr' hv 256 (by omega)]
    by_cases h1 : l = c ∧ n + 1 = r' ∧ v < 256
    · rw [if_pos h1, if_neg (by omega), if_pos (by omega)]; omega
    · rw [if_neg h1]
      by_cases h2 : l = c ∧ 1 ≤ r' ∧ r' ≤ n
      · rw [if_pos h2, if_pos (by omega)]; omega
      · rw [if_neg h2, if_neg (by omega)]; omega
theorem totS_upd (F : Nat → Int) (W : Nat → Nat → Nat → Int) {M c r' v : Nat} (x : Int) (hM : M ≤ 6) (h1 : 1 ≤ r') (h2 : r' ≤ M) (hv : v < 256) : ∀ n, totS (upd F (idx c r' v) x) W M n = totS F W M n + if c < n then x * W c r' v else 0
  | 0 => by simp [totS, sumN]
  | n + 1 => by
    have ih := totS_upd F W (M := M) (c := c) (r' := r') (v := v) x hM h1 h2 hv n
    show totS (upd F (idx c r' v) x) W M n + colS (upd F (idx c r' v) x) W n M = totS F W M n + colS F W n M + _
    rw [ih, colS_upd F W x (by omega) hv M hM]
    by_cases e : n = c
    · subst e
      rw [if_neg (by omega), if_pos ⟨rfl, h1, h2⟩, if_pos (by omega)]; omega
    · rw [if_neg (c := n = c ∧ 1 ≤ r' ∧ r' ≤ M) (by omega)]
      by_cases h3 : c < n
      · rw [if_pos h3, if_pos (by omega)]; omega
      · rw [if_neg h3, if_neg (by omega)]; omega

/-! one cut more -/
def nxtR (l r c : Nat) : Nat := if c = l then r + 1 else 1
def nxtU (u c : Nat) : Nat := u ||| (1 <<< c)
def nxtOk (m : Mk) (l r c : Nat) : Bool := inB ((c : Int) - (l : Int)) (-m.S) m.S && decide ((nxtR l r c : Int) ≤ m.M)
def nextW (m : Mk) (W : Nat → Nat → Nat → Int) (l r u : Nat) : Int := sumN m.D.toNat (fun c => if nxtOk m l r c then W c (nxtR l r c) (nxtU u c) else 0)
def addsN (m : Mk) (F : Nat → Int) (l r u : Nat) (x : Int) : Nat → (Nat → Int)
  | 0 => F
  | c + 1 => if nxtOk m l r c then upd (addsN m F l r u x c) (idx c (nxtR l r c) (nxtU u c)) x else addsN m F l r u x c
theorem nxtU_lt {u c : Nat} (hu : u < 256) (hc : c < 8) : nxtU u c < 256 := by
  have h : ∀ c, c < 8 → 1 <<< c < 256 := by decide
  exact Nat.or_lt_two_pow (n := 8) hu (h c hc)
theorem nxtR_range {m : Mk} {l r c : Nat} (h : nxtOk m l r c = true) (hM : 0 ≤ m.M) : 1 ≤ nxtR l r c ∧ nxtR l r c ≤ m.M.toNat := by
  unfold nxtOk at h
  rw [Bool.and_eq_true] at h
  have := h.2
  simp at this
  refine ⟨by unfold nxtR; split <;> omega, by omega⟩
def NonNeg (F : Nat → Int) : Prop := ∀ i, 0 ≤ F i
theorem upd_nonneg {F : Nat → Int} {i : Nat} {x : Int} (h : NonNeg F) (hx : 0 ≤ x) : NonNeg (upd F i x) := by
  intro j
  unfold upd
  have := h j
  split <;> omega
theorem adds_nonneg {m : Mk} {F : Nat → Int} {l r u : Nat} {x : Int} (h : NonNeg F) (hx : 0 ≤ x) : ∀ n, NonNeg (addsN m F l r u x n)
  | 0 => h
  | n + 1 => by
    unfold addsN
    split
    · exact upd_nonneg (adds_nonneg h hx n) hx
    · exact adds_nonneg h hx n
theorem totS_adds {m : Mk} {F : Nat → Int} {W : Nat → Nat → Nat → Int} {l r u : Nat} {x : Int} (h0 : 0 ≤ m.M) (hM : m.M ≤ 6) (hu : u < 256) (hD : m.D ≤ 8) : ∀ n, n ≤ m.D.toNat → totS (addsN m F l r u x n) W m.M.toNat m.D.toNat = totS F W m.M.toNat m.D.toNat + x * sumN n (fun c => if nxtOk m l r c then W c (nxtR l r c) (nxtU u c) else 0)
  | 0, _ => by simp [addsN, sumN]
  | n + 1, hn => by
    have ih := totS_adds (F := F) (W := W) (l := l) (r := r) (u := u) (x := x) h0 hM hu hD n (by omega)
    show totS (if nxtOk m l r n = true then upd (addsN m F l r u x n) (idx n (nxtR l r n) (nxtU u n)) x else addsN m F l r u x n) W m.M.toNat m.D.toNat = totS F W m.M.toNat m.D.toNat + x * (sumN n (fun c => if nxtOk m l r c then W c (nxtR l r c) (nxtU u c) else 0) + (if nxtOk m l r n = true then W n (nxtR l r n) (nxtU u n) else 0))
    by_cases hq : nxtOk m l r n = true
    · obtain ⟨r1, r2⟩ := nxtR_range hq h0
      rw [if_pos hq, if_pos hq, totS_upd _ W x (by omega) r1 r2 (nxtU_lt hu (by omega)), ih, if_pos (by omega), Int.mul_add]
      omega
    · rw [if_neg hq, if_neg hq, ih, Int.add_zero]

/-! bounds -/
def one3 : Nat → Nat → Nat → Int := fun _ _ _ => 1
theorem rowS_nonneg {F : Nat → Int} {W : Nat → Nat → Nat → Int} {l r n : Nat} (h : NonNeg F) (hW : ∀ l r u, 0 ≤ W l r u) : 0 ≤ rowS F W l r n := sumN_nonneg (fun _ _ => Int.mul_nonneg (h _) (hW _ _ _))
theorem colS_nonneg {F : Nat → Int} {W : Nat → Nat → Nat → Int} {l n : Nat} (h : NonNeg F) (hW : ∀ l r u, 0 ≤ W l r u) : 0 ≤ colS F W l n := sumN_nonneg (fun _ _ => rowS_nonneg h hW)
theorem totS_nonneg {F : Nat → Int} {W : Nat → Nat → Nat → Int} {M n : Nat} (h : NonNeg F) (hW : ∀ l r u, 0 ≤ W l r u) : 0 ≤ totS F W M n := sumN_nonneg (fun _ _ => colS_nonneg h hW)
/-- partial sums are no more than the whole -/
theorem part_le {F : Nat → Int} {W : Nat → Nat → Nat → Int} {M D l r n : Nat} (h : NonNeg F) (hW : ∀ l r u, 0 ≤ W l r u) (hl : l < D) (hr : r < M) (hn : n ≤ 256) : totS F W M l + colS F W l r + rowS F W l (r + 1) n ≤ totS F W M D := by
  have h1 : rowS F W l (r + 1) n ≤ rowS F W l (r + 1) 256 := sumN_up hn (fun i _ => Int.mul_nonneg (h _) (hW _ _ _))
  have h2 : colS F W l (r + 1) ≤ colS F W l M := sumN_up (by omega) (fun i _ => rowS_nonneg h hW)
  have h3 : colS F W l (r + 1) = colS F W l r + rowS F W l (r + 1) 256 := rfl
  have h4 : totS F W M (l + 1) ≤ totS F W M D := sumN_up (by omega) (fun i _ => colS_nonneg h hW)
  have h5 : totS F W M (l + 1) = totS F W M l + colS F W l M := rfl
  omega
theorem entry_le {F : Nat → Int} {M D l r u : Nat} (h : NonNeg F) (hl : l < D) (h1 : 1 ≤ r) (hr : r ≤ M) (hu : u < 256) : F (idx l r u) ≤ totS F one3 M D := by
  have ho : ∀ l r u, 0 ≤ one3 l r u := fun _ _ _ => by unfold one3; omega
  have := part_le (F := F) (W := one3) (M := M) (D := D) (l := l) (r := r - 1) (n := u + 1) h ho hl (by omega) (by omega)
  rw [show r - 1 + 1 = r by omega] at this
  have a := totS_nonneg (F := F) (W := one3) (M := M) (n := l) h ho
  have b := colS_nonneg (F := F) (W := one3) (l := l) (n := r - 1) h ho
  have c : rowS F one3 l r (u + 1) = rowS F one3 l r u + F (idx l r u) * 1 := rfl
  have d := rowS_nonneg (F := F) (W := one3) (l := l) (r := r) (n := u) h ho
  omega
theorem next_one {m : Mk} (hD : m.D ≤ 8) (l r u : Nat) : 0 ≤ nextW m one3 l r u ∧ nextW m one3 l r u ≤ 8 := by
  constructor
  · refine sumN_nonneg (fun c _ => ?_)
    unfold one3; split <;> omega
  · have h : ∀ n, sumN n (fun c => if nxtOk m l r c then one3 c (nxtR l r c) (nxtU u c) else 0) ≤ n := by
      intro n
      induction n with
      | zero => simp [sumN]
      | succ n ih =>
        show sumN n _ + (if nxtOk m l r n then one3 n (nxtR l r n) (nxtU u n) else 0) ≤ _
        have : (if nxtOk m l r n then one3 n (nxtR l r n) (nxtU u n) else 0) ≤ 1 := by unfold one3; split <;> omega
        omega
    have := h m.D.toNat
    unfold nextW
    omega
theorem rowS_le {F : Nat → Int} {W W' : Nat → Nat → Nat → Int} {l r n : Nat} (h : NonNeg F) (hW : ∀ l r u, W l r u ≤ W' l r u) : rowS F W l r n ≤ rowS F W' l r n := sumN_le (fun _ _ => Int.mul_le_mul_of_nonneg_left (hW _ _ _) (h _))
theorem totS_le {F : Nat → Int} {W W' : Nat → Nat → Nat → Int} {M n : Nat} (h : NonNeg F) (hW : ∀ l r u, W l r u ≤ W' l r u) : totS F W M n ≤ totS F W' M n := sumN_le (fun _ _ => sumN_le (fun _ _ => rowS_le h hW))
theorem rowS_mul {F : Nat → Int} {W : Nat → Nat → Nat → Int} (x : Int) {l r n : Nat} : rowS F (fun l r u => x * W l r u) l r n = x * rowS F W l r n := by
  unfold rowS
  rw [← sumN_mul]
  refine sumN_congr (fun i _ => ?_)
  rw [← Int.mul_assoc, Int.mul_comm (F _) x, Int.mul_assoc]
theorem totS_mul {F : Nat → Int} {W : Nat → Nat → Nat → Int} (x : Int) {M n : Nat} : totS F (fun l r u => x * W l r u) M n = x * totS F W M n := by
  unfold totS
  rw [← sumN_mul]
  refine sumN_congr (fun i _ => ?_)
  unfold colS
  rw [← sumN_mul]
  exact sumN_congr (fun i _ => rowS_mul x)
theorem tot_next {m : Mk} {F : Nat → Int} (h : NonNeg F) (hD : m.D ≤ 8) : totS F (nextW m one3) m.M.toNat m.D.toNat ≤ 8 * totS F one3 m.M.toNat m.D.toNat := by
  rw [← totS_mul]
  exact totS_le h (fun l r u => by have := (next_one hD l r u).2; unfold one3 at *; omega)

/-! the states of beginnings -/
def pc (u : Nat) : Nat := (List.range 8).foldl (fun a b => a + if u.testBit b then 1 else 0) 0
def maskOf (xs : List Int) : Nat := xs.foldl (fun a v => nxtU a v.toNat) 0
def lastOf (xs : List Int) : Nat := (xs.getD (xs.length - 1) 0).toNat
theorem pc_or : ∀ u, u < 256 → ∀ c, c < 8 → pc (nxtU u c) = pc u + if u.testBit c then 0 else 1 := by decide +kernel
theorem bit_or {u c j : Nat} : (nxtU u c).testBit j = (u.testBit j || decide (j = c)) := by
  unfold nxtU
  rw [Nat.testBit_or, Nat.one_shiftLeft, Nat.testBit_two_pow]
  congr 1
  rw [Bool.eq_iff_iff]; simp [eq_comm]
theorem mask_snoc (xs : List Int) (d : Nat) : maskOf (xs ++ [(d : Int)]) = nxtU (maskOf xs) d := by
  unfold maskOf; rw [List.foldl_append]; simp
theorem mask_from (xs : List Int) : ∀ a, a < 256 → allIn 0 7 xs = true → xs.foldl (fun a v => nxtU a v.toNat) a < 256 := by
  induction xs with
  | nil => exact fun a h _ => h
  | cons x r ih =>
    intro a ha hd
    have h1 : allIn 0 7 r = true ∧ inB x 0 7 = true := by
      unfold allIn at *
      rw [List.all_cons, Bool.and_eq_true] at hd
      exact ⟨hd.2, hd.1⟩
    have h2 := inB_true.1 h1.2
    exact ih _ (nxtU_lt ha (by omega)) h1.1
theorem mask_lt {xs : List Int} (h : allIn 0 7 xs = true) : maskOf xs < 256 := mask_from xs 0 (by decide) h
theorem mask_bit_from (xs : List Int) (j : Nat) : ∀ a, (∀ v ∈ xs, 0 ≤ v) → (xs.foldl (fun a v => nxtU a v.toNat) a).testBit j = (a.testBit j || xs.any (fun v => decide (v = (j : Int)))) := by
  induction xs with
  | nil => intro a _; simp
  | cons x r ih =>
    intro a hx
    rw [List.foldl_cons, ih _ (fun v hv => hx v (List.mem_cons_of_mem _ hv)), bit_or, List.any_cons, Bool.or_assoc]
    congr 2
    have := hx x (List.mem_cons_self ..)
    rw [Bool.eq_iff_iff]; simp; omega
theorem mask_bit {xs : List Int} (j : Nat) (h : ∀ v ∈ xs, 0 ≤ v) : (maskOf xs).testBit j = xs.any (fun v => decide (v = (j : Int))) := by
  unfold maskOf
  rw [mask_bit_from xs j 0 h]; simp
theorem kinds_snoc (xs : List Int) (d : Int) : kinds (xs ++ [d]) = kinds xs + if xs.any (fun v => decide (v = d)) = true then 0 else 1 := by
  unfold kinds
  rw [List.length_append]
  show kindsAt (xs ++ [d]) xs.length + (if ((xs ++ [d]).take xs.length).any (fun v => decide (v = (xs ++ [d]).getD xs.length 0)) = true then 0 else 1) = _
  rw [kindsAt_left (Nat.le_refl _), List.take_left' rfl]
  have : (xs ++ [d]).getD xs.length 0 = d := by rw [List.getD_eq_getElem?_getD, List.getElem?_append_right (Nat.le_refl _)]; simp
  rw [this]
theorem nonneg_of {xs : List Int} {b : Int} (h : allIn 0 b xs = true) : ∀ v ∈ xs, 0 ≤ v := by
  intro v hv
  unfold allIn at h
  exact (inB_true.1 (List.all_eq_true.1 h v hv)).1
theorem snoc_ind {P : List Int → Prop} (h0 : P []) (h1 : ∀ xs d, P xs → P (xs ++ [d])) (xs : List Int) : P xs := by
  have : ∀ ys : List Int, P ys.reverse := by
    intro ys
    induction ys with
    | nil => exact h0
    | cons y r ih => rw [List.reverse_cons]; exact h1 _ _ ih
  have h := this xs.reverse
  rwa [List.reverse_reverse] at h
theorem pc_mask (xs : List Int) : allIn 0 7 xs = true → pc (maskOf xs) = kinds xs := by
  refine snoc_ind (P := fun xs => allIn 0 7 xs = true → pc (maskOf xs) = kinds xs) (fun _ => rfl) ?_ xs
  intro xs d ih hd
  have h1 : allIn 0 7 xs = true ∧ inB d 0 7 = true := by
    unfold allIn at *
    rw [List.all_append, Bool.and_eq_true] at hd
    refine ⟨hd.1, ?_⟩
    simpa using hd.2
  have h2 := inB_true.1 h1.2
  obtain ⟨e, rfl⟩ := Int.eq_ofNat_of_zero_le h2.1
  have hm := mask_snoc xs e
  rw [hm, pc_or _ (mask_lt h1.1) e (by omega), ih h1.1, mask_bit e (nonneg_of h1.1), kinds_snoc]
theorem last_snoc (xs : List Int) (d : Nat) : lastOf (xs ++ [(d : Int)]) = d := by
  unfold lastOf
  rw [List.length_append, List.getD_eq_getElem?_getD, List.getElem?_append_right (by simp)]
  simp
theorem run_snoc {xs : List Int} {d : Nat} (hp : 0 < xs.length) (h : ∀ v ∈ xs, 0 ≤ v) : runAt (xs ++ [(d : Int)]) (xs.length + 1) = nxtR (lastOf xs) (runAt xs xs.length) d := by
  have hl : xs[xs.length - 1]? = some (xs[xs.length - 1]'(by omega)) := List.getElem?_eq_getElem _
  have h0 := h _ (List.mem_of_getElem? hl)
  have e1 : (xs ++ [(d : Int)]).getD xs.length 0 = (d : Int) := by rw [List.getD_eq_getElem?_getD, List.getElem?_append_right (Nat.le_refl _)]; simp
  have e2 : (xs ++ [(d : Int)]).getD (xs.length - 1) 0 = xs[xs.length - 1]'(by omega) := by rw [getD_left (by omega), getD_at hl]
  show (if 0 < xs.length ∧ (xs ++ [(d : Int)]).getD xs.length 0 ≠ (xs ++ [(d : Int)]).getD (xs.length - 1) 0 then 1 else runAt (xs ++ [(d : Int)]) xs.length + 1) = _
  rw [e1, e2, runAt_left (Nat.le_refl _)]
  unfold nxtR lastOf
  rw [getD_at hl]
  by_cases hd : (d : Int) = xs[xs.length - 1]'(by omega)
  · rw [if_neg (fun h => h.2 hd), if_pos (by omega)]
  · rw [if_pos ⟨hp, hd⟩, if_neg (by omega)]
theorem range_all_succ {p : Nat → Bool} (n : Nat) : (List.range (n + 1)).all p = ((List.range n).all p && p n) := by
  rw [List.range_succ, List.all_append]; simp
theorem begins_snoc {m : Mk} {xs : List Int} {d : Nat} (hp : 0 < xs.length) (h : ∀ v ∈ xs, 0 ≤ v) (hb : beginsB m xs = true) : beginsB m (xs ++ [(d : Int)]) = nxtOk m (lastOf xs) (runAt xs xs.length) d := by
  unfold beginsB at hb
  rw [Bool.and_eq_true] at hb
  have hl : xs[xs.length - 1]? = some (xs[xs.length - 1]'(by omega)) := List.getElem?_eq_getElem _
  have h0 := h _ (List.mem_of_getElem? hl)
  have e1 : (xs ++ [(d : Int)]).getD xs.length 0 = (d : Int) := by rw [List.getD_eq_getElem?_getD, List.getElem?_append_right (Nat.le_refl _)]; simp
  have e2 : (xs ++ [(d : Int)]).getD (xs.length - 1) 0 = xs[xs.length - 1]'(by omega) := by rw [getD_left (by omega), getD_at hl]
  have s1 : (List.range xs.length).all (stepAt m.S (xs ++ [(d : Int)])) = true := by
    have := hb.1
    unfold stepsB at this
    rw [List.all_eq_true] at *
    intro j hj
    rw [stepAt_left (List.mem_range.1 hj)]
    exact this j hj
  have s2 : (List.range xs.length).all (runOk m.M (xs ++ [(d : Int)])) = true := by
    have := hb.2
    unfold runsB at this
    rw [List.all_eq_true] at *
    intro j hj
    have h3 := List.mem_range.1 hj
    unfold runOk at *
    rw [runAt_left (by omega)]
    exact this j hj
  unfold beginsB stepsB runsB
  rw [List.length_append, show [(d : Int)].length = 1 from rfl, range_all_succ, range_all_succ, s1, s2, Bool.true_and, Bool.true_and]
  unfold nxtOk
  congr 1
  · unfold stepAt
    rw [e1, e2, decide_eq_false (by omega), Bool.false_or]
    unfold lastOf
    rw [getD_at hl, show ((xs[xs.length - 1].toNat : Nat) : Int) = xs[xs.length - 1] by omega]
  · unfold runOk
    rw [run_snoc hp h]

/-! the count -/
def nW (m : Mk) : Nat → (Nat → Nat → Nat → Int) → (Nat → Nat → Nat → Int)
  | 0, W => W
  | k + 1, W => nW m k (nextW m W)
theorem nW_comm (m : Mk) : ∀ (k : Nat) (W : Nat → Nat → Nat → Int), nW m (k + 1) W = nextW m (nW m k W)
  | 0, _ => rfl
  | k + 1, W => nW_comm m k (nextW m W)
def leastW (m : Mk) : Nat → Nat → Nat → Int := fun _ _ u => if m.L ≤ (pc u : Int) then 1 else 0
theorem flat_sum (f : Nat → List (List Int)) : ∀ n, (((List.range n).flatMap f).length : Int) = sumN n (fun d => ((f d).length : Int))
  | 0 => rfl
  | n + 1 => by
    rw [List.range_succ, List.flatMap_append, List.length_append]
    show _ = sumN n _ + _
    rw [← flat_sum f n]
    simp
theorem tails_sum (m : Mk) (k : Nat) (xs : List Int) : ((tails m k xs 0).length : Int) = sumN m.D.toNat (fun d => ((keysFrom m k (xs ++ [(d : Int)])).length : Int)) := by
  unfold tails
  rw [List.drop_zero]
  exact flat_sum _ _
theorem len_keys {m : Mk} (hD : m.D ≤ 8) : ∀ (k : Nat) (xs : List Int), 0 < xs.length → allIn 0 (m.D - 1) xs = true → beginsB m xs = true → ((keysFrom m k xs).length : Int) = nW m k (leastW m) (lastOf xs) (runAt xs xs.length) (maskOf xs)
  | 0, xs, hp, hd, hb => by
    show _ = leastW m _ _ _
    unfold leastW
    rw [pc_mask xs (allIn_wide hd (Int.le_refl _) (by omega))]
    by_cases h : m.L ≤ (kinds xs : Int)
    · rw [keys_zero_yes hb h, if_pos h]; rfl
    · rw [keys_zero_no hb h, if_neg h]; rfl
  | k + 1, xs, hp, hd, hb => by
    rw [keys_succ hb, nW_comm, tails_sum]
    unfold nextW
    refine sumN_congr (fun d hdD => ?_)
    have hn := nonneg_of hd
    rcases hq : nxtOk m (lastOf xs) (runAt xs xs.length) d with _ | _
    · rw [keys_stop (by rw [begins_snoc hp hn hb]; exact hq), if_neg (by simp)]; rfl
    · rw [if_pos rfl, len_keys hD k (xs ++ [(d : Int)]) (by simp) (depth_snoc' hd (by omega)) (by rw [begins_snoc hp hn hb]; exact hq), last_snoc, mask_snoc, List.length_append]
      rw [show [(d : Int)].length = 1 from rfl, run_snoc hp hn]
where
  depth_snoc' {m : Mk} {xs : List Int} {d : Nat} (h : allIn 0 (m.D - 1) xs = true) (hd : (d : Int) < m.D) : allIn 0 (m.D - 1) (xs ++ [(d : Int)]) = true := by
    unfold allIn at *
    rw [List.all_append, h]
    simp [inB]; omega
theorem count_all {m : Mk} (hm : m.ok = true) : ((allKeys m).length : Int) = sumN m.D.toNat (fun c => nW m (m.C.toNat - 1) (leastW m) c 1 (1 <<< c)) := by
  obtain ⟨m1, m2, m3, m4, m5, m6, m7, m8, m9, m10, m11⟩ := Mk.ok_true hm
  unfold allKeys
  rw [show m.C.toNat = m.C.toNat - 1 + 1 by omega, keys_succ (beginsB_nil m), tails_sum]
  refine sumN_congr (fun d hd => ?_)
  have hb : beginsB m [(d : Int)] = true := by
    unfold beginsB stepsB runsB
    simp [stepAt, runOk, runAt]
    omega
  show ((keysFrom m (m.C.toNat - 1) [(d : Int)]).length : Int) = _
  rw [len_keys m4 (m.C.toNat - 1) [(d : Int)] (by simp) (by simp [allIn, inB]; omega) hb]
  have e1 : lastOf [(d : Int)] = d := last_snoc [] d
  have e2 : maskOf [(d : Int)] = 1 <<< d := by
    have := mask_snoc [] d
    simp only [List.nil_append] at this
    rw [this]
    unfold nxtU maskOf
    simp
  have e3 : runAt [(d : Int)] 1 = 1 := by simp [runAt]
  rw [e1, e2, show [(d : Int)].length = 1 from rfl, e3]
  rfl

end Go.Proofs.Ytpabccgndhmcdaa
