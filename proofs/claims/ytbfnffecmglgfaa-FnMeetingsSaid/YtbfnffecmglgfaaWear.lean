/- Chapter 8 as plain functions: free places, worn cuts, worn locks, neighbours. No program text. -/
import Derived.Test.YtbfnffecmglgfaaCntOp
namespace Go.Proofs.Ytbfnffecmglgfaa
open Go Go.RowKit

/-- a place is free for a set of depths -/
def freeAt (p : Nat → Bool) (t x : Int) : Bool := (List.range 8).any (fun d => p d && inB (x - 10 * (d : Int)) (-t) t)
/-- .. for a list of depths -/
def freeL (ys : List Int) (t x : Int) : Bool := ys.any (fun v => decide (absI (x - 10 * v) ≤ t))
/-- one, and each, of k places of a worn cut is free -/
def someAt (f : Int → Bool) (c : Int) (k : Nat) : Bool := (List.range k).any (fun j => f (10 * c + (j : Int)))
def everyAt (f : Int → Bool) (c : Int) (k : Nat) : Bool := (List.range k).all (fun j => f (10 * c + (j : Int)))
/-- which cuts may free, and surely free, the chambers; k places -/
def mayP (p : Nat → Nat → Bool) (t : Int) (k : Nat) (i d : Nat) : Bool := someAt (freeAt (p i) t) (d : Int) k
def sureP (p : Nat → Nat → Bool) (t : Int) (k : Nat) (i d : Nat) : Bool := everyAt (freeAt (p i) t) (d : Int) k
/-- which depths the worn cuts of a key may free -/
def nearP (xs : List Int) (t : Int) (k : Nat) (i d : Nat) : Bool := someAt (freeAt (fun e => decide (e = d)) t) (xs.getD i 0) k
/-- wear and tolerance are in their ranges -/
def isTol (t : Int) : Bool := inB t 0 4
def isFit (wr t : Int) : Bool := inB wr 0 19 && isTol t
theorem fit_facts {wr t : Int} (h : isFit wr t = true) : 0 ≤ wr ∧ wr ≤ 19 ∧ 0 ≤ t ∧ t ≤ 4 := by
  unfold isFit isTol inB at h
  simp at h
  omega
theorem tol_facts {t : Int} (h : isTol t = true) : 0 ≤ t ∧ t ≤ 4 := by
  unfold isTol inB at h
  simp at h
  omega
/-- places of a wear -/
def plc (wr : Int) : Nat := (wr + 1).toNat

theorem setOf_nonempty {D d : Nat} {q : Nat → Bool} (hd : d < D) (hq : q d = true) : (setOf D q).length ≠ 0 := by
  intro e
  have : (d : Int) ∈ setOf D q := setOf_mem.2 ⟨d, hd, hq, rfl⟩
  rw [List.eq_nil_of_length_eq_zero e] at this
  cases this
theorem setOf_pairs (D : Nat) (q : Nat → Bool) : (setOf D q).Pairwise (· < ·) := by
  unfold setOf
  rw [List.pairwise_map]
  refine List.Pairwise.imp ?_ (List.Pairwise.filter q (List.pairwise_lt_range (n := D)))
  intro a b h
  exact Int.ofNat_lt.2 h
theorem rise_of_pairs {M : Int} {xs : List Int} (h : xs.Pairwise (· < ·)) (h2 : ∀ v ∈ xs, 0 ≤ v ∧ v < M) : riseB M xs = true := by
  unfold riseB
  rw [List.all_eq_true]
  intro j hj
  have hj' := List.mem_range.1 hj
  have e : xs[j]? = some xs[j] := List.getElem?_eq_getElem hj'
  have hv := h2 _ (List.mem_of_getElem? e)
  unfold stepB
  rw [getD_at e]
  by_cases h0 : j = 0
  · subst h0; simp; exact hv
  · have e1 : xs[j - 1]? = some (xs[j - 1]'(by omega)) := List.getElem?_eq_getElem _
    rw [getD_at e1]
    have := List.pairwise_iff_getElem.1 h (j - 1) j (by omega) hj' (by omega)
    simp [hv, this]
theorem rise_setOf (D : Nat) (q : Nat → Bool) {M : Int} (h : (D : Int) ≤ M) : riseB M (setOf D q) = true := by
  refine rise_of_pairs (setOf_pairs D q) (fun v hv => ?_)
  obtain ⟨d, hd, _, rfl⟩ := setOf_mem.1 hv
  omega

theorem abs_in (x t : Int) : decide (absI x ≤ t) = inB x (-t) t := by
  unfold inB absI
  rw [Bool.eq_iff_iff]
  simp only [Bool.and_eq_true, decide_eq_true_eq]
  split <;> omega
theorem freeL_is {ys : List Int} (h : allIn 0 7 ys = true) (t x : Int) : freeL ys t x = freeAt (fun d => ys.any (fun v => decide (v = (d : Int)))) t x := by
  unfold freeL freeAt
  rw [Bool.eq_iff_iff, List.any_eq_true, List.any_eq_true]
  constructor
  · rintro ⟨v, hv, h1⟩
    obtain ⟨j, hj⟩ := List.getElem?_of_mem hv
    obtain ⟨v0, v1⟩ := allIn_at h hj
    refine ⟨v.toNat, List.mem_range.2 (by omega), ?_⟩
    rw [Bool.and_eq_true, List.any_eq_true]
    have e : ((v.toNat : Nat) : Int) = v := by omega
    rw [e, ← abs_in]
    exact ⟨⟨v, hv, by simp⟩, h1⟩
  · rintro ⟨d, hd, h1⟩
    rw [Bool.and_eq_true, List.any_eq_true] at h1
    obtain ⟨⟨v, hv, h2⟩, h3⟩ := h1
    simp at h2
    subst h2
    exact ⟨_, hv, by rw [abs_in]; exact h3⟩
theorem freeAt_congr {p q : Nat → Bool} (h : ∀ d, d < 8 → p d = q d) (t x : Int) : freeAt p t x = freeAt q t x := by
  unfold freeAt
  rw [Bool.eq_iff_iff, List.any_eq_true, List.any_eq_true]
  constructor <;> rintro ⟨d, hd, h1⟩ <;> refine ⟨d, hd, ?_⟩
  · rwa [← h d (List.mem_range.1 hd)]
  · rwa [h d (List.mem_range.1 hd)]
theorem freeAt_here {p : Nat → Bool} {d : Nat} {t : Int} (hp : p d = true) (hd : d < 8) (ht : 0 ≤ t) : freeAt p t (10 * (d : Int)) = true := by
  unfold freeAt
  rw [List.any_eq_true]
  refine ⟨d, List.mem_range.2 hd, ?_⟩
  rw [hp, Bool.true_and, Int.sub_self]
  unfold inB
  simp
  omega
theorem freeAt_high {p : Nat → Bool} {t x : Int} (h : 70 + t < x) : freeAt p t x = false := by
  unfold freeAt
  rw [List.any_eq_false]
  intro d hd
  have := List.mem_range.1 hd
  unfold inB
  simp
  omega
theorem someAt_congr {f g : Int → Bool} (h : ∀ x, f x = g x) (c : Int) (k : Nat) : someAt f c k = someAt g c k := by
  have : f = g := funext h
  rw [this]
theorem everyAt_congr {f g : Int → Bool} (h : ∀ x, f x = g x) (c : Int) (k : Nat) : everyAt f c k = everyAt g c k := by
  have : f = g := funext h
  rw [this]
theorem someAt_succ (f : Int → Bool) (c : Int) (k : Nat) : someAt f c (k + 1) = (someAt f c k || f (10 * c + (k : Int))) := by
  unfold someAt; rw [List.range_succ, List.any_append]; simp
theorem everyAt_succ (f : Int → Bool) (c : Int) (k : Nat) : everyAt f c (k + 1) = (everyAt f c k && f (10 * c + (k : Int))) := by
  unfold everyAt; rw [List.range_succ, List.all_append]; simp
theorem someAt_more {f : Int → Bool} {c : Int} {k : Nat} (h : someAt f c k = true) (j : Nat) (hj : k ≤ j) : someAt f c j = true := by
  unfold someAt at *
  rw [List.any_eq_true] at *
  obtain ⟨i, hi, h1⟩ := h
  exact ⟨i, List.mem_range.2 (by have := List.mem_range.1 hi; omega), h1⟩
theorem everyAt_less {f : Int → Bool} {c : Int} {k : Nat} (h : everyAt f c k = true) (j : Nat) (hj : j ≤ k) : everyAt f c j = true := by
  unfold everyAt at *
  rw [List.all_eq_true] at *
  exact fun i hi => h i (List.mem_range.2 (by have := List.mem_range.1 hi; omega))
theorem every_some {f : Int → Bool} {c : Int} {k : Nat} (h : everyAt f c k = true) (hk : 0 < k) : someAt f c k = true := by
  unfold everyAt someAt at *
  rw [List.all_eq_true] at h
  rw [List.any_eq_true]
  exact ⟨0, List.mem_range.2 hk, h 0 (List.mem_range.2 hk)⟩
theorem some_here {p : Nat → Bool} {d k : Nat} {t : Int} (hp : p d = true) (hd : d < 8) (ht : 0 ≤ t) (hk : 0 < k) : someAt (freeAt p t) (d : Int) k = true := by
  refine someAt_more (k := 1) ?_ k hk
  rw [someAt_succ]
  have := freeAt_here hp hd ht
  simp [this]
theorem frees_mono {p q : Nat → Nat → Bool} {a : Nat} {xs : List Int} (hpq : ∀ i, i < xs.length → p i (xs.getD i 0).toNat = true → q i (xs.getD i 0).toNat = true) (h : frees p a xs = true) : frees q a xs = true := by
  unfold frees at *
  rw [List.all_eq_true] at *
  intro i hi
  have := h i hi
  rw [Bool.or_eq_true] at *
  rcases this with h1 | h1
  · exact .inl h1
  · exact .inr (hpq i (List.mem_range.1 hi) h1)
theorem frees_at_congr {p q : Nat → Nat → Bool} {a : Nat} {xs : List Int} (hpq : ∀ i, i < xs.length → p i (xs.getD i 0).toNat = q i (xs.getD i 0).toNat) : frees p a xs = frees q a xs := by
  rw [Bool.eq_iff_iff]
  exact ⟨frees_mono (fun i hi h => by rw [← hpq i hi]; exact h), frees_mono (fun i hi h => by rw [hpq i hi]; exact h)⟩

/-! what the functions answer -/
/-- a question about a worn key: q says which cuts free the chambers -/
def wkV (m : Mk) (yss : List (List Int)) (xs : List Int) (wr t : Int) (q : Nat → Nat → Bool) : Bool := lockB m yss && (isKeyB m xs && (isFit wr t && frees q 0 xs))
def wkE (m : Mk) (yss : List (List Int)) (xs : List Int) (wr t : Int) : Int := if lockB m yss then (if isKeyB m xs then (if isFit wr t then 0 else 2) else 2) else 1
def moV (m : Mk) (yss : List (List Int)) (xs : List Int) (wr t : Int) : Bool := wkV m yss xs wr t (mayP (setP yss) t (plc wr))
def soV (m : Mk) (yss : List (List Int)) (xs : List Int) (wr t : Int) : Bool := wkV m yss xs wr t (sureP (setP yss) t (plc wr))
theorem wk_bad {m : Mk} {yss : List (List Int)} {xs : List Int} {wr t : Int} {q : Nat → Nat → Bool} (h : lockB m yss = false) : wkV m yss xs wr t q = false ∧ wkE m yss xs wr t = 1 := by simp [wkV, wkE, h]
theorem wk_key {m : Mk} {yss : List (List Int)} {xs : List Int} {wr t : Int} {q : Nat → Nat → Bool} (h : lockB m yss = true) (h2 : isKeyB m xs = false) : wkV m yss xs wr t q = false ∧ wkE m yss xs wr t = 2 := by simp [wkV, wkE, h, h2]
theorem wk_fit {m : Mk} {yss : List (List Int)} {xs : List Int} {wr t : Int} {q : Nat → Nat → Bool} (h : lockB m yss = true) (h2 : isKeyB m xs = true) (h3 : isFit wr t = false) : wkV m yss xs wr t q = false ∧ wkE m yss xs wr t = 2 := by simp [wkV, wkE, h, h2, h3]
theorem wk_ok {m : Mk} {yss : List (List Int)} {xs : List Int} {wr t : Int} {q : Nat → Nat → Bool} (h : lockB m yss = true) (h2 : isKeyB m xs = true) (h3 : isFit wr t = true) : wkV m yss xs wr t q = frees q 0 xs ∧ wkE m yss xs wr t = 0 := by simp [wkV, wkE, h, h2, h3]

/-- the greatest wear below k with which a key surely opens; -1: none -/
def limTo (p : Nat → Nat → Bool) (t : Int) (xs : List Int) : Nat → Int
  | 0 => -1
  | k + 1 => if frees (sureP p t (k + 1)) 0 xs then (k : Int) else limTo p t xs k
def wlV (m : Mk) (yss : List (List Int)) (xs : List Int) (t : Int) : Int := if lockB m yss && (isKeyB m xs && isTol t) then (if limTo (setP yss) t xs 20 < 0 then 0 else limTo (setP yss) t xs 20) else 0
def wlE (m : Mk) (yss : List (List Int)) (xs : List Int) (t : Int) : Int := if lockB m yss then (if isKeyB m xs && isTol t then (if limTo (setP yss) t xs 20 < 0 then 4 else 0) else 2) else 1

/-- the lists of the worn lock -/
def wornL (m : Mk) (yss : List (List Int)) (t : Int) (k : Nat) : List (List Int) := lockOf m.C.toNat m.D.toNat (mayP (setP yss) t k)
def wlkE (m : Mk) (yss : List (List Int)) (wr t : Int) : Int := if lockB m yss then (if isFit wr t then 0 else 2) else 1
def wlkL (m : Mk) (yss : List (List Int)) (wr t : Int) : List (List Int) := if lockB m yss && isFit wr t then wornL m yss t (plc wr) else []
def cmV (m : Mk) (yss : List (List Int)) (wr t : Int) : Int := if lockB m yss && isFit wr t then ((opAll m (mayP (setP yss) t (plc wr))).length : Int) else 0
/-- free places below k -/
def freeTo (p : Nat → Bool) (t : Int) (k : Nat) : List Int := ((List.range k).filter (fun (x : Nat) => freeAt p t (x : Int))).map (fun (x : Nat) => (x : Int))
def fpE (m : Mk) (yss : List (List Int)) (ch t : Int) : Int := if lockB m yss then (if isTol t && inB ch 0 (m.C - 1) then 0 else 2) else 1
def fpL (m : Mk) (yss : List (List Int)) (ch t : Int) : List Int := if lockB m yss && (isTol t && inB ch 0 (m.C - 1)) then freeTo (setP yss ch.toNat) t (70 + t + 1).toNat else []
def wnE (m : Mk) (xs : List Int) (wr t : Int) : Int := if m.ok then (if isKeyB m xs then (if isFit wr t then 0 else 2) else 2) else 1
def wnV (m : Mk) (xs : List Int) (wr t : Int) : Int := if isKeyB m xs && isFit wr t then ((opAll m (nearP xs t (plc wr))).length : Int) else 0

theorem freeTo_yes {p : Nat → Bool} {t : Int} {k : Nat} (h : freeAt p t (k : Int) = true) : freeTo p t (k + 1) = freeTo p t k ++ [(k : Int)] := by
  unfold freeTo; rw [List.range_succ, List.filter_append, List.map_append]; simp [h]
theorem freeTo_no {p : Nat → Bool} {t : Int} {k : Nat} (h : freeAt p t (k : Int) = false) : freeTo p t (k + 1) = freeTo p t k := by
  unfold freeTo; rw [List.range_succ, List.filter_append, List.map_append]; simp [h]
theorem freeTo_len (p : Nat → Bool) (t : Int) (k : Nat) : (freeTo p t k).length ≤ k := by
  unfold freeTo
  rw [List.length_map]
  exact Nat.le_trans (List.length_filter_le _ _) (by simp)
theorem freeTo_more {p : Nat → Bool} {t : Int} {k : Nat} (hk : 70 + t < (k : Int)) : ∀ d, freeTo p t (k + d) = freeTo p t k
  | 0 => rfl
  | d + 1 => by rw [← Nat.add_assoc, freeTo_no (freeAt_high (by omega)), freeTo_more hk d]
/-- places below 81, as the model looks through them -/
theorem freeTo_all {p : Nat → Bool} {t : Int} (h0 : 0 ≤ t) (h4 : t ≤ 4) : freeTo p t 81 = freeTo p t (70 + t + 1).toNat := by
  have := freeTo_more (p := p) (t := t) (k := (70 + t + 1).toNat) (by omega) (81 - (70 + t + 1).toNat)
  rw [← this]; congr 1; omega

/-- a set of a lock as what the model reads -/
theorem setP_at {yss : List (List Int)} {i : Nat} {ys : List Int} (h : yss[i]? = some ys) : setP yss i = fun (d : Nat) => ys.any (fun v => decide (v = (d : Int))) := by
  funext d
  unfold setP
  rw [List.getD_eq_getElem?_getD, h]; rfl
/-- .. none of the worn lock's sets is empty -/
theorem worn_lock {m : Mk} {yss : List (List Int)} (h : lockB m yss = true) {t : Int} (ht : 0 ≤ t) {k : Nat} (hk : 0 < k) : lockB m (wornL m yss t k) = true := by
  obtain ⟨h1, h2, h3⟩ := lockB_facts h
  obtain ⟨m1, m2, m3, m4, _⟩ := Mk.ok_true h1
  refine lockB_yes h1 (by unfold wornL; rw [lockOf_len]; omega) (fun i s hs => ?_)
  have hi : i < m.C.toNat := by
    have := (List.getElem?_eq_some_iff.1 hs).1
    unfold wornL at this; rw [lockOf_len] at this; exact this
  unfold wornL at hs
  rw [lockOf_at hi] at hs
  injection hs with hs
  subst hs
  have hy : yss[i]? = some (yss[i]'(by omega)) := List.getElem?_eq_getElem _
  generalize yss[i]'(by omega) = ys at hy
  obtain ⟨hne, hr⟩ := h3 i ys hy
  refine ⟨?_, rise_setOf _ _ (by omega)⟩
  have h0 : ys[0]? = some (ys[0]'(by omega)) := List.getElem?_eq_getElem _
  generalize ys[0]'(by omega) = v at h0
  obtain ⟨v0, v1⟩ := (rise_facts hr).1 v (List.mem_of_getElem? h0)
  refine setOf_nonempty (d := v.toNat) (by omega) ?_
  unfold mayP
  refine some_here ?_ (by omega) ht hk
  rw [setP_at hy]
  show ys.any _ = true
  rw [List.any_eq_true]
  exact ⟨v, List.mem_of_getElem? h0, by simp; omega⟩
theorem setP_worn {m : Mk} {yss : List (List Int)} {t : Int} {k i d : Nat} (hi : i < m.C.toNat) (hd : d < m.D.toNat) : setP (wornL m yss t k) i d = mayP (setP yss) t k i d := setP_lockOf hi hd
theorem op_worn (m : Mk) (yss : List (List Int)) (t : Int) (k : Nat) : opAll m (setP (wornL m yss t k)) = opAll m (mayP (setP yss) t k) := by
  unfold opAll
  exact op_congr (fun i d hi hd => setP_worn hi hd) _ _ (by simp)
/-- the lock that the neighbours of a key open -/
def nearL (m : Mk) (xs : List Int) (t : Int) (k : Nat) : List (List Int) := lockOf m.C.toNat m.D.toNat (nearP xs t k)
theorem near_lock {m : Mk} {xs : List Int} (h : isKeyB m xs = true) {t : Int} (ht : 0 ≤ t) {k : Nat} (hk : 0 < k) : lockB m (nearL m xs t k) = true := by
  obtain ⟨h1, h2, h3, _⟩ := key_facts h
  obtain ⟨m1, m2, m3, m4, _⟩ := Mk.ok_true h1
  refine lockB_yes h1 (by unfold nearL; rw [lockOf_len]; omega) (fun i s hs => ?_)
  have hi : i < m.C.toNat := by
    have := (List.getElem?_eq_some_iff.1 hs).1
    unfold nearL at this; rw [lockOf_len] at this; exact this
  unfold nearL at hs
  rw [lockOf_at hi] at hs
  injection hs with hs
  subst hs
  refine ⟨?_, rise_setOf _ _ (by omega)⟩
  have hx : xs[i]? = some (xs[i]'(by omega)) := List.getElem?_eq_getElem _
  generalize xs[i]'(by omega) = v at hx
  obtain ⟨v0, v1⟩ := allIn_at h3 hx
  refine setOf_nonempty (d := v.toNat) (by omega) ?_
  unfold nearP
  rw [getD_at hx]
  have := some_here (p := fun e => decide (e = v.toNat)) (d := v.toNat) (k := k) (t := t) (by simp) (by omega) ht hk
  rwa [show ((v.toNat : Nat) : Int) = v by omega] at this
theorem op_near (m : Mk) (xs : List Int) (t : Int) (k : Nat) : opAll m (setP (nearL m xs t k)) = opAll m (nearP xs t k) := by
  unfold opAll
  exact op_congr (fun i d hi hd => setP_lockOf hi hd) _ _ (by simp)

end Go.Proofs.Ytbfnffecmglgfaa
