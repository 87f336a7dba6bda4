/- Differences and distances of lists: what they are, and the contracts of the functions that reckon them, of the program and of the model. codeFor of the program, l03Two of the model: the code of some keys. DifferenceOf and DistanceOf, of the program and of the model. -/
import Derived.Test.YtbfnffecmglgfaaOpMath
import Derived.Lib.SliceRun
namespace Go.Proofs.Ytbfnffecmglgfaa
open Go.RowKit

theorem absI_nonneg (z : Int) : 0 ≤ absI z := by unfold absI; split <;> omega
theorem absI_neg (z : Int) : absI (-z) = absI z := by unfold absI; split <;> split <;> omega
theorem absI_zero {z : Int} : absI z = 0 ↔ z = 0 := by unfold absI; split <;> omega
def unlike (x y : Int) : Int := if x = y then 0 else 1
theorem unlike_comm (x y : Int) : unlike x y = unlike y x := by unfold unlike; split <;> split <;> omega
theorem unlike_le (x y : Int) : 0 ≤ unlike x y ∧ unlike x y ≤ absI (x - y) ∧ unlike x y ≤ 1 := by unfold unlike absI; split <;> split <;> omega
/-- the first k places together -/
def diffTo (xs ys : List Int) (k : Nat) : Int := sumN k (fun j => unlike (xs.getD j 0) (ys.getD j 0))
def distTo (xs ys : List Int) (k : Nat) : Int := sumN k (fun j => absI (xs.getD j 0 - ys.getD j 0))
def diffI (xs ys : List Int) : Int := diffTo xs ys xs.length
def distI (xs ys : List Int) : Int := distTo xs ys xs.length
theorem diffTo_step {xs ys : List Int} {k : Nat} {x y : Int} (hx : xs[k]? = some x) (hy : ys[k]? = some y) : diffTo xs ys (k + 1) = diffTo xs ys k + unlike x y := by
  show diffTo xs ys k + unlike (xs.getD k 0) (ys.getD k 0) = _
  rw [List.getD_eq_getElem?_getD, List.getD_eq_getElem?_getD, hx, hy]; rfl
theorem distTo_step {xs ys : List Int} {k : Nat} {x y : Int} (hx : xs[k]? = some x) (hy : ys[k]? = some y) : distTo xs ys (k + 1) = distTo xs ys k + absI (x - y) := by
  show distTo xs ys k + absI (xs.getD k 0 - ys.getD k 0) = _
  rw [List.getD_eq_getElem?_getD, List.getD_eq_getElem?_getD, hx, hy]; rfl
theorem diffTo_in (xs ys : List Int) : ∀ k : Nat, 0 ≤ diffTo xs ys k ∧ diffTo xs ys k ≤ k
  | 0 => by simp [diffTo, sumN]
  | k + 1 => by
    have h := diffTo_in xs ys k
    have h2 := unlike_le (xs.getD k 0) (ys.getD k 0)
    have e : diffTo xs ys (k + 1) = diffTo xs ys k + unlike (xs.getD k 0) (ys.getD k 0) := rfl
    omega
/-- depths of a maker -/
theorem getD_in {xs : List Int} (h : allIn 0 7 xs = true) (k : Nat) : 0 ≤ xs.getD k 0 ∧ xs.getD k 0 ≤ 7 := by
  rw [List.getD_eq_getElem?_getD]
  rcases hv : xs[k]? with _ | v
  · simp
  · exact allIn_at h hv
theorem distTo_in {xs ys : List Int} (hx : allIn 0 7 xs = true) (hy : allIn 0 7 ys = true) : ∀ k : Nat, 0 ≤ distTo xs ys k ∧ distTo xs ys k ≤ 7 * k
  | 0 => by simp [distTo, sumN]
  | k + 1 => by
    have h := distTo_in hx hy k
    have h1 := getD_in hx k
    have h2 := getD_in hy k
    have e : distTo xs ys (k + 1) = distTo xs ys k + absI (xs.getD k 0 - ys.getD k 0) := rfl
    have h3 : 0 ≤ absI (xs.getD k 0 - ys.getD k 0) ∧ absI (xs.getD k 0 - ys.getD k 0) ≤ 7 := by unfold absI; split <;> omega
    omega
theorem diffTo_comm (xs ys : List Int) (k : Nat) : diffTo xs ys k = diffTo ys xs k := sumN_congr (fun _ _ => unlike_comm _ _)
theorem distTo_comm (xs ys : List Int) (k : Nat) : distTo xs ys k = distTo ys xs k := sumN_congr (fun _ _ => by rw [← absI_neg]; congr 1; omega)
theorem diffI_comm {xs ys : List Int} (h : xs.length = ys.length) : diffI xs ys = diffI ys xs := by unfold diffI; rw [diffTo_comm, h]
theorem distI_comm {xs ys : List Int} (h : xs.length = ys.length) : distI xs ys = distI ys xs := by unfold distI; rw [distTo_comm, h]
theorem diff_le_dist (xs ys : List Int) : ∀ k, diffTo xs ys k ≤ distTo xs ys k
  | 0 => by simp [diffTo, distTo, sumN]
  | k + 1 => by
    have h := diff_le_dist xs ys k
    have h2 := unlike_le (xs.getD k 0) (ys.getD k 0)
    have e : diffTo xs ys (k + 1) = diffTo xs ys k + unlike (xs.getD k 0) (ys.getD k 0) := rfl
    have e' : distTo xs ys (k + 1) = distTo xs ys k + absI (xs.getD k 0 - ys.getD k 0) := rfl
    omega
theorem diffTo_zero {xs ys : List Int} : ∀ {k : Nat}, diffTo xs ys k = 0 → ∀ j, j < k → xs.getD j 0 = ys.getD j 0
  | 0, _, j, hj => absurd hj (by omega)
  | k + 1, h, j, hj => by
    have h1 := diffTo_in xs ys k
    have h2 := unlike_le (xs.getD k 0) (ys.getD k 0)
    have e : diffTo xs ys (k + 1) = diffTo xs ys k + unlike (xs.getD k 0) (ys.getD k 0) := rfl
    rcases Nat.lt_or_ge j k with hlt | hge
    · exact diffTo_zero (k := k) (by omega) j hlt
    · obtain rfl : j = k := by omega
      have h3 : unlike (xs.getD j 0) (ys.getD j 0) = 0 := by omega
      unfold unlike at h3
      split at h3
      · assumption
      · omega
theorem list_same {xs ys : List Int} (hl : xs.length = ys.length) (h : ∀ j, j < xs.length → xs.getD j 0 = ys.getD j 0) : xs = ys := by
  apply List.ext_getElem? ; intro j
  rcases Nat.lt_or_ge j xs.length with hlt | hge
  · have := h j hlt
    rw [List.getD_eq_getElem?_getD, List.getD_eq_getElem?_getD, List.getElem?_eq_getElem hlt, List.getElem?_eq_getElem (by omega)] at this
    rw [List.getElem?_eq_getElem hlt, List.getElem?_eq_getElem (by omega)]
    simpa using this
  · rw [List.getElem?_eq_none hge, List.getElem?_eq_none (by omega)]
theorem diffTo_self (xs : List Int) : ∀ k, diffTo xs xs k = 0
  | 0 => rfl
  | k + 1 => by
    show diffTo xs xs k + unlike _ _ = 0
    rw [diffTo_self xs k]; unfold unlike; rw [if_pos rfl]; rfl
theorem distTo_self (xs : List Int) : ∀ k, distTo xs xs k = 0
  | 0 => rfl
  | k + 1 => by
    show distTo xs xs k + absI (xs.getD k 0 - xs.getD k 0) = 0
    rw [distTo_self xs k, Int.sub_self]; rfl
theorem diffI_zero {xs ys : List Int} (hl : xs.length = ys.length) : diffI xs ys = 0 ↔ xs = ys :=
  ⟨fun h => list_same hl (diffTo_zero h), fun h => by subst h; exact diffTo_self _ _⟩
theorem distI_zero {xs ys : List Int} (hl : xs.length = ys.length) : distI xs ys = 0 ↔ xs = ys :=
  ⟨fun h => (diffI_zero hl).1 (by have := diff_le_dist xs ys xs.length; have := (diffTo_in xs ys xs.length).1; unfold distI at h; unfold diffI; omega), fun h => by subst h; exact distTo_self _ _⟩

theorem max_abs (x y : Int) : max (x - y) (y - x) = absI (x - y) := by unfold absI; split <;> omega
theorem l01Abs_at (x r : Int) (h : r = absI x) (w : World) (x0 : -1000 ≤ x) (x1 : x ≤ 1000) :
    Calls Try.prog 158 #[.int .i64 x] w fun e w' => e = .returned (.int .i64 r) ∧ w = w' := by
  subst h; exact l01Abs_any x w (by omega) (by omega)

end Go.Proofs.Ytbfnffecmglgfaa

namespace Go.Proofs.Ytbfnffecmglgfaa
open Go.RowKit

def codeF (m : Mk) (yss : List (List Int)) : Int := if m.ok then (if yss.all (isKeyB m) then 0 else 2) else 1
theorem code_one (m : Mk) (xs : List Int) : codeF m [xs] = ktE m xs := by simp [codeF, ktE]
theorem code_in (m : Mk) (yss : List (List Int)) : 0 ≤ codeF m yss ∧ codeF m yss ≤ 2 := by unfold codeF; split <;> (try split) <;> omega
theorem code_zero {m : Mk} {yss : List (List Int)} : codeF m yss = 0 ↔ (m.ok = true ∧ yss.all (isKeyB m) = true) := by
  unfold codeF
  rcases m.ok with _ | _
  · simp
  · rcases yss.all (isKeyB m) with _ | _ <;> simp
theorem code_bad {m : Mk} {yss : List (List Int)} (h : m.ok = false) : codeF m yss = 1 := by simp [codeF, h]
theorem code_yes {m : Mk} {yss : List (List Int)} (h : m.ok = true) (h2 : yss.all (isKeyB m) = true) : codeF m yss = 0 := code_zero.2 ⟨h, h2⟩
theorem code_no {m : Mk} {yss : List (List Int)} {j : Nat} {ys : List Int} (h : m.ok = true) (hj : yss[j]? = some ys) (h2 : isKeyB m ys = false) : codeF m yss = 2 := by
  have : yss.all (isKeyB m) = false := by
    rw [List.all_eq_false]
    exact ⟨ys, List.mem_of_getElem? hj, by simp [h2]⟩
  simp [codeF, h, this]

/-- a list of k lists that the call may read -/
def Lists (w : World) (ad : Addr) (n : Nat) (yss : List (List Int)) : Prop :=
  yss.length = n ∧ ad.block < w.heap.size ∧ ∀ (j : Nat) (ys : List Int), yss[j]? = some ys → ∃ A q c, w.cell? (ad.add j) = some (.slice A q c) ∧ Ints w w.heap.size A q ys ∧ q ≤ 1048576
theorem Lists.on {w w' : World} {ad : Addr} {n : Nat} {yss : List (List Int)} (h : Lists w ad n yss) (hb : Below w.heap.size w w') : Lists w' ad n yss :=
  ⟨h.1, Nat.lt_of_lt_of_le h.2.1 hb.size, fun j ys hj => by
    obtain ⟨A, q, c, h1, h2, h3⟩ := h.2.2 j ys hj
    exact ⟨A, q, c, (hb.cell (by rw [block_of_add]; exact h.2.1)).trans h1, h2.on hb, h3⟩⟩
theorem cell_new (w : World) (cs : Array Value) (t : TypeId) (j : Nat) : (w.alloc (.cells cs t)).cell? (Addr.add ⟨w.heap.size, 0, none⟩ j) = cs[j]? := by
  have e : (⟨w.heap.size, 0, none⟩ : Addr).add j = ⟨w.heap.size, j, none⟩ := by
    unfold Addr.add
    split
    · next h0 => subst h0; rfl
    · simp
  rw [e]
  have h : (w.alloc (.cells cs t)).heap[w.heap.size]? = some (.cells cs t) := heap_alloc_new w _
  simp only [World.cell?, h]; rfl
theorem Lists.one {w : World} {A : Option Addr} {q c : Nat} {xs : List Int} (t : TypeId) (h : Ints w w.heap.size A q xs) (hq : q ≤ 1048576) :
    Lists (w.alloc (.cells #[.slice A q c] t)) ⟨w.heap.size, 0, none⟩ 1 [xs] := by
  refine ⟨rfl, by simp, fun j ys hj => ?_⟩
  match j, hj with
  | 0, hj =>
    obtain rfl : xs = ys := by simpa using hj
    exact ⟨A, q, c, (cell_new w _ t _).trans rfl, h.on ((Below.refl _ _).alloc (Nat.le_refl _) _), hq⟩
theorem Lists.two {w : World} {A A' : Option Addr} {q c q' c' : Nat} {xs ys : List Int} (t : TypeId) (h : Ints w w.heap.size A q xs) (hq : q ≤ 1048576) (h' : Ints w w.heap.size A' q' ys) (hq' : q' ≤ 1048576) :
    Lists (w.alloc (.cells #[.slice A q c, .slice A' q' c'] t)) ⟨w.heap.size, 0, none⟩ 2 [xs, ys] := by
  refine ⟨rfl, by simp, fun j zs hj => ?_⟩
  match j, hj with
  | 0, hj =>
    obtain rfl : xs = zs := by simpa using hj
    exact ⟨A, q, c, (cell_new w _ t _).trans rfl, h.on ((Below.refl _ _).alloc (Nat.le_refl _) _), hq⟩
  | 1, hj =>
    obtain rfl : ys = zs := by simpa using hj
    exact ⟨A', q', c', (cell_new w _ t _).trans rfl, h'.on ((Below.refl _ _).alloc (Nat.le_refl _) _), hq'⟩

set_option maxRecDepth 100000 in
set_option maxHeartbeats 2000000 in
theorem codeFor_any (m : Mk) (ad : Addr) (n c : Nat) (yss : List (List Int)) (w : World) (h : Lists w ad n yss) (hn : n ≤ 1000) :
    Calls Try.prog 93 #[.agg #[.int .i64 m.C, .int .i64 m.D, .int .i64 m.S, .int .i64 m.M, .int .i64 m.L], .slice (some ad) n c] w
      fun e w' => e = .returned (.int .i64 (codeF m yss)) ∧ Below w.heap.size w w' := by
  have hx := Boxed.new w 25 m
  have b0 := (Below.refl w.heap.size w).alloc (Nat.le_refl _) (.cells #[.int .i64 m.C, .int .i64 m.D, .int .i64 m.S, .int .i64 m.M, .int .i64 m.L] 25)
  have HL := Lib.hid h.1
  rcases hm : m.ok with _ | _
  · rw [code_bad hm]
    go_enter Try.func93, Try.ntmps93
    go_wp2_with fail
    refine (isMaker_any m _).mono ?_
    rw [hm]
    rintro e w1 ⟨rfl, b1⟩
    have c1 := below_trans' b0 b1
    go_wp2
    go_ret
    exact ⟨rfl, c1⟩
  have HM := Lib.hid hm
  clear hm
  have HS := Lib.hid h
  clear h
  go_enter Try.func93, Try.ntmps93
  go_wp2_with fail
  refine (isMaker_any m _).mono ?_
  rw [HM.out]
  rintro e w1 ⟨rfl, b1⟩
  have x1 := hx.on b1
  have c1 := below_trans' b0 b1
  clear hx b0 b1
  go_wp2
  go_loopw [12] (fun i wr => ∃ k : Nat, k ≤ n ∧ i = .int .i64 k ∧ Hid (∀ j ys, j < k → yss[j]? = some ys → isKeyB m ys = true) ∧ Boxed wr w.heap.size 25 m ∧ Below w.heap.size w wr) (fun i _ => n - (intOf i).toNat)
  case atStart => exact ⟨0, Nat.zero_le _, rfl, Lib.hid (fun j _ hj => absurd hj (by omega)), x1, c1⟩
  case round =>
    obtain ⟨k, hk, rfl, hall, hbox, hb⟩ := hrel
    clear x1 c1
    by_cases hlt : k < n
    · have hy : yss[k]? = some (yss[k]'(by rw [HL.out]; exact hlt)) := List.getElem?_eq_getElem _
      generalize yss[k]'(by rw [HL.out]; exact hlt) = ys at hy
      obtain ⟨A, q, cc, hc, hi, hq⟩ := (HS.out.on hb).2.2 k ys hy
      have HY := Lib.hid hy
      have X := Lib.hid hbox
      obtain ⟨q0, q1, q2, q3, q4⟩ := hbox.cells
      clear hy hbox
      go_wp2_with fail
      clear q0 q1 q2 q3 q4 hc
      refine (isKey_any m A q cc ys _ hi hq).mono ?_
      rcases hkey : isKeyB m ys with _ | _
      · rintro e w2 ⟨rfl, b2⟩
        have HE := Lib.hid (code_no HM.out HY.out hkey)
        go_wp2
        go_ret
        exact ⟨ret_int HE.out.symm, below_trans' hb b2⟩
      · rintro e w2 ⟨rfl, b2⟩
        have X2 := Lib.hid (X.out.on b2)
        have C2 := Lib.hid (below_trans' hb b2)
        have HK := Lib.hid hkey
        clear hb b2 hi hkey
        go_wp2
        go_roundw
        case rel => exact ⟨k + 1, by omega, by go_num, Lib.hid (fun j zs hj hz => by
          rcases Nat.lt_or_ge j k with h1 | h1
          · exact hall.out j zs h1 hz
          · obtain rfl : j = k := by omega
            rw [HY.out] at hz; cases hz; exact HK.out), X2.out, C2.out⟩
        case measure => simp [intOf]; omega
    · have HE := Lib.hid (code_yes (yss := yss) HM.out (by
        rw [List.all_eq_true]
        intro ys hys
        obtain ⟨j, hj⟩ := List.getElem?_of_mem hys
        exact hall.out j ys (by have := (List.getElem?_eq_some_iff.1 hj).1; rw [HL.out] at this; omega) hj))
      go_wp2
      go_ret
      exact ⟨ret_int HE.out.symm, hb⟩

theorem two_code (m : Mk) (xs ys : List Int) : codeF m [xs, ys] = if ktE m xs = 0 then ktE m ys else ktE m xs := by
  unfold codeF ktE
  rcases m.ok with _ | _
  · simp
  · rcases h : isKeyB m xs with _ | _ <;> simp [h]

end Go.Proofs.Ytbfnffecmglgfaa

namespace Go.Proofs.Ytbfnffecmglgfaa
open Go.RowKit

def dfV (m : Mk) (xs ys : List Int) : Int := if codeF m [xs, ys] = 0 then diffI xs ys else 0
def dsV (m : Mk) (xs ys : List Int) : Int := if codeF m [xs, ys] = 0 then distI xs ys else 0
theorem df_yes {m : Mk} {xs ys : List Int} (h : codeF m [xs, ys] = 0) : dfV m xs ys = diffI xs ys := by unfold dfV; rw [if_pos h]
theorem df_no {m : Mk} {xs ys : List Int} (h : codeF m [xs, ys] ≠ 0) : dfV m xs ys = 0 := by unfold dfV; rw [if_neg h]
theorem ds_yes {m : Mk} {xs ys : List Int} (h : codeF m [xs, ys] = 0) : dsV m xs ys = distI xs ys := by unfold dsV; rw [if_pos h]
theorem ds_no {m : Mk} {xs ys : List Int} (h : codeF m [xs, ys] ≠ 0) : dsV m xs ys = 0 := by unfold dsV; rw [if_neg h]
theorem two_keys {m : Mk} {xs ys : List Int} (h : codeF m [xs, ys] = 0) : m.ok = true ∧ isKeyB m xs = true ∧ isKeyB m ys = true := by
  obtain ⟨h1, h2⟩ := code_zero.1 h
  simp at h2
  exact ⟨h1, h2.1, h2.2⟩
theorem key_seven {m : Mk} {xs : List Int} (h : isKeyB m xs = true) : allIn 0 7 xs = true := by
  obtain ⟨hm, _, h3, _⟩ := key_facts h
  obtain ⟨m1, m2, m3, m4, _⟩ := Mk.ok_true hm
  unfold allIn at *
  rw [List.all_eq_true] at *
  intro v hv
  have := inB_true.1 (h3 v hv)
  exact inB_true.2 (by omega)
theorem two_len {m : Mk} {xs ys : List Int} (h : codeF m [xs, ys] = 0) : (xs.length : Int) = m.C ∧ (ys.length : Int) = m.C ∧ xs.length = ys.length ∧ allIn 0 7 xs = true ∧ allIn 0 7 ys = true := by
  obtain ⟨_, h1, h2⟩ := two_keys h
  obtain ⟨_, l1, _⟩ := key_facts h1
  obtain ⟨_, l2, _⟩ := key_facts h2
  exact ⟨l1, l2, by omega, key_seven h1, key_seven h2⟩
theorem drew_below {w w1 w2 : World} {q : Nat} (h : Below w.heap.size w w1) (e : w2 = w1.drewN q) : Below w.heap.size w w2 := by subst e; exact below_drewN h q

end Go.Proofs.Ytbfnffecmglgfaa
