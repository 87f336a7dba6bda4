/- codeFor of the program, l03Two of the model: the code of some keys. -/
import Derived.Test.YtjoknbknhfnggaaDiff
namespace Go.Proofs.Ytjoknbknhfnggaa
open Go.RowKit

def codeF (m : Mk) (yss : List (List Int)) : Int := if m.ok then (if yss.all (isKeyB m) then 0 else 2) else 1
theorem code_one (m : Mk) (xs : List Int) : codeF m [xs] = ktE m xs := by simp [codeF, ktE]
theorem code_in (m : Mk) (yss : List (List Int)) : 0 ≤ codeF m yss ∧ codeF m yss ≤ 2 := by unfold codeF; split <;> (try split) <;> omega
theorem code_zero {m : Mk} {yss : List (List Int)} : codeF m yss = 0 ↔ (m.ok = true ∧ yss.all (isKeyB m) = true) := by
  unfold codeF
  rcases m.ok with _ | _
  · simp
  · rcases yss.all (isKeyB m) with _ | _ <;> simp
theorem code_bad {m : Mk} {yss : List (List Int)} (h : m.ok = false) : codeF m yss = 1 := by simp [codeF, h]
theorem code_yes {m : Mk} {yss : List (List Int)} (h : m.ok = true) (h2 : yss.all (isKeyB m) = true) : codeF m yss = 0 := code_zero.2 ⟨h, h2⟩
theorem code_no {m : Mk} {yss : List (List Int)} {j : Nat} {ys : List Int} (h : m.ok = true) (hj : yss[j]? = some ys) (h2 : isKeyB m ys = false) : codeF m yss = 2 := by
  have : yss.all (isKeyB m) = false := by
    rw [List.all_eq_false]
    exact ⟨ys, List.mem_of_getElem? hj, by simp [h2]⟩
  simp [codeF, h, this]

/-- a list of k lists that the call may read -/
def Lists (w : World) (ad : Addr) (n : Nat) (yss : List (List Int)) : Prop :=
  yss.length = n ∧ ad.block < w.heap.size ∧ ∀ (j : Nat) (ys : List Int), yss[j]? = some ys → ∃ A q c, w.cell? (ad.add j) = some (.slice A q c) ∧ Ints w w.heap.size A q ys ∧ q ≤ 1048576
theorem Lists.on {w w' : World} {ad : Addr} {n : Nat} {yss : List (List Int)} (h : Lists w ad n yss) (hb : Below w.heap.size w w') : Lists w' ad n yss :=
  ⟨h.1, Nat.lt_of_lt_of_le h.2.1 hb.size, fun j ys hj => by
    obtain ⟨A, q, c, h1, h2, h3⟩ := h.2.2 j ys hj
    exact ⟨A, q, c, (hb.cell (by rw [block_of_add]; exact h.2.1)).trans h1, h2.on hb, h3⟩⟩
theorem cell_new (w : World) (cs : Array Value) (t : TypeId) (j : Nat) : (w.alloc (.cells cs t)).cell? (Addr.add ⟨w.heap.size, 0, none⟩ j) = cs[j]? := by
  have e : (⟨w.heap.size, 0, none⟩ : Addr).add j = ⟨w.heap.size, j, none⟩ := by
    unfold Addr.add
    split
    · next h0 => subst h0; rfl
    · simp
  rw [e]
  have h : (w.alloc (.cells cs t)).heap[w.heap.size]? = some (.cells cs t) := heap_alloc_new w _
  simp only [World.cell?, h]; rfl
theorem Lists.one {w : World} {A : Option Addr} {q c : Nat} {xs : List Int} (t : TypeId) (h : Ints w w.heap.size A q xs) (hq : q ≤ 1048576) :
    Lists (w.alloc (.cells #[.slice A q c] t)) ⟨w.heap.size, 0, none⟩ 1 [xs] := by
  refine ⟨rfl, by simp, fun j ys hj => ?_⟩
  match j, hj with
  | 0, hj =>
    obtain rfl : xs = ys := by simpa using hj
    exact ⟨A, q, c, (cell_new w _ t _).trans rfl, h.on ((Below.refl _ _).alloc (Nat.le_refl _) _), hq⟩
theorem Lists.two {w : World} {A A' : Option Addr} {q c q' c' : Nat} {xs ys : List Int} (t : TypeId) (h : Ints w w.heap.size A q xs) (hq : q ≤ 1048576) (h' : Ints w w.heap.size A' q' ys) (hq' : q' ≤ 1048576) :
    Lists (w.alloc (.cells #[.slice A q c, .slice A' q' c'] t)) ⟨w.heap.size, 0, none⟩ 2 [xs, ys] := by
  refine ⟨rfl, by simp, fun j zs hj => ?_⟩
  match j, hj with
  | 0, hj =>
    obtain rfl : xs = zs := by simpa using hj
    exact ⟨A, q, c, (cell_new w _ t _).trans rfl, h.on ((Below.refl _ _).alloc (Nat.le_refl _) _), hq⟩
  | 1, hj =>
    obtain rfl : ys = zs := by simpa using hj
    exact ⟨A', q', c', (cell_new w _ t _).trans rfl, h'.on ((Below.refl _ _).alloc (Nat.le_refl _) _), hq'⟩

set_option maxRecDepth 100000 in
set_option maxHeartbeats 2000000 in
theorem codeFor_any (m : Mk) (ad : Addr) (n c : Nat) (yss : List (List Int)) (w : World) (h : Lists w ad n yss) (hn : n ≤ 1000) :
    Calls Try.prog 73 #[.agg #[.int .i64 m.C, .int .i64 m.D, .int .i64 m.S, .int .i64 m.M, .int .i64 m.L], .slice (some ad) n c] w
      fun e w' => e = .returned (.int .i64 (codeF m yss)) ∧ Below w.heap.size w w' := by
  have hx := Boxed.new w 25 m
  have b0 := (Below.refl w.heap.size w).alloc (Nat.le_refl _) (.cells #[.int .i64 m.C, .int .i64 m.D, .int .i64 m.S, .int .i64 m.M, .int .i64 m.L] 25)
  have HL := Lib.hid h.1
  rcases hm : m.ok with _ | _
  · rw [code_bad hm]
    go_enter Try.func73, Try.ntmps73
    go_wp2_with fail
    refine (isMaker_any m _).mono ?_
    rw [hm]
    rintro e w1 ⟨rfl, b1⟩
    have c1 := below_trans' b0 b1
    go_wp2
    go_ret
    exact ⟨rfl, c1⟩
  have HM := Lib.hid hm
  clear hm
  have HS := Lib.hid h
  clear h
  go_enter Try.func73, Try.ntmps73
  go_wp2_with fail
  refine (isMaker_any m _).mono ?_
  rw [HM.out]
  rintro e w1 ⟨rfl, b1⟩
  have x1 := hx.on b1
  have c1 := below_trans' b0 b1
  clear hx b0 b1
  go_wp2
  go_loopw [12] (fun i wr => ∃ k : Nat, k ≤ n ∧ i = .int .i64 k ∧ Hid (∀ j ys, j < k → yss[j]? = some ys → isKeyB m ys = true) ∧ Boxed wr w.heap.size 25 m ∧ Below w.heap.size w wr) (fun i _ => n - (intOf i).toNat)
  case atStart => exact ⟨0, Nat.zero_le _, rfl, Lib.hid (fun j _ hj => absurd hj (by omega)), x1, c1⟩
  case round =>
    obtain ⟨k, hk, rfl, hall, hbox, hb⟩ := hrel
    clear x1 c1
    by_cases hlt : k < n
    · have hy : yss[k]? = some (yss[k]'(by rw [HL.out]; exact hlt)) := List.getElem?_eq_getElem _
      generalize yss[k]'(by rw [HL.out]; exact hlt) = ys at hy
      obtain ⟨A, q, cc, hc, hi, hq⟩ := (HS.out.on hb).2.2 k ys hy
      have HY := Lib.hid hy
      have X := Lib.hid hbox
      obtain ⟨q0, q1, q2, q3, q4⟩ := hbox.cells
      clear hy hbox
      go_wp2_with fail
      clear q0 q1 q2 q3 q4 hc
      refine (isKey_any m A q cc ys _ hi hq).mono ?_
      rcases hkey : isKeyB m ys with _ | _
      · rintro e w2 ⟨rfl, b2⟩
        have HE := Lib.hid (code_no HM.out HY.out hkey)
        go_wp2
        go_ret
        exact ⟨ret_int HE.out.symm, below_trans' hb b2⟩
      · rintro e w2 ⟨rfl, b2⟩
        have X2 := Lib.hid (X.out.on b2)
        have C2 := Lib.hid (below_trans' hb b2)
        have HK := Lib.hid hkey
        clear hb b2 hi hkey
        go_wp2
        go_roundw
        case rel => exact ⟨k + 1, by omega, by go_num, Lib.hid (fun j zs hj hz => by
          rcases Nat.lt_or_ge j k with h1 | h1
          · exact hall.out j zs h1 hz
          · obtain rfl : j = k := by omega
            rw [HY.out] at hz; cases hz; exact HK.out), X2.out, C2.out⟩
        case measure => simp [intOf]; omega
    · have HE := Lib.hid (code_yes (yss := yss) HM.out (by
        rw [List.all_eq_true]
        intro ys hys
        obtain ⟨j, hj⟩ := List.getElem?_of_mem hys
        exact hall.out j ys (by have := (List.getElem?_eq_some_iff.1 hj).1; rw [HL.out] at this; omega) hj))
      go_wp2
      go_ret
      exact ⟨ret_int HE.out.symm, hb⟩

theorem two_code (m : Mk) (xs ys : List Int) : codeF m [xs, ys] = if ktE m xs = 0 then ktE m ys else ktE m xs := by
  unfold codeF ktE
  rcases m.ok with _ | _
  · simp
  · rcases h : isKeyB m xs with _ | _ <;> simp [h]

end Go.Proofs.Ytjoknbknhfnggaa
