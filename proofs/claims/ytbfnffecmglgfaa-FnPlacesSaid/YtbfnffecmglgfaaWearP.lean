/- Free places and worn cuts of the program. -/
import Derived.Test.YtbfnffecmglgfaaWear
import Derived.Test.YtbfnffecmglgfaaYieldI
namespace Go.Proofs.Ytbfnffecmglgfaa
open Go Go.RowKit
attribute [local go_sem] Oper.semAt_some

/-- a block that holds two values -/
def Cell2 (w : World) (b : Nat) (t : TypeId) (u v : Value) : Prop := w.heap[b]? = some (.cells #[u, v] t (0, 0))
theorem Cell2.lt {w : World} {b : Nat} {t : TypeId} {u v : Value} (h : Cell2 w b t u v) : b < w.heap.size := heapLt h
theorem Cell2.new (w : World) (t : TypeId) (u v : Value) : Cell2 (w.alloc (.cells #[u, v] t)) w.heap.size t u v := heap_alloc_new w _
theorem Cell2.below {w w' : World} {b B : Nat} {t : TypeId} {u v : Value} (h : Cell2 w b t u v) (hb : Below B w w') (hB : b < B) : Cell2 w' b t u v := (hb.block b hB).trans h
theorem Cell2.on {w w' : World} {b : Nat} {t : TypeId} {u v : Value} (h : Cell2 w b t u v) (hb : Below w.heap.size w w') : Cell2 w' b t u v := h.below hb h.lt
theorem Cell2.alloc {w : World} {b : Nat} {t : TypeId} {u v : Value} (h : Cell2 w b t u v) (o : Obj) : Cell2 (w.alloc o) b t u v := (Below.heap_alloc w o b h.lt).trans h
theorem Cell2.drewN {w : World} {b : Nat} {t : TypeId} {u v : Value} (h : Cell2 w b t u v) (n : Nat) : Cell2 (w.drewN n) b t u v := h
theorem Cell2.above {w w' : World} {b B : Nat} {t : TypeId} {u v : Value} (h : Cell2 w b t u v) (hb : Above B w w') (hB : B ≤ b) : Cell2 w' b t u v := (hb.block b hB h.lt).trans h
theorem Cell2.cells {w : World} {b : Nat} {t : TypeId} {u v : Value} (h : Cell2 w b t u v) : w.cell? ⟨b, 0, none⟩ = some u ∧ w.cell? ⟨b, 1, none⟩ = some v := by
  unfold Cell2 at h; simp [World.cell?, h]

theorem freeAt_yes {p : Nat → Bool} {t x : Int} {d : Nat} (hd : d < 8) (hp : p d = true) (hb : inB (x - 10 * (d : Int)) (-t) t = true) : freeAt p t x = true := by
  unfold freeAt
  rw [List.any_eq_true]
  exact ⟨d, List.mem_range.2 hd, by rw [hp, hb]; rfl⟩
theorem freeAt_no {p : Nat → Bool} {t x : Int} (h : ∀ d, d < 8 → (p d && inB (x - 10 * (d : Int)) (-t) t) = false) : freeAt p t x = false := by
  unfold freeAt
  rw [List.any_eq_false]
  intro d hd
  rw [h d (List.mem_range.1 hd)]
  simp
theorem upto_next {q : Nat → Bool} {k : Nat} (h : ∀ d, d < k → q d = false) (hk : q k = false) : ∀ d, d < k + 1 → q d = false := by
  intro d hd
  rcases Nat.lt_or_ge d k with h1 | h1
  · exact h d h1
  · obtain rfl : d = k := by omega
    exact hk

set_option maxRecDepth 100000 in
set_option maxHeartbeats 2000000 in
theorem isFreeAt_any (v : Nat) (t x : Int) (w : World) (hv : v < 256) (t0 : 0 ≤ t) (t4 : t ≤ 4) (x0 : 0 ≤ x) (x9 : x ≤ 1000) :
    Calls Try.prog 157 #[.agg #[.int .u8 (v : Int), .int .i64 t], .int .i64 x] w fun e w' => e = .returned (.bool (freeAt (fun d => v.testBit d) t x)) ∧ Below w.heap.size w w' := by
  have c0 := (Below.refl w.heap.size w).alloc (Nat.le_refl _) (.cells #[.int .u8 (v : Int), .int .i64 t] 135)
  have hx := Cell2.new w 135 (.int .u8 (v : Int)) (.int .i64 t)
  have ht : IntKind.i64.wrap (-t) = -t := IntWalk.i64_in _ (by omega)
  go_enter Try.func157, Try.ntmps157
  go_wp2
  go_loop [6] (fun x' => ∃ k : Nat, x' = .int .i64 k ∧ k ≤ 8 ∧ Hid (∀ d, d < k → (v.testBit d && inB (x - 10 * (d : Int)) (-t) t) = false)) (fun x => 8 - (intOf x).toNat)
  case atStart => exact ⟨0, rfl, Nat.zero_le _, Lib.hid (fun j hj => absurd hj (by omega))⟩
  case round =>
    obtain ⟨k, rfl, hk, hall⟩ := hrel
    by_cases hlt : k < 8
    · have i8 : (k : Int) < 8 := by omega
      obtain ⟨q0, q1⟩ := hx.cells
      have g1 : IntKind.i64.wrap (10 * (k : Int)) = 10 * (k : Int) := IntWalk.i64_in _ (by omega)
      have g2 : IntKind.i64.wrap (x - 10 * (k : Int)) = x - 10 * (k : Int) := IntWalk.i64_in _ (by omega)
      rcases hh : v.testBit k with _ | _
      · have HA := Lib.hid (upto_next hall.out (by rw [hh]; rfl))
        go_wp2_with fail
        refine (has_any v k _ hv (by omega)).mono ?_
        rw [hh]
        rintro e w' ⟨rfl, rfl⟩
        go_wp2
        go_round
        case rel => exact ⟨k + 1, by go_num, by omega, HA⟩
        case measure => simp [intOf]; omega
      · rcases hm : inB (x - 10 * (k : Int)) (-t) t with _ | _
        · have HA := Lib.hid (upto_next hall.out (by rw [hm]; simp))
          go_wp2_with fail
          refine (has_any v k _ hv (by omega)).mono ?_
          rw [hh]
          rintro e w' ⟨rfl, rfl⟩
          go_wp2_with fail
          refine (isWithin_at _ _ _ _ _ hm).mono ?_
          rintro e w' ⟨rfl, rfl⟩
          go_wp2
          go_round
          case rel => exact ⟨k + 1, by go_num, by omega, HA⟩
          case measure => simp [intOf]; omega
        · have HE := Lib.hid (freeAt_yes (p := fun d => v.testBit d) hlt hh hm)
          go_wp2_with fail
          refine (has_any v k _ hv (by omega)).mono ?_
          rw [hh]
          rintro e w' ⟨rfl, rfl⟩
          go_wp2_with fail
          refine (isWithin_at _ _ _ _ _ hm).mono ?_
          rintro e w' ⟨rfl, rfl⟩
          go_wp2
          go_ret
          exact ⟨ret_bool HE.out.symm, c0⟩
    · have HE := Lib.hid (freeAt_no (p := fun d => v.testBit d) (t := t) (x := x) (fun d hd => hall.out d (by omega)))
      go_wp2
      go_ret
      exact ⟨ret_bool HE.out.symm, c0⟩

/-! places -/
def AheadI (T q : List Nat) : Prop := ∃ R, T = q ++ R
def PartI (T pre : List Nat) : Prop := ∃ p x R, T = p ++ x :: R ∧ pre = p ++ [x]
/-- the first k places of a worn cut -/
def plT (c k : Nat) : List Nat := (List.range k).map (fun j => 10 * c + j)
theorem plT_succ (c k : Nat) : plT c (k + 1) = plT c k ++ [10 * c + k] := by unfold plT; rw [List.range_succ, List.map_append]; rfl
theorem plT_ahead (c k : Nat) : ∀ d, ∃ R, plT c (k + d) = plT c k ++ R
  | 0 => ⟨[], by simp⟩
  | d + 1 => by
    obtain ⟨R, hR⟩ := plT_ahead c k d
    exact ⟨R ++ [10 * c + (k + d)], by rw [← Nat.add_assoc, plT_succ, hR, List.append_assoc]⟩
theorem some_is (f : Int → Bool) (c k : Nat) : someAt f (c : Int) k = (plT c k).any (fun x => f (x : Int)) := by
  unfold someAt plT
  rw [List.any_map]
  rfl
theorem every_is (f : Int → Bool) (c k : Nat) : everyAt f (c : Int) k = (plT c k).all (fun x => f (x : Int)) := by
  unfold everyAt plT
  rw [List.all_map]
  rfl
theorem plT_mem {c k x : Nat} (h : x ∈ plT c k) : x < 10 * c + k := by
  unfold plT at h
  obtain ⟨j, hj, rfl⟩ := List.mem_map.1 h
  have := List.mem_range.1 hj
  omega

set_option maxRecDepth 100000 in
set_option maxHeartbeats 4000000 in
theorem places_yield (c r : Nat) (hc : c ≤ 8) (hr : r ≤ 20) (q : Nat) (w : World) :
    YieldsI Fence.wide q Try.prog 156 #[.agg #[.int .i64 (c : Int), .int .i64 (r : Int)]] #[] (fun _ => True) (AheadI (plT c (r + 1))) (fun l => l = plT c (r + 1)) (PartI (plT c (r + 1))) w := by
  intro l J Jx W hW hJ hK hY h0
  have HJ := Lib.hid hJ
  have HY := Lib.hid hY
  have hx := Cell2.new W 137 (.int .i64 (c : Int)) (.int .i64 (r : Int))
  have b0 := (Below.refl W.heap.size W).alloc (Nat.le_refl _) (.cells #[.int .i64 (c : Int), .int .i64 (r : Int)] 137)
  have hj0 := hJ _ _ _ h0 b0
  have HS : Hid (W.heap.size ≤ (W.alloc (.cells #[.int .i64 (c : Int), .int .i64 (r : Int)] 137)).heap.size) := Lib.hid b0.size
  have n1 : IntKind.i64.wrap ((r : Int) + 1) = (r : Int) + 1 := IntWalk.i64_in _ (by omega)
  obtain ⟨q0, q1⟩ := hx.cells
  clear hW hJ hK hY h0 b0
  refine callsIn_of_wp Try.func156 rfl trivial ?_ rfl
  simp only [Try.ntmps156, List.size_toArray, List.length_cons, List.length_nil, Nat.reduceAdd, Nat.reduceSub, Array.replicate_succ, Array.replicate_zero, List.push_toArray, List.append_toArray, List.nil_append, List.cons_append]
  gi_wp2
  clear q0 q1
  gi_loopw [8] (fun i wr => ∃ k : Nat, k ≤ r + 1 ∧ i = .int .i64 k ∧ Hid (J (plT c k) wr) ∧ Hid (Cell2 wr W.heap.size 137 (.int .i64 (c : Int)) (.int .i64 (r : Int))) ∧ W.heap.size ≤ wr.heap.size) (fun i _ => r + 1 - (intOf i).toNat)
  case atStart => exact ⟨0, Nat.zero_le _, rfl, Lib.hid hj0, Lib.hid hx, HS.out⟩
  case round =>
    clear hx hj0 HS
    obtain ⟨k, hk, rfl, hj, hbox, hsz⟩ := hrel
    by_cases hlt : (k : Int) < (r : Int) + 1
    · obtain ⟨c0, c1⟩ := hbox.out.cells
      have m1 : IntKind.i64.wrap (10 * (c : Int)) = 10 * (c : Int) := IntWalk.i64_in _ (by omega)
      have m2 : IntKind.i64.wrap (10 * (c : Int) + (k : Int)) = 10 * (c : Int) + (k : Int) := IntWalk.i64_in _ (by omega)
      obtain ⟨R, hR⟩ := plT_ahead c (k + 1) (r + 1 - (k + 1))
      rw [show k + 1 + (r + 1 - (k + 1)) = r + 1 by omega, plT_succ c k] at hR
      have HRR := Lib.hid hR
      have HE := Lib.hid (plT_succ c k)
      obtain ⟨fn, tmps, assign, body, hy, hRR⟩ := HY.out (plT c k) (10 * c + k) (.int .i64 (10 * (c : Int) + (k : Int))) wr hj.out ⟨R, hR⟩ (by simp)
      clear hR
      gi_wp2
      refine ⟨(fun h => by cases h), hRR.mono ?_⟩
      rintro e W3 (⟨rfl, hJ3, hk3⟩ | ⟨rfl, hJx3, hk3⟩)
      · have J3 := Lib.hid hJ3
        have X3 := Lib.hid (hbox.out.above hk3 (Nat.le_refl _))
        have s3 := hk3.size
        have hs3 : W.heap.size ≤ W3.heap.size := by omega
        clear hJ3 hk3 c0 c1
        gi_wp2
        go_roundw
        case rel => exact ⟨k + 1, by omega, by go_num, by rw [HE.out]; exact J3, X3, hs3⟩
        case measure => simp [intOf]; omega
      · have J3 := Lib.hid hJx3
        clear hJx3 hk3 c0 c1
        gi_wp2
        refine bodyPost_ret (results_none rfl _ _ _) rfl ?_
        exact ⟨⟨_, rfl⟩, .inr ⟨_, ⟨_, _, R, by rw [HRR.out, List.append_assoc]; rfl, rfl⟩, J3.out⟩⟩
    · obtain rfl : k = r + 1 := by omega
      gi_wp2
      go_end0
      exact ⟨⟨_, rfl⟩, .inl hj.out⟩

/-- the free places below k -/
def frT (p : Nat → Bool) (t : Int) (k : Nat) : List Nat := (List.range k).filter (fun (x : Nat) => freeAt p t (x : Int))
theorem frT_yes {p : Nat → Bool} {t : Int} {k : Nat} (h : freeAt p t (k : Int) = true) : frT p t (k + 1) = frT p t k ++ [k] := by
  unfold frT; rw [List.range_succ, List.filter_append]; simp [h]
theorem frT_no {p : Nat → Bool} {t : Int} {k : Nat} (h : freeAt p t (k : Int) = false) : frT p t (k + 1) = frT p t k := by
  unfold frT; rw [List.range_succ, List.filter_append]; simp [h]
theorem frT_ahead (p : Nat → Bool) (t : Int) (k : Nat) : ∀ d, ∃ R, frT p t (k + d) = frT p t k ++ R
  | 0 => ⟨[], by simp⟩
  | d + 1 => by
    obtain ⟨R, hR⟩ := frT_ahead p t k d
    rcases h : freeAt p t ((k + d : Nat) : Int) with _ | _
    · exact ⟨R, by rw [← Nat.add_assoc, frT_no h, hR]⟩
    · exact ⟨R ++ [k + d], by rw [← Nat.add_assoc, frT_yes h, hR, List.append_assoc]⟩
theorem frT_is (p : Nat → Bool) (t : Int) (k : Nat) : freeTo p t k = (frT p t k).map (fun (x : Nat) => (x : Int)) := rfl

set_option maxRecDepth 100000 in
set_option maxHeartbeats 4000000 in
theorem loose_yield (v : Nat) (t : Nat) (hv : v < 256) (ht : t ≤ 4) (q : Nat) (w : World) :
    YieldsI Fence.wide q Try.prog 132 #[.agg #[.int .u8 (v : Int), .int .i64 (t : Int)]] #[] (fun _ => True) (AheadI (frT (fun d => v.testBit d) (t : Int) (70 + t + 1))) (fun l => l = frT (fun d => v.testBit d) (t : Int) (70 + t + 1)) (PartI (frT (fun d => v.testBit d) (t : Int) (70 + t + 1))) w := by
  intro l J Jx W hW hJ hK hY h0
  have HJ := Lib.hid hJ
  have HY := Lib.hid hY
  have hx := Cell2.new W 135 (.int .u8 (v : Int)) (.int .i64 (t : Int))
  have b0 := (Below.refl W.heap.size W).alloc (Nat.le_refl _) (.cells #[.int .u8 (v : Int), .int .i64 (t : Int)] 135)
  have hj0 := hJ _ _ _ h0 b0
  have HS : Hid (W.heap.size ≤ (W.alloc (.cells #[.int .u8 (v : Int), .int .i64 (t : Int)] 135)).heap.size) := Lib.hid b0.size
  have n0 : IntKind.i64.wrap (70 + (t : Int)) = 70 + (t : Int) := IntWalk.i64_in _ (by omega)
  have n1 : IntKind.i64.wrap (70 + (t : Int) + 1) = 70 + (t : Int) + 1 := IntWalk.i64_in _ (by omega)
  obtain ⟨q0, q1⟩ := hx.cells
  clear hW hJ hK hY h0 b0
  refine callsIn_of_wp Try.func132 rfl trivial ?_ rfl
  simp only [Try.ntmps132, List.size_toArray, List.length_cons, List.length_nil, Nat.reduceAdd, Nat.reduceSub, Array.replicate_succ, Array.replicate_zero, List.push_toArray, List.append_toArray, List.nil_append, List.cons_append]
  gi_wp2
  clear q0 q1
  gi_loopw [9] (fun i wr => ∃ k : Nat, k ≤ 70 + t + 1 ∧ i = .int .i64 k ∧ Hid (J (frT (fun d => v.testBit d) (t : Int) k) wr) ∧ Hid (Cell2 wr W.heap.size 135 (.int .u8 (v : Int)) (.int .i64 (t : Int))) ∧ W.heap.size ≤ wr.heap.size) (fun i _ => 70 + t + 1 - (intOf i).toNat)
  case atStart => exact ⟨0, Nat.zero_le _, rfl, Lib.hid hj0, Lib.hid hx, HS.out⟩
  case round =>
    clear hx hj0 HS
    obtain ⟨k, hk, rfl, hj, hbox, hsz⟩ := hrel
    by_cases hlt : (k : Int) < 70 + (t : Int) + 1
    · obtain ⟨c0, c1⟩ := hbox.out.cells
      rcases hm : freeAt (fun d => v.testBit d) (t : Int) (k : Int) with _ | _
      · have HE := Lib.hid (frT_no hm)
        gi_wp2_with fail
        refine ⟨trivial, (fun h => by cases h), (callsIn_wide.2 (isFreeAt_any v (t : Int) (k : Int) _ hv (by omega) (by omega) (by omega) (by omega))).mono ?_⟩
        rw [hm]
        rintro e w1 ⟨rfl, b1⟩
        have J1 := Lib.hid (HJ.out _ _ _ hj.out (b1.mono hsz))
        have X1 := Lib.hid (hbox.out.on b1)
        have s1 := b1.size
        have hs1 : W.heap.size ≤ w1.heap.size := by omega
        clear c0 c1
        gi_wp2
        refine ⟨(fun _ h => by cases h), ?_⟩
        gi_wp2
        go_roundw
        case rel => exact ⟨k + 1, by omega, by go_num, by rw [HE.out]; exact J1, X1, hs1⟩
        case measure => simp [intOf]; omega
      · have HE := Lib.hid (frT_yes hm)
        gi_wp2_with fail
        refine ⟨trivial, (fun h => by cases h), (callsIn_wide.2 (isFreeAt_any v (t : Int) (k : Int) _ hv (by omega) (by omega) (by omega) (by omega))).mono ?_⟩
        rw [hm]
        rintro e w1 ⟨rfl, b1⟩
        have J1 := HJ.out _ _ _ hj.out (b1.mono hsz)
        have X1 := Lib.hid (hbox.out.on b1)
        have s1 := b1.size
        have hs1 : W.heap.size ≤ w1.heap.size := by omega
        clear c0 c1
        obtain ⟨R, hR⟩ := frT_ahead (fun d => v.testBit d) (t : Int) (k + 1) (70 + t + 1 - (k + 1))
        rw [show k + 1 + (70 + t + 1 - (k + 1)) = 70 + t + 1 by omega, HE.out] at hR
        have HRR := Lib.hid hR
        obtain ⟨fn, tmps, assign, body, hy, hRR⟩ := HY.out (frT (fun d => v.testBit d) (t : Int) k) k (.int .i64 (k : Int)) w1 J1 ⟨R, hR⟩ rfl
        clear hR
        gi_wp2
        refine ⟨(fun h => by cases h), hRR.mono ?_⟩
        rintro e W3 (⟨rfl, hJ3, hk3⟩ | ⟨rfl, hJx3, hk3⟩)
        · have J3 := Lib.hid hJ3
          have X3 := Lib.hid (X1.out.above hk3 (Nat.le_refl _))
          have s3 := hk3.size
          have hs3 : W.heap.size ≤ W3.heap.size := by omega
          clear hJ3 hk3
          gi_wp2
          go_roundw
          case rel => exact ⟨k + 1, by omega, by go_num, by rw [HE.out]; exact J3, X3, hs3⟩
          case measure => simp [intOf]; omega
        · have J3 := Lib.hid hJx3
          clear hJx3 hk3
          gi_wp2
          refine bodyPost_ret (results_none rfl _ _ _) rfl ?_
          exact ⟨⟨_, rfl⟩, .inr ⟨_, ⟨_, _, R, by rw [HRR.out, List.append_assoc]; rfl, rfl⟩, J3.out⟩⟩
    · obtain rfl : k = 70 + t + 1 := by omega
      gi_wp2
      go_end0
      exact ⟨⟨_, rfl⟩, .inl hj.out⟩

end Go.Proofs.Ytbfnffecmglgfaa
