/- setOfStack of the program. LockOfPins of the program. -/
import Derived.Test.YtjoknbknhfnggaaThick
import Derived.Deep.RegionHeld3
namespace Go.Proofs.Ytjoknbknhfnggaa
open Go Go.RowKit

/-- running sums -/
def sums (a : Int) : List Int → List Int
  | [] => []
  | x :: r => (a + x) :: sums (a + x) r
def total : List Int → Int
  | [] => 0
  | x :: r => x + total r
theorem sums_len : ∀ (a : Int) (xs : List Int), (sums a xs).length = xs.length
  | _, [] => rfl
  | a, x :: r => by simp [sums, sums_len (a + x) r]
theorem total_snoc (xs : List Int) (v : Int) : total (xs ++ [v]) = total xs + v := by
  induction xs with
  | nil => simp [total]
  | cons x r ih => simp [total, ih]; omega
theorem sums_snoc : ∀ (a : Int) (xs : List Int) (v : Int), sums a (xs ++ [v]) = sums a xs ++ [a + total xs + v]
  | a, [], v => by simp [sums, total]
  | a, x :: r, v => by
    show (a + x) :: sums (a + x) (r ++ [v]) = (a + x) :: (sums (a + x) r ++ [a + (x + total r) + v])
    rw [sums_snoc (a + x) r v]
    congr 3
    omega
theorem total_take {xs : List Int} {k : Nat} {v : Int} (h : xs[k]? = some v) : total (xs.take (k + 1)) = total (xs.take k) + v := by
  obtain ⟨hl, e⟩ := List.getElem?_eq_some_iff.1 h
  rw [List.take_succ_eq_append_getElem hl, e, total_snoc]
theorem sums_take {xs : List Int} {k : Nat} {v : Int} (h : xs[k]? = some v) : sums 0 (xs.take (k + 1)) = sums 0 (xs.take k) ++ [total (xs.take k) + v] := by
  obtain ⟨hl, e⟩ := List.getElem?_eq_some_iff.1 h
  rw [List.take_succ_eq_append_getElem hl, e, sums_snoc]
  simp
/-- the set that a stack tells, and whether it is one -/
def sosL (xs : List Int) : List Int := sums 0 (xs.take (xs.length - 1))
def sosB (m : Mk) (xs : List Int) : Bool := !decide (xs.length < 2) && (withB 0 (m.D - 1) xs && (riseB m.D (sosL xs) && decide (xs.getD (xs.length - 1) 0 = m.D - 1 - total (xs.take (xs.length - 1)))))
theorem sos_short {m : Mk} {xs : List Int} (h : xs.length < 2) : sosB m xs = false := by simp [sosB, h]
theorem sos_out {m : Mk} {xs : List Int} (h : withB 0 (m.D - 1) xs = false) : sosB m xs = false := by simp [sosB, h]
theorem sos_flat {m : Mk} {xs : List Int} (h : riseB m.D (sosL xs) = false) : sosB m xs = false := by simp [sosB, h]
theorem sos_in {m : Mk} {xs : List Int} (h : ¬ xs.length < 2) (h1 : withB 0 (m.D - 1) xs = true) (h2 : riseB m.D (sosL xs) = true) : sosB m xs = decide (xs.getD (xs.length - 1) 0 = m.D - 1 - total (xs.take (xs.length - 1))) := by simp [sosB, h, h1, h2]

/-- a list of the call's own that is being filled -/
def summed (xs : List Int) (k : Nat) (j : Nat) : Value := .int .i64 (if j < k then (sums 0 (xs.take k)).getD j 0 else 0)
theorem summed_set {xs : List Int} {k : Nat} {v : Int} (hv : xs[k]? = some v) (j : Nat) : (if j = k then Value.int .i64 (total (xs.take k) + v) else summed xs k j) = summed xs (k + 1) j := by
  have hk : k < xs.length := (List.getElem?_eq_some_iff.1 hv).1
  have hl : (sums 0 (xs.take k)).length = k := by rw [sums_len, List.length_take]; omega
  unfold summed
  rw [sums_take hv]
  by_cases h : j = k
  · subst h
    rw [if_pos rfl, if_pos (by omega), List.getD_eq_getElem?_getD, List.getElem?_append_right (by omega), hl, Nat.sub_self]; rfl
  · rw [if_neg h]
    by_cases h2 : j < k
    · rw [if_pos h2, if_pos (by omega), List.getD_eq_getElem?_getD, List.getD_eq_getElem?_getD, List.getElem?_append_left (by omega)]
    · rw [if_neg h2, if_neg (by omega)]
theorem total_bound {M : Int} : ∀ (xs : List Int), allIn 0 M xs = true → 0 ≤ M → 0 ≤ total xs ∧ total xs ≤ xs.length * M
  | [], _, _ => by simp [total]
  | x :: r, h, hM => by
    have hx : inB x 0 M = true ∧ allIn 0 M r = true := by
      unfold allIn at h ⊢
      rw [List.all_cons, Bool.and_eq_true] at h
      exact h
    obtain ⟨a, b⟩ := total_bound r hx.2 hM
    obtain ⟨c, d⟩ := inB_true.1 hx.1
    have e : ((x :: r).length : Int) * M = (r.length : Int) * M + M := by simp [Int.add_mul]
    unfold total
    rw [e]
    omega

/-- what setOfStack answers -/
def GivesSet (w : World) (m : Mk) (xs : List Int) (e : Ending) (w' : World) : Prop :=
  ∃ A n c, e = .returned (.tuple #[.slice A n c, .bool (sosB m xs)]) ∧ (sosB m xs = true → Own w' w.heap.size w'.heap.size A n (sosL xs) ∧ n ≤ c ∧ c ≤ 9223372036854775807) ∧ Below w.heap.size w w'

set_option maxRecDepth 100000 in
set_option maxHeartbeats 4000000 in
theorem setOfStack_any (m : Mk) (hm : m.ok = true) (A : Option Addr) (n c : Nat) (xs : List Int) (w : World) (h : Ints w w.heap.size A n xs) (hc : n ≤ c) (hn : n ≤ 1048576) :
    Calls Try.prog 107 #[.agg #[.int .i64 m.C, .int .i64 m.D, .int .i64 m.S, .int .i64 m.M, .int .i64 m.L], .slice A n c] w (GivesSet w m xs) := by
  obtain ⟨m1, m2, m3, m4, m5, m6, m7, m8, m9, m10, m11⟩ := Mk.ok_true hm
  have HL := Lib.hid h.len
  have hx := Boxed.new w 25 m
  have c0 := (Below.refl w.heap.size w).alloc (Nat.le_refl _) (.cells #[.int .i64 m.C, .int .i64 m.D, .int .i64 m.S, .int .i64 m.M, .int .i64 m.L] 25)
  have hi := h.on c0
  obtain ⟨q0, q1, q2, q3, q4⟩ := hx.cells
  have sw1 : IntKind.i64.wrap (m.D - 1) = m.D - 1 := IntWalk.i64_in _ (by omega)
  by_cases hs : n < 2
  · have HE := Lib.hid (sos_short (m := m) (xs := xs) (by rw [HL.out]; exact hs))
    have ht : decide ((n : Int) < 2) = true := decide_eq_true (by omega)
    unfold GivesSet
    rw [HE.out]
    go_enter Try.func107, Try.ntmps107
    go_wp2
    go_ret2
    exact ⟨none, 0, 0, rfl, fun h => (by cases h), c0⟩
  have ht : decide ((n : Int) < 2) = false := decide_eq_false (by omega)
  rcases hq : withB 0 (m.D - 1) xs with _ | _
  · have HE := Lib.hid (sos_out (m := m) (xs := xs) hq)
    unfold GivesSet
    rw [HE.out]
    go_enter Try.func107, Try.ntmps107
    go_wp2_with fail
    refine (areWithin_any _ _ _ xs _ _ _ hi hn).mono ?_
    rw [hq]
    rintro e w' ⟨rfl, rfl⟩
    go_wp2
    go_ret2
    exact ⟨none, 0, 0, rfl, fun h => (by cases h), c0⟩
  obtain ⟨hn100, hall⟩ := withB_true hq
  have HN100 := Lib.hid (show n ≤ 100 by rw [← HL.out]; exact hn100)
  have HA := Lib.hid hall
  obtain ⟨p, hp⟩ : ∃ p, n - 1 = p := ⟨_, rfl⟩
  have hnp : n = p + 1 := by omega
  have hp99 : p ≤ 99 := by have := HN100.out; omega
  have hmk := run_make_row' (P := Try.prog) 39 2 (.int .i64 0) 8 Try.underlying39 Try.info2' rfl .i64 .i64 p (by omega) (by omega)
  have sp1 : IntKind.i64.wrap ((n : Int) - 1) = (p : Int) := by rw [IntWalk.i64_in _ (by omega)]; omega
  have sp2 : (p : Int) ≤ (c : Int) := by omega
  have HP := Lib.hid hi
  have hmx := below_alloc2 (w.alloc (.cells #[.int .i64 m.C, .int .i64 m.D, .int .i64 m.S, .int .i64 m.M, .int .i64 m.L] 25)) (.cells (madeCells #[.int .i64 0] p) 2)
  have x1 := Lib.hid (hx.on hmx)
  have C1 := Lib.hid (below_trans' c0 hmx)
  have hrow0 := World.rowIs_made (w.alloc (.cells #[.int .i64 m.C, .int .i64 m.D, .int .i64 m.S, .int .i64 m.M, .int .i64 m.L] 25)) (.int .i64 0) p 2
  rw [World.size_alloc] at hrow0
  have R0 : Hid (((w.alloc (.cells #[.int .i64 m.C, .int .i64 m.D, .int .i64 m.S, .int .i64 m.M, .int .i64 m.L] 25)).alloc (.cells (madeCells #[.int .i64 0] p) 2)).rowIs (w.heap.size + 1) 2 p (summed xs 0)) := Lib.hid (hrow0.congr (fun j _ => by simp [summed]))
  have HNP := Lib.hid hnp
  clear hrow0 hmx hall hn100 hp hnp
  go_enter Try.func107, Try.ntmps107
  go_wp2_with fail
  refine (areWithin_any _ _ _ xs _ _ _ hi hn).mono ?_
  rw [hq]
  rintro e w' ⟨rfl, rfl⟩
  clear q0 q1 q2 q3 q4
  go_wp2
  go_loopw [8, 31] (fun d x wr => ∃ (k : Nat), x = .int .i64 k ∧ k ≤ p ∧ d = .int .i64 (total (xs.take k)) ∧ Hid (wr.rowIs (w.heap.size + 1) 2 p (summed xs k)) ∧ Hid (Boxed wr w.heap.size 25 m) ∧ Hid (Below w.heap.size w wr)) (fun _ x _ => p - (intOf x).toNat)
  case atStart => exact ⟨0, rfl, Nat.zero_le _, rfl, R0, x1, C1⟩
  case round =>
    obtain ⟨k, rfl, hk, rfl, hrow, hbox, hb⟩ := hrel
    clear R0 x1 C1
    by_cases hlt : k < p
    · obtain ⟨ad, v, rfl, hab, hv, hcv⟩ := (h.on hb.out).at_ (show k < n by have := HNP.out; omega)
      obtain ⟨v0, v1⟩ := allIn_at HA.out hv
      have HV := Lib.hid hv
      obtain ⟨t0, t1⟩ : 0 ≤ total (xs.take k) ∧ total (xs.take k) ≤ 700 := by
        have hal : allIn 0 (m.D - 1) (xs.take k) = true := by
          unfold allIn at *
          rw [List.all_eq_true]
          intro y hy
          exact List.all_eq_true.1 HA.out y (List.mem_of_mem_take hy)
        obtain ⟨a, b⟩ := total_bound (xs.take k) hal (by omega)
        have e1 : ((xs.take k).length : Int) ≤ 99 := by rw [List.length_take]; omega
        have e2 : ((xs.take k).length : Int) * (m.D - 1) ≤ 99 * 7 := Int.mul_le_mul e1 (by omega) (by omega) (by omega)
        omega
      have sw : IntKind.i64.wrap (total (xs.take k) + v) = total (xs.take k) + v := IntWalk.i64_in _ (by omega)
      have HT := Lib.hid (total_take hv)
      have hst := hrow.out.cell hlt
      have hfz := hrow.out.frozen k
      clear hv
      obtain ⟨tt, htt⟩ : ∃ tt, total (xs.take k) = tt := ⟨_, rfl⟩
      have HTT := Lib.hid htt
      rw [htt] at sw t0 t1 ⊢
      clear htt
      go_wp2
      have R2 : Hid ((wr.setCell ⟨w.heap.size + 1, k, none⟩ (.int .i64 (tt + v))).rowIs (w.heap.size + 1) 2 p (summed xs (k + 1))) := Lib.hid ((hrow.out.set k (.int .i64 (tt + v))).congr (fun j _ => by rw [← HTT.out]; exact summed_set HV.out j))
      have X2 := Lib.hid (hbox.out.grown (grown_set (p := ⟨w.heap.size + 1, k, none⟩) (World.grownBy.refl wr (some (w.heap.size + 1))) rfl (.int .i64 (tt + v))) (by intro e; injection e with e; omega))
      have B2 := Lib.hid (hb.out.setCell (p := ⟨w.heap.size + 1, k, none⟩) (by simp) (.int .i64 (tt + v)))
      have HT2 : Hid (tt + v = total (xs.take (k + 1))) := Lib.hid (by rw [HT.out, HTT.out])
      clear hst hfz sw hcv
      go_roundw
      case rel => exact ⟨k + 1, by go_num, by omega, by rw [HT2.out], R2, X2, B2⟩
      case measure => simp [intOf]; omega
    · obtain rfl : k = p := by omega
      have HLS : Hid (sosL xs = sums 0 (xs.take k)) := Lib.hid (by unfold sosL; rw [HL.out, show n - 1 = k by have := HNP.out; omega])
      have hsl : (sums 0 (xs.take k)).length = k := by rw [sums_len, List.length_take, HL.out]; have := HNP.out; omega
      have ho : Own wr w.heap.size wr.heap.size (some ⟨w.heap.size + 1, 0, none⟩) k (sosL xs) := by
        rw [HLS.out]
        refine Own.of_row (hrow.out.congr (fun j hj => ?_)) hsl (by omega)
        unfold summed
        rw [if_pos hj]
      have HO := Lib.hid ho
      obtain ⟨ad, v, rfl, hab, hv, hcv⟩ := (h.on hb.out).at_ (show k < n by have := HNP.out; omega)
      obtain ⟨v0, v1⟩ := allIn_at HA.out hv
      obtain ⟨t0, t1⟩ : 0 ≤ total (xs.take k) ∧ total (xs.take k) ≤ 700 := by
        have hal : allIn 0 (m.D - 1) (xs.take k) = true := by
          unfold allIn at *
          rw [List.all_eq_true]
          intro y hy
          exact List.all_eq_true.1 HA.out y (List.mem_of_mem_take hy)
        obtain ⟨a, b⟩ := total_bound (xs.take k) hal (by omega)
        have e1 : ((xs.take k).length : Int) ≤ 99 := by rw [List.length_take]; omega
        have e2 : ((xs.take k).length : Int) * (m.D - 1) ≤ 99 * 7 := Int.mul_le_mul e1 (by omega) (by omega) (by omega)
        omega
      obtain ⟨tt, htt⟩ : ∃ tt, total (xs.take k) = tt := ⟨_, rfl⟩
      have HTT := Lib.hid htt
      rw [htt] at t0 t1 ⊢
      have HV : Hid (xs.getD (xs.length - 1) 0 = v) := Lib.hid (by rw [HL.out, show n - 1 = k by have := HNP.out; omega, List.getD_eq_getElem?_getD, hv]; rfl)
      have HBB := Lib.hid hb.out
      obtain ⟨q0, q1, q2, q3, q4⟩ := hbox.out.cells
      have j0 : (0 : Int) ≤ (k : Int) := by omega
      have j1 : (k : Int) < (n : Int) := by have := HNP.out; omega
      have sw2 : IntKind.i64.wrap (m.D - 1 - tt) = m.D - 1 - tt := IntWalk.i64_in _ (by omega)
      clear htt hv ho
      rcases hr : riseB m.D (sosL xs) with _ | _
      · have HE := Lib.hid (sos_flat (m := m) (xs := xs) hr)
        go_wp2
        refine wp_region_held_drew (S := fun w' => w'.cell? ⟨w.heap.size, 1, none⟩ = some (.int .i64 m.D)) (by kernel_rfl) q1 (fun hHeld => ?_)
        refine held_take (i := 0) (oi := _) (v := ?_) (some 44) rfl rfl (by kernel_rfl) (by kernel_rfl) (by kernel_rfl) (fun _ _ _ h => h) (Or.inl ⟨by rfl, ?_⟩) (by assumption) ?_
        rotate_left
        · intro w' hSw
          go_simp
          try with_reducible rfl
        try simp only [Act.put, List.setIfInBounds_toArray, List.set_cons_zero, List.set_cons_succ]
        refine held_take (i := 1) (oi := _) (v := ?_) (some 45) rfl rfl (by kernel_rfl) (by kernel_rfl) (by kernel_rfl) (fun _ _ _ h => h) (Or.inl ⟨by rfl, ?_⟩) (by assumption) ?_
        rotate_left
        · intro w' hSw
          go_simp
          try with_reducible rfl
        try simp only [Act.put, List.setIfInBounds_toArray, List.set_cons_zero, List.set_cons_succ]
        refine held_take (i := 2) (oi := _) (v := ?_) (some 46) rfl rfl (by kernel_rfl) (by kernel_rfl) (by kernel_rfl) (fun _ _ _ h => h) (Or.inl ⟨by rfl, ?_⟩) (by assumption) ?_
        rotate_left
        · intro w' hSw
          go_simp
          try with_reducible rfl
        try simp only [Act.put, List.setIfInBounds_toArray, List.set_cons_zero, List.set_cons_succ]
        refine held_take (i := 3) (oi := _) (v := ?_) (some 47) rfl rfl (by kernel_rfl) (by kernel_rfl) (by kernel_rfl) (fun _ _ _ h => h) (Or.inl ⟨by rfl, ?_⟩) (by assumption) ?_
        rotate_left
        · intro w' hSw
          go_simp
          try with_reducible rfl
        try simp only [Act.put, List.setIfInBounds_toArray, List.set_cons_zero, List.set_cons_succ]
        refine wpAnyH_ready (rs := [4]) (by kernel_rfl) (by simp) ?_
        refine AllReadyH.cons (o := _) rfl (fun K hK => ?_) AllReadyH.nil
        go_simp
        refine (isRising_any _ _ _ (sosL xs) _ _ (ints_drewN HO.out.ints 1) (by omega)).mono ?_
        rw [hr]
        rintro e w' ⟨rfl, rfl⟩
        refine hK.out _ _ q1 (fun hHeld => ?_)
        try simp only [Act.put, List.setIfInBounds_toArray, List.set_cons_zero, List.set_cons_succ]
        refine held_take (i := 5) (oi := _) (v := ?_) (some 49) rfl rfl (by kernel_rfl) (by kernel_rfl) (by kernel_rfl) (fun _ _ _ h => h) (Or.inl ⟨by rfl, ?_⟩) (by assumption) ?_
        rotate_left
        · intro w' hSw
          go_simp
          try with_reducible rfl
        try simp only [Act.put, List.setIfInBounds_toArray, List.set_cons_zero, List.set_cons_succ]
        refine held_take (i := 6) (oi := _) (v := undef) (some 50) rfl rfl (by kernel_rfl) (by kernel_rfl) (by kernel_rfl) (fun _ _ _ h => h) (Or.inr ⟨by rfl, rfl⟩) (by assumption) ?_
        try simp only [Act.put, List.setIfInBounds_toArray, List.set_cons_zero, List.set_cons_succ]
        refine held_take (i := 7) (oi := _) (v := undef) (some 51) rfl rfl (by kernel_rfl) (by kernel_rfl) (by kernel_rfl) (fun _ _ _ h => h) (Or.inr ⟨by rfl, rfl⟩) (by assumption) ?_
        try simp only [Act.put, List.setIfInBounds_toArray, List.set_cons_zero, List.set_cons_succ]
        refine held_take (i := 8) (oi := _) (v := undef) (some 52) rfl rfl (by kernel_rfl) (by kernel_rfl) (by kernel_rfl) (fun _ _ _ h => h) (Or.inr ⟨by rfl, rfl⟩) (by assumption) ?_
        try simp only [Act.put, List.setIfInBounds_toArray, List.set_cons_zero, List.set_cons_succ]
        refine held_take (i := 9) (oi := _) (v := undef) (some 53) rfl rfl (by kernel_rfl) (by kernel_rfl) (by kernel_rfl) (fun _ _ _ h => h) (Or.inr ⟨by rfl, rfl⟩) (by assumption) ?_
        try simp only [Act.put, List.setIfInBounds_toArray, List.set_cons_zero, List.set_cons_succ]
        refine held_take (i := 10) (oi := _) (v := undef) (some 54) rfl rfl (by kernel_rfl) (by kernel_rfl) (by kernel_rfl) (fun _ _ _ h => h) (Or.inr ⟨by rfl, rfl⟩) (by assumption) ?_
        try simp only [Act.put, List.setIfInBounds_toArray, List.set_cons_zero, List.set_cons_succ]
        refine held_take (i := 11) (oi := _) (v := undef) (some 55) rfl rfl (by kernel_rfl) (by kernel_rfl) (by kernel_rfl) (fun _ _ _ h => h) (Or.inr ⟨by rfl, rfl⟩) (by assumption) ?_
        try simp only [Act.put, List.setIfInBounds_toArray, List.set_cons_zero, List.set_cons_succ]
        refine held_take (i := 12) (oi := _) (v := undef) (some 56) rfl rfl (by kernel_rfl) (by kernel_rfl) (by kernel_rfl) (fun _ _ _ h => h) (Or.inr ⟨by rfl, rfl⟩) (by assumption) ?_
        try simp only [Act.put, List.setIfInBounds_toArray, List.set_cons_zero, List.set_cons_succ]
        refine held_take (i := 13) (oi := _) (v := undef) (some 57) rfl rfl (by kernel_rfl) (by kernel_rfl) (by kernel_rfl) (fun _ _ _ h => h) (Or.inr ⟨by rfl, rfl⟩) (by assumption) ?_
        try simp only [Act.put, List.setIfInBounds_toArray, List.set_cons_zero, List.set_cons_succ]
        refine held_take (i := 14) (oi := _) (v := undef) (some 58) rfl rfl (by kernel_rfl) (by kernel_rfl) (by kernel_rfl) (fun _ _ _ h => h) (Or.inr ⟨by rfl, rfl⟩) (by assumption) ?_
        try simp only [Act.put, List.setIfInBounds_toArray, List.set_cons_zero, List.set_cons_succ]
        refine held_take (i := 15) (oi := _) (v := undef) (some 59) rfl rfl (by kernel_rfl) (by kernel_rfl) (by kernel_rfl) (fun _ _ _ h => h) (Or.inr ⟨by rfl, rfl⟩) (by assumption) ?_
        try simp only [Act.put, List.setIfInBounds_toArray, List.set_cons_zero, List.set_cons_succ]
        refine held_take (i := 16) (oi := _) (v := ?_) (some 60) rfl rfl (by kernel_rfl) (by kernel_rfl) (by kernel_rfl) (fun _ _ _ h => h) (Or.inl ⟨by rfl, ?_⟩) (by assumption) ?_
        rotate_left
        · intro w' hSw
          go_simp
          try with_reducible rfl
        try simp only [Act.put, List.setIfInBounds_toArray, List.set_cons_zero, List.set_cons_succ]
        refine held_take (i := 17) (oi := _) (v := ?_) (some 4) rfl rfl (by kernel_rfl) (by kernel_rfl) (by kernel_rfl) (fun _ _ _ h => h) (Or.inl ⟨by rfl, ?_⟩) (by assumption) ?_
        rotate_left
        · intro w' hSw
          go_simp
          try with_reducible rfl
        try simp only [Act.put, List.setIfInBounds_toArray, List.set_cons_zero, List.set_cons_succ]
        refine held_take (i := 18) (oi := _) (v := ?_) (some 5) rfl rfl (by kernel_rfl) (by kernel_rfl) (by kernel_rfl) (fun _ _ _ h => h) (Or.inl ⟨by rfl, ?_⟩) (by assumption) ?_
        rotate_left
        · intro w' hSw
          go_simp
          try with_reducible rfl
        try simp only [Act.put, List.setIfInBounds_toArray, List.set_cons_zero, List.set_cons_succ]
        refine wpAnyH_done (by kernel_rfl) ?_ _
        have B3 := Lib.hid (below_drewN HBB.out 1)
        go_wp2
        go_ret2
        exact ⟨some ⟨w.heap.size + 1, 0, none⟩, k, k, by rw [HE.out]; rfl, fun e => (by rw [HE.out] at e; cases e), B3.out⟩
      · have HE := Lib.hid (sos_in (m := m) (xs := xs) (by rw [HL.out]; omega) hq hr)
        obtain ⟨dv, hdv⟩ : ∃ dv, (v == m.D - 1 - tt) = dv := ⟨_, rfl⟩
        have HB : Hid (sosB m xs = dv) := Lib.hid (by
          rw [HE.out, HV.out, HL.out, show n - 1 = k by have := HNP.out; omega, HTT.out, ← hdv]
          rfl)
        have HDV := Lib.hid hdv
        go_wp2
        go_region_held3 (fun w' => w'.cell? ⟨w.heap.size, 1, none⟩ = some (.int .i64 m.D) ∧ w'.cell? (ad.add k) = some (.int .i64 v))
          (first | go_keep | exact ⟨q1, hcv⟩)
          (first
            | (go_at_call 81; refine (isRising_any _ _ _ (sosL xs) _ _ (ints_drewN HO.out.ints 1) (by omega)).mono ?_; rw [hr]; rintro e w' ⟨rfl, rfl⟩))
        all_goals
          have B3 := Lib.hid (below_drewN HBB.out 1)
          go_wp2
          go_ret2
          exact ⟨some ⟨w.heap.size + 1, 0, none⟩, k, k, by rw [HB.out]; rfl, fun _ => ⟨HO.out.dn 1, Nat.le_refl _, by omega⟩, B3.out⟩

end Go.Proofs.Ytjoknbknhfnggaa

namespace Go.Proofs.Ytjoknbknhfnggaa
open Go Go.RowKit

def lpB (m : Mk) (pss : List (List Int)) : Bool := decide ((pss.length : Int) = m.C) && pss.all (sosB m)
def lpE (m : Mk) (pss : List (List Int)) : Int := if m.ok then (if lpB m pss then 0 else 2) else 1
def lpL (m : Mk) (pss : List (List Int)) : List (List Int) := if lpE m pss = 0 then pss.map sosL else []
theorem lp_bad {m : Mk} {pss : List (List Int)} (h : m.ok = false) : lpE m pss = 1 ∧ lpL m pss = [] := by
  have e : lpE m pss = 1 := by simp [lpE, h]
  exact ⟨e, by unfold lpL; rw [e]; rfl⟩
theorem lp_no {m : Mk} {pss : List (List Int)} (h : m.ok = true) (h2 : lpB m pss = false) : lpE m pss = 2 ∧ lpL m pss = [] := by
  have e : lpE m pss = 2 := by simp [lpE, h, h2]
  exact ⟨e, by unfold lpL; rw [e]; rfl⟩
theorem lp_yes {m : Mk} {pss : List (List Int)} (h : m.ok = true) (h2 : lpB m pss = true) : lpE m pss = 0 ∧ lpL m pss = pss.map sosL := by
  have e : lpE m pss = 0 := by simp [lpE, h, h2]
  exact ⟨e, by unfold lpL; rw [e]; rfl⟩
theorem lpB_at {m : Mk} {pss : List (List Int)} {k : Nat} {ps : List Int} (hk : pss[k]? = some ps) (h : sosB m ps = false) : lpB m pss = false := by
  unfold lpB
  rw [Bool.and_eq_false_iff]
  right
  rw [List.all_eq_false]
  exact ⟨ps, List.mem_of_getElem? hk, by rw [h]; simp⟩

set_option maxRecDepth 100000 in
set_option maxHeartbeats 8000000 in
theorem lockOfPins_any (m : Mk) (V : Option Addr) (n c : Nat) (pss : List (List Int)) (w : World) (h : Sets w w.heap.size V n pss) (hn : n + sizeL pss ≤ 1048576) :
    Calls Try.prog 58 #[.agg #[.int .i64 m.C, .int .i64 m.D, .int .i64 m.S, .int .i64 m.M, .int .i64 m.L], .slice V n c] w (GivesLockE w (lpE m pss) (lpL m pss)) := by
  have c0 := ((Below.refl w.heap.size w).alloc (Nat.le_refl _) (.cells #[.int .i64 m.C, .int .i64 m.D, .int .i64 m.S, .int .i64 m.M, .int .i64 m.L] 25)).alloc (by simp) (.cells #[.slice none 0 0] 30)
  have hx := (Boxed.new w 25 m).alloc (.cells #[.slice none 0 0] 30)
  have o0 := Cell1.new (w.alloc (.cells #[.int .i64 m.C, .int .i64 m.D, .int .i64 m.S, .int .i64 m.M, .int .i64 m.L] 25)) 30 (.slice none 0 0)
  simp only [World.size_alloc] at o0
  have HN := Lib.hid hn
  have HLN := Lib.hid h.len
  have hn1 : n ≤ 1048576 := by omega
  have HS := Lib.hid h
  clear h hn
  obtain ⟨q0, q1, q2, q3, q4⟩ := hx.cells
  rcases hm : m.ok with _ | _
  · have HE := Lib.hid (lp_bad (pss := pss) hm)
    rw [HE.out.1, HE.out.2]
    go_enter Try.func58, Try.ntmps58
    go_wp2_with fail
    refine (isMaker_any m _).mono ?_
    rw [hm]
    rintro e w1 ⟨rfl, b1⟩
    have c1 := below_trans' c0 b1
    have o1 := o0.on b1
    have f1 := o1.thawed
    have k1 := o1.cell
    clear q0 q1 q2 q3 q4
    go_wp2
    have r0 := (o1.put (.slice none 0 0)).cell
    refine bodyPost_ret (v := .tuple #[.agg #[.slice none 0 0], .int .i64 1]) (by simp [results, Try.results58, go_sem, r0]) rfl ⟨none, 0, 0, [], rfl, Rag.nil none ?_, Nat.le_refl _, by omega, c1.setCell (by simp) _⟩
    have := c1.size
    simpa [World.setCell] using this
  obtain ⟨m1, m2, m3, m4, m5, m6, m7, m8, m9, m10, m11⟩ := Mk.ok_true hm
  have HM := Lib.hid hm
  by_cases hC : (n : Int) = m.C
  rotate_left
  · have HE := Lib.hid (lp_no (pss := pss) hm (by unfold lpB; rw [HLN.out, decide_eq_false hC]; rfl))
    have ht : ((n : Int) != m.C) = true := by simpa using hC
    rw [HE.out.1, HE.out.2]
    clear hm
    go_enter Try.func58, Try.ntmps58
    go_wp2_with fail
    refine (isMaker_any m _).mono ?_
    rw [HM.out]
    rintro e w1 ⟨rfl, b1⟩
    have c1 := below_trans' c0 b1
    have o1 := o0.on b1
    have x1 := hx.on b1
    have f1 := o1.thawed
    have k1 := o1.cell
    clear q0 q1 q2 q3 q4
    obtain ⟨q0, q1, q2, q3, q4⟩ := x1.cells
    go_wp2
    have r0 := (o1.put (.slice none 0 0)).cell
    refine bodyPost_ret (v := .tuple #[.agg #[.slice none 0 0], .int .i64 2]) (by simp [results, Try.results58, go_sem, r0]) rfl ⟨none, 0, 0, [], rfl, Rag.nil none ?_, Nat.le_refl _, by omega, c1.setCell (by simp) _⟩
    have := c1.size
    simpa [World.setCell] using this
  have ht : ((n : Int) != m.C) = false := by simpa using hC
  have hmk := run_make_row' (P := Try.prog) 26 39 (.slice none 0 0) 24 Try.underlying26 Try.info39' rfl .i64 .i64 n (by omega) (by omega)
  rw [hC] at hmk
  have HNC := Lib.hid hC
  clear hC hm
  go_enter Try.func58, Try.ntmps58
  go_wp2_with fail
  refine (isMaker_any m _).mono ?_
  rw [HM.out]
  rintro e w1 ⟨rfl, b1⟩
  have c1 := below_trans' c0 b1
  have x1 := hx.on b1
  have o1 := o0.on b1
  have ho1 := o1.lt
  have hz1 := c1.size
  clear q0 q1 q2 q3 q4
  obtain ⟨q0, q1, q2, q3, q4⟩ := x1.cells
  have bM := (below_alloc2 w1 (.cells (madeCells #[.slice none 0 0] n) 39)).trans ((below_alloc2 _ (.cells #[.slice (some ⟨w1.heap.size, 0, none⟩) n n] 30)).mono (by simp))
  have M0 := Lib.hid ((Made.start (w := w1) (lo := w1.heap.size) (n := n) (yss := pss.map sosL) (Nat.le_refl _)).on (below_alloc2 _ (.cells #[.slice (some ⟨w1.heap.size, 0, none⟩) n n] 30)))
  have Y0 := Cell1.new (w1.alloc (.cells (madeCells #[.slice none 0 0] n) 39)) 30 (.slice (some ⟨w1.heap.size, 0, none⟩) n n)
  rw [World.size_alloc] at Y0
  have HY0 := Lib.hid Y0
  have D0 := Lib.hid bM
  have HO1 := Lib.hid o1
  have HX1 := Lib.hid x1
  have HC1 := Lib.hid c1
  clear Y0 bM hx o0 c0 b1 o1 c1 x1
  go_wp2
  clear q0 q1 q2 q3 q4 hmk
  go_loopw [27] (fun x wr => ∃ (k : Nat) (gs : List (Option Addr × Nat × Nat)), k ≤ n ∧ x = .int .i64 k ∧ Hid (∀ j ps, j < k → pss[j]? = some ps → sosB m ps = true) ∧ Hid (Made wr w1.heap.size w1.heap.size n k gs (pss.map sosL)) ∧ Hid (Cell1 wr (w1.heap.size + 1) 30 (.slice (some ⟨w1.heap.size, 0, none⟩) n n)) ∧ Hid (Below w1.heap.size w1 wr)) (fun x _ => n - (intOf x).toNat)
  case atStart => exact ⟨0, [], Nat.zero_le _, rfl, Lib.hid (fun j ps hj => absurd hj (by omega)), M0, HY0, D0⟩
  case round =>
    obtain ⟨k, gs, hk, rfl, hall, hmade, hbox, hb⟩ := hrel
    clear M0 HY0 D0
    have hbx := hbox.out.lt
    by_cases hlt : k < n
    · have hwr := below_trans' HC1.out hb.out
      obtain ⟨ad, ps, A, q, cc, rfl, hab, hy, hc, hi, hq, hqm⟩ := (HS.out.on hwr).at_ hlt
      have hq1 : q ≤ 1048576 := by have := fits_at HN.out hy; have := hi.len; omega
      have HPK := Lib.hid hy
      have HY : Hid ((pss.map sosL)[k]? = some (sosL ps)) := Lib.hid (by rw [List.getElem?_map, hy]; rfl)
      have HI := Lib.hid hi
      obtain ⟨q0, q1, q2, q3, q4⟩ := (HX1.out.on hb.out).cells
      clear hy hi hwr
      go_wp2_with fail
      refine (setOfStack_any m HM.out _ _ _ ps _ HI.out hq hq1).mono ?_
      rintro e w2 ⟨A2, n2, c2, rfl, hok, b2⟩
      have B2 := Lib.hid (below_trans' hb.out b2)
      clear q0 q1 q2 q3 q4
      rcases hs : sosB m ps with _ | _
      · have HE := Lib.hid (lp_no (pss := pss) HM.out (lpB_at HPK.out hs))
        have o2 := HO1.out.on B2.out
        have f2 := o2.thawed
        have g2 := o2.cell
        have C2 := Lib.hid (below_trans' HC1.out B2.out)
        clear hok hc
        go_wp2
        have r0 := (o2.put (.slice none 0 0)).cell
        refine bodyPost_ret (v := .tuple #[.agg #[.slice none 0 0], .int .i64 2]) (by simp [results, Try.results58, go_sem, r0]) rfl ⟨none, 0, 0, [], by rw [HE.out.1], ?_, Nat.le_refl _, by omega, C2.out.setCell (by simp) _⟩
        rw [HE.out.2]
        refine Rag.nil none ?_
        have := C2.out.size
        simpa [World.setCell] using this
      · obtain ⟨o2, hc2, hcm2⟩ := hok hs
        have K2 := Lib.hid (hbox.out.on b2)
        have ck2 := K2.out.cell
        have hfz := (hmade.out.on b2).row.frozen k
        have hst := (hmade.out.on b2).row.cell hlt
        have i0 : (0 : Int) ≤ (k : Int) := by omega
        have i1 : (k : Int) < (n : Int) := by omega
        have M2 := Lib.hid (hmade.out.push (a := (A2, n2, c2)) b2 HY.out o2.len hc2 hcm2 (fun hp => by
          obtain ⟨a2, _, rfl, _⟩ := o2.at_ hp
          obtain ⟨s1, s2, _⟩ := o2.self hp
          exact ⟨a2, rfl, s1, s2⟩))
        have K3 := Lib.hid (K2.out.other (p := ⟨w1.heap.size, k, none⟩) (by show w1.heap.size + 1 ≠ w1.heap.size; omega) (.slice A2 n2 c2))
        have B3 := Lib.hid (B2.out.setCell (p := ⟨w1.heap.size, k, none⟩) (Nat.le_refl _) (.slice A2 n2 c2))
        have HA : Hid (∀ j ps, j < k + 1 → pss[j]? = some ps → sosB m ps = true) := Lib.hid (fun j ps' hj hp => by
          rcases Nat.lt_or_ge j k with h1 | h1
          · exact hall.out j ps' h1 hp
          · obtain rfl : j = k := by omega
            rw [HPK.out] at hp
            injection hp with hp
            rw [← hp]; exact hs)
        clear o2 b2 hok hc
        go_wp2
        clear hfz hst ck2
        go_roundw
        case rel => exact ⟨k + 1, _, by omega, by go_num, HA, M2, K3, B3⟩
        case measure => simp [intOf]; omega
    · obtain rfl : k = n := by omega
      have HE := Lib.hid (lp_yes (pss := pss) HM.out (by
        unfold lpB
        rw [HLN.out, decide_eq_true HNC.out, Bool.true_and, List.all_eq_true]
        intro ps hps
        obtain ⟨j, hj⟩ := List.getElem?_of_mem hps
        exact hall.out j ps (by have := (List.getElem?_eq_some_iff.1 hj).1; rw [HLN.out] at this; exact this) hj))
      have HR := Lib.hid (hmade.out.rag (by rw [List.length_map, HLN.out]))
      have o2 := HO1.out.on hb.out
      have f2 := o2.thawed
      have g2 := o2.cell
      have cb := hbox.out.cell
      have C2 := Lib.hid (below_trans' HC1.out hb.out)
      go_wp2
      have r0 := (o2.put (.slice (some ⟨w1.heap.size, 0, none⟩) k k)).cell
      have R2 := HR.out.asetCell (p := ⟨w.heap.size + 1, 0, none⟩) (by show w.heap.size + 1 < w1.heap.size; omega) (.slice (some ⟨w1.heap.size, 0, none⟩) k k)
      refine bodyPost_ret (v := .tuple #[.agg #[.slice (some ⟨w1.heap.size, 0, none⟩) k k], .int .i64 0]) (by simp [results, Try.results58, go_sem, r0]) rfl ⟨_, k, k, gs, by rw [HE.out.1], ?_, Nat.le_refl _, by omega, C2.out.setCell (by simp) _⟩
      rw [HE.out.2]
      exact R2.more (by omega)

end Go.Proofs.Ytjoknbknhfnggaa
