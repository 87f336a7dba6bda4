/- The law of MeetLocks. -/
import Derived.Test.YtnfmcgfiaekaiaaLockLaw
import Derived.Test.YtnfmcgfiaekaiaaMeet
namespace Go.Proofs.Ytnfmcgfiaekaiaa
open Go Go.RowKit

theorem sizeAt_bound' {yss : List (List Int)} {b : Nat} (h : ∀ i, (yss.getD i []).length ≤ b) : ∀ k, sizeAt yss k ≤ k * b
  | 0 => Nat.zero_le _
  | k + 1 => by
    have h1 := sizeAt_bound' h k
    have h2 := h k
    show sizeAt yss k + _ ≤ (k + 1) * b
    rw [Nat.add_mul, Nat.one_mul]
    omega
theorem lockOf_size' {C D : Nat} {p : Nat → Nat → Bool} (hC : C ≤ 6) (hD : D ≤ 8) : (lockOf C D p).length + sizeL (lockOf C D p) ≤ 1048576 := by
  have h1 : ∀ i, ((lockOf C D p).getD i []).length ≤ 8 := by
    intro i
    rcases Nat.lt_or_ge i C with h | h
    · rw [getD_list (lockOf_at h)]
      have := setOf_len D (p i)
      omega
    · rw [List.getD_eq_getElem?_getD, List.getElem?_eq_none (by rw [lockOf_len]; exact h)]
      exact Nat.zero_le _
  have h2 := sizeAt_bound' h1 (lockOf C D p).length
  unfold sizeL
  rw [lockOf_len] at *
  omega
theorem mt_ne (m : Mk) (yss zss : List (List Int)) : ∀ ys ∈ mtL m yss zss, ys.length ≠ 0 := by
  intro ys hy
  unfold mtL at hy
  by_cases h : mtE m yss zss = 0
  · rw [if_pos h] at hy
    obtain ⟨i, hi, rfl⟩ := List.mem_map.1 hy
    unfold mtE at h
    by_cases hL : (lockB m yss && lockB m zss) = true
    · rw [if_pos hL] at h
      by_cases hk : mok yss zss m.C.toNat = true
      · unfold mok at hk
        rw [List.all_eq_true] at hk
        simpa using hk i hi
      · rw [if_neg hk] at h; omega
    · rw [if_neg hL] at h; omega
  · rw [if_neg h] at hy; cases hy
theorem mt_size (m : Mk) (yss zss : List (List Int)) : (mtL m yss zss).length + sizeL (mtL m yss zss) ≤ 1048576 := by
  rcases hL : lockB m yss with _ | _
  · rw [(meet_no (.inl hL)).2]; simp [sizeL, sizeAt]
  unfold mtL
  by_cases h : mtE m yss zss = 0
  · rw [if_pos h]
    obtain ⟨hm, _⟩ := lockB_facts hL
    obtain ⟨m1, m2, m3, m4, _⟩ := Mk.ok_true hm
    have e : (List.range m.C.toNat).map (mset yss zss) = lockOf m.C.toNat m.D.toNat (meetP yss zss) := by
      unfold lockOf
      exact List.map_congr_left (fun j hj => (mset_set hL (List.mem_range.1 hj)).symm)
    rw [e]
    exact lockOf_size' (by omega) (by omega)
  · rw [if_neg h]; simp [sizeL, sizeAt]

set_option linter.unusedSimpArgs false in
set_option linter.unusedVariables false in
set_option maxRecDepth 100000 in
set_option maxHeartbeats 16000000 in
theorem lawMeetLocks_any (m : Mk) (V : Option Addr) (n c : Nat) (yss : List (List Int)) (V' : Option Addr) (n' c' : Nat) (zss : List (List Int)) (w : World) (h0 : Sets w w.heap.size V n yss) (hcm0 : n ≤ 9223372036854775807) (h1 : Sets w w.heap.size V' n' zss) (hcm1 : n' ≤ 9223372036854775807) :
    Calls Try.prog 8 #[.agg #[.int .i64 m.C, .int .i64 m.D, .int .i64 m.S, .int .i64 m.M, .int .i64 m.L], .agg #[.slice V n c], .agg #[.slice V' n' c']] w fun e w' => e = .returned (.bool true) ∧ Below w.heap.size w w' := by
  have B_0' := Boxed.new w 62 m
  have C_0' := (Below.refl w.heap.size w).alloc (Nat.le_refl _) (.cells #[.int .i64 m.C, .int .i64 m.D, .int .i64 m.S, .int .i64 m.M, .int .i64 m.L] 62)
  have A0_0' := Cell1.new (w.alloc (.cells #[.int .i64 m.C, .int .i64 m.D, .int .i64 m.S, .int .i64 m.M, .int .i64 m.L] 62)) 63 (.slice V n c)
  simp only [World.size_alloc] at A0_0'
  have B_0' := B_0'.alloc (.cells #[.slice V n c] 63)
  have C_0' := C_0'.alloc (by simp; try omega) (.cells #[.slice V n c] 63)
  have A1_0' := Cell1.new ((w.alloc (.cells #[.int .i64 m.C, .int .i64 m.D, .int .i64 m.S, .int .i64 m.M, .int .i64 m.L] 62)).alloc (.cells #[.slice V n c] 63)) 63 (.slice V' n' c')
  simp only [World.size_alloc] at A1_0'
  have B_0' := B_0'.alloc (.cells #[.slice V' n' c'] 63)
  have A0_0' := A0_0'.alloc (.cells #[.slice V' n' c'] 63)
  have C_0' := C_0'.alloc (by simp; try omega) (.cells #[.slice V' n' c'] 63)
  have B_0 := Lib.hid B_0'
  have A0_0 := Lib.hid A0_0'
  have A1_0 := Lib.hid A1_0'
  have C_0 := Lib.hid C_0'
  have H0 := Lib.hid h0
  have HL0 := Lib.hid h0.len
  have H1 := Lib.hid h1
  have HL1 := Lib.hid h1.len
  clear B_0' A0_0' A1_0' C_0' h0 h1
  go_enter Try.func8, Try.ntmps8
  have ck0 := A0_0.out.cell
  go_wp2_with fail
  clear ck0
  refine (szLock_any _ _ _ yss 1048576 _ (H0.out.on C_0.out) (by omega) (by omega) hcm0).mono ?_
  rintro e ws0 ⟨⟨r0, rfl, hr0⟩, b0⟩
  have B_1 := Lib.hid (B_0.out.on b0)
  have A0_1 := Lib.hid (A0_0.out.on b0)
  have A1_1 := Lib.hid (A1_0.out.on b0)
  have C_1 := Lib.hid (below_trans' C_0.out b0)
  clear B_0 A0_0 A1_0 C_0 b0
  rcases hr0 with rfl | ⟨hr0, hr00⟩
  · go_wp2
    go_ret
    exact ⟨rfl, C_1.out⟩
  have hneg0 : ¬ r0 < 0 := by omega
  have HN0 : Hid (n + sizeL yss ≤ 1048576) := Lib.hid (by omega)
  have hn0 : n ≤ 1048576 := by omega
  have hlo0 : 0 ≤ r0 := by omega
  have hup0 : r0 ≤ 1048576 := by omega
  clear hr0 hr00
  have ck1 := A1_1.out.cell
  go_wp2_with fail
  clear ck1
  refine (szLock_any _ _ _ zss r0 _ (H1.out.on C_1.out) (by omega) (by omega) hcm1).mono ?_
  rintro e ws1 ⟨⟨r1, rfl, hr1⟩, b1⟩
  have B_2 := Lib.hid (B_1.out.on b1)
  have A0_2 := Lib.hid (A0_1.out.on b1)
  have A1_2 := Lib.hid (A1_1.out.on b1)
  have C_2 := Lib.hid (below_trans' C_1.out b1)
  clear B_1 A0_1 A1_1 C_1 b1
  rcases hr1 with rfl | ⟨hr1, hr10⟩
  · go_wp2
    go_ret
    exact ⟨rfl, C_2.out⟩
  have hneg1 : ¬ r1 < 0 := by omega
  have HN1 : Hid (n' + sizeL zss ≤ 1048576) := Lib.hid (by omega)
  have hn1 : n' ≤ 1048576 := by omega
  have hlo1 : 0 ≤ r1 := by omega
  have hup1 : r1 ≤ 1048576 := by omega
  clear hr1 hr10
  have HNL := Lib.hid (mt_size m yss zss)
  have HNE := Lib.hid (mt_ne m yss zss)
  have hzw := A1_2.out.lt
  go_wp2
  have hS0 : (fun w' => w'.cell? ⟨w.heap.size, 0, none⟩ = some (.int .i64 m.C) ∧ w'.cell? ⟨w.heap.size, 1, none⟩ = some (.int .i64 m.D) ∧ w'.cell? ⟨w.heap.size, 2, none⟩ = some (.int .i64 m.S) ∧ w'.cell? ⟨w.heap.size, 3, none⟩ = some (.int .i64 m.M) ∧ w'.cell? ⟨w.heap.size, 4, none⟩ = some (.int .i64 m.L) ∧ w'.cell? ⟨w.heap.size + 1, 0, none⟩ = some (.slice V n c) ∧ w'.cell? ⟨w.heap.size + 1 + 1, 0, none⟩ = some (.slice V' n' c')) ws1.drew := by have DW := below_drewN (Below.refl ws1.heap.size ws1) 1; exact boxed_and2 (B_2.out.on DW) (A0_2.out.on DW).cell (A1_2.out.on DW).cell
  refine wp_region_held_drew (S := (fun w' => w'.cell? ⟨w.heap.size, 0, none⟩ = some (.int .i64 m.C) ∧ w'.cell? ⟨w.heap.size, 1, none⟩ = some (.int .i64 m.D) ∧ w'.cell? ⟨w.heap.size, 2, none⟩ = some (.int .i64 m.S) ∧ w'.cell? ⟨w.heap.size, 3, none⟩ = some (.int .i64 m.M) ∧ w'.cell? ⟨w.heap.size, 4, none⟩ = some (.int .i64 m.L) ∧ w'.cell? ⟨w.heap.size + 1, 0, none⟩ = some (.slice V n c) ∧ w'.cell? ⟨w.heap.size + 1 + 1, 0, none⟩ = some (.slice V' n' c'))) (by kernel_rfl) hS0 (fun hHeld => ?_)
  refine held_take (i := 0) (oi := _) (v := ?_) (some 30) rfl rfl (by kernel_rfl) (by kernel_rfl) (by kernel_rfl) (fun _ _ _ h => h) (Or.inl ⟨by rfl, ?_⟩) hHeld ?_
  rotate_left
  · intro w' hSw
    obtain ⟨r0, r1, r2, r3, r4, r5, r6⟩ := hSw
    go_simp
    try with_reducible rfl
  try simp only [Act.put, List.setIfInBounds_toArray, List.set_cons_zero, List.set_cons_succ]
  refine held_take (i := 2) (oi := _) (v := ?_) (some 32) rfl rfl (by kernel_rfl) (by kernel_rfl) (by kernel_rfl) (fun _ _ _ h => h) (Or.inl ⟨by rfl, ?_⟩) hHeld ?_
  rotate_left
  · intro w' hSw
    obtain ⟨r0, r1, r2, r3, r4, r5, r6⟩ := hSw
    go_simp
    try with_reducible rfl
  try simp only [Act.put, List.setIfInBounds_toArray, List.set_cons_zero, List.set_cons_succ]
  refine held_take (i := 4) (oi := _) (v := ?_) (some 34) rfl rfl (by kernel_rfl) (by kernel_rfl) (by kernel_rfl) (fun _ _ _ h => h) (Or.inl ⟨by rfl, ?_⟩) hHeld ?_
  rotate_left
  · intro w' hSw
    obtain ⟨r0, r1, r2, r3, r4, r5, r6⟩ := hSw
    go_simp
    try with_reducible rfl
  try simp only [Act.put, List.setIfInBounds_toArray, List.set_cons_zero, List.set_cons_succ]
  refine with_slots (fun Ga Ta hGa hTa => ?_)
  clear hHeld hS0
  have nFa : ∀ (W : World) (vV0 : Option Addr) (vc0 : Nat) (vV1 : Option Addr) (vc1 : Nat) (Va : Option Addr) (na ca ga : Nat), Below ws1.heap.size ws1 W → Cell1 W ga 30 (.slice Va na ca) → ws1.heap.size ≤ ga → Sets W W.heap.size Va na (mtL m yss zss) → Ga 0 #[true, true, true, true, true, true, true, true, true, true, true, true, true] { tmps := (((((((((Ta.setIfInBounds 31 (.agg #[.int .i64 m.C, .int .i64 m.D, .int .i64 m.S, .int .i64 m.M, .int .i64 m.L])).setIfInBounds 33 (.agg #[.slice vV0 n vc0])).setIfInBounds 35 (.agg #[.slice vV1 n' vc1])).setIfInBounds 36 (.tuple #[.agg #[.slice Va na ca], .int .i64 (mtE m yss zss)])).setIfInBounds 8 (.pointer (some ⟨ga, 0, none⟩))).setIfInBounds 29 (.tuple #[.agg #[.slice Va na ca], .int .i64 (mtE m yss zss)])).setIfInBounds 37 (.agg #[.slice Va na ca])).setIfInBounds 38 (.int .i64 (mtE m yss zss))).setIfInBounds 9 (.int .i64 (mtE m yss zss))), defers := [] } W := by
    intro Wa vV0 vc0 vV1 vc1 Va na ca ga DW Y hga S4
    rw [hGa, hTa]
    try simp only [List.setIfInBounds_toArray, List.set_cons_zero, List.set_cons_succ]
    refine wpAnyH_done (by kernel_rfl) ?_ _
    clear hGa hTa Ga Ta
    have hDWa := DW.size
    have B_3 := Lib.hid (B_2.out.on DW)
    have A0_3 := Lib.hid (A0_2.out.on DW)
    have A1_3 := Lib.hid (A1_2.out.on DW)
    have C_3 := Lib.hid (below_trans' C_2.out DW)
    clear B_2 A0_2 A1_2 C_2 DW
    have S4h := Lib.hid S4
    have T_3 := Lib.hid Y
    clear S4 Y
    have HL4 := Lib.hid S4h.out.len
    have hz4 := T_3.out.lt
    have D_3 := Lib.hid (Below.refl Wa.heap.size Wa)
    have ck0 := A0_3.out.cell
    go_wp2_with fail
    clear ck0
    refine (toLock_any _ _ _ yss _ (H0.out.on C_3.out) HN0.out).mono ?_
    rintro e w4 ⟨V4, n4, c4, gs4, rfl, R4', z4, y4, b4⟩
    obtain rfl : n = n4 := (R4'.len.symm.trans HL0.out).symm
    have R0_4 := Lib.hid R4'
    have TX0 := Lib.hid R4'.top
    have hzx0 := b4.size
    clear R4'
    have B_4 := Lib.hid (B_3.out.on b4)
    have A0_4 := Lib.hid (A0_3.out.on b4)
    have A1_4 := Lib.hid (A1_3.out.on b4)
    have C_4 := Lib.hid (below_trans' C_3.out b4)
    have T_4 := Lib.hid (T_3.out.on b4)
    have D_4 := Lib.hid (below_trans' D_3.out b4)
    clear B_3 A0_3 A1_3 C_3 T_3 D_3 b4
    have X0_5 := Lib.hid (Cell1.new w4 30 (.slice V4 n c4))
    have o5 := (Below.refl w4.heap.size w4).alloc (Nat.le_refl _) (.cells #[.slice V4 n c4] 30)
    obtain ⟨w5, hw5⟩ : ∃ W, W = w4.alloc (.cells #[.slice V4 n c4] 30) := ⟨_, rfl⟩
    have hsz5 : w5.heap.size = w4.heap.size + 1 := by rw [hw5]; simp
    rw [← hw5] at X0_5 o5
    have HW5 := Lib.hid hw5
    clear hw5
    have B_5 := Lib.hid (B_4.out.on o5)
    have A0_5 := Lib.hid (A0_4.out.on o5)
    have A1_5 := Lib.hid (A1_4.out.on o5)
    have C_5 := Lib.hid (below_trans' C_4.out o5)
    have T_5 := Lib.hid (T_4.out.on o5)
    have D_5 := Lib.hid (below_trans' D_4.out o5)
    have R0_5 := Lib.hid (R0_4.out.on o5)
    clear B_4 A0_4 A1_4 C_4 T_4 D_4 R0_4 o5
    have ck1 := A1_5.out.cell
    rw [HW5.out] at ck1
    go_wp2_with fail
    rw [← HW5.out]
    clear ck1
    refine (toLock_any _ _ _ zss _ (H1.out.on C_5.out) HN1.out).mono ?_
    rintro e w6 ⟨V6, n6, c6, gs6, rfl, R6', z6, y6, b6⟩
    obtain rfl : n' = n6 := (R6'.len.symm.trans HL1.out).symm
    have R1_6 := Lib.hid R6'
    have TX1 := Lib.hid R6'.top
    have hzx1 := b6.size
    clear R6'
    have B_6 := Lib.hid (B_5.out.on b6)
    have A0_6 := Lib.hid (A0_5.out.on b6)
    have A1_6 := Lib.hid (A1_5.out.on b6)
    have C_6 := Lib.hid (below_trans' C_5.out b6)
    have T_6 := Lib.hid (T_5.out.on b6)
    have D_6 := Lib.hid (below_trans' D_5.out b6)
    have R0_6 := Lib.hid (R0_5.out.on b6)
    have X0_6 := Lib.hid (X0_5.out.on b6)
    clear B_5 A0_5 A1_5 C_5 T_5 D_5 R0_5 X0_5 b6
    have X1_7 := Lib.hid (Cell1.new w6 30 (.slice V6 n' c6))
    have o7 := (Below.refl w6.heap.size w6).alloc (Nat.le_refl _) (.cells #[.slice V6 n' c6] 30)
    obtain ⟨w7, hw7⟩ : ∃ W, W = w6.alloc (.cells #[.slice V6 n' c6] 30) := ⟨_, rfl⟩
    have hsz7 : w7.heap.size = w6.heap.size + 1 := by rw [hw7]; simp
    rw [← hw7] at X1_7 o7
    have HW7 := Lib.hid hw7
    clear hw7
    have B_7 := Lib.hid (B_6.out.on o7)
    have A0_7 := Lib.hid (A0_6.out.on o7)
    have A1_7 := Lib.hid (A1_6.out.on o7)
    have C_7 := Lib.hid (below_trans' C_6.out o7)
    have T_7 := Lib.hid (T_6.out.on o7)
    have D_7 := Lib.hid (below_trans' D_6.out o7)
    have R0_7 := Lib.hid (R0_6.out.on o7)
    have X0_7 := Lib.hid (X0_6.out.on o7)
    have R1_7 := Lib.hid (R1_6.out.on o7)
    clear B_6 A0_6 A1_6 C_6 T_6 D_6 R0_6 X0_6 R1_6 o7
    go_wp2
    rw [← HW7.out]
    have hS0 : (fun w' => w'.cell? ⟨w.heap.size, 0, none⟩ = some (.int .i64 m.C) ∧ w'.cell? ⟨w.heap.size, 1, none⟩ = some (.int .i64 m.D) ∧ w'.cell? ⟨w.heap.size, 2, none⟩ = some (.int .i64 m.S) ∧ w'.cell? ⟨w.heap.size, 3, none⟩ = some (.int .i64 m.M) ∧ w'.cell? ⟨w.heap.size, 4, none⟩ = some (.int .i64 m.L) ∧ w'.cell? ⟨w4.heap.size, 0, none⟩ = some (.slice V4 n c4) ∧ w'.cell? ⟨w6.heap.size, 0, none⟩ = some (.slice V6 n' c6)) w7.drew := by have DW := below_drewN (Below.refl w7.heap.size w7) 1; exact boxed_and2 (B_7.out.on DW) (X0_7.out.on DW).cell (X1_7.out.on DW).cell
    refine wp_region_held_drew (S := (fun w' => w'.cell? ⟨w.heap.size, 0, none⟩ = some (.int .i64 m.C) ∧ w'.cell? ⟨w.heap.size, 1, none⟩ = some (.int .i64 m.D) ∧ w'.cell? ⟨w.heap.size, 2, none⟩ = some (.int .i64 m.S) ∧ w'.cell? ⟨w.heap.size, 3, none⟩ = some (.int .i64 m.M) ∧ w'.cell? ⟨w.heap.size, 4, none⟩ = some (.int .i64 m.L) ∧ w'.cell? ⟨w4.heap.size, 0, none⟩ = some (.slice V4 n c4) ∧ w'.cell? ⟨w6.heap.size, 0, none⟩ = some (.slice V6 n' c6))) (by kernel_rfl) hS0 (fun hHeld => ?_)
    refine held_take (i := 0) (oi := _) (v := ?_) (some 44) rfl rfl (by kernel_rfl) (by kernel_rfl) (by kernel_rfl) (fun _ _ _ h => h) (Or.inl ⟨by rfl, ?_⟩) hHeld ?_
    rotate_left
    · intro w' hSw
      obtain ⟨r0, r1, r2, r3, r4, r5, r6⟩ := hSw
      go_simp
      try with_reducible rfl
    try simp only [Act.put, List.setIfInBounds_toArray, List.set_cons_zero, List.set_cons_succ]
    refine held_take (i := 2) (oi := _) (v := ?_) (some 46) rfl rfl (by kernel_rfl) (by kernel_rfl) (by kernel_rfl) (fun _ _ _ h => h) (Or.inl ⟨by rfl, ?_⟩) hHeld ?_
    rotate_left
    · intro w' hSw
      obtain ⟨r0, r1, r2, r3, r4, r5, r6⟩ := hSw
      go_simp
      try with_reducible rfl
    try simp only [Act.put, List.setIfInBounds_toArray, List.set_cons_zero, List.set_cons_succ]
    refine held_take (i := 3) (oi := _) (v := ?_) (some 47) rfl rfl (by kernel_rfl) (by kernel_rfl) (by kernel_rfl) (fun _ _ _ h => h) (Or.inl ⟨by rfl, ?_⟩) hHeld ?_
    rotate_left
    · intro w' hSw
      obtain ⟨r0, r1, r2, r3, r4, r5, r6⟩ := hSw
      go_simp
      try with_reducible rfl
    try simp only [Act.put, List.setIfInBounds_toArray, List.set_cons_zero, List.set_cons_succ]
    refine with_slots (fun Gb Tb hGb hTb => ?_)
    clear hHeld hS0
    have nFb : ∀ (W : World) (Vb : Option Addr) (nb cb gb : Nat) (lob hib : Nat) (gsb : List (Option Addr × Nat × Nat)), Below w7.heap.size w7 W → Cell1 W gb 30 (.slice Vb nb cb) → w7.heap.size ≤ gb → Rag W lob Vb nb gsb (mtL m yss zss) → w7.heap.size ≤ lob → Top gsb hib → hib ≤ W.heap.size → lob ≤ hib → (gb < lob ∨ hib ≤ gb) → Gb 0 #[true, true, true, true, true, true, true, true, true, true, true] { tmps := (((((((Tb.setIfInBounds 45 (.agg #[.int .i64 m.C, .int .i64 m.D, .int .i64 m.S, .int .i64 m.M, .int .i64 m.L])).setIfInBounds 48 (.tuple #[.agg #[.slice Vb nb cb], .int .i64 (mtE m yss zss)])).setIfInBounds 12 (.pointer (some ⟨gb, 0, none⟩))).setIfInBounds 43 (.tuple #[.agg #[.slice Vb nb cb], .int .i64 (mtE m yss zss)])).setIfInBounds 49 (.agg #[.slice Vb nb cb])).setIfInBounds 50 (.int .i64 (mtE m yss zss))).setIfInBounds 13 (.int .i64 (mtE m yss zss))), defers := [] } W := by
      intro Wb Vb nb cb gb lob hib gsb DW Y hgb G4 hlob TGb' hhib hlhb hgGb
      rw [hGb, hTb]
      try simp only [List.setIfInBounds_toArray, List.set_cons_zero, List.set_cons_succ]
      refine wpAnyH_done (by kernel_rfl) ?_ _
      clear hGb hTb Gb Tb
      have hDWb := DW.size
      have B_8 := Lib.hid (B_7.out.on DW)
      have A0_8 := Lib.hid (A0_7.out.on DW)
      have A1_8 := Lib.hid (A1_7.out.on DW)
      have C_8 := Lib.hid (below_trans' C_7.out DW)
      have T_8 := Lib.hid (T_7.out.on DW)
      have D_8 := Lib.hid (below_trans' D_7.out DW)
      have R0_8 := Lib.hid (R0_7.out.on DW)
      have X0_8 := Lib.hid (X0_7.out.on DW)
      have R1_8 := Lib.hid (R1_7.out.on DW)
      have X1_8 := Lib.hid (X1_7.out.on DW)
      clear B_7 A0_7 A1_7 C_7 T_7 D_7 R0_7 X0_7 R1_7 X1_7 DW
      obtain rfl : na = nb := (G4.len.symm.trans HL4.out).symm
      have G_8 := Lib.hid G4
      have M_8 := Lib.hid Y
      have TG := Lib.hid TGb'
      clear G4 Y TGb'
      have d1 : (mtE m yss zss != mtE m yss zss) = false := by simp
      have HDD := Lib.hid d1
      have cm := M_8.out.cell
      have ct := T_8.out.cell
      go_wp2_with fail
      clear cm ct
      refine (eqLock_true _ _ _ _ _ (mtL m yss zss) _ G_8.out.sets (S4h.out.on D_8.out) (by have := HL4.out; have := HNL.out; omega)).mono ?_
      rintro e w9 ⟨rfl, b9⟩
      have B_9 := Lib.hid (B_8.out.on b9)
      have A0_9 := Lib.hid (A0_8.out.on b9)
      have A1_9 := Lib.hid (A1_8.out.on b9)
      have C_9 := Lib.hid (below_trans' C_8.out b9)
      have T_9 := Lib.hid (T_8.out.on b9)
      have D_9 := Lib.hid (below_trans' D_8.out b9)
      have R0_9 := Lib.hid (R0_8.out.on b9)
      have X0_9 := Lib.hid (X0_8.out.on b9)
      have R1_9 := Lib.hid (R1_8.out.on b9)
      have X1_9 := Lib.hid (X1_8.out.on b9)
      have G_9 := Lib.hid (G_8.out.on b9)
      have M_9 := Lib.hid (M_8.out.on b9)
      clear B_8 A0_8 A1_8 C_8 T_8 D_8 R0_8 X0_8 R1_8 X1_8 G_8 M_8 b9
      have ck0 := A0_9.out.cell
      have cx0 := X0_9.out.cell
      go_wp2
      go_region_held3 (fun w' => w'.cell? ⟨w4.heap.size, 0, none⟩ = some (.slice V4 n c4) ∧ w'.cell? ⟨w.heap.size + 1, 0, none⟩ = some (.slice V n c))
        (first
          | go_keep
          | with_reducible exact ⟨(X0_9.out.on bx10).cell, (A0_9.out.on bx10).cell⟩
          | with_reducible exact ⟨(X0_9.out.on bx11).cell, (A0_9.out.on bx11).cell⟩)
        (first
          | (go_at_call 51; refine (toLock_any _ _ _ yss _ (H0.out.on (below_drewN C_9.out 1)) HN0.out).mono ?_; rintro e w10 ⟨V10, n10, c10, gs10, rfl, P10', z10, y10, b10⟩; obtain rfl : n = n10 := (P10'.len.symm.trans HL0.out).symm; have bx10 := below_trans' (below_drewN (Below.refl w9.heap.size w9) 1) b10; have P10 := Lib.hid P10'.sets)
          | (go_at_call 53; refine (eqLock_true _ _ _ _ _ yss _ (R0_9.out.on bx10).sets P10.out HN0.out).mono ?_; rintro e w11 ⟨rfl, b11⟩; have bx11 := below_trans' bx10 b11))
      all_goals
        clear P10 P10' b10 b11 bx10 ck0 cx0
        have B_11 := Lib.hid (B_9.out.on bx11)
        have A0_11 := Lib.hid (A0_9.out.on bx11)
        have A1_11 := Lib.hid (A1_9.out.on bx11)
        have C_11 := Lib.hid (below_trans' C_9.out bx11)
        have T_11 := Lib.hid (T_9.out.on bx11)
        have D_11 := Lib.hid (below_trans' D_9.out bx11)
        have R0_11 := Lib.hid (R0_9.out.on bx11)
        have X0_11 := Lib.hid (X0_9.out.on bx11)
        have R1_11 := Lib.hid (R1_9.out.on bx11)
        have X1_11 := Lib.hid (X1_9.out.on bx11)
        have G_11 := Lib.hid (G_9.out.on bx11)
        have M_11 := Lib.hid (M_9.out.on bx11)
        clear B_9 A0_9 A1_9 C_9 T_9 D_9 R0_9 X0_9 R1_9 X1_9 G_9 M_9 bx11
        have ck1 := A1_11.out.cell
        have cx1 := X1_11.out.cell
        go_wp2
        go_region_held3 (fun w' => w'.cell? ⟨w6.heap.size, 0, none⟩ = some (.slice V6 n' c6) ∧ w'.cell? ⟨w.heap.size + 1 + 1, 0, none⟩ = some (.slice V' n' c'))
          (first
            | go_keep
            | with_reducible exact ⟨(X1_11.out.on bx12).cell, (A1_11.out.on bx12).cell⟩
            | with_reducible exact ⟨(X1_11.out.on bx13).cell, (A1_11.out.on bx13).cell⟩)
          (first
            | (go_at_call 51; refine (toLock_any _ _ _ zss _ (H1.out.on (below_drewN C_11.out 1)) HN1.out).mono ?_; rintro e w12 ⟨V12, n12, c12, gs12, rfl, P12', z12, y12, b12⟩; obtain rfl : n' = n12 := (P12'.len.symm.trans HL1.out).symm; have bx12 := below_trans' (below_drewN (Below.refl w11.heap.size w11) 1) b12; have P12 := Lib.hid P12'.sets)
            | (go_at_call 53; refine (eqLock_true _ _ _ _ _ zss _ (R1_11.out.on bx12).sets P12.out HN1.out).mono ?_; rintro e w13 ⟨rfl, b13⟩; have bx13 := below_trans' bx12 b13))
        all_goals
          clear P12 P12' b12 b13 bx12 ck1 cx1
          have B_13 := Lib.hid (B_11.out.on bx13)
          have A0_13 := Lib.hid (A0_11.out.on bx13)
          have A1_13 := Lib.hid (A1_11.out.on bx13)
          have C_13 := Lib.hid (below_trans' C_11.out bx13)
          have T_13 := Lib.hid (T_11.out.on bx13)
          have D_13 := Lib.hid (below_trans' D_11.out bx13)
          have R0_13 := Lib.hid (R0_11.out.on bx13)
          have X0_13 := Lib.hid (X0_11.out.on bx13)
          have R1_13 := Lib.hid (R1_11.out.on bx13)
          have X1_13 := Lib.hid (X1_11.out.on bx13)
          have G_13 := Lib.hid (G_11.out.on bx13)
          have M_13 := Lib.hid (M_11.out.on bx13)
          clear B_11 A0_11 A1_11 C_11 T_11 D_11 R0_11 X0_11 R1_11 X1_11 G_11 M_11 bx13
          have cx0 := X0_13.out.cell
          go_wp2_with fail
          clear cx0
          refine (markLock_any _ _ _ _ gs4 yss (1) _ R0_13.out HN0.out (by omega) (by omega)).mono ?_
          rintro e w14 ⟨rfl, _, hap⟩
          have ap := hap _ TX0.out
          have bl := ap.below R0_13.out.low
          have B_14 := Lib.hid (B_13.out.below bl (by omega))
          have A0_14 := Lib.hid (A0_13.out.below bl (by omega))
          have A1_14 := Lib.hid (A1_13.out.below bl (by omega))
          have C_14 := Lib.hid (C_13.out.trans (bl.mono (by omega)))
          have T_14 := Lib.hid (T_13.out.below bl (by omega))
          have D_14 := Lib.hid (D_13.out.trans (bl.mono (by omega)))
          have R1_14 := Lib.hid (R1_13.out.past ap (by omega))
          have X1_14 : Hid (Cell1 w14 w6.heap.size 30 (.slice V6 n' c6)) := Lib.hid ((ap.block _ X1_13.out.lt (.inr (by omega))).trans X1_13.out)
          have G_14 := Lib.hid (G_13.out.past ap (by omega))
          have M_14 : Hid (Cell1 w14 gb 30 (.slice Vb na cb)) := Lib.hid ((ap.block _ M_13.out.lt (.inr (by omega))).trans M_13.out)
          have hrk0 := rAt_range (k := 1) (yss := yss) (i := n) (by omega) (by omega) (by have := HN0.out; omega) (by rw [HL0.out]; exact Nat.le_refl _)
          have hnk0 : ¬ rAt (1) yss n < 0 := by omega
          clear hap ap bl B_13 A0_13 A1_13 C_13 T_13 D_13 R0_13 X0_13 R1_13 X1_13 G_13 M_13
          have hrb0 : rAt (1) yss n ≤ 4000000 := by have := HN0.out; unfold rAt; have := sizeAt_under yss (k := n) (by rw [HL0.out]; exact Nat.le_refl _); omega
          obtain ⟨kk0, hkk0⟩ : ∃ z, rAt (1) yss n = z := ⟨_, rfl⟩
          rw [hkk0] at hrk0 hnk0 hrb0 ⊢
          clear hkk0
          have cx1 := X1_14.out.cell
          go_wp2_with fail
          clear cx1
          refine (markLock_any _ _ _ _ gs6 zss (kk0) _ R1_14.out HN1.out (by omega) (by omega)).mono ?_
          rintro e w15 ⟨rfl, _, hap⟩
          have ap := hap _ TX1.out
          have bl := ap.below R1_14.out.low
          have B_15 := Lib.hid (B_14.out.below bl (by omega))
          have A0_15 := Lib.hid (A0_14.out.below bl (by omega))
          have A1_15 := Lib.hid (A1_14.out.below bl (by omega))
          have C_15 := Lib.hid (C_14.out.trans (bl.mono (by omega)))
          have T_15 := Lib.hid (T_14.out.below bl (by omega))
          have D_15 := Lib.hid (D_14.out.trans (bl.mono (by omega)))
          have G_15 := Lib.hid (G_14.out.past ap (by omega))
          have M_15 : Hid (Cell1 w15 gb 30 (.slice Vb na cb)) := Lib.hid ((ap.block _ M_14.out.lt (.inr (by omega))).trans M_14.out)
          have hrk1 := rAt_range (k := kk0) (yss := zss) (i := n') (by omega) (by omega) (by have := HN1.out; omega) (by rw [HL1.out]; exact Nat.le_refl _)
          have hnk1 : ¬ rAt (kk0) zss n' < 0 := by omega
          clear hap ap bl B_14 A0_14 A1_14 C_14 T_14 D_14 R1_14 X1_14 G_14 M_14
          have cm := M_15.out.cell
          have ct := T_15.out.cell
          go_wp2_with fail
          clear cm ct
          refine (eqLock_true _ _ _ _ _ (mtL m yss zss) _ G_15.out.sets (S4h.out.on D_15.out) (by have := HL4.out; have := HNL.out; omega)).mono ?_
          rintro e w16 ⟨rfl, b16⟩
          have B_16 := Lib.hid (B_15.out.on b16)
          have A0_16 := Lib.hid (A0_15.out.on b16)
          have A1_16 := Lib.hid (A1_15.out.on b16)
          have C_16 := Lib.hid (below_trans' C_15.out b16)
          have T_16 := Lib.hid (T_15.out.on b16)
          have D_16 := Lib.hid (below_trans' D_15.out b16)
          have G_16 := Lib.hid (G_15.out.on b16)
          have M_16 := Lib.hid (M_15.out.on b16)
          clear B_15 A0_15 A1_15 C_15 T_15 D_15 G_15 M_15 b16
          have cm := M_16.out.cell
          go_wp2_with fail
          clear cm
          refine (markLock_any _ _ _ _ gsb (mtL m yss zss) 1 _ G_16.out (by have := HL4.out; have := HNL.out; omega) (by omega) (by omega)).mono ?_
          rintro e w17 ⟨rfl, G17', hap⟩
          have ap := hap _ TG.out
          have bl := ap.below G_16.out.low
          have B_17 := Lib.hid (B_16.out.below bl (by omega))
          have A0_17 := Lib.hid (A0_16.out.below bl (by omega))
          have A1_17 := Lib.hid (A1_16.out.below bl (by omega))
          have C_17 := Lib.hid (C_16.out.trans (bl.mono (by omega)))
          have T_17 := Lib.hid (T_16.out.below bl (by omega))
          have D_17 := Lib.hid (D_16.out.trans (bl.mono (by omega)))
          have G_17 := Lib.hid G17'
          have M_17 : Hid (Cell1 w17 gb 30 (.slice Vb na cb)) := Lib.hid ((ap.block _ M_16.out.lt (by omega)).trans M_16.out)
          clear hap ap bl G17' B_16 A0_16 A1_16 C_16 T_16 D_16 G_16 M_16
          have hr15 := rAt_range (k := 1) (yss := mtL m yss zss) (i := na) (by omega) (by omega) (by have := HNL.out; omega) (by rw [HL4.out]; exact Nat.le_refl _)
          have hn15 : ¬ rAt 1 (mtL m yss zss) na < 0 := by omega
          have hd15 : (rAt 1 (mtL m yss zss) na != rAt 1 (mtL m yss zss) na) = false := by simp
          clear hr15
          have cm := M_17.out.cell
          go_wp2_with fail
          clear cm
          refine (heldLock_any _ _ _ (mtL m yss zss) 1 _ G_17.out.sets HL4.out (by have := HL4.out; have := HNL.out; omega) (by omega) (by omega)).mono ?_
          rintro e w18 ⟨rfl, b18⟩
          have B_18 := Lib.hid (B_17.out.on b18)
          have A0_18 := Lib.hid (A0_17.out.on b18)
          have A1_18 := Lib.hid (A1_17.out.on b18)
          have C_18 := Lib.hid (below_trans' C_17.out b18)
          have T_18 := Lib.hid (T_17.out.on b18)
          have D_18 := Lib.hid (below_trans' D_17.out b18)
          have G_18 := Lib.hid (G_17.out.on b18)
          have M_18 := Lib.hid (M_17.out.on b18)
          clear B_17 A0_17 A1_17 C_17 T_17 D_17 G_17 M_17 b18
          go_wp2
          have hS0 : (fun w' => w'.cell? ⟨w.heap.size, 0, none⟩ = some (.int .i64 m.C) ∧ w'.cell? ⟨w.heap.size, 1, none⟩ = some (.int .i64 m.D) ∧ w'.cell? ⟨w.heap.size, 2, none⟩ = some (.int .i64 m.S) ∧ w'.cell? ⟨w.heap.size, 3, none⟩ = some (.int .i64 m.M) ∧ w'.cell? ⟨w.heap.size, 4, none⟩ = some (.int .i64 m.L) ∧ w'.cell? ⟨w.heap.size + 1, 0, none⟩ = some (.slice V n c) ∧ w'.cell? ⟨w.heap.size + 1 + 1, 0, none⟩ = some (.slice V' n' c')) w18.drew := by have DW := below_drewN (Below.refl w18.heap.size w18) 1; exact boxed_and2 (B_18.out.on DW) (A0_18.out.on DW).cell (A1_18.out.on DW).cell
          refine wp_region_held_drew (S := (fun w' => w'.cell? ⟨w.heap.size, 0, none⟩ = some (.int .i64 m.C) ∧ w'.cell? ⟨w.heap.size, 1, none⟩ = some (.int .i64 m.D) ∧ w'.cell? ⟨w.heap.size, 2, none⟩ = some (.int .i64 m.S) ∧ w'.cell? ⟨w.heap.size, 3, none⟩ = some (.int .i64 m.M) ∧ w'.cell? ⟨w.heap.size, 4, none⟩ = some (.int .i64 m.L) ∧ w'.cell? ⟨w.heap.size + 1, 0, none⟩ = some (.slice V n c) ∧ w'.cell? ⟨w.heap.size + 1 + 1, 0, none⟩ = some (.slice V' n' c'))) (by kernel_rfl) hS0 (fun hHeld => ?_)
          refine held_take (i := 0) (oi := _) (v := ?_) (some 101) rfl rfl (by kernel_rfl) (by kernel_rfl) (by kernel_rfl) (fun _ _ _ h => h) (Or.inl ⟨by rfl, ?_⟩) hHeld ?_
          rotate_left
          · intro w' hSw
            obtain ⟨r0, r1, r2, r3, r4, r5, r6⟩ := hSw
            go_simp
            try with_reducible rfl
          try simp only [Act.put, List.setIfInBounds_toArray, List.set_cons_zero, List.set_cons_succ]
          refine held_take (i := 2) (oi := _) (v := ?_) (some 103) rfl rfl (by kernel_rfl) (by kernel_rfl) (by kernel_rfl) (fun _ _ _ h => h) (Or.inl ⟨by rfl, ?_⟩) hHeld ?_
          rotate_left
          · intro w' hSw
            obtain ⟨r0, r1, r2, r3, r4, r5, r6⟩ := hSw
            go_simp
            try with_reducible rfl
          try simp only [Act.put, List.setIfInBounds_toArray, List.set_cons_zero, List.set_cons_succ]
          refine held_take (i := 4) (oi := _) (v := ?_) (some 105) rfl rfl (by kernel_rfl) (by kernel_rfl) (by kernel_rfl) (fun _ _ _ h => h) (Or.inl ⟨by rfl, ?_⟩) hHeld ?_
          rotate_left
          · intro w' hSw
            obtain ⟨r0, r1, r2, r3, r4, r5, r6⟩ := hSw
            go_simp
            try with_reducible rfl
          try simp only [Act.put, List.setIfInBounds_toArray, List.set_cons_zero, List.set_cons_succ]
          refine with_slots (fun Gc Tc hGc hTc => ?_)
          clear hHeld hS0
          have nFc : ∀ (W : World) (vV0 : Option Addr) (vc0 : Nat) (vV1 : Option Addr) (vc1 : Nat) (Vc : Option Addr) (nc cc gc : Nat) (loc hic : Nat) (gsc : List (Option Addr × Nat × Nat)), Below w18.heap.size w18 W → Cell1 W gc 30 (.slice Vc nc cc) → w18.heap.size ≤ gc → Rag W loc Vc nc gsc (mtL m yss zss) → w18.heap.size ≤ loc → Top gsc hic → hic ≤ W.heap.size → loc ≤ hic → (gc < loc ∨ hic ≤ gc) → Gc 0 #[true, true, true, true, true, true, true, true, true, true, true, true, true] { tmps := (((((((((Tc.setIfInBounds 102 (.agg #[.int .i64 m.C, .int .i64 m.D, .int .i64 m.S, .int .i64 m.M, .int .i64 m.L])).setIfInBounds 104 (.agg #[.slice vV0 n vc0])).setIfInBounds 106 (.agg #[.slice vV1 n' vc1])).setIfInBounds 107 (.tuple #[.agg #[.slice Vc nc cc], .int .i64 (mtE m yss zss)])).setIfInBounds 17 (.pointer (some ⟨gc, 0, none⟩))).setIfInBounds 100 (.tuple #[.agg #[.slice Vc nc cc], .int .i64 (mtE m yss zss)])).setIfInBounds 108 (.agg #[.slice Vc nc cc])).setIfInBounds 109 (.int .i64 (mtE m yss zss))).setIfInBounds 18 (.int .i64 (mtE m yss zss))), defers := [] } W := by
            intro Wc vV0 vc0 vV1 vc1 Vc nc cc gc loc hic gsc DW Y hgc G4 hloc TGc' hhic hlhc hgGc
            rw [hGc, hTc]
            try simp only [List.setIfInBounds_toArray, List.set_cons_zero, List.set_cons_succ]
            refine wpAnyH_done (by kernel_rfl) ?_ _
            clear hGc hTc Gc Tc
            have hDWc := DW.size
            have B_19 := Lib.hid (B_18.out.on DW)
            have A0_19 := Lib.hid (A0_18.out.on DW)
            have A1_19 := Lib.hid (A1_18.out.on DW)
            have C_19 := Lib.hid (below_trans' C_18.out DW)
            have T_19 := Lib.hid (T_18.out.on DW)
            have D_19 := Lib.hid (below_trans' D_18.out DW)
            have G_19 := Lib.hid (G_18.out.on DW)
            have M_19 := Lib.hid (M_18.out.on DW)
            clear B_18 A0_18 A1_18 C_18 T_18 D_18 G_18 M_18 DW
            obtain rfl : na = nc := (G4.len.symm.trans HL4.out).symm
            have Q_19 := Lib.hid G4
            have Z_19 := Lib.hid Y
            clear G4 Y
            have cm := Z_19.out.cell
            have ct := T_19.out.cell
            go_wp2_with fail
            clear cm ct
            refine (eqLock_true _ _ _ _ _ (mtL m yss zss) _ Q_19.out.sets (S4h.out.on D_19.out) (by have := HL4.out; have := HNL.out; omega)).mono ?_
            rintro e w20 ⟨rfl, b20⟩
            have B_20 := Lib.hid (B_19.out.on b20)
            have A0_20 := Lib.hid (A0_19.out.on b20)
            have A1_20 := Lib.hid (A1_19.out.on b20)
            have C_20 := Lib.hid (below_trans' C_19.out b20)
            have T_20 := Lib.hid (T_19.out.on b20)
            have D_20 := Lib.hid (below_trans' D_19.out b20)
            have G_20 := Lib.hid (G_19.out.on b20)
            have M_20 := Lib.hid (M_19.out.on b20)
            have Q_20 := Lib.hid (Q_19.out.on b20)
            have Z_20 := Lib.hid (Z_19.out.on b20)
            clear B_19 A0_19 A1_19 C_19 T_19 D_19 G_19 M_19 Q_19 Z_19 b20
            have cm := M_20.out.cell
            go_wp2_with fail
            clear cm
            refine (heldLock_any _ _ _ (mtL m yss zss) 1 _ G_20.out.sets HL4.out (by have := HL4.out; have := HNL.out; omega) (by omega) (by omega)).mono ?_
            rintro e w21 ⟨rfl, b21⟩
            have B_21 := Lib.hid (B_20.out.on b21)
            have A0_21 := Lib.hid (A0_20.out.on b21)
            have A1_21 := Lib.hid (A1_20.out.on b21)
            have C_21 := Lib.hid (below_trans' C_20.out b21)
            have T_21 := Lib.hid (T_20.out.on b21)
            have D_21 := Lib.hid (below_trans' D_20.out b21)
            have G_21 := Lib.hid (G_20.out.on b21)
            have M_21 := Lib.hid (M_20.out.on b21)
            have Q_21 := Lib.hid (Q_20.out.on b21)
            have Z_21 := Lib.hid (Z_20.out.on b21)
            clear B_20 A0_20 A1_20 C_20 T_20 D_20 G_20 M_20 Q_20 Z_20 b21
            have CE := C_21.out
            clear B_21 A0_21 A1_21 C_21 T_21 D_21 G_21 M_21 Q_21 Z_21
            go_wp2
            go_ret
            exact ⟨rfl, CE⟩
          -- the states of the region
          have nc4t : ∀ (W : World) (vV0 : Option Addr) (vc0 : Nat) (vV1 : Option Addr) (vc1 : Nat) (Vc : Option Addr) (nc cc : Nat) (gc : Nat) (loc : Nat) (gsc : List (Option Addr × Nat × Nat)), Below w18.heap.size w18 W → Cell1 W gc 30 (.slice none 0 0) → w18.heap.size ≤ gc → Rag W loc Vc nc gsc (mtL m yss zss) → w18.heap.size ≤ loc → Top gsc W.heap.size → loc ≤ W.heap.size → gc < loc → Gc 5 #[true, true, true, true, true, true, true, false, false, false, true, false, false] { tmps := (((((Tc.setIfInBounds 102 (.agg #[.int .i64 m.C, .int .i64 m.D, .int .i64 m.S, .int .i64 m.M, .int .i64 m.L])).setIfInBounds 104 (.agg #[.slice vV0 n vc0])).setIfInBounds 106 (.agg #[.slice vV1 n' vc1])).setIfInBounds 107 (.tuple #[.agg #[.slice Vc nc cc], .int .i64 (mtE m yss zss)])).setIfInBounds 17 (.pointer (some ⟨gc, 0, none⟩))), defers := [] } W := by
            intro W vV0 vc0 vV1 vc1 Vc nc cc gc loc gsc DW Y hg G4 hlo TG hlh hgG
            have hG2 := hGc
            have hT2 := hTc
            rw [hGc, hTc]
            try simp only [List.setIfInBounds_toArray, List.set_cons_zero, List.set_cons_succ]
            have hHeld : (fun w' => w'.cell? ⟨w.heap.size, 0, none⟩ = some (.int .i64 m.C) ∧ w'.cell? ⟨w.heap.size, 1, none⟩ = some (.int .i64 m.D) ∧ w'.cell? ⟨w.heap.size, 2, none⟩ = some (.int .i64 m.S) ∧ w'.cell? ⟨w.heap.size, 3, none⟩ = some (.int .i64 m.M) ∧ w'.cell? ⟨w.heap.size, 4, none⟩ = some (.int .i64 m.L) ∧ w'.cell? ⟨w.heap.size + 1, 0, none⟩ = some (.slice V n c) ∧ w'.cell? ⟨w.heap.size + 1 + 1, 0, none⟩ = some (.slice V' n' c')) W := boxed_and2 (B_18.out.on DW) (A0_18.out.on DW).cell (A1_18.out.on DW).cell
            refine held_take (i := 7) (oi := _) (v := ?_) (some 100) rfl rfl (by kernel_rfl) (by kernel_rfl) (by kernel_rfl) (fun _ _ _ h => h) (Or.inl ⟨by rfl, ?_⟩) hHeld ?_
            rotate_left
            · intro w' hSw
              obtain ⟨r0, r1, r2, r3, r4, r5, r6⟩ := hSw
              go_simp
              try with_reducible rfl
            try simp only [Act.put, List.setIfInBounds_toArray, List.set_cons_zero, List.set_cons_succ]
            refine held_take (i := 8) (oi := _) (v := ?_) (some 108) rfl rfl (by kernel_rfl) (by kernel_rfl) (by kernel_rfl) (fun _ _ _ h => h) (Or.inl ⟨by rfl, ?_⟩) hHeld ?_
            rotate_left
            · intro w' hSw
              obtain ⟨r0, r1, r2, r3, r4, r5, r6⟩ := hSw
              go_simp
              try with_reducible rfl
            try simp only [Act.put, List.setIfInBounds_toArray, List.set_cons_zero, List.set_cons_succ]
            refine held_take (i := 9) (oi := _) (v := ?_) (some 109) rfl rfl (by kernel_rfl) (by kernel_rfl) (by kernel_rfl) (fun _ _ _ h => h) (Or.inl ⟨by rfl, ?_⟩) hHeld ?_
            rotate_left
            · intro w' hSw
              obtain ⟨r0, r1, r2, r3, r4, r5, r6⟩ := hSw
              go_simp
              try with_reducible rfl
            try simp only [Act.put, List.setIfInBounds_toArray, List.set_cons_zero, List.set_cons_succ]
            have fz := Y.thawed
            have cz := Y.cell
            refine wpAnyH_ready (rs := [11]) (by kernel_rfl) (by simp) ?_
            refine AllReadyH.cons (o := _) rfl (fun K' hK' => ?_) AllReadyH.nil
            go_simp
            have bS := DW.setCell (p := ⟨gc, 0, none⟩) hg (.slice Vc nc cc)
            have Y2 := Y.put (.slice Vc nc cc)
            have G5 := G4.asetCell (p := ⟨gc, 0, none⟩) hgG (.slice Vc nc cc)
            have hx := nFc _ vV0 vc0 vV1 vc1 Vc nc cc gc loc W.heap.size gsc bS Y2 hg G5 hlo TG (by simp [World.setCell]) hlh (.inl hgG)
            rw [hG2, hT2] at hx
            try simp only [List.setIfInBounds_toArray, List.set_cons_zero, List.set_cons_succ] at hx
            have DW := bS
            refine hK'.out _ _ (boxed_and2 (B_18.out.on DW) (A0_18.out.on DW).cell (A1_18.out.on DW).cell) (fun _ => ?_)
            refine wpAnyH_ready (rs := [12]) (by kernel_rfl) (by simp) ?_
            refine AllReadyH.cons (o := _) rfl (fun K2 hK2 => ?_) AllReadyH.nil
            go_simp
            refine hK2.out _ _ (boxed_and2 (B_18.out.on DW) (A0_18.out.on DW).cell (A1_18.out.on DW).cell) (fun _ => ?_)
            exact hx
          have nc4f : ∀ (W : World) (vV0 : Option Addr) (vc0 : Nat) (vV1 : Option Addr) (vc1 : Nat) (Vc : Option Addr) (nc cc : Nat) (loc : Nat) (gsc : List (Option Addr × Nat × Nat)), Below w18.heap.size w18 W → Rag W loc Vc nc gsc (mtL m yss zss) → w18.heap.size ≤ loc → Top gsc W.heap.size → loc ≤ W.heap.size → Gc 6 #[true, true, true, true, true, true, true, false, false, false, false, false, false] { tmps := ((((Tc.setIfInBounds 102 (.agg #[.int .i64 m.C, .int .i64 m.D, .int .i64 m.S, .int .i64 m.M, .int .i64 m.L])).setIfInBounds 104 (.agg #[.slice vV0 n vc0])).setIfInBounds 106 (.agg #[.slice vV1 n' vc1])).setIfInBounds 107 (.tuple #[.agg #[.slice Vc nc cc], .int .i64 (mtE m yss zss)])), defers := [] } W := by
            intro W vV0 vc0 vV1 vc1 Vc nc cc loc gsc DW G4 hlo TG hlh
            have hG2 := hGc
            have hT2 := hTc
            rw [hGc, hTc]
            try simp only [List.setIfInBounds_toArray, List.set_cons_zero, List.set_cons_succ]
            have hHeld : (fun w' => w'.cell? ⟨w.heap.size, 0, none⟩ = some (.int .i64 m.C) ∧ w'.cell? ⟨w.heap.size, 1, none⟩ = some (.int .i64 m.D) ∧ w'.cell? ⟨w.heap.size, 2, none⟩ = some (.int .i64 m.S) ∧ w'.cell? ⟨w.heap.size, 3, none⟩ = some (.int .i64 m.M) ∧ w'.cell? ⟨w.heap.size, 4, none⟩ = some (.int .i64 m.L) ∧ w'.cell? ⟨w.heap.size + 1, 0, none⟩ = some (.slice V n c) ∧ w'.cell? ⟨w.heap.size + 1 + 1, 0, none⟩ = some (.slice V' n' c')) W := boxed_and2 (B_18.out.on DW) (A0_18.out.on DW).cell (A1_18.out.on DW).cell
            refine held_take (i := 7) (oi := _) (v := ?_) (some 100) rfl rfl (by kernel_rfl) (by kernel_rfl) (by kernel_rfl) (fun _ _ _ h => h) (Or.inl ⟨by rfl, ?_⟩) hHeld ?_
            rotate_left
            · intro w' hSw
              obtain ⟨r0, r1, r2, r3, r4, r5, r6⟩ := hSw
              go_simp
              try with_reducible rfl
            try simp only [Act.put, List.setIfInBounds_toArray, List.set_cons_zero, List.set_cons_succ]
            refine held_take (i := 8) (oi := _) (v := ?_) (some 108) rfl rfl (by kernel_rfl) (by kernel_rfl) (by kernel_rfl) (fun _ _ _ h => h) (Or.inl ⟨by rfl, ?_⟩) hHeld ?_
            rotate_left
            · intro w' hSw
              obtain ⟨r0, r1, r2, r3, r4, r5, r6⟩ := hSw
              go_simp
              try with_reducible rfl
            try simp only [Act.put, List.setIfInBounds_toArray, List.set_cons_zero, List.set_cons_succ]
            refine held_take (i := 9) (oi := _) (v := ?_) (some 109) rfl rfl (by kernel_rfl) (by kernel_rfl) (by kernel_rfl) (fun _ _ _ h => h) (Or.inl ⟨by rfl, ?_⟩) hHeld ?_
            rotate_left
            · intro w' hSw
              obtain ⟨r0, r1, r2, r3, r4, r5, r6⟩ := hSw
              go_simp
              try with_reducible rfl
            try simp only [Act.put, List.setIfInBounds_toArray, List.set_cons_zero, List.set_cons_succ]
            refine wpAnyH_ready (rs := [10]) (by kernel_rfl) (by simp) ?_
            refine AllReadyH.cons (o := _) rfl (fun K hK => ?_) AllReadyH.nil
            go_simp
            have bA := below_alloc' W (.cells #[.slice none 0 0] 30)
            have Y := Cell1.new W 30 (.slice none 0 0)
            have hg : w18.heap.size ≤ W.heap.size := DW.size
            have bB := below_alloc' W (.cells #[.slice Vc nc cc] 30)
            have bS := below_trans' DW bB
            have Y2 := Cell1.new W 30 (.slice Vc nc cc)
            have DW := below_trans' DW bA
            have G5 := G4.on bB
            refine hK.out _ _ (boxed_and2 (B_18.out.on DW) (A0_18.out.on DW).cell (A1_18.out.on DW).cell) (fun _ => ?_)
            have fz := Y.thawed
            have cz := Y.cell
            refine wpAnyH_ready (rs := [11]) (by kernel_rfl) (by simp) ?_
            refine AllReadyH.cons (o := _) rfl (fun K' hK' => ?_) AllReadyH.nil
            go_simp
            have hx := nFc _ vV0 vc0 vV1 vc1 Vc nc cc W.heap.size loc W.heap.size gsc bS Y2 hg G5 hlo TG (by simp) hlh (.inr (Nat.le_refl _))
            rw [hG2, hT2] at hx
            try simp only [List.setIfInBounds_toArray, List.set_cons_zero, List.set_cons_succ] at hx
            have DW := bS
            refine hK'.out _ _ (boxed_and2 (B_18.out.on DW) (A0_18.out.on DW).cell (A1_18.out.on DW).cell) (fun _ => ?_)
            refine wpAnyH_ready (rs := [12]) (by kernel_rfl) (by simp) ?_
            refine AllReadyH.cons (o := _) rfl (fun K2 hK2 => ?_) AllReadyH.nil
            go_simp
            refine hK2.out _ _ (boxed_and2 (B_18.out.on DW) (A0_18.out.on DW).cell (A1_18.out.on DW).cell) (fun _ => ?_)
            exact hx
          have nc3t : ∀ (W : World) (gc : Nat) (vV0 : Option Addr) (vc0 : Nat) (vV1 : Option Addr) (vc1 : Nat), Below w18.heap.size w18 W → Cell1 W gc 30 (.slice none 0 0) → w18.heap.size ≤ gc → Sets W W.heap.size vV0 n yss → Sets W W.heap.size vV1 n' zss → Gc 6 #[true, true, true, true, true, true, false, false, false, false, true, false, false] { tmps := ((((Tc.setIfInBounds 102 (.agg #[.int .i64 m.C, .int .i64 m.D, .int .i64 m.S, .int .i64 m.M, .int .i64 m.L])).setIfInBounds 104 (.agg #[.slice vV0 n vc0])).setIfInBounds 106 (.agg #[.slice vV1 n' vc1])).setIfInBounds 17 (.pointer (some ⟨gc, 0, none⟩))), defers := [] } W := by
            intro W gc vV0 vc0 vV1 vc1 DW Y hg S0 S1
            have hG2 := hGc
            have hT2 := hTc
            rw [hGc, hTc]
            try simp only [List.setIfInBounds_toArray, List.set_cons_zero, List.set_cons_succ]
            refine wpAnyH_ready (rs := [6]) (by kernel_rfl) (by simp) ?_
            refine AllReadyH.cons (o := _) rfl (fun K hK => ?_) ?_
            · go_simp
              have hb0 : w18.heap.size ≤ W.heap.size := DW.size
              refine (meetLocks_any m _ _ _ yss _ _ _ zss _ S0 HN0.out S1 HN1.out).mono ?_
              rintro e W1 ⟨V1, n1, c1, gs1, rfl, G1', z1, y1, b⟩
              have DW := below_trans' DW b
              refine hK.out _ _ (boxed_and2 (B_18.out.on DW) (A0_18.out.on DW).cell (A1_18.out.on DW).cell) (fun _ => ?_)
              have hx := nc4t _ vV0 vc0 vV1 vc1 V1 n1 c1 gc W.heap.size gs1 DW (Y.on b) hg G1' hb0 G1'.top b.size Y.lt
              rw [hG2, hT2] at hx
              try simp only [List.setIfInBounds_toArray, List.set_cons_zero, List.set_cons_succ] at hx
              exact hx
            exact AllReadyH.nil
          have nc3f : ∀ (W : World) (vV0 : Option Addr) (vc0 : Nat) (vV1 : Option Addr) (vc1 : Nat), Below w18.heap.size w18 W → Sets W W.heap.size vV0 n yss → Sets W W.heap.size vV1 n' zss → Gc 7 #[true, true, true, true, true, true, false, false, false, false, false, false, false] { tmps := (((Tc.setIfInBounds 102 (.agg #[.int .i64 m.C, .int .i64 m.D, .int .i64 m.S, .int .i64 m.M, .int .i64 m.L])).setIfInBounds 104 (.agg #[.slice vV0 n vc0])).setIfInBounds 106 (.agg #[.slice vV1 n' vc1])), defers := [] } W := by
            intro W vV0 vc0 vV1 vc1 DW S0 S1
            have hG2 := hGc
            have hT2 := hTc
            rw [hGc, hTc]
            try simp only [List.setIfInBounds_toArray, List.set_cons_zero, List.set_cons_succ]
            refine wpAnyH_ready (rs := [6, 10]) (by kernel_rfl) (by simp) ?_
            refine AllReadyH.cons (o := _) rfl (fun K hK => ?_) ?_
            · go_simp
              have hb0 : w18.heap.size ≤ W.heap.size := DW.size
              refine (meetLocks_any m _ _ _ yss _ _ _ zss _ S0 HN0.out S1 HN1.out).mono ?_
              rintro e W1 ⟨V1, n1, c1, gs1, rfl, G1', z1, y1, b⟩
              have DW := below_trans' DW b
              refine hK.out _ _ (boxed_and2 (B_18.out.on DW) (A0_18.out.on DW).cell (A1_18.out.on DW).cell) (fun _ => ?_)
              have hx := nc4f _ vV0 vc0 vV1 vc1 V1 n1 c1 W.heap.size gs1 DW G1' hb0 G1'.top b.size
              rw [hG2, hT2] at hx
              try simp only [List.setIfInBounds_toArray, List.set_cons_zero, List.set_cons_succ] at hx
              exact hx
            refine AllReadyH.cons (o := _) rfl (fun K hK => ?_) ?_
            · go_simp
              have bA := below_alloc' W (.cells #[.slice none 0 0] 30)
              have hg : w18.heap.size ≤ W.heap.size := DW.size
              have DW := below_trans' DW bA
              refine hK.out _ _ (boxed_and2 (B_18.out.on DW) (A0_18.out.on DW).cell (A1_18.out.on DW).cell) (fun _ => ?_)
              have hx := nc3t _ W.heap.size vV0 vc0 vV1 vc1 DW (Cell1.new W 30 (.slice none 0 0)) hg (S0.on bA) (S1.on bA)
              rw [hG2, hT2] at hx
              try simp only [List.setIfInBounds_toArray, List.set_cons_zero, List.set_cons_succ] at hx
              exact hx
            exact AllReadyH.nil
          have nc2t : ∀ (W : World) (gc : Nat) (vV0 : Option Addr) (vc0 : Nat), Below w18.heap.size w18 W → Cell1 W gc 30 (.slice none 0 0) → w18.heap.size ≤ gc → Sets W W.heap.size vV0 n yss → Gc 7 #[true, true, true, true, true, false, false, false, false, false, true, false, false] { tmps := (((Tc.setIfInBounds 102 (.agg #[.int .i64 m.C, .int .i64 m.D, .int .i64 m.S, .int .i64 m.M, .int .i64 m.L])).setIfInBounds 104 (.agg #[.slice vV0 n vc0])).setIfInBounds 17 (.pointer (some ⟨gc, 0, none⟩))), defers := [] } W := by
            intro W gc vV0 vc0 DW Y hg S0
            have hG2 := hGc
            have hT2 := hTc
            rw [hGc, hTc]
            try simp only [List.setIfInBounds_toArray, List.set_cons_zero, List.set_cons_succ]
            refine wpAnyH_ready (rs := [5]) (by kernel_rfl) (by simp) ?_
            refine AllReadyH.cons (o := _) rfl (fun K hK => ?_) ?_
            · go_simp
              refine (toLock_any _ _ _ zss _ (H1.out.on (below_trans' C_18.out DW)) HN1.out).mono ?_
              rintro e W1 ⟨V1, n1, c1, gs1, rfl, R1, z1, y1, b⟩
              obtain rfl : n' = n1 := (R1.len.symm.trans HL1.out).symm
              have DW := below_trans' DW b
              refine hK.out _ _ (boxed_and2 (B_18.out.on DW) (A0_18.out.on DW).cell (A1_18.out.on DW).cell) (fun _ => ?_)
              have hx := nc3t _ gc vV0 vc0 V1 c1 DW (Y.on b) hg (S0.on b) R1.sets
              rw [hG2, hT2] at hx
              try simp only [List.setIfInBounds_toArray, List.set_cons_zero, List.set_cons_succ] at hx
              exact hx
            exact AllReadyH.nil
          have nc2f : ∀ (W : World) (vV0 : Option Addr) (vc0 : Nat), Below w18.heap.size w18 W → Sets W W.heap.size vV0 n yss → Gc 8 #[true, true, true, true, true, false, false, false, false, false, false, false, false] { tmps := ((Tc.setIfInBounds 102 (.agg #[.int .i64 m.C, .int .i64 m.D, .int .i64 m.S, .int .i64 m.M, .int .i64 m.L])).setIfInBounds 104 (.agg #[.slice vV0 n vc0])), defers := [] } W := by
            intro W vV0 vc0 DW S0
            have hG2 := hGc
            have hT2 := hTc
            rw [hGc, hTc]
            try simp only [List.setIfInBounds_toArray, List.set_cons_zero, List.set_cons_succ]
            refine wpAnyH_ready (rs := [5, 10]) (by kernel_rfl) (by simp) ?_
            refine AllReadyH.cons (o := _) rfl (fun K hK => ?_) ?_
            · go_simp
              refine (toLock_any _ _ _ zss _ (H1.out.on (below_trans' C_18.out DW)) HN1.out).mono ?_
              rintro e W1 ⟨V1, n1, c1, gs1, rfl, R1, z1, y1, b⟩
              obtain rfl : n' = n1 := (R1.len.symm.trans HL1.out).symm
              have DW := below_trans' DW b
              refine hK.out _ _ (boxed_and2 (B_18.out.on DW) (A0_18.out.on DW).cell (A1_18.out.on DW).cell) (fun _ => ?_)
              have hx := nc3f _ vV0 vc0 V1 c1 DW (S0.on b) R1.sets
              rw [hG2, hT2] at hx
              try simp only [List.setIfInBounds_toArray, List.set_cons_zero, List.set_cons_succ] at hx
              exact hx
            refine AllReadyH.cons (o := _) rfl (fun K hK => ?_) ?_
            · go_simp
              have bA := below_alloc' W (.cells #[.slice none 0 0] 30)
              have hg : w18.heap.size ≤ W.heap.size := DW.size
              have DW := below_trans' DW bA
              refine hK.out _ _ (boxed_and2 (B_18.out.on DW) (A0_18.out.on DW).cell (A1_18.out.on DW).cell) (fun _ => ?_)
              have hx := nc2t _ W.heap.size vV0 vc0 DW (Cell1.new W 30 (.slice none 0 0)) hg (S0.on bA)
              rw [hG2, hT2] at hx
              try simp only [List.setIfInBounds_toArray, List.set_cons_zero, List.set_cons_succ] at hx
              exact hx
            exact AllReadyH.nil
          have nc1t : ∀ (W : World) (gc : Nat), Below w18.heap.size w18 W → Cell1 W gc 30 (.slice none 0 0) → w18.heap.size ≤ gc → Gc 8 #[true, true, true, false, true, false, false, false, false, false, true, false, false] { tmps := ((Tc.setIfInBounds 102 (.agg #[.int .i64 m.C, .int .i64 m.D, .int .i64 m.S, .int .i64 m.M, .int .i64 m.L])).setIfInBounds 17 (.pointer (some ⟨gc, 0, none⟩))), defers := [] } W := by
            intro W gc DW Y hg 
            have hG2 := hGc
            have hT2 := hTc
            rw [hGc, hTc]
            try simp only [List.setIfInBounds_toArray, List.set_cons_zero, List.set_cons_succ]
            refine wpAnyH_ready (rs := [3]) (by kernel_rfl) (by simp) ?_
            refine AllReadyH.cons (o := _) rfl (fun K hK => ?_) ?_
            · go_simp
              refine (toLock_any _ _ _ yss _ (H0.out.on (below_trans' C_18.out DW)) HN0.out).mono ?_
              rintro e W1 ⟨V1, n1, c1, gs1, rfl, R1, z1, y1, b⟩
              obtain rfl : n = n1 := (R1.len.symm.trans HL0.out).symm
              have DW := below_trans' DW b
              refine hK.out _ _ (boxed_and2 (B_18.out.on DW) (A0_18.out.on DW).cell (A1_18.out.on DW).cell) (fun _ => ?_)
              have hx := nc2t _ gc V1 c1 DW (Y.on b) hg  R1.sets
              rw [hG2, hT2] at hx
              try simp only [List.setIfInBounds_toArray, List.set_cons_zero, List.set_cons_succ] at hx
              exact hx
            exact AllReadyH.nil
          have nc1f : ∀ (W : World), Below w18.heap.size w18 W → Gc 9 #[true, true, true, false, true, false, false, false, false, false, false, false, false] { tmps := (Tc.setIfInBounds 102 (.agg #[.int .i64 m.C, .int .i64 m.D, .int .i64 m.S, .int .i64 m.M, .int .i64 m.L])), defers := [] } W := by
            intro W DW 
            have hG2 := hGc
            have hT2 := hTc
            rw [hGc, hTc]
            try simp only [List.setIfInBounds_toArray, List.set_cons_zero, List.set_cons_succ]
            refine wpAnyH_ready (rs := [3, 10]) (by kernel_rfl) (by simp) ?_
            refine AllReadyH.cons (o := _) rfl (fun K hK => ?_) ?_
            · go_simp
              refine (toLock_any _ _ _ yss _ (H0.out.on (below_trans' C_18.out DW)) HN0.out).mono ?_
              rintro e W1 ⟨V1, n1, c1, gs1, rfl, R1, z1, y1, b⟩
              obtain rfl : n = n1 := (R1.len.symm.trans HL0.out).symm
              have DW := below_trans' DW b
              refine hK.out _ _ (boxed_and2 (B_18.out.on DW) (A0_18.out.on DW).cell (A1_18.out.on DW).cell) (fun _ => ?_)
              have hx := nc2f _ V1 c1 DW  R1.sets
              rw [hG2, hT2] at hx
              try simp only [List.setIfInBounds_toArray, List.set_cons_zero, List.set_cons_succ] at hx
              exact hx
            refine AllReadyH.cons (o := _) rfl (fun K hK => ?_) ?_
            · go_simp
              have bA := below_alloc' W (.cells #[.slice none 0 0] 30)
              have hg : w18.heap.size ≤ W.heap.size := DW.size
              have DW := below_trans' DW bA
              refine hK.out _ _ (boxed_and2 (B_18.out.on DW) (A0_18.out.on DW).cell (A1_18.out.on DW).cell) (fun _ => ?_)
              have hx := nc1t _ W.heap.size DW (Cell1.new W 30 (.slice none 0 0)) hg 
              rw [hG2, hT2] at hx
              try simp only [List.setIfInBounds_toArray, List.set_cons_zero, List.set_cons_succ] at hx
              exact hx
            exact AllReadyH.nil
          have nc0t : ∀ (W : World) (gc : Nat), Below w18.heap.size w18 W → Cell1 W gc 30 (.slice none 0 0) → w18.heap.size ≤ gc → Gc 9 #[true, false, true, false, true, false, false, false, false, false, true, false, false] { tmps := (Tc.setIfInBounds 17 (.pointer (some ⟨gc, 0, none⟩))), defers := [] } W := by
            intro W gc DW Y hg 
            have hG2 := hGc
            have hT2 := hTc
            rw [hGc, hTc]
            try simp only [List.setIfInBounds_toArray, List.set_cons_zero, List.set_cons_succ]
            refine wpAnyH_ready (rs := [1]) (by kernel_rfl) (by simp) ?_
            refine AllReadyH.cons (o := _) rfl (fun K hK => ?_) ?_
            · go_simp
              refine (toMaker_any m _).mono ?_
              rintro e W1 ⟨rfl, b⟩
              have DW := below_trans' DW b
              refine hK.out _ _ (boxed_and2 (B_18.out.on DW) (A0_18.out.on DW).cell (A1_18.out.on DW).cell) (fun _ => ?_)
              have hx := nc1t _ gc DW (Y.on b) hg 
              rw [hG2, hT2] at hx
              try simp only [List.setIfInBounds_toArray, List.set_cons_zero, List.set_cons_succ] at hx
              exact hx
            exact AllReadyH.nil
          have nc0f : ∀ (W : World), Below w18.heap.size w18 W → Gc 10 #[true, false, true, false, true, false, false, false, false, false, false, false, false] { tmps := Tc, defers := [] } W := by
            intro W DW 
            have hG2 := hGc
            have hT2 := hTc
            rw [hGc, hTc]
            try simp only [List.setIfInBounds_toArray, List.set_cons_zero, List.set_cons_succ]
            refine wpAnyH_ready (rs := [1, 10]) (by kernel_rfl) (by simp) ?_
            refine AllReadyH.cons (o := _) rfl (fun K hK => ?_) ?_
            · go_simp
              refine (toMaker_any m _).mono ?_
              rintro e W1 ⟨rfl, b⟩
              have DW := below_trans' DW b
              refine hK.out _ _ (boxed_and2 (B_18.out.on DW) (A0_18.out.on DW).cell (A1_18.out.on DW).cell) (fun _ => ?_)
              have hx := nc1f _ DW 
              rw [hG2, hT2] at hx
              try simp only [List.setIfInBounds_toArray, List.set_cons_zero, List.set_cons_succ] at hx
              exact hx
            refine AllReadyH.cons (o := _) rfl (fun K hK => ?_) ?_
            · go_simp
              have bA := below_alloc' W (.cells #[.slice none 0 0] 30)
              have hg : w18.heap.size ≤ W.heap.size := DW.size
              have DW := below_trans' DW bA
              refine hK.out _ _ (boxed_and2 (B_18.out.on DW) (A0_18.out.on DW).cell (A1_18.out.on DW).cell) (fun _ => ?_)
              have hx := nc0t _ W.heap.size DW (Cell1.new W 30 (.slice none 0 0)) hg 
              rw [hG2, hT2] at hx
              try simp only [List.setIfInBounds_toArray, List.set_cons_zero, List.set_cons_succ] at hx
              exact hx
            exact AllReadyH.nil
          exact nc0f _ (below_drewN (Below.refl w18.heap.size w18) 1)
    -- the states of the region
    have nb2t : ∀ (W : World) (Vb : Option Addr) (nb cb : Nat) (gb : Nat) (lob : Nat) (gsb : List (Option Addr × Nat × Nat)), Below w7.heap.size w7 W → Cell1 W gb 30 (.slice none 0 0) → w7.heap.size ≤ gb → Rag W lob Vb nb gsb (mtL m yss zss) → w7.heap.size ≤ lob → Top gsb W.heap.size → lob ≤ W.heap.size → gb < lob → Gb 5 #[true, true, true, true, true, false, false, false, true, false, false] { tmps := (((Tb.setIfInBounds 45 (.agg #[.int .i64 m.C, .int .i64 m.D, .int .i64 m.S, .int .i64 m.M, .int .i64 m.L])).setIfInBounds 48 (.tuple #[.agg #[.slice Vb nb cb], .int .i64 (mtE m yss zss)])).setIfInBounds 12 (.pointer (some ⟨gb, 0, none⟩))), defers := [] } W := by
      intro W Vb nb cb gb lob gsb DW Y hg G4 hlo TG hlh hgG
      have hG2 := hGb
      have hT2 := hTb
      rw [hGb, hTb]
      try simp only [List.setIfInBounds_toArray, List.set_cons_zero, List.set_cons_succ]
      have hHeld : (fun w' => w'.cell? ⟨w.heap.size, 0, none⟩ = some (.int .i64 m.C) ∧ w'.cell? ⟨w.heap.size, 1, none⟩ = some (.int .i64 m.D) ∧ w'.cell? ⟨w.heap.size, 2, none⟩ = some (.int .i64 m.S) ∧ w'.cell? ⟨w.heap.size, 3, none⟩ = some (.int .i64 m.M) ∧ w'.cell? ⟨w.heap.size, 4, none⟩ = some (.int .i64 m.L) ∧ w'.cell? ⟨w4.heap.size, 0, none⟩ = some (.slice V4 n c4) ∧ w'.cell? ⟨w6.heap.size, 0, none⟩ = some (.slice V6 n' c6)) W := boxed_and2 (B_7.out.on DW) (X0_7.out.on DW).cell (X1_7.out.on DW).cell
      refine held_take (i := 5) (oi := _) (v := ?_) (some 43) rfl rfl (by kernel_rfl) (by kernel_rfl) (by kernel_rfl) (fun _ _ _ h => h) (Or.inl ⟨by rfl, ?_⟩) hHeld ?_
      rotate_left
      · intro w' hSw
        obtain ⟨r0, r1, r2, r3, r4, r5, r6⟩ := hSw
        go_simp
        try with_reducible rfl
      try simp only [Act.put, List.setIfInBounds_toArray, List.set_cons_zero, List.set_cons_succ]
      refine held_take (i := 6) (oi := _) (v := ?_) (some 49) rfl rfl (by kernel_rfl) (by kernel_rfl) (by kernel_rfl) (fun _ _ _ h => h) (Or.inl ⟨by rfl, ?_⟩) hHeld ?_
      rotate_left
      · intro w' hSw
        obtain ⟨r0, r1, r2, r3, r4, r5, r6⟩ := hSw
        go_simp
        try with_reducible rfl
      try simp only [Act.put, List.setIfInBounds_toArray, List.set_cons_zero, List.set_cons_succ]
      refine held_take (i := 7) (oi := _) (v := ?_) (some 50) rfl rfl (by kernel_rfl) (by kernel_rfl) (by kernel_rfl) (fun _ _ _ h => h) (Or.inl ⟨by rfl, ?_⟩) hHeld ?_
      rotate_left
      · intro w' hSw
        obtain ⟨r0, r1, r2, r3, r4, r5, r6⟩ := hSw
        go_simp
        try with_reducible rfl
      try simp only [Act.put, List.setIfInBounds_toArray, List.set_cons_zero, List.set_cons_succ]
      have fz := Y.thawed
      have cz := Y.cell
      refine wpAnyH_ready (rs := [9]) (by kernel_rfl) (by simp) ?_
      refine AllReadyH.cons (o := _) rfl (fun K' hK' => ?_) AllReadyH.nil
      go_simp
      have bS := DW.setCell (p := ⟨gb, 0, none⟩) hg (.slice Vb nb cb)
      have Y2 := Y.put (.slice Vb nb cb)
      have G5 := G4.asetCell (p := ⟨gb, 0, none⟩) hgG (.slice Vb nb cb)
      have hx := nFb _ Vb nb cb gb lob W.heap.size gsb bS Y2 hg G5 hlo TG (by simp [World.setCell]) hlh (.inl hgG)
      rw [hG2, hT2] at hx
      try simp only [List.setIfInBounds_toArray, List.set_cons_zero, List.set_cons_succ] at hx
      have DW := bS
      refine hK'.out _ _ (boxed_and2 (B_7.out.on DW) (X0_7.out.on DW).cell (X1_7.out.on DW).cell) (fun _ => ?_)
      refine wpAnyH_ready (rs := [10]) (by kernel_rfl) (by simp) ?_
      refine AllReadyH.cons (o := _) rfl (fun K2 hK2 => ?_) AllReadyH.nil
      go_simp
      refine hK2.out _ _ (boxed_and2 (B_7.out.on DW) (X0_7.out.on DW).cell (X1_7.out.on DW).cell) (fun _ => ?_)
      exact hx
    have nb2f : ∀ (W : World) (Vb : Option Addr) (nb cb : Nat) (lob : Nat) (gsb : List (Option Addr × Nat × Nat)), Below w7.heap.size w7 W → Rag W lob Vb nb gsb (mtL m yss zss) → w7.heap.size ≤ lob → Top gsb W.heap.size → lob ≤ W.heap.size → Gb 6 #[true, true, true, true, true, false, false, false, false, false, false] { tmps := ((Tb.setIfInBounds 45 (.agg #[.int .i64 m.C, .int .i64 m.D, .int .i64 m.S, .int .i64 m.M, .int .i64 m.L])).setIfInBounds 48 (.tuple #[.agg #[.slice Vb nb cb], .int .i64 (mtE m yss zss)])), defers := [] } W := by
      intro W Vb nb cb lob gsb DW G4 hlo TG hlh
      have hG2 := hGb
      have hT2 := hTb
      rw [hGb, hTb]
      try simp only [List.setIfInBounds_toArray, List.set_cons_zero, List.set_cons_succ]
      have hHeld : (fun w' => w'.cell? ⟨w.heap.size, 0, none⟩ = some (.int .i64 m.C) ∧ w'.cell? ⟨w.heap.size, 1, none⟩ = some (.int .i64 m.D) ∧ w'.cell? ⟨w.heap.size, 2, none⟩ = some (.int .i64 m.S) ∧ w'.cell? ⟨w.heap.size, 3, none⟩ = some (.int .i64 m.M) ∧ w'.cell? ⟨w.heap.size, 4, none⟩ = some (.int .i64 m.L) ∧ w'.cell? ⟨w4.heap.size, 0, none⟩ = some (.slice V4 n c4) ∧ w'.cell? ⟨w6.heap.size, 0, none⟩ = some (.slice V6 n' c6)) W := boxed_and2 (B_7.out.on DW) (X0_7.out.on DW).cell (X1_7.out.on DW).cell
      refine held_take (i := 5) (oi := _) (v := ?_) (some 43) rfl rfl (by kernel_rfl) (by kernel_rfl) (by kernel_rfl) (fun _ _ _ h => h) (Or.inl ⟨by rfl, ?_⟩) hHeld ?_
      rotate_left
      · intro w' hSw
        obtain ⟨r0, r1, r2, r3, r4, r5, r6⟩ := hSw
        go_simp
        try with_reducible rfl
      try simp only [Act.put, List.setIfInBounds_toArray, List.set_cons_zero, List.set_cons_succ]
      refine held_take (i := 6) (oi := _) (v := ?_) (some 49) rfl rfl (by kernel_rfl) (by kernel_rfl) (by kernel_rfl) (fun _ _ _ h => h) (Or.inl ⟨by rfl, ?_⟩) hHeld ?_
      rotate_left
      · intro w' hSw
        obtain ⟨r0, r1, r2, r3, r4, r5, r6⟩ := hSw
        go_simp
        try with_reducible rfl
      try simp only [Act.put, List.setIfInBounds_toArray, List.set_cons_zero, List.set_cons_succ]
      refine held_take (i := 7) (oi := _) (v := ?_) (some 50) rfl rfl (by kernel_rfl) (by kernel_rfl) (by kernel_rfl) (fun _ _ _ h => h) (Or.inl ⟨by rfl, ?_⟩) hHeld ?_
      rotate_left
      · intro w' hSw
        obtain ⟨r0, r1, r2, r3, r4, r5, r6⟩ := hSw
        go_simp
        try with_reducible rfl
      try simp only [Act.put, List.setIfInBounds_toArray, List.set_cons_zero, List.set_cons_succ]
      refine wpAnyH_ready (rs := [8]) (by kernel_rfl) (by simp) ?_
      refine AllReadyH.cons (o := _) rfl (fun K hK => ?_) AllReadyH.nil
      go_simp
      have bA := below_alloc' W (.cells #[.slice none 0 0] 30)
      have Y := Cell1.new W 30 (.slice none 0 0)
      have hg : w7.heap.size ≤ W.heap.size := DW.size
      have bB := below_alloc' W (.cells #[.slice Vb nb cb] 30)
      have bS := below_trans' DW bB
      have Y2 := Cell1.new W 30 (.slice Vb nb cb)
      have DW := below_trans' DW bA
      have G5 := G4.on bB
      refine hK.out _ _ (boxed_and2 (B_7.out.on DW) (X0_7.out.on DW).cell (X1_7.out.on DW).cell) (fun _ => ?_)
      have fz := Y.thawed
      have cz := Y.cell
      refine wpAnyH_ready (rs := [9]) (by kernel_rfl) (by simp) ?_
      refine AllReadyH.cons (o := _) rfl (fun K' hK' => ?_) AllReadyH.nil
      go_simp
      have hx := nFb _ Vb nb cb W.heap.size lob W.heap.size gsb bS Y2 hg G5 hlo TG (by simp) hlh (.inr (Nat.le_refl _))
      rw [hG2, hT2] at hx
      try simp only [List.setIfInBounds_toArray, List.set_cons_zero, List.set_cons_succ] at hx
      have DW := bS
      refine hK'.out _ _ (boxed_and2 (B_7.out.on DW) (X0_7.out.on DW).cell (X1_7.out.on DW).cell) (fun _ => ?_)
      refine wpAnyH_ready (rs := [10]) (by kernel_rfl) (by simp) ?_
      refine AllReadyH.cons (o := _) rfl (fun K2 hK2 => ?_) AllReadyH.nil
      go_simp
      refine hK2.out _ _ (boxed_and2 (B_7.out.on DW) (X0_7.out.on DW).cell (X1_7.out.on DW).cell) (fun _ => ?_)
      exact hx
    have nb1t : ∀ (W : World) (gb : Nat), Below w7.heap.size w7 W → Cell1 W gb 30 (.slice none 0 0) → w7.heap.size ≤ gb → Gb 6 #[true, true, true, true, false, false, false, false, true, false, false] { tmps := ((Tb.setIfInBounds 45 (.agg #[.int .i64 m.C, .int .i64 m.D, .int .i64 m.S, .int .i64 m.M, .int .i64 m.L])).setIfInBounds 12 (.pointer (some ⟨gb, 0, none⟩))), defers := [] } W := by
      intro W gb DW Y hg 
      have hG2 := hGb
      have hT2 := hTb
      rw [hGb, hTb]
      try simp only [List.setIfInBounds_toArray, List.set_cons_zero, List.set_cons_succ]
      refine wpAnyH_ready (rs := [4]) (by kernel_rfl) (by simp) ?_
      refine AllReadyH.cons (o := _) rfl (fun K hK => ?_) ?_
      · go_simp
        have hb0 : w7.heap.size ≤ W.heap.size := DW.size
        refine (meetLocks_any m _ _ _ yss _ _ _ zss _ (R0_7.out.on DW).sets HN0.out (R1_7.out.on DW).sets HN1.out).mono ?_
        rintro e W1 ⟨V1, n1, c1, gs1, rfl, G1', z1, y1, b⟩
        have DW := below_trans' DW b
        refine hK.out _ _ (boxed_and2 (B_7.out.on DW) (X0_7.out.on DW).cell (X1_7.out.on DW).cell) (fun _ => ?_)
        have hx := nb2t _ V1 n1 c1 gb W.heap.size gs1 DW (Y.on b) hg G1' hb0 G1'.top b.size Y.lt
        rw [hG2, hT2] at hx
        try simp only [List.setIfInBounds_toArray, List.set_cons_zero, List.set_cons_succ] at hx
        exact hx
      exact AllReadyH.nil
    have nb1f : ∀ (W : World), Below w7.heap.size w7 W → Gb 7 #[true, true, true, true, false, false, false, false, false, false, false] { tmps := (Tb.setIfInBounds 45 (.agg #[.int .i64 m.C, .int .i64 m.D, .int .i64 m.S, .int .i64 m.M, .int .i64 m.L])), defers := [] } W := by
      intro W DW 
      have hG2 := hGb
      have hT2 := hTb
      rw [hGb, hTb]
      try simp only [List.setIfInBounds_toArray, List.set_cons_zero, List.set_cons_succ]
      refine wpAnyH_ready (rs := [4, 8]) (by kernel_rfl) (by simp) ?_
      refine AllReadyH.cons (o := _) rfl (fun K hK => ?_) ?_
      · go_simp
        have hb0 : w7.heap.size ≤ W.heap.size := DW.size
        refine (meetLocks_any m _ _ _ yss _ _ _ zss _ (R0_7.out.on DW).sets HN0.out (R1_7.out.on DW).sets HN1.out).mono ?_
        rintro e W1 ⟨V1, n1, c1, gs1, rfl, G1', z1, y1, b⟩
        have DW := below_trans' DW b
        refine hK.out _ _ (boxed_and2 (B_7.out.on DW) (X0_7.out.on DW).cell (X1_7.out.on DW).cell) (fun _ => ?_)
        have hx := nb2f _ V1 n1 c1 W.heap.size gs1 DW G1' hb0 G1'.top b.size
        rw [hG2, hT2] at hx
        try simp only [List.setIfInBounds_toArray, List.set_cons_zero, List.set_cons_succ] at hx
        exact hx
      refine AllReadyH.cons (o := _) rfl (fun K hK => ?_) ?_
      · go_simp
        have bA := below_alloc' W (.cells #[.slice none 0 0] 30)
        have hg : w7.heap.size ≤ W.heap.size := DW.size
        have DW := below_trans' DW bA
        refine hK.out _ _ (boxed_and2 (B_7.out.on DW) (X0_7.out.on DW).cell (X1_7.out.on DW).cell) (fun _ => ?_)
        have hx := nb1t _ W.heap.size DW (Cell1.new W 30 (.slice none 0 0)) hg 
        rw [hG2, hT2] at hx
        try simp only [List.setIfInBounds_toArray, List.set_cons_zero, List.set_cons_succ] at hx
        exact hx
      exact AllReadyH.nil
    have nb0t : ∀ (W : World) (gb : Nat), Below w7.heap.size w7 W → Cell1 W gb 30 (.slice none 0 0) → w7.heap.size ≤ gb → Gb 7 #[true, false, true, true, false, false, false, false, true, false, false] { tmps := (Tb.setIfInBounds 12 (.pointer (some ⟨gb, 0, none⟩))), defers := [] } W := by
      intro W gb DW Y hg 
      have hG2 := hGb
      have hT2 := hTb
      rw [hGb, hTb]
      try simp only [List.setIfInBounds_toArray, List.set_cons_zero, List.set_cons_succ]
      refine wpAnyH_ready (rs := [1]) (by kernel_rfl) (by simp) ?_
      refine AllReadyH.cons (o := _) rfl (fun K hK => ?_) ?_
      · go_simp
        refine (toMaker_any m _).mono ?_
        rintro e W1 ⟨rfl, b⟩
        have DW := below_trans' DW b
        refine hK.out _ _ (boxed_and2 (B_7.out.on DW) (X0_7.out.on DW).cell (X1_7.out.on DW).cell) (fun _ => ?_)
        have hx := nb1t _ gb DW (Y.on b) hg 
        rw [hG2, hT2] at hx
        try simp only [List.setIfInBounds_toArray, List.set_cons_zero, List.set_cons_succ] at hx
        exact hx
      exact AllReadyH.nil
    have nb0f : ∀ (W : World), Below w7.heap.size w7 W → Gb 8 #[true, false, true, true, false, false, false, false, false, false, false] { tmps := Tb, defers := [] } W := by
      intro W DW 
      have hG2 := hGb
      have hT2 := hTb
      rw [hGb, hTb]
      try simp only [List.setIfInBounds_toArray, List.set_cons_zero, List.set_cons_succ]
      refine wpAnyH_ready (rs := [1, 8]) (by kernel_rfl) (by simp) ?_
      refine AllReadyH.cons (o := _) rfl (fun K hK => ?_) ?_
      · go_simp
        refine (toMaker_any m _).mono ?_
        rintro e W1 ⟨rfl, b⟩
        have DW := below_trans' DW b
        refine hK.out _ _ (boxed_and2 (B_7.out.on DW) (X0_7.out.on DW).cell (X1_7.out.on DW).cell) (fun _ => ?_)
        have hx := nb1f _ DW 
        rw [hG2, hT2] at hx
        try simp only [List.setIfInBounds_toArray, List.set_cons_zero, List.set_cons_succ] at hx
        exact hx
      refine AllReadyH.cons (o := _) rfl (fun K hK => ?_) ?_
      · go_simp
        have bA := below_alloc' W (.cells #[.slice none 0 0] 30)
        have hg : w7.heap.size ≤ W.heap.size := DW.size
        have DW := below_trans' DW bA
        refine hK.out _ _ (boxed_and2 (B_7.out.on DW) (X0_7.out.on DW).cell (X1_7.out.on DW).cell) (fun _ => ?_)
        have hx := nb0t _ W.heap.size DW (Cell1.new W 30 (.slice none 0 0)) hg 
        rw [hG2, hT2] at hx
        try simp only [List.setIfInBounds_toArray, List.set_cons_zero, List.set_cons_succ] at hx
        exact hx
      exact AllReadyH.nil
    exact nb0f _ (below_drewN (Below.refl w7.heap.size w7) 1)
  -- the states of the region
  have na4t : ∀ (W : World) (vV0 : Option Addr) (vc0 : Nat) (vV1 : Option Addr) (vc1 : Nat) (Va : Option Addr) (na ca : Nat) (ga : Nat), Below ws1.heap.size ws1 W → Cell1 W ga 30 (.slice none 0 0) → ws1.heap.size ≤ ga → Sets W W.heap.size Va na (mtL m yss zss) → Ga 5 #[true, true, true, true, true, true, true, false, false, false, true, false, false] { tmps := (((((Ta.setIfInBounds 31 (.agg #[.int .i64 m.C, .int .i64 m.D, .int .i64 m.S, .int .i64 m.M, .int .i64 m.L])).setIfInBounds 33 (.agg #[.slice vV0 n vc0])).setIfInBounds 35 (.agg #[.slice vV1 n' vc1])).setIfInBounds 36 (.tuple #[.agg #[.slice Va na ca], .int .i64 (mtE m yss zss)])).setIfInBounds 8 (.pointer (some ⟨ga, 0, none⟩))), defers := [] } W := by
    intro W vV0 vc0 vV1 vc1 Va na ca ga DW Y hg S4
    have hG2 := hGa
    have hT2 := hTa
    rw [hGa, hTa]
    try simp only [List.setIfInBounds_toArray, List.set_cons_zero, List.set_cons_succ]
    have hHeld : (fun w' => w'.cell? ⟨w.heap.size, 0, none⟩ = some (.int .i64 m.C) ∧ w'.cell? ⟨w.heap.size, 1, none⟩ = some (.int .i64 m.D) ∧ w'.cell? ⟨w.heap.size, 2, none⟩ = some (.int .i64 m.S) ∧ w'.cell? ⟨w.heap.size, 3, none⟩ = some (.int .i64 m.M) ∧ w'.cell? ⟨w.heap.size, 4, none⟩ = some (.int .i64 m.L) ∧ w'.cell? ⟨w.heap.size + 1, 0, none⟩ = some (.slice V n c) ∧ w'.cell? ⟨w.heap.size + 1 + 1, 0, none⟩ = some (.slice V' n' c')) W := boxed_and2 (B_2.out.on DW) (A0_2.out.on DW).cell (A1_2.out.on DW).cell
    refine held_take (i := 7) (oi := _) (v := ?_) (some 29) rfl rfl (by kernel_rfl) (by kernel_rfl) (by kernel_rfl) (fun _ _ _ h => h) (Or.inl ⟨by rfl, ?_⟩) hHeld ?_
    rotate_left
    · intro w' hSw
      obtain ⟨r0, r1, r2, r3, r4, r5, r6⟩ := hSw
      go_simp
      try with_reducible rfl
    try simp only [Act.put, List.setIfInBounds_toArray, List.set_cons_zero, List.set_cons_succ]
    refine held_take (i := 8) (oi := _) (v := ?_) (some 37) rfl rfl (by kernel_rfl) (by kernel_rfl) (by kernel_rfl) (fun _ _ _ h => h) (Or.inl ⟨by rfl, ?_⟩) hHeld ?_
    rotate_left
    · intro w' hSw
      obtain ⟨r0, r1, r2, r3, r4, r5, r6⟩ := hSw
      go_simp
      try with_reducible rfl
    try simp only [Act.put, List.setIfInBounds_toArray, List.set_cons_zero, List.set_cons_succ]
    refine held_take (i := 9) (oi := _) (v := ?_) (some 38) rfl rfl (by kernel_rfl) (by kernel_rfl) (by kernel_rfl) (fun _ _ _ h => h) (Or.inl ⟨by rfl, ?_⟩) hHeld ?_
    rotate_left
    · intro w' hSw
      obtain ⟨r0, r1, r2, r3, r4, r5, r6⟩ := hSw
      go_simp
      try with_reducible rfl
    try simp only [Act.put, List.setIfInBounds_toArray, List.set_cons_zero, List.set_cons_succ]
    have fz := Y.thawed
    have cz := Y.cell
    refine wpAnyH_ready (rs := [11]) (by kernel_rfl) (by simp) ?_
    refine AllReadyH.cons (o := _) rfl (fun K' hK' => ?_) AllReadyH.nil
    go_simp
    have bS := DW.setCell (p := ⟨ga, 0, none⟩) hg (.slice Va na ca)
    have Y2 := Y.put (.slice Va na ca)
    have S5 := S4.stored HNE.out Y (.slice Va na ca)
    have hx := nFa _ vV0 vc0 vV1 vc1 Va na ca ga bS Y2 hg S5
    rw [hG2, hT2] at hx
    try simp only [List.setIfInBounds_toArray, List.set_cons_zero, List.set_cons_succ] at hx
    have DW := bS
    refine hK'.out _ _ (boxed_and2 (B_2.out.on DW) (A0_2.out.on DW).cell (A1_2.out.on DW).cell) (fun _ => ?_)
    refine wpAnyH_ready (rs := [12]) (by kernel_rfl) (by simp) ?_
    refine AllReadyH.cons (o := _) rfl (fun K2 hK2 => ?_) AllReadyH.nil
    go_simp
    refine hK2.out _ _ (boxed_and2 (B_2.out.on DW) (A0_2.out.on DW).cell (A1_2.out.on DW).cell) (fun _ => ?_)
    exact hx
  have na4f : ∀ (W : World) (vV0 : Option Addr) (vc0 : Nat) (vV1 : Option Addr) (vc1 : Nat) (Va : Option Addr) (na ca : Nat), Below ws1.heap.size ws1 W → Sets W W.heap.size Va na (mtL m yss zss) → Ga 6 #[true, true, true, true, true, true, true, false, false, false, false, false, false] { tmps := ((((Ta.setIfInBounds 31 (.agg #[.int .i64 m.C, .int .i64 m.D, .int .i64 m.S, .int .i64 m.M, .int .i64 m.L])).setIfInBounds 33 (.agg #[.slice vV0 n vc0])).setIfInBounds 35 (.agg #[.slice vV1 n' vc1])).setIfInBounds 36 (.tuple #[.agg #[.slice Va na ca], .int .i64 (mtE m yss zss)])), defers := [] } W := by
    intro W vV0 vc0 vV1 vc1 Va na ca DW S4
    have hG2 := hGa
    have hT2 := hTa
    rw [hGa, hTa]
    try simp only [List.setIfInBounds_toArray, List.set_cons_zero, List.set_cons_succ]
    have hHeld : (fun w' => w'.cell? ⟨w.heap.size, 0, none⟩ = some (.int .i64 m.C) ∧ w'.cell? ⟨w.heap.size, 1, none⟩ = some (.int .i64 m.D) ∧ w'.cell? ⟨w.heap.size, 2, none⟩ = some (.int .i64 m.S) ∧ w'.cell? ⟨w.heap.size, 3, none⟩ = some (.int .i64 m.M) ∧ w'.cell? ⟨w.heap.size, 4, none⟩ = some (.int .i64 m.L) ∧ w'.cell? ⟨w.heap.size + 1, 0, none⟩ = some (.slice V n c) ∧ w'.cell? ⟨w.heap.size + 1 + 1, 0, none⟩ = some (.slice V' n' c')) W := boxed_and2 (B_2.out.on DW) (A0_2.out.on DW).cell (A1_2.out.on DW).cell
    refine held_take (i := 7) (oi := _) (v := ?_) (some 29) rfl rfl (by kernel_rfl) (by kernel_rfl) (by kernel_rfl) (fun _ _ _ h => h) (Or.inl ⟨by rfl, ?_⟩) hHeld ?_
    rotate_left
    · intro w' hSw
      obtain ⟨r0, r1, r2, r3, r4, r5, r6⟩ := hSw
      go_simp
      try with_reducible rfl
    try simp only [Act.put, List.setIfInBounds_toArray, List.set_cons_zero, List.set_cons_succ]
    refine held_take (i := 8) (oi := _) (v := ?_) (some 37) rfl rfl (by kernel_rfl) (by kernel_rfl) (by kernel_rfl) (fun _ _ _ h => h) (Or.inl ⟨by rfl, ?_⟩) hHeld ?_
    rotate_left
    · intro w' hSw
      obtain ⟨r0, r1, r2, r3, r4, r5, r6⟩ := hSw
      go_simp
      try with_reducible rfl
    try simp only [Act.put, List.setIfInBounds_toArray, List.set_cons_zero, List.set_cons_succ]
    refine held_take (i := 9) (oi := _) (v := ?_) (some 38) rfl rfl (by kernel_rfl) (by kernel_rfl) (by kernel_rfl) (fun _ _ _ h => h) (Or.inl ⟨by rfl, ?_⟩) hHeld ?_
    rotate_left
    · intro w' hSw
      obtain ⟨r0, r1, r2, r3, r4, r5, r6⟩ := hSw
      go_simp
      try with_reducible rfl
    try simp only [Act.put, List.setIfInBounds_toArray, List.set_cons_zero, List.set_cons_succ]
    refine wpAnyH_ready (rs := [10]) (by kernel_rfl) (by simp) ?_
    refine AllReadyH.cons (o := _) rfl (fun K hK => ?_) AllReadyH.nil
    go_simp
    have bA := below_alloc' W (.cells #[.slice none 0 0] 30)
    have Y := Cell1.new W 30 (.slice none 0 0)
    have hg : ws1.heap.size ≤ W.heap.size := DW.size
    have bB := below_alloc' W (.cells #[.slice Va na ca] 30)
    have bS := below_trans' DW bB
    have Y2 := Cell1.new W 30 (.slice Va na ca)
    have DW := below_trans' DW bA
    have S5 := S4.on bB
    refine hK.out _ _ (boxed_and2 (B_2.out.on DW) (A0_2.out.on DW).cell (A1_2.out.on DW).cell) (fun _ => ?_)
    have fz := Y.thawed
    have cz := Y.cell
    refine wpAnyH_ready (rs := [11]) (by kernel_rfl) (by simp) ?_
    refine AllReadyH.cons (o := _) rfl (fun K' hK' => ?_) AllReadyH.nil
    go_simp
    have hx := nFa _ vV0 vc0 vV1 vc1 Va na ca W.heap.size bS Y2 hg S5
    rw [hG2, hT2] at hx
    try simp only [List.setIfInBounds_toArray, List.set_cons_zero, List.set_cons_succ] at hx
    have DW := bS
    refine hK'.out _ _ (boxed_and2 (B_2.out.on DW) (A0_2.out.on DW).cell (A1_2.out.on DW).cell) (fun _ => ?_)
    refine wpAnyH_ready (rs := [12]) (by kernel_rfl) (by simp) ?_
    refine AllReadyH.cons (o := _) rfl (fun K2 hK2 => ?_) AllReadyH.nil
    go_simp
    refine hK2.out _ _ (boxed_and2 (B_2.out.on DW) (A0_2.out.on DW).cell (A1_2.out.on DW).cell) (fun _ => ?_)
    exact hx
  have na3t : ∀ (W : World) (ga : Nat) (vV0 : Option Addr) (vc0 : Nat) (vV1 : Option Addr) (vc1 : Nat), Below ws1.heap.size ws1 W → Cell1 W ga 30 (.slice none 0 0) → ws1.heap.size ≤ ga → Sets W W.heap.size vV0 n yss → Sets W W.heap.size vV1 n' zss → Ga 6 #[true, true, true, true, true, true, false, false, false, false, true, false, false] { tmps := ((((Ta.setIfInBounds 31 (.agg #[.int .i64 m.C, .int .i64 m.D, .int .i64 m.S, .int .i64 m.M, .int .i64 m.L])).setIfInBounds 33 (.agg #[.slice vV0 n vc0])).setIfInBounds 35 (.agg #[.slice vV1 n' vc1])).setIfInBounds 8 (.pointer (some ⟨ga, 0, none⟩))), defers := [] } W := by
    intro W ga vV0 vc0 vV1 vc1 DW Y hg S0 S1
    have hG2 := hGa
    have hT2 := hTa
    rw [hGa, hTa]
    try simp only [List.setIfInBounds_toArray, List.set_cons_zero, List.set_cons_succ]
    refine wpAnyH_ready (rs := [6]) (by kernel_rfl) (by simp) ?_
    refine AllReadyH.cons (o := _) rfl (fun K hK => ?_) ?_
    · go_simp
      refine (specMeetLocks_any m _ _ _ yss _ _ _ zss _ S0 HN0.out S1 HN1.out).mono ?_
      rintro e W1 ⟨V1, n1, c1, rfl, S1', z1, y1, b⟩
      have DW := below_trans' DW b
      refine hK.out _ _ (boxed_and2 (B_2.out.on DW) (A0_2.out.on DW).cell (A1_2.out.on DW).cell) (fun _ => ?_)
      have hx := na4t _ vV0 vc0 vV1 vc1 V1 n1 c1 ga DW (Y.on b) hg S1'
      rw [hG2, hT2] at hx
      try simp only [List.setIfInBounds_toArray, List.set_cons_zero, List.set_cons_succ] at hx
      exact hx
    exact AllReadyH.nil
  have na3f : ∀ (W : World) (vV0 : Option Addr) (vc0 : Nat) (vV1 : Option Addr) (vc1 : Nat), Below ws1.heap.size ws1 W → Sets W W.heap.size vV0 n yss → Sets W W.heap.size vV1 n' zss → Ga 7 #[true, true, true, true, true, true, false, false, false, false, false, false, false] { tmps := (((Ta.setIfInBounds 31 (.agg #[.int .i64 m.C, .int .i64 m.D, .int .i64 m.S, .int .i64 m.M, .int .i64 m.L])).setIfInBounds 33 (.agg #[.slice vV0 n vc0])).setIfInBounds 35 (.agg #[.slice vV1 n' vc1])), defers := [] } W := by
    intro W vV0 vc0 vV1 vc1 DW S0 S1
    have hG2 := hGa
    have hT2 := hTa
    rw [hGa, hTa]
    try simp only [List.setIfInBounds_toArray, List.set_cons_zero, List.set_cons_succ]
    refine wpAnyH_ready (rs := [6, 10]) (by kernel_rfl) (by simp) ?_
    refine AllReadyH.cons (o := _) rfl (fun K hK => ?_) ?_
    · go_simp
      refine (specMeetLocks_any m _ _ _ yss _ _ _ zss _ S0 HN0.out S1 HN1.out).mono ?_
      rintro e W1 ⟨V1, n1, c1, rfl, S1', z1, y1, b⟩
      have DW := below_trans' DW b
      refine hK.out _ _ (boxed_and2 (B_2.out.on DW) (A0_2.out.on DW).cell (A1_2.out.on DW).cell) (fun _ => ?_)
      have hx := na4f _ vV0 vc0 vV1 vc1 V1 n1 c1 DW S1'
      rw [hG2, hT2] at hx
      try simp only [List.setIfInBounds_toArray, List.set_cons_zero, List.set_cons_succ] at hx
      exact hx
    refine AllReadyH.cons (o := _) rfl (fun K hK => ?_) ?_
    · go_simp
      have bA := below_alloc' W (.cells #[.slice none 0 0] 30)
      have hg : ws1.heap.size ≤ W.heap.size := DW.size
      have DW := below_trans' DW bA
      refine hK.out _ _ (boxed_and2 (B_2.out.on DW) (A0_2.out.on DW).cell (A1_2.out.on DW).cell) (fun _ => ?_)
      have hx := na3t _ W.heap.size vV0 vc0 vV1 vc1 DW (Cell1.new W 30 (.slice none 0 0)) hg (S0.on bA) (S1.on bA)
      rw [hG2, hT2] at hx
      try simp only [List.setIfInBounds_toArray, List.set_cons_zero, List.set_cons_succ] at hx
      exact hx
    exact AllReadyH.nil
  have na2t : ∀ (W : World) (ga : Nat) (vV0 : Option Addr) (vc0 : Nat), Below ws1.heap.size ws1 W → Cell1 W ga 30 (.slice none 0 0) → ws1.heap.size ≤ ga → Sets W W.heap.size vV0 n yss → Ga 7 #[true, true, true, true, true, false, false, false, false, false, true, false, false] { tmps := (((Ta.setIfInBounds 31 (.agg #[.int .i64 m.C, .int .i64 m.D, .int .i64 m.S, .int .i64 m.M, .int .i64 m.L])).setIfInBounds 33 (.agg #[.slice vV0 n vc0])).setIfInBounds 8 (.pointer (some ⟨ga, 0, none⟩))), defers := [] } W := by
    intro W ga vV0 vc0 DW Y hg S0
    have hG2 := hGa
    have hT2 := hTa
    rw [hGa, hTa]
    try simp only [List.setIfInBounds_toArray, List.set_cons_zero, List.set_cons_succ]
    refine wpAnyH_ready (rs := [5]) (by kernel_rfl) (by simp) ?_
    refine AllReadyH.cons (o := _) rfl (fun K hK => ?_) ?_
    · go_simp
      refine (toLock_any _ _ _ zss _ (H1.out.on (below_trans' C_2.out DW)) HN1.out).mono ?_
      rintro e W1 ⟨V1, n1, c1, gs1, rfl, R1, z1, y1, b⟩
      obtain rfl : n' = n1 := (R1.len.symm.trans HL1.out).symm
      have DW := below_trans' DW b
      refine hK.out _ _ (boxed_and2 (B_2.out.on DW) (A0_2.out.on DW).cell (A1_2.out.on DW).cell) (fun _ => ?_)
      have hx := na3t _ ga vV0 vc0 V1 c1 DW (Y.on b) hg (S0.on b) R1.sets
      rw [hG2, hT2] at hx
      try simp only [List.setIfInBounds_toArray, List.set_cons_zero, List.set_cons_succ] at hx
      exact hx
    exact AllReadyH.nil
  have na2f : ∀ (W : World) (vV0 : Option Addr) (vc0 : Nat), Below ws1.heap.size ws1 W → Sets W W.heap.size vV0 n yss → Ga 8 #[true, true, true, true, true, false, false, false, false, false, false, false, false] { tmps := ((Ta.setIfInBounds 31 (.agg #[.int .i64 m.C, .int .i64 m.D, .int .i64 m.S, .int .i64 m.M, .int .i64 m.L])).setIfInBounds 33 (.agg #[.slice vV0 n vc0])), defers := [] } W := by
    intro W vV0 vc0 DW S0
    have hG2 := hGa
    have hT2 := hTa
    rw [hGa, hTa]
    try simp only [List.setIfInBounds_toArray, List.set_cons_zero, List.set_cons_succ]
    refine wpAnyH_ready (rs := [5, 10]) (by kernel_rfl) (by simp) ?_
    refine AllReadyH.cons (o := _) rfl (fun K hK => ?_) ?_
    · go_simp
      refine (toLock_any _ _ _ zss _ (H1.out.on (below_trans' C_2.out DW)) HN1.out).mono ?_
      rintro e W1 ⟨V1, n1, c1, gs1, rfl, R1, z1, y1, b⟩
      obtain rfl : n' = n1 := (R1.len.symm.trans HL1.out).symm
      have DW := below_trans' DW b
      refine hK.out _ _ (boxed_and2 (B_2.out.on DW) (A0_2.out.on DW).cell (A1_2.out.on DW).cell) (fun _ => ?_)
      have hx := na3f _ vV0 vc0 V1 c1 DW (S0.on b) R1.sets
      rw [hG2, hT2] at hx
      try simp only [List.setIfInBounds_toArray, List.set_cons_zero, List.set_cons_succ] at hx
      exact hx
    refine AllReadyH.cons (o := _) rfl (fun K hK => ?_) ?_
    · go_simp
      have bA := below_alloc' W (.cells #[.slice none 0 0] 30)
      have hg : ws1.heap.size ≤ W.heap.size := DW.size
      have DW := below_trans' DW bA
      refine hK.out _ _ (boxed_and2 (B_2.out.on DW) (A0_2.out.on DW).cell (A1_2.out.on DW).cell) (fun _ => ?_)
      have hx := na2t _ W.heap.size vV0 vc0 DW (Cell1.new W 30 (.slice none 0 0)) hg (S0.on bA)
      rw [hG2, hT2] at hx
      try simp only [List.setIfInBounds_toArray, List.set_cons_zero, List.set_cons_succ] at hx
      exact hx
    exact AllReadyH.nil
  have na1t : ∀ (W : World) (ga : Nat), Below ws1.heap.size ws1 W → Cell1 W ga 30 (.slice none 0 0) → ws1.heap.size ≤ ga → Ga 8 #[true, true, true, false, true, false, false, false, false, false, true, false, false] { tmps := ((Ta.setIfInBounds 31 (.agg #[.int .i64 m.C, .int .i64 m.D, .int .i64 m.S, .int .i64 m.M, .int .i64 m.L])).setIfInBounds 8 (.pointer (some ⟨ga, 0, none⟩))), defers := [] } W := by
    intro W ga DW Y hg 
    have hG2 := hGa
    have hT2 := hTa
    rw [hGa, hTa]
    try simp only [List.setIfInBounds_toArray, List.set_cons_zero, List.set_cons_succ]
    refine wpAnyH_ready (rs := [3]) (by kernel_rfl) (by simp) ?_
    refine AllReadyH.cons (o := _) rfl (fun K hK => ?_) ?_
    · go_simp
      refine (toLock_any _ _ _ yss _ (H0.out.on (below_trans' C_2.out DW)) HN0.out).mono ?_
      rintro e W1 ⟨V1, n1, c1, gs1, rfl, R1, z1, y1, b⟩
      obtain rfl : n = n1 := (R1.len.symm.trans HL0.out).symm
      have DW := below_trans' DW b
      refine hK.out _ _ (boxed_and2 (B_2.out.on DW) (A0_2.out.on DW).cell (A1_2.out.on DW).cell) (fun _ => ?_)
      have hx := na2t _ ga V1 c1 DW (Y.on b) hg  R1.sets
      rw [hG2, hT2] at hx
      try simp only [List.setIfInBounds_toArray, List.set_cons_zero, List.set_cons_succ] at hx
      exact hx
    exact AllReadyH.nil
  have na1f : ∀ (W : World), Below ws1.heap.size ws1 W → Ga 9 #[true, true, true, false, true, false, false, false, false, false, false, false, false] { tmps := (Ta.setIfInBounds 31 (.agg #[.int .i64 m.C, .int .i64 m.D, .int .i64 m.S, .int .i64 m.M, .int .i64 m.L])), defers := [] } W := by
    intro W DW 
    have hG2 := hGa
    have hT2 := hTa
    rw [hGa, hTa]
    try simp only [List.setIfInBounds_toArray, List.set_cons_zero, List.set_cons_succ]
    refine wpAnyH_ready (rs := [3, 10]) (by kernel_rfl) (by simp) ?_
    refine AllReadyH.cons (o := _) rfl (fun K hK => ?_) ?_
    · go_simp
      refine (toLock_any _ _ _ yss _ (H0.out.on (below_trans' C_2.out DW)) HN0.out).mono ?_
      rintro e W1 ⟨V1, n1, c1, gs1, rfl, R1, z1, y1, b⟩
      obtain rfl : n = n1 := (R1.len.symm.trans HL0.out).symm
      have DW := below_trans' DW b
      refine hK.out _ _ (boxed_and2 (B_2.out.on DW) (A0_2.out.on DW).cell (A1_2.out.on DW).cell) (fun _ => ?_)
      have hx := na2f _ V1 c1 DW  R1.sets
      rw [hG2, hT2] at hx
      try simp only [List.setIfInBounds_toArray, List.set_cons_zero, List.set_cons_succ] at hx
      exact hx
    refine AllReadyH.cons (o := _) rfl (fun K hK => ?_) ?_
    · go_simp
      have bA := below_alloc' W (.cells #[.slice none 0 0] 30)
      have hg : ws1.heap.size ≤ W.heap.size := DW.size
      have DW := below_trans' DW bA
      refine hK.out _ _ (boxed_and2 (B_2.out.on DW) (A0_2.out.on DW).cell (A1_2.out.on DW).cell) (fun _ => ?_)
      have hx := na1t _ W.heap.size DW (Cell1.new W 30 (.slice none 0 0)) hg 
      rw [hG2, hT2] at hx
      try simp only [List.setIfInBounds_toArray, List.set_cons_zero, List.set_cons_succ] at hx
      exact hx
    exact AllReadyH.nil
  have na0t : ∀ (W : World) (ga : Nat), Below ws1.heap.size ws1 W → Cell1 W ga 30 (.slice none 0 0) → ws1.heap.size ≤ ga → Ga 9 #[true, false, true, false, true, false, false, false, false, false, true, false, false] { tmps := (Ta.setIfInBounds 8 (.pointer (some ⟨ga, 0, none⟩))), defers := [] } W := by
    intro W ga DW Y hg 
    have hG2 := hGa
    have hT2 := hTa
    rw [hGa, hTa]
    try simp only [List.setIfInBounds_toArray, List.set_cons_zero, List.set_cons_succ]
    refine wpAnyH_ready (rs := [1]) (by kernel_rfl) (by simp) ?_
    refine AllReadyH.cons (o := _) rfl (fun K hK => ?_) ?_
    · go_simp
      refine (toMaker_any m _).mono ?_
      rintro e W1 ⟨rfl, b⟩
      have DW := below_trans' DW b
      refine hK.out _ _ (boxed_and2 (B_2.out.on DW) (A0_2.out.on DW).cell (A1_2.out.on DW).cell) (fun _ => ?_)
      have hx := na1t _ ga DW (Y.on b) hg 
      rw [hG2, hT2] at hx
      try simp only [List.setIfInBounds_toArray, List.set_cons_zero, List.set_cons_succ] at hx
      exact hx
    exact AllReadyH.nil
  have na0f : ∀ (W : World), Below ws1.heap.size ws1 W → Ga 10 #[true, false, true, false, true, false, false, false, false, false, false, false, false] { tmps := Ta, defers := [] } W := by
    intro W DW 
    have hG2 := hGa
    have hT2 := hTa
    rw [hGa, hTa]
    try simp only [List.setIfInBounds_toArray, List.set_cons_zero, List.set_cons_succ]
    refine wpAnyH_ready (rs := [1, 10]) (by kernel_rfl) (by simp) ?_
    refine AllReadyH.cons (o := _) rfl (fun K hK => ?_) ?_
    · go_simp
      refine (toMaker_any m _).mono ?_
      rintro e W1 ⟨rfl, b⟩
      have DW := below_trans' DW b
      refine hK.out _ _ (boxed_and2 (B_2.out.on DW) (A0_2.out.on DW).cell (A1_2.out.on DW).cell) (fun _ => ?_)
      have hx := na1f _ DW 
      rw [hG2, hT2] at hx
      try simp only [List.setIfInBounds_toArray, List.set_cons_zero, List.set_cons_succ] at hx
      exact hx
    refine AllReadyH.cons (o := _) rfl (fun K hK => ?_) ?_
    · go_simp
      have bA := below_alloc' W (.cells #[.slice none 0 0] 30)
      have hg : ws1.heap.size ≤ W.heap.size := DW.size
      have DW := below_trans' DW bA
      refine hK.out _ _ (boxed_and2 (B_2.out.on DW) (A0_2.out.on DW).cell (A1_2.out.on DW).cell) (fun _ => ?_)
      have hx := na0t _ W.heap.size DW (Cell1.new W 30 (.slice none 0 0)) hg 
      rw [hG2, hT2] at hx
      try simp only [List.setIfInBounds_toArray, List.set_cons_zero, List.set_cons_succ] at hx
      exact hx
    exact AllReadyH.nil
  exact na0f _ (below_drewN (Below.refl ws1.heap.size ws1) 1)

end Go.Proofs.Ytnfmcgfiaekaiaa
