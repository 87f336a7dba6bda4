/- The law of WornLock. -/
import Derived.Test.YtbfnffecmglgfaaLockLaw
import Derived.Test.YtbfnffecmglgfaaCntMay
namespace Go.Proofs.Ytbfnffecmglgfaa
open Go Go.RowKit

theorem wlkL_size (m : Mk) (yss : List (List Int)) (wr t : Int) : (wlkL m yss wr t).length + sizeL (wlkL m yss wr t) ≤ 1048576 := by
  by_cases h : wlkE m yss wr t = 0
  · obtain ⟨hL, hF⟩ := wlkE_facts h
    have := cm_yes hL hF
    rw [this.2.1]
    exact this.2.2.2.2.2
  · rw [wlkL_not h]; simp [sizeL, sizeAt]
theorem wlkL_ne (m : Mk) (yss : List (List Int)) (wr t : Int) : ∀ ys ∈ wlkL m yss wr t, ys.length ≠ 0 := by
  intro ys hy
  by_cases h : wlkE m yss wr t = 0
  · obtain ⟨hL, hF⟩ := wlkE_facts h
    have hc := cm_yes hL hF
    rw [hc.2.1] at hy
    obtain ⟨_, _, hs⟩ := lockB_facts hc.2.2.1
    obtain ⟨j, hj⟩ := List.getElem?_of_mem hy
    exact (hs j ys hj).1
  · rw [wlkL_not h] at hy; cases hy

set_option linter.unusedSimpArgs false in
set_option linter.unusedVariables false in
set_option maxRecDepth 100000 in
set_option maxHeartbeats 16000000 in
theorem lawWornLock_any (m : Mk) (V : Option Addr) (n c : Nat) (yss : List (List Int)) (wr : Int) (t : Int) (w : World) (h0 : Sets w w.heap.size V n yss) (hcm0 : n ≤ 9223372036854775807) :
    Calls Try.prog 15 #[.agg #[.int .i64 m.C, .int .i64 m.D, .int .i64 m.S, .int .i64 m.M, .int .i64 m.L], .agg #[.slice V n c], .int .i64 wr, .int .i64 t] w fun e w' => e = .returned (.bool true) ∧ Below w.heap.size w w' := by
  have B_0' := Boxed.new w 77 m
  have C_0' := (Below.refl w.heap.size w).alloc (Nat.le_refl _) (.cells #[.int .i64 m.C, .int .i64 m.D, .int .i64 m.S, .int .i64 m.M, .int .i64 m.L] 77)
  have A0_0' := Cell1.new (w.alloc (.cells #[.int .i64 m.C, .int .i64 m.D, .int .i64 m.S, .int .i64 m.M, .int .i64 m.L] 77)) 86 (.slice V n c)
  simp only [World.size_alloc] at A0_0'
  have B_0' := B_0'.alloc (.cells #[.slice V n c] 86)
  have C_0' := C_0'.alloc (by simp; try omega) (.cells #[.slice V n c] 86)
  have B_0 := Lib.hid B_0'
  have A0_0 := Lib.hid A0_0'
  have C_0 := Lib.hid C_0'
  have H0 := Lib.hid h0
  have HL0 := Lib.hid h0.len
  clear B_0' A0_0' C_0' h0
  go_enter Try.func15, Try.ntmps15
  have ck0 := A0_0.out.cell
  go_wp2_with fail
  clear ck0
  refine (szLock_any _ _ _ yss 1048576 _ (H0.out.on C_0.out) (by omega) (by omega) hcm0).mono ?_
  rintro e ws0 ⟨⟨r0, rfl, hr0⟩, b0⟩
  have B_1 := Lib.hid (B_0.out.on b0)
  have A0_1 := Lib.hid (A0_0.out.on b0)
  have C_1 := Lib.hid (below_trans' C_0.out b0)
  clear B_0 A0_0 C_0 b0
  rcases hr0 with rfl | ⟨hr0, hr00⟩
  · go_wp2
    go_ret
    exact ⟨rfl, C_1.out⟩
  have hneg0 : ¬ r0 < 0 := by omega
  have HN0 : Hid (n + sizeL yss ≤ 1048576) := Lib.hid (by omega)
  have hn0 : n ≤ 1048576 := by omega
  have hlo0 : 0 ≤ r0 := by omega
  have hup0 : r0 ≤ 1048576 := by omega
  clear hr0 hr00
  have HNL := Lib.hid (wlkL_size m yss wr t)
  have HNE := Lib.hid (wlkL_ne m yss wr t)
  have hzw := A0_1.out.lt
  go_wp2
  have hS0 : (fun w' => w'.cell? ⟨w.heap.size, 0, none⟩ = some (.int .i64 m.C) ∧ w'.cell? ⟨w.heap.size, 1, none⟩ = some (.int .i64 m.D) ∧ w'.cell? ⟨w.heap.size, 2, none⟩ = some (.int .i64 m.S) ∧ w'.cell? ⟨w.heap.size, 3, none⟩ = some (.int .i64 m.M) ∧ w'.cell? ⟨w.heap.size, 4, none⟩ = some (.int .i64 m.L) ∧ w'.cell? ⟨w.heap.size + 1, 0, none⟩ = some (.slice V n c)) ws0.drew := by have DW := below_drewN (Below.refl ws0.heap.size ws0) 1; exact boxed_and (B_1.out.on DW) (A0_1.out.on DW).cell
  refine wp_region_held_drew (S := (fun w' => w'.cell? ⟨w.heap.size, 0, none⟩ = some (.int .i64 m.C) ∧ w'.cell? ⟨w.heap.size, 1, none⟩ = some (.int .i64 m.D) ∧ w'.cell? ⟨w.heap.size, 2, none⟩ = some (.int .i64 m.S) ∧ w'.cell? ⟨w.heap.size, 3, none⟩ = some (.int .i64 m.M) ∧ w'.cell? ⟨w.heap.size, 4, none⟩ = some (.int .i64 m.L) ∧ w'.cell? ⟨w.heap.size + 1, 0, none⟩ = some (.slice V n c))) (by kernel_rfl) hS0 (fun hHeld => ?_)
  refine held_take (i := 0) (oi := _) (v := ?_) (some 26) rfl rfl (by kernel_rfl) (by kernel_rfl) (by kernel_rfl) (fun _ _ _ h => h) (Or.inl ⟨by rfl, ?_⟩) hHeld ?_
  rotate_left
  · intro w' hSw
    obtain ⟨r0, r1, r2, r3, r4, r5⟩ := hSw
    go_simp
    try with_reducible rfl
  try simp only [Act.put, List.setIfInBounds_toArray, List.set_cons_zero, List.set_cons_succ]
  refine held_take (i := 2) (oi := _) (v := ?_) (some 28) rfl rfl (by kernel_rfl) (by kernel_rfl) (by kernel_rfl) (fun _ _ _ h => h) (Or.inl ⟨by rfl, ?_⟩) hHeld ?_
  rotate_left
  · intro w' hSw
    obtain ⟨r0, r1, r2, r3, r4, r5⟩ := hSw
    go_simp
    try with_reducible rfl
  try simp only [Act.put, List.setIfInBounds_toArray, List.set_cons_zero, List.set_cons_succ]
  refine held_take (i := 4) (oi := _) (v := ?_) (some 30) rfl rfl (by kernel_rfl) (by kernel_rfl) (by kernel_rfl) (fun _ _ _ h => h) (Or.inl ⟨by rfl, ?_⟩) hHeld ?_
  rotate_left
  · intro w' hSw
    obtain ⟨r0, r1, r2, r3, r4, r5⟩ := hSw
    go_simp
    try with_reducible rfl
  try simp only [Act.put, List.setIfInBounds_toArray, List.set_cons_zero, List.set_cons_succ]
  refine held_take (i := 5) (oi := _) (v := ?_) (some 31) rfl rfl (by kernel_rfl) (by kernel_rfl) (by kernel_rfl) (fun _ _ _ h => h) (Or.inl ⟨by rfl, ?_⟩) hHeld ?_
  rotate_left
  · intro w' hSw
    obtain ⟨r0, r1, r2, r3, r4, r5⟩ := hSw
    go_simp
    try with_reducible rfl
  try simp only [Act.put, List.setIfInBounds_toArray, List.set_cons_zero, List.set_cons_succ]
  refine with_slots (fun Ga Ta hGa hTa => ?_)
  clear hHeld hS0
  have nFa : ∀ (W : World) (vV0 : Option Addr) (vc0 : Nat) (Va : Option Addr) (na ca ga : Nat), Below ws0.heap.size ws0 W → Cell1 W ga 30 (.slice Va na ca) → ws0.heap.size ≤ ga → Sets W W.heap.size Va na (wlkL m yss wr t) → Ga 0 #[true, true, true, true, true, true, true, true, true, true, true, true, true] { tmps := ((((((((Ta.setIfInBounds 27 (.agg #[.int .i64 m.C, .int .i64 m.D, .int .i64 m.S, .int .i64 m.M, .int .i64 m.L])).setIfInBounds 29 (.agg #[.slice vV0 n vc0])).setIfInBounds 32 (.tuple #[.agg #[.slice Va na ca], .int .i64 (wlkE m yss wr t)])).setIfInBounds 10 (.pointer (some ⟨ga, 0, none⟩))).setIfInBounds 25 (.tuple #[.agg #[.slice Va na ca], .int .i64 (wlkE m yss wr t)])).setIfInBounds 33 (.agg #[.slice Va na ca])).setIfInBounds 34 (.int .i64 (wlkE m yss wr t))).setIfInBounds 11 (.int .i64 (wlkE m yss wr t))), defers := [] } W := by
    intro Wa vV0 vc0 Va na ca ga DW Y hga S4
    rw [hGa, hTa]
    try simp only [List.setIfInBounds_toArray, List.set_cons_zero, List.set_cons_succ]
    refine wpAnyH_done (by kernel_rfl) ?_ _
    clear hGa hTa Ga Ta
    have hDWa := DW.size
    have B_2 := Lib.hid (B_1.out.on DW)
    have A0_2 := Lib.hid (A0_1.out.on DW)
    have C_2 := Lib.hid (below_trans' C_1.out DW)
    clear B_1 A0_1 C_1 DW
    have S4h := Lib.hid S4
    have T_2 := Lib.hid Y
    clear S4 Y
    have HL4 := Lib.hid S4h.out.len
    have hz4 := T_2.out.lt
    have D_2 := Lib.hid (Below.refl Wa.heap.size Wa)
    have ck0 := A0_2.out.cell
    go_wp2_with fail
    clear ck0
    refine (toLock_any _ _ _ yss _ (H0.out.on C_2.out) HN0.out).mono ?_
    rintro e w3 ⟨V3, n3, c3, gs3, rfl, R3', z3, y3, b3⟩
    obtain rfl : n = n3 := (R3'.len.symm.trans HL0.out).symm
    have R0_3 := Lib.hid R3'
    have TX0 := Lib.hid R3'.top
    have hzx0 := b3.size
    clear R3'
    have B_3 := Lib.hid (B_2.out.on b3)
    have A0_3 := Lib.hid (A0_2.out.on b3)
    have C_3 := Lib.hid (below_trans' C_2.out b3)
    have T_3 := Lib.hid (T_2.out.on b3)
    have D_3 := Lib.hid (below_trans' D_2.out b3)
    clear B_2 A0_2 C_2 T_2 D_2 b3
    have X0_4 := Lib.hid (Cell1.new w3 30 (.slice V3 n c3))
    have o4 := (Below.refl w3.heap.size w3).alloc (Nat.le_refl _) (.cells #[.slice V3 n c3] 30)
    obtain ⟨w4, hw4⟩ : ∃ W, W = w3.alloc (.cells #[.slice V3 n c3] 30) := ⟨_, rfl⟩
    have hsz4 : w4.heap.size = w3.heap.size + 1 := by rw [hw4]; simp
    rw [← hw4] at X0_4 o4
    have HW4 := Lib.hid hw4
    clear hw4
    have B_4 := Lib.hid (B_3.out.on o4)
    have A0_4 := Lib.hid (A0_3.out.on o4)
    have C_4 := Lib.hid (below_trans' C_3.out o4)
    have T_4 := Lib.hid (T_3.out.on o4)
    have D_4 := Lib.hid (below_trans' D_3.out o4)
    have R0_4 := Lib.hid (R0_3.out.on o4)
    clear B_3 A0_3 C_3 T_3 D_3 R0_3 o4
    go_wp2
    rw [← HW4.out]
    have hS0 : (fun w' => w'.cell? ⟨w.heap.size, 0, none⟩ = some (.int .i64 m.C) ∧ w'.cell? ⟨w.heap.size, 1, none⟩ = some (.int .i64 m.D) ∧ w'.cell? ⟨w.heap.size, 2, none⟩ = some (.int .i64 m.S) ∧ w'.cell? ⟨w.heap.size, 3, none⟩ = some (.int .i64 m.M) ∧ w'.cell? ⟨w.heap.size, 4, none⟩ = some (.int .i64 m.L) ∧ w'.cell? ⟨w3.heap.size, 0, none⟩ = some (.slice V3 n c3)) w4.drew := by have DW := below_drewN (Below.refl w4.heap.size w4) 1; exact boxed_and (B_4.out.on DW) (X0_4.out.on DW).cell
    refine wp_region_held_drew (S := (fun w' => w'.cell? ⟨w.heap.size, 0, none⟩ = some (.int .i64 m.C) ∧ w'.cell? ⟨w.heap.size, 1, none⟩ = some (.int .i64 m.D) ∧ w'.cell? ⟨w.heap.size, 2, none⟩ = some (.int .i64 m.S) ∧ w'.cell? ⟨w.heap.size, 3, none⟩ = some (.int .i64 m.M) ∧ w'.cell? ⟨w.heap.size, 4, none⟩ = some (.int .i64 m.L) ∧ w'.cell? ⟨w3.heap.size, 0, none⟩ = some (.slice V3 n c3))) (by kernel_rfl) hS0 (fun hHeld => ?_)
    refine held_take (i := 0) (oi := _) (v := ?_) (some 38) rfl rfl (by kernel_rfl) (by kernel_rfl) (by kernel_rfl) (fun _ _ _ h => h) (Or.inl ⟨by rfl, ?_⟩) hHeld ?_
    rotate_left
    · intro w' hSw
      obtain ⟨r0, r1, r2, r3, r4, r5⟩ := hSw
      go_simp
      try with_reducible rfl
    try simp only [Act.put, List.setIfInBounds_toArray, List.set_cons_zero, List.set_cons_succ]
    refine held_take (i := 2) (oi := _) (v := ?_) (some 40) rfl rfl (by kernel_rfl) (by kernel_rfl) (by kernel_rfl) (fun _ _ _ h => h) (Or.inl ⟨by rfl, ?_⟩) hHeld ?_
    rotate_left
    · intro w' hSw
      obtain ⟨r0, r1, r2, r3, r4, r5⟩ := hSw
      go_simp
      try with_reducible rfl
    try simp only [Act.put, List.setIfInBounds_toArray, List.set_cons_zero, List.set_cons_succ]
    refine held_take (i := 3) (oi := _) (v := ?_) (some 41) rfl rfl (by kernel_rfl) (by kernel_rfl) (by kernel_rfl) (fun _ _ _ h => h) (Or.inl ⟨by rfl, ?_⟩) hHeld ?_
    rotate_left
    · intro w' hSw
      obtain ⟨r0, r1, r2, r3, r4, r5⟩ := hSw
      go_simp
      try with_reducible rfl
    try simp only [Act.put, List.setIfInBounds_toArray, List.set_cons_zero, List.set_cons_succ]
    refine held_take (i := 4) (oi := _) (v := ?_) (some 42) rfl rfl (by kernel_rfl) (by kernel_rfl) (by kernel_rfl) (fun _ _ _ h => h) (Or.inl ⟨by rfl, ?_⟩) hHeld ?_
    rotate_left
    · intro w' hSw
      obtain ⟨r0, r1, r2, r3, r4, r5⟩ := hSw
      go_simp
      try with_reducible rfl
    try simp only [Act.put, List.setIfInBounds_toArray, List.set_cons_zero, List.set_cons_succ]
    refine with_slots (fun Gb Tb hGb hTb => ?_)
    clear hHeld hS0
    have nFb : ∀ (W : World) (Vb : Option Addr) (nb cb gb : Nat) (lob hib : Nat) (gsb : List (Option Addr × Nat × Nat)), Below w4.heap.size w4 W → Cell1 W gb 30 (.slice Vb nb cb) → w4.heap.size ≤ gb → Rag W lob Vb nb gsb (wlkL m yss wr t) → w4.heap.size ≤ lob → Top gsb hib → hib ≤ W.heap.size → lob ≤ hib → (gb < lob ∨ hib ≤ gb) → Gb 0 #[true, true, true, true, true, true, true, true, true, true, true, true] { tmps := (((((((Tb.setIfInBounds 39 (.agg #[.int .i64 m.C, .int .i64 m.D, .int .i64 m.S, .int .i64 m.M, .int .i64 m.L])).setIfInBounds 43 (.tuple #[.agg #[.slice Vb nb cb], .int .i64 (wlkE m yss wr t)])).setIfInBounds 13 (.pointer (some ⟨gb, 0, none⟩))).setIfInBounds 37 (.tuple #[.agg #[.slice Vb nb cb], .int .i64 (wlkE m yss wr t)])).setIfInBounds 44 (.agg #[.slice Vb nb cb])).setIfInBounds 45 (.int .i64 (wlkE m yss wr t))).setIfInBounds 14 (.int .i64 (wlkE m yss wr t))), defers := [] } W := by
      intro Wb Vb nb cb gb lob hib gsb DW Y hgb G4 hlob TGb' hhib hlhb hgGb
      rw [hGb, hTb]
      try simp only [List.setIfInBounds_toArray, List.set_cons_zero, List.set_cons_succ]
      refine wpAnyH_done (by kernel_rfl) ?_ _
      clear hGb hTb Gb Tb
      have hDWb := DW.size
      have B_5 := Lib.hid (B_4.out.on DW)
      have A0_5 := Lib.hid (A0_4.out.on DW)
      have C_5 := Lib.hid (below_trans' C_4.out DW)
      have T_5 := Lib.hid (T_4.out.on DW)
      have D_5 := Lib.hid (below_trans' D_4.out DW)
      have R0_5 := Lib.hid (R0_4.out.on DW)
      have X0_5 := Lib.hid (X0_4.out.on DW)
      clear B_4 A0_4 C_4 T_4 D_4 R0_4 X0_4 DW
      obtain rfl : na = nb := (G4.len.symm.trans HL4.out).symm
      have G_5 := Lib.hid G4
      have M_5 := Lib.hid Y
      have TG := Lib.hid TGb'
      clear G4 Y TGb'
      have d1 : (wlkE m yss wr t != wlkE m yss wr t) = false := by simp
      have HDD := Lib.hid d1
      have cm := M_5.out.cell
      have ct := T_5.out.cell
      go_wp2_with fail
      clear cm ct
      refine (eqLock_true _ _ _ _ _ (wlkL m yss wr t) _ G_5.out.sets (S4h.out.on D_5.out) (by have := HL4.out; have := HNL.out; omega)).mono ?_
      rintro e w6 ⟨rfl, b6⟩
      have B_6 := Lib.hid (B_5.out.on b6)
      have A0_6 := Lib.hid (A0_5.out.on b6)
      have C_6 := Lib.hid (below_trans' C_5.out b6)
      have T_6 := Lib.hid (T_5.out.on b6)
      have D_6 := Lib.hid (below_trans' D_5.out b6)
      have R0_6 := Lib.hid (R0_5.out.on b6)
      have X0_6 := Lib.hid (X0_5.out.on b6)
      have G_6 := Lib.hid (G_5.out.on b6)
      have M_6 := Lib.hid (M_5.out.on b6)
      clear B_5 A0_5 C_5 T_5 D_5 R0_5 X0_5 G_5 M_5 b6
      have ck0 := A0_6.out.cell
      have cx0 := X0_6.out.cell
      go_wp2
      go_region_held3 (fun w' => w'.cell? ⟨w3.heap.size, 0, none⟩ = some (.slice V3 n c3) ∧ w'.cell? ⟨w.heap.size + 1, 0, none⟩ = some (.slice V n c))
        (first
          | go_keep
          | with_reducible exact ⟨(X0_6.out.on bx7).cell, (A0_6.out.on bx7).cell⟩
          | with_reducible exact ⟨(X0_6.out.on bx8).cell, (A0_6.out.on bx8).cell⟩)
        (first
          | (go_at_call 82; refine (toLock_any _ _ _ yss _ (H0.out.on (below_drewN C_6.out 1)) HN0.out).mono ?_; rintro e w7 ⟨V7, n7, c7, gs7, rfl, P7', z7, y7, b7⟩; obtain rfl : n = n7 := (P7'.len.symm.trans HL0.out).symm; have bx7 := below_trans' (below_drewN (Below.refl w6.heap.size w6) 1) b7; have P7 := Lib.hid P7'.sets)
          | (go_at_call 84; refine (eqLock_true _ _ _ _ _ yss _ (R0_6.out.on bx7).sets P7.out HN0.out).mono ?_; rintro e w8 ⟨rfl, b8⟩; have bx8 := below_trans' bx7 b8))
      all_goals
        clear P7 P7' b7 b8 bx7 ck0 cx0
        have B_8 := Lib.hid (B_6.out.on bx8)
        have A0_8 := Lib.hid (A0_6.out.on bx8)
        have C_8 := Lib.hid (below_trans' C_6.out bx8)
        have T_8 := Lib.hid (T_6.out.on bx8)
        have D_8 := Lib.hid (below_trans' D_6.out bx8)
        have R0_8 := Lib.hid (R0_6.out.on bx8)
        have X0_8 := Lib.hid (X0_6.out.on bx8)
        have G_8 := Lib.hid (G_6.out.on bx8)
        have M_8 := Lib.hid (M_6.out.on bx8)
        clear B_6 A0_6 C_6 T_6 D_6 R0_6 X0_6 G_6 M_6 bx8
        have cx0 := X0_8.out.cell
        go_wp2_with fail
        clear cx0
        refine (markLock_any _ _ _ _ gs3 yss (1) _ R0_8.out HN0.out (by omega) (by omega)).mono ?_
        rintro e w9 ⟨rfl, _, hap⟩
        have ap := hap _ TX0.out
        have bl := ap.below R0_8.out.low
        have B_9 := Lib.hid (B_8.out.below bl (by omega))
        have A0_9 := Lib.hid (A0_8.out.below bl (by omega))
        have C_9 := Lib.hid (C_8.out.trans (bl.mono (by omega)))
        have T_9 := Lib.hid (T_8.out.below bl (by omega))
        have D_9 := Lib.hid (D_8.out.trans (bl.mono (by omega)))
        have G_9 := Lib.hid (G_8.out.past ap (by omega))
        have M_9 : Hid (Cell1 w9 gb 30 (.slice Vb na cb)) := Lib.hid ((ap.block _ M_8.out.lt (.inr (by omega))).trans M_8.out)
        have hrk0 := rAt_range (k := 1) (yss := yss) (i := n) (by omega) (by omega) (by have := HN0.out; omega) (by rw [HL0.out]; exact Nat.le_refl _)
        have hnk0 : ¬ rAt (1) yss n < 0 := by omega
        clear hap ap bl B_8 A0_8 C_8 T_8 D_8 R0_8 X0_8 G_8 M_8
        have cm := M_9.out.cell
        have ct := T_9.out.cell
        go_wp2_with fail
        clear cm ct
        refine (eqLock_true _ _ _ _ _ (wlkL m yss wr t) _ G_9.out.sets (S4h.out.on D_9.out) (by have := HL4.out; have := HNL.out; omega)).mono ?_
        rintro e w10 ⟨rfl, b10⟩
        have B_10 := Lib.hid (B_9.out.on b10)
        have A0_10 := Lib.hid (A0_9.out.on b10)
        have C_10 := Lib.hid (below_trans' C_9.out b10)
        have T_10 := Lib.hid (T_9.out.on b10)
        have D_10 := Lib.hid (below_trans' D_9.out b10)
        have G_10 := Lib.hid (G_9.out.on b10)
        have M_10 := Lib.hid (M_9.out.on b10)
        clear B_9 A0_9 C_9 T_9 D_9 G_9 M_9 b10
        have cm := M_10.out.cell
        go_wp2_with fail
        clear cm
        refine (markLock_any _ _ _ _ gsb (wlkL m yss wr t) 1 _ G_10.out (by have := HL4.out; have := HNL.out; omega) (by omega) (by omega)).mono ?_
        rintro e w11 ⟨rfl, G11', hap⟩
        have ap := hap _ TG.out
        have bl := ap.below G_10.out.low
        have B_11 := Lib.hid (B_10.out.below bl (by omega))
        have A0_11 := Lib.hid (A0_10.out.below bl (by omega))
        have C_11 := Lib.hid (C_10.out.trans (bl.mono (by omega)))
        have T_11 := Lib.hid (T_10.out.below bl (by omega))
        have D_11 := Lib.hid (D_10.out.trans (bl.mono (by omega)))
        have G_11 := Lib.hid G11'
        have M_11 : Hid (Cell1 w11 gb 30 (.slice Vb na cb)) := Lib.hid ((ap.block _ M_10.out.lt (by omega)).trans M_10.out)
        clear hap ap bl G11' B_10 A0_10 C_10 T_10 D_10 G_10 M_10
        have hr15 := rAt_range (k := 1) (yss := wlkL m yss wr t) (i := na) (by omega) (by omega) (by have := HNL.out; omega) (by rw [HL4.out]; exact Nat.le_refl _)
        have hn15 : ¬ rAt 1 (wlkL m yss wr t) na < 0 := by omega
        have hd15 : (rAt 1 (wlkL m yss wr t) na != rAt 1 (wlkL m yss wr t) na) = false := by simp
        clear hr15
        have cm := M_11.out.cell
        go_wp2_with fail
        clear cm
        refine (heldLock_any _ _ _ (wlkL m yss wr t) 1 _ G_11.out.sets HL4.out (by have := HL4.out; have := HNL.out; omega) (by omega) (by omega)).mono ?_
        rintro e w12 ⟨rfl, b12⟩
        have B_12 := Lib.hid (B_11.out.on b12)
        have A0_12 := Lib.hid (A0_11.out.on b12)
        have C_12 := Lib.hid (below_trans' C_11.out b12)
        have T_12 := Lib.hid (T_11.out.on b12)
        have D_12 := Lib.hid (below_trans' D_11.out b12)
        have G_12 := Lib.hid (G_11.out.on b12)
        have M_12 := Lib.hid (M_11.out.on b12)
        clear B_11 A0_11 C_11 T_11 D_11 G_11 M_11 b12
        go_wp2
        have hS0 : (fun w' => w'.cell? ⟨w.heap.size, 0, none⟩ = some (.int .i64 m.C) ∧ w'.cell? ⟨w.heap.size, 1, none⟩ = some (.int .i64 m.D) ∧ w'.cell? ⟨w.heap.size, 2, none⟩ = some (.int .i64 m.S) ∧ w'.cell? ⟨w.heap.size, 3, none⟩ = some (.int .i64 m.M) ∧ w'.cell? ⟨w.heap.size, 4, none⟩ = some (.int .i64 m.L) ∧ w'.cell? ⟨w.heap.size + 1, 0, none⟩ = some (.slice V n c)) w12.drew := by have DW := below_drewN (Below.refl w12.heap.size w12) 1; exact boxed_and (B_12.out.on DW) (A0_12.out.on DW).cell
        refine wp_region_held_drew (S := (fun w' => w'.cell? ⟨w.heap.size, 0, none⟩ = some (.int .i64 m.C) ∧ w'.cell? ⟨w.heap.size, 1, none⟩ = some (.int .i64 m.D) ∧ w'.cell? ⟨w.heap.size, 2, none⟩ = some (.int .i64 m.S) ∧ w'.cell? ⟨w.heap.size, 3, none⟩ = some (.int .i64 m.M) ∧ w'.cell? ⟨w.heap.size, 4, none⟩ = some (.int .i64 m.L) ∧ w'.cell? ⟨w.heap.size + 1, 0, none⟩ = some (.slice V n c))) (by kernel_rfl) hS0 (fun hHeld => ?_)
        refine held_take (i := 0) (oi := _) (v := ?_) (some 88) rfl rfl (by kernel_rfl) (by kernel_rfl) (by kernel_rfl) (fun _ _ _ h => h) (Or.inl ⟨by rfl, ?_⟩) hHeld ?_
        rotate_left
        · intro w' hSw
          obtain ⟨r0, r1, r2, r3, r4, r5⟩ := hSw
          go_simp
          try with_reducible rfl
        try simp only [Act.put, List.setIfInBounds_toArray, List.set_cons_zero, List.set_cons_succ]
        refine held_take (i := 2) (oi := _) (v := ?_) (some 90) rfl rfl (by kernel_rfl) (by kernel_rfl) (by kernel_rfl) (fun _ _ _ h => h) (Or.inl ⟨by rfl, ?_⟩) hHeld ?_
        rotate_left
        · intro w' hSw
          obtain ⟨r0, r1, r2, r3, r4, r5⟩ := hSw
          go_simp
          try with_reducible rfl
        try simp only [Act.put, List.setIfInBounds_toArray, List.set_cons_zero, List.set_cons_succ]
        refine held_take (i := 4) (oi := _) (v := ?_) (some 92) rfl rfl (by kernel_rfl) (by kernel_rfl) (by kernel_rfl) (fun _ _ _ h => h) (Or.inl ⟨by rfl, ?_⟩) hHeld ?_
        rotate_left
        · intro w' hSw
          obtain ⟨r0, r1, r2, r3, r4, r5⟩ := hSw
          go_simp
          try with_reducible rfl
        try simp only [Act.put, List.setIfInBounds_toArray, List.set_cons_zero, List.set_cons_succ]
        refine held_take (i := 5) (oi := _) (v := ?_) (some 93) rfl rfl (by kernel_rfl) (by kernel_rfl) (by kernel_rfl) (fun _ _ _ h => h) (Or.inl ⟨by rfl, ?_⟩) hHeld ?_
        rotate_left
        · intro w' hSw
          obtain ⟨r0, r1, r2, r3, r4, r5⟩ := hSw
          go_simp
          try with_reducible rfl
        try simp only [Act.put, List.setIfInBounds_toArray, List.set_cons_zero, List.set_cons_succ]
        refine with_slots (fun Gc Tc hGc hTc => ?_)
        clear hHeld hS0
        have nFc : ∀ (W : World) (vV0 : Option Addr) (vc0 : Nat) (Vc : Option Addr) (nc cc gc : Nat) (loc hic : Nat) (gsc : List (Option Addr × Nat × Nat)), Below w12.heap.size w12 W → Cell1 W gc 30 (.slice Vc nc cc) → w12.heap.size ≤ gc → Rag W loc Vc nc gsc (wlkL m yss wr t) → w12.heap.size ≤ loc → Top gsc hic → hic ≤ W.heap.size → loc ≤ hic → (gc < loc ∨ hic ≤ gc) → Gc 0 #[true, true, true, true, true, true, true, true, true, true, true, true, true] { tmps := ((((((((Tc.setIfInBounds 89 (.agg #[.int .i64 m.C, .int .i64 m.D, .int .i64 m.S, .int .i64 m.M, .int .i64 m.L])).setIfInBounds 91 (.agg #[.slice vV0 n vc0])).setIfInBounds 94 (.tuple #[.agg #[.slice Vc nc cc], .int .i64 (wlkE m yss wr t)])).setIfInBounds 18 (.pointer (some ⟨gc, 0, none⟩))).setIfInBounds 87 (.tuple #[.agg #[.slice Vc nc cc], .int .i64 (wlkE m yss wr t)])).setIfInBounds 95 (.agg #[.slice Vc nc cc])).setIfInBounds 96 (.int .i64 (wlkE m yss wr t))).setIfInBounds 19 (.int .i64 (wlkE m yss wr t))), defers := [] } W := by
          intro Wc vV0 vc0 Vc nc cc gc loc hic gsc DW Y hgc G4 hloc TGc' hhic hlhc hgGc
          rw [hGc, hTc]
          try simp only [List.setIfInBounds_toArray, List.set_cons_zero, List.set_cons_succ]
          refine wpAnyH_done (by kernel_rfl) ?_ _
          clear hGc hTc Gc Tc
          have hDWc := DW.size
          have B_13 := Lib.hid (B_12.out.on DW)
          have A0_13 := Lib.hid (A0_12.out.on DW)
          have C_13 := Lib.hid (below_trans' C_12.out DW)
          have T_13 := Lib.hid (T_12.out.on DW)
          have D_13 := Lib.hid (below_trans' D_12.out DW)
          have G_13 := Lib.hid (G_12.out.on DW)
          have M_13 := Lib.hid (M_12.out.on DW)
          clear B_12 A0_12 C_12 T_12 D_12 G_12 M_12 DW
          obtain rfl : na = nc := (G4.len.symm.trans HL4.out).symm
          have Q_13 := Lib.hid G4
          have Z_13 := Lib.hid Y
          clear G4 Y
          have cm := Z_13.out.cell
          have ct := T_13.out.cell
          go_wp2_with fail
          clear cm ct
          refine (eqLock_true _ _ _ _ _ (wlkL m yss wr t) _ Q_13.out.sets (S4h.out.on D_13.out) (by have := HL4.out; have := HNL.out; omega)).mono ?_
          rintro e w14 ⟨rfl, b14⟩
          have B_14 := Lib.hid (B_13.out.on b14)
          have A0_14 := Lib.hid (A0_13.out.on b14)
          have C_14 := Lib.hid (below_trans' C_13.out b14)
          have T_14 := Lib.hid (T_13.out.on b14)
          have D_14 := Lib.hid (below_trans' D_13.out b14)
          have G_14 := Lib.hid (G_13.out.on b14)
          have M_14 := Lib.hid (M_13.out.on b14)
          have Q_14 := Lib.hid (Q_13.out.on b14)
          have Z_14 := Lib.hid (Z_13.out.on b14)
          clear B_13 A0_13 C_13 T_13 D_13 G_13 M_13 Q_13 Z_13 b14
          have cm := M_14.out.cell
          go_wp2_with fail
          clear cm
          refine (heldLock_any _ _ _ (wlkL m yss wr t) 1 _ G_14.out.sets HL4.out (by have := HL4.out; have := HNL.out; omega) (by omega) (by omega)).mono ?_
          rintro e w15 ⟨rfl, b15⟩
          have B_15 := Lib.hid (B_14.out.on b15)
          have A0_15 := Lib.hid (A0_14.out.on b15)
          have C_15 := Lib.hid (below_trans' C_14.out b15)
          have T_15 := Lib.hid (T_14.out.on b15)
          have D_15 := Lib.hid (below_trans' D_14.out b15)
          have G_15 := Lib.hid (G_14.out.on b15)
          have M_15 := Lib.hid (M_14.out.on b15)
          have Q_15 := Lib.hid (Q_14.out.on b15)
          have Z_15 := Lib.hid (Z_14.out.on b15)
          clear B_14 A0_14 C_14 T_14 D_14 G_14 M_14 Q_14 Z_14 b15
          have CE := C_15.out
          clear B_15 A0_15 C_15 T_15 D_15 G_15 M_15 Q_15 Z_15
          go_wp2
          go_ret
          exact ⟨rfl, CE⟩
        -- the states of the region
        have nc3t : ∀ (W : World) (vV0 : Option Addr) (vc0 : Nat) (Vc : Option Addr) (nc cc : Nat) (gc : Nat) (loc : Nat) (gsc : List (Option Addr × Nat × Nat)), Below w12.heap.size w12 W → Cell1 W gc 30 (.slice none 0 0) → w12.heap.size ≤ gc → Rag W loc Vc nc gsc (wlkL m yss wr t) → w12.heap.size ≤ loc → Top gsc W.heap.size → loc ≤ W.heap.size → gc < loc → Gc 5 #[true, true, true, true, true, true, true, false, false, false, true, false, false] { tmps := ((((Tc.setIfInBounds 89 (.agg #[.int .i64 m.C, .int .i64 m.D, .int .i64 m.S, .int .i64 m.M, .int .i64 m.L])).setIfInBounds 91 (.agg #[.slice vV0 n vc0])).setIfInBounds 94 (.tuple #[.agg #[.slice Vc nc cc], .int .i64 (wlkE m yss wr t)])).setIfInBounds 18 (.pointer (some ⟨gc, 0, none⟩))), defers := [] } W := by
          intro W vV0 vc0 Vc nc cc gc loc gsc DW Y hg G4 hlo TG hlh hgG
          have hG2 := hGc
          have hT2 := hTc
          rw [hGc, hTc]
          try simp only [List.setIfInBounds_toArray, List.set_cons_zero, List.set_cons_succ]
          have hHeld : (fun w' => w'.cell? ⟨w.heap.size, 0, none⟩ = some (.int .i64 m.C) ∧ w'.cell? ⟨w.heap.size, 1, none⟩ = some (.int .i64 m.D) ∧ w'.cell? ⟨w.heap.size, 2, none⟩ = some (.int .i64 m.S) ∧ w'.cell? ⟨w.heap.size, 3, none⟩ = some (.int .i64 m.M) ∧ w'.cell? ⟨w.heap.size, 4, none⟩ = some (.int .i64 m.L) ∧ w'.cell? ⟨w.heap.size + 1, 0, none⟩ = some (.slice V n c)) W := boxed_and (B_12.out.on DW) (A0_12.out.on DW).cell
          refine held_take (i := 7) (oi := _) (v := ?_) (some 87) rfl rfl (by kernel_rfl) (by kernel_rfl) (by kernel_rfl) (fun _ _ _ h => h) (Or.inl ⟨by rfl, ?_⟩) hHeld ?_
          rotate_left
          · intro w' hSw
            obtain ⟨r0, r1, r2, r3, r4, r5⟩ := hSw
            go_simp
            try with_reducible rfl
          try simp only [Act.put, List.setIfInBounds_toArray, List.set_cons_zero, List.set_cons_succ]
          refine held_take (i := 8) (oi := _) (v := ?_) (some 95) rfl rfl (by kernel_rfl) (by kernel_rfl) (by kernel_rfl) (fun _ _ _ h => h) (Or.inl ⟨by rfl, ?_⟩) hHeld ?_
          rotate_left
          · intro w' hSw
            obtain ⟨r0, r1, r2, r3, r4, r5⟩ := hSw
            go_simp
            try with_reducible rfl
          try simp only [Act.put, List.setIfInBounds_toArray, List.set_cons_zero, List.set_cons_succ]
          refine held_take (i := 9) (oi := _) (v := ?_) (some 96) rfl rfl (by kernel_rfl) (by kernel_rfl) (by kernel_rfl) (fun _ _ _ h => h) (Or.inl ⟨by rfl, ?_⟩) hHeld ?_
          rotate_left
          · intro w' hSw
            obtain ⟨r0, r1, r2, r3, r4, r5⟩ := hSw
            go_simp
            try with_reducible rfl
          try simp only [Act.put, List.setIfInBounds_toArray, List.set_cons_zero, List.set_cons_succ]
          have fz := Y.thawed
          have cz := Y.cell
          refine wpAnyH_ready (rs := [11]) (by kernel_rfl) (by simp) ?_
          refine AllReadyH.cons (o := _) rfl (fun K' hK' => ?_) AllReadyH.nil
          go_simp
          have bS := DW.setCell (p := ⟨gc, 0, none⟩) hg (.slice Vc nc cc)
          have Y2 := Y.put (.slice Vc nc cc)
          have G5 := G4.asetCell (p := ⟨gc, 0, none⟩) hgG (.slice Vc nc cc)
          have hx := nFc _ vV0 vc0 Vc nc cc gc loc W.heap.size gsc bS Y2 hg G5 hlo TG (by simp [World.setCell]) hlh (.inl hgG)
          rw [hG2, hT2] at hx
          try simp only [List.setIfInBounds_toArray, List.set_cons_zero, List.set_cons_succ] at hx
          have DW := bS
          refine hK'.out _ _ (boxed_and (B_12.out.on DW) (A0_12.out.on DW).cell) (fun _ => ?_)
          refine wpAnyH_ready (rs := [12]) (by kernel_rfl) (by simp) ?_
          refine AllReadyH.cons (o := _) rfl (fun K2 hK2 => ?_) AllReadyH.nil
          go_simp
          refine hK2.out _ _ (boxed_and (B_12.out.on DW) (A0_12.out.on DW).cell) (fun _ => ?_)
          exact hx
        have nc3f : ∀ (W : World) (vV0 : Option Addr) (vc0 : Nat) (Vc : Option Addr) (nc cc : Nat) (loc : Nat) (gsc : List (Option Addr × Nat × Nat)), Below w12.heap.size w12 W → Rag W loc Vc nc gsc (wlkL m yss wr t) → w12.heap.size ≤ loc → Top gsc W.heap.size → loc ≤ W.heap.size → Gc 6 #[true, true, true, true, true, true, true, false, false, false, false, false, false] { tmps := (((Tc.setIfInBounds 89 (.agg #[.int .i64 m.C, .int .i64 m.D, .int .i64 m.S, .int .i64 m.M, .int .i64 m.L])).setIfInBounds 91 (.agg #[.slice vV0 n vc0])).setIfInBounds 94 (.tuple #[.agg #[.slice Vc nc cc], .int .i64 (wlkE m yss wr t)])), defers := [] } W := by
          intro W vV0 vc0 Vc nc cc loc gsc DW G4 hlo TG hlh
          have hG2 := hGc
          have hT2 := hTc
          rw [hGc, hTc]
          try simp only [List.setIfInBounds_toArray, List.set_cons_zero, List.set_cons_succ]
          have hHeld : (fun w' => w'.cell? ⟨w.heap.size, 0, none⟩ = some (.int .i64 m.C) ∧ w'.cell? ⟨w.heap.size, 1, none⟩ = some (.int .i64 m.D) ∧ w'.cell? ⟨w.heap.size, 2, none⟩ = some (.int .i64 m.S) ∧ w'.cell? ⟨w.heap.size, 3, none⟩ = some (.int .i64 m.M) ∧ w'.cell? ⟨w.heap.size, 4, none⟩ = some (.int .i64 m.L) ∧ w'.cell? ⟨w.heap.size + 1, 0, none⟩ = some (.slice V n c)) W := boxed_and (B_12.out.on DW) (A0_12.out.on DW).cell
          refine held_take (i := 7) (oi := _) (v := ?_) (some 87) rfl rfl (by kernel_rfl) (by kernel_rfl) (by kernel_rfl) (fun _ _ _ h => h) (Or.inl ⟨by rfl, ?_⟩) hHeld ?_
          rotate_left
          · intro w' hSw
            obtain ⟨r0, r1, r2, r3, r4, r5⟩ := hSw
            go_simp
            try with_reducible rfl
          try simp only [Act.put, List.setIfInBounds_toArray, List.set_cons_zero, List.set_cons_succ]
          refine held_take (i := 8) (oi := _) (v := ?_) (some 95) rfl rfl (by kernel_rfl) (by kernel_rfl) (by kernel_rfl) (fun _ _ _ h => h) (Or.inl ⟨by rfl, ?_⟩) hHeld ?_
          rotate_left
          · intro w' hSw
            obtain ⟨r0, r1, r2, r3, r4, r5⟩ := hSw
            go_simp
            try with_reducible rfl
          try simp only [Act.put, List.setIfInBounds_toArray, List.set_cons_zero, List.set_cons_succ]
          refine held_take (i := 9) (oi := _) (v := ?_) (some 96) rfl rfl (by kernel_rfl) (by kernel_rfl) (by kernel_rfl) (fun _ _ _ h => h) (Or.inl ⟨by rfl, ?_⟩) hHeld ?_
          rotate_left
          · intro w' hSw
            obtain ⟨r0, r1, r2, r3, r4, r5⟩ := hSw
            go_simp
            try with_reducible rfl
          try simp only [Act.put, List.setIfInBounds_toArray, List.set_cons_zero, List.set_cons_succ]
          refine wpAnyH_ready (rs := [10]) (by kernel_rfl) (by simp) ?_
          refine AllReadyH.cons (o := _) rfl (fun K hK => ?_) AllReadyH.nil
          go_simp
          have bA := below_alloc' W (.cells #[.slice none 0 0] 30)
          have Y := Cell1.new W 30 (.slice none 0 0)
          have hg : w12.heap.size ≤ W.heap.size := DW.size
          have bB := below_alloc' W (.cells #[.slice Vc nc cc] 30)
          have bS := below_trans' DW bB
          have Y2 := Cell1.new W 30 (.slice Vc nc cc)
          have DW := below_trans' DW bA
          have G5 := G4.on bB
          refine hK.out _ _ (boxed_and (B_12.out.on DW) (A0_12.out.on DW).cell) (fun _ => ?_)
          have fz := Y.thawed
          have cz := Y.cell
          refine wpAnyH_ready (rs := [11]) (by kernel_rfl) (by simp) ?_
          refine AllReadyH.cons (o := _) rfl (fun K' hK' => ?_) AllReadyH.nil
          go_simp
          have hx := nFc _ vV0 vc0 Vc nc cc W.heap.size loc W.heap.size gsc bS Y2 hg G5 hlo TG (by simp) hlh (.inr (Nat.le_refl _))
          rw [hG2, hT2] at hx
          try simp only [List.setIfInBounds_toArray, List.set_cons_zero, List.set_cons_succ] at hx
          have DW := bS
          refine hK'.out _ _ (boxed_and (B_12.out.on DW) (A0_12.out.on DW).cell) (fun _ => ?_)
          refine wpAnyH_ready (rs := [12]) (by kernel_rfl) (by simp) ?_
          refine AllReadyH.cons (o := _) rfl (fun K2 hK2 => ?_) AllReadyH.nil
          go_simp
          refine hK2.out _ _ (boxed_and (B_12.out.on DW) (A0_12.out.on DW).cell) (fun _ => ?_)
          exact hx
        have nc2t : ∀ (W : World) (gc : Nat) (vV0 : Option Addr) (vc0 : Nat), Below w12.heap.size w12 W → Cell1 W gc 30 (.slice none 0 0) → w12.heap.size ≤ gc → Sets W W.heap.size vV0 n yss → Gc 6 #[true, true, true, true, true, true, false, false, false, false, true, false, false] { tmps := (((Tc.setIfInBounds 89 (.agg #[.int .i64 m.C, .int .i64 m.D, .int .i64 m.S, .int .i64 m.M, .int .i64 m.L])).setIfInBounds 91 (.agg #[.slice vV0 n vc0])).setIfInBounds 18 (.pointer (some ⟨gc, 0, none⟩))), defers := [] } W := by
          intro W gc vV0 vc0 DW Y hg S0
          have hG2 := hGc
          have hT2 := hTc
          rw [hGc, hTc]
          try simp only [List.setIfInBounds_toArray, List.set_cons_zero, List.set_cons_succ]
          refine wpAnyH_ready (rs := [6]) (by kernel_rfl) (by simp) ?_
          refine AllReadyH.cons (o := _) rfl (fun K hK => ?_) ?_
          · go_simp
            have hb0 : w12.heap.size ≤ W.heap.size := DW.size
            refine (wornLock_any m _ _ _ yss wr t _ S0 HN0.out).mono ?_
            rintro e W1 ⟨V1, n1, c1, gs1, rfl, G1', z1, y1, b⟩
            have DW := below_trans' DW b
            refine hK.out _ _ (boxed_and (B_12.out.on DW) (A0_12.out.on DW).cell) (fun _ => ?_)
            have hx := nc3t _ vV0 vc0 V1 n1 c1 gc W.heap.size gs1 DW (Y.on b) hg G1' hb0 G1'.top b.size Y.lt
            rw [hG2, hT2] at hx
            try simp only [List.setIfInBounds_toArray, List.set_cons_zero, List.set_cons_succ] at hx
            exact hx
          exact AllReadyH.nil
        have nc2f : ∀ (W : World) (vV0 : Option Addr) (vc0 : Nat), Below w12.heap.size w12 W → Sets W W.heap.size vV0 n yss → Gc 7 #[true, true, true, true, true, true, false, false, false, false, false, false, false] { tmps := ((Tc.setIfInBounds 89 (.agg #[.int .i64 m.C, .int .i64 m.D, .int .i64 m.S, .int .i64 m.M, .int .i64 m.L])).setIfInBounds 91 (.agg #[.slice vV0 n vc0])), defers := [] } W := by
          intro W vV0 vc0 DW S0
          have hG2 := hGc
          have hT2 := hTc
          rw [hGc, hTc]
          try simp only [List.setIfInBounds_toArray, List.set_cons_zero, List.set_cons_succ]
          refine wpAnyH_ready (rs := [6, 10]) (by kernel_rfl) (by simp) ?_
          refine AllReadyH.cons (o := _) rfl (fun K hK => ?_) ?_
          · go_simp
            have hb0 : w12.heap.size ≤ W.heap.size := DW.size
            refine (wornLock_any m _ _ _ yss wr t _ S0 HN0.out).mono ?_
            rintro e W1 ⟨V1, n1, c1, gs1, rfl, G1', z1, y1, b⟩
            have DW := below_trans' DW b
            refine hK.out _ _ (boxed_and (B_12.out.on DW) (A0_12.out.on DW).cell) (fun _ => ?_)
            have hx := nc3f _ vV0 vc0 V1 n1 c1 W.heap.size gs1 DW G1' hb0 G1'.top b.size
            rw [hG2, hT2] at hx
            try simp only [List.setIfInBounds_toArray, List.set_cons_zero, List.set_cons_succ] at hx
            exact hx
          refine AllReadyH.cons (o := _) rfl (fun K hK => ?_) ?_
          · go_simp
            have bA := below_alloc' W (.cells #[.slice none 0 0] 30)
            have hg : w12.heap.size ≤ W.heap.size := DW.size
            have DW := below_trans' DW bA
            refine hK.out _ _ (boxed_and (B_12.out.on DW) (A0_12.out.on DW).cell) (fun _ => ?_)
            have hx := nc2t _ W.heap.size vV0 vc0 DW (Cell1.new W 30 (.slice none 0 0)) hg (S0.on bA)
            rw [hG2, hT2] at hx
            try simp only [List.setIfInBounds_toArray, List.set_cons_zero, List.set_cons_succ] at hx
            exact hx
          exact AllReadyH.nil
        have nc1t : ∀ (W : World) (gc : Nat), Below w12.heap.size w12 W → Cell1 W gc 30 (.slice none 0 0) → w12.heap.size ≤ gc → Gc 7 #[true, true, true, false, true, true, false, false, false, false, true, false, false] { tmps := ((Tc.setIfInBounds 89 (.agg #[.int .i64 m.C, .int .i64 m.D, .int .i64 m.S, .int .i64 m.M, .int .i64 m.L])).setIfInBounds 18 (.pointer (some ⟨gc, 0, none⟩))), defers := [] } W := by
          intro W gc DW Y hg 
          have hG2 := hGc
          have hT2 := hTc
          rw [hGc, hTc]
          try simp only [List.setIfInBounds_toArray, List.set_cons_zero, List.set_cons_succ]
          refine wpAnyH_ready (rs := [3]) (by kernel_rfl) (by simp) ?_
          refine AllReadyH.cons (o := _) rfl (fun K hK => ?_) ?_
          · go_simp
            refine (toLock_any _ _ _ yss _ (H0.out.on (below_trans' C_12.out DW)) HN0.out).mono ?_
            rintro e W1 ⟨V1, n1, c1, gs1, rfl, R1, z1, y1, b⟩
            obtain rfl : n = n1 := (R1.len.symm.trans HL0.out).symm
            have DW := below_trans' DW b
            refine hK.out _ _ (boxed_and (B_12.out.on DW) (A0_12.out.on DW).cell) (fun _ => ?_)
            have hx := nc2t _ gc V1 c1 DW (Y.on b) hg  R1.sets
            rw [hG2, hT2] at hx
            try simp only [List.setIfInBounds_toArray, List.set_cons_zero, List.set_cons_succ] at hx
            exact hx
          exact AllReadyH.nil
        have nc1f : ∀ (W : World), Below w12.heap.size w12 W → Gc 8 #[true, true, true, false, true, true, false, false, false, false, false, false, false] { tmps := (Tc.setIfInBounds 89 (.agg #[.int .i64 m.C, .int .i64 m.D, .int .i64 m.S, .int .i64 m.M, .int .i64 m.L])), defers := [] } W := by
          intro W DW 
          have hG2 := hGc
          have hT2 := hTc
          rw [hGc, hTc]
          try simp only [List.setIfInBounds_toArray, List.set_cons_zero, List.set_cons_succ]
          refine wpAnyH_ready (rs := [3, 10]) (by kernel_rfl) (by simp) ?_
          refine AllReadyH.cons (o := _) rfl (fun K hK => ?_) ?_
          · go_simp
            refine (toLock_any _ _ _ yss _ (H0.out.on (below_trans' C_12.out DW)) HN0.out).mono ?_
            rintro e W1 ⟨V1, n1, c1, gs1, rfl, R1, z1, y1, b⟩
            obtain rfl : n = n1 := (R1.len.symm.trans HL0.out).symm
            have DW := below_trans' DW b
            refine hK.out _ _ (boxed_and (B_12.out.on DW) (A0_12.out.on DW).cell) (fun _ => ?_)
            have hx := nc2f _ V1 c1 DW  R1.sets
            rw [hG2, hT2] at hx
            try simp only [List.setIfInBounds_toArray, List.set_cons_zero, List.set_cons_succ] at hx
            exact hx
          refine AllReadyH.cons (o := _) rfl (fun K hK => ?_) ?_
          · go_simp
            have bA := below_alloc' W (.cells #[.slice none 0 0] 30)
            have hg : w12.heap.size ≤ W.heap.size := DW.size
            have DW := below_trans' DW bA
            refine hK.out _ _ (boxed_and (B_12.out.on DW) (A0_12.out.on DW).cell) (fun _ => ?_)
            have hx := nc1t _ W.heap.size DW (Cell1.new W 30 (.slice none 0 0)) hg 
            rw [hG2, hT2] at hx
            try simp only [List.setIfInBounds_toArray, List.set_cons_zero, List.set_cons_succ] at hx
            exact hx
          exact AllReadyH.nil
        have nc0t : ∀ (W : World) (gc : Nat), Below w12.heap.size w12 W → Cell1 W gc 30 (.slice none 0 0) → w12.heap.size ≤ gc → Gc 8 #[true, false, true, false, true, true, false, false, false, false, true, false, false] { tmps := (Tc.setIfInBounds 18 (.pointer (some ⟨gc, 0, none⟩))), defers := [] } W := by
          intro W gc DW Y hg 
          have hG2 := hGc
          have hT2 := hTc
          rw [hGc, hTc]
          try simp only [List.setIfInBounds_toArray, List.set_cons_zero, List.set_cons_succ]
          refine wpAnyH_ready (rs := [1]) (by kernel_rfl) (by simp) ?_
          refine AllReadyH.cons (o := _) rfl (fun K hK => ?_) ?_
          · go_simp
            refine (toMaker_any m _).mono ?_
            rintro e W1 ⟨rfl, b⟩
            have DW := below_trans' DW b
            refine hK.out _ _ (boxed_and (B_12.out.on DW) (A0_12.out.on DW).cell) (fun _ => ?_)
            have hx := nc1t _ gc DW (Y.on b) hg 
            rw [hG2, hT2] at hx
            try simp only [List.setIfInBounds_toArray, List.set_cons_zero, List.set_cons_succ] at hx
            exact hx
          exact AllReadyH.nil
        have nc0f : ∀ (W : World), Below w12.heap.size w12 W → Gc 9 #[true, false, true, false, true, true, false, false, false, false, false, false, false] { tmps := Tc, defers := [] } W := by
          intro W DW 
          have hG2 := hGc
          have hT2 := hTc
          rw [hGc, hTc]
          try simp only [List.setIfInBounds_toArray, List.set_cons_zero, List.set_cons_succ]
          refine wpAnyH_ready (rs := [1, 10]) (by kernel_rfl) (by simp) ?_
          refine AllReadyH.cons (o := _) rfl (fun K hK => ?_) ?_
          · go_simp
            refine (toMaker_any m _).mono ?_
            rintro e W1 ⟨rfl, b⟩
            have DW := below_trans' DW b
            refine hK.out _ _ (boxed_and (B_12.out.on DW) (A0_12.out.on DW).cell) (fun _ => ?_)
            have hx := nc1f _ DW 
            rw [hG2, hT2] at hx
            try simp only [List.setIfInBounds_toArray, List.set_cons_zero, List.set_cons_succ] at hx
            exact hx
          refine AllReadyH.cons (o := _) rfl (fun K hK => ?_) ?_
          · go_simp
            have bA := below_alloc' W (.cells #[.slice none 0 0] 30)
            have hg : w12.heap.size ≤ W.heap.size := DW.size
            have DW := below_trans' DW bA
            refine hK.out _ _ (boxed_and (B_12.out.on DW) (A0_12.out.on DW).cell) (fun _ => ?_)
            have hx := nc0t _ W.heap.size DW (Cell1.new W 30 (.slice none 0 0)) hg 
            rw [hG2, hT2] at hx
            try simp only [List.setIfInBounds_toArray, List.set_cons_zero, List.set_cons_succ] at hx
            exact hx
          exact AllReadyH.nil
        exact nc0f _ (below_drewN (Below.refl w12.heap.size w12) 1)
    -- the states of the region
    have nb2t : ∀ (W : World) (Vb : Option Addr) (nb cb : Nat) (gb : Nat) (lob : Nat) (gsb : List (Option Addr × Nat × Nat)), Below w4.heap.size w4 W → Cell1 W gb 30 (.slice none 0 0) → w4.heap.size ≤ gb → Rag W lob Vb nb gsb (wlkL m yss wr t) → w4.heap.size ≤ lob → Top gsb W.heap.size → lob ≤ W.heap.size → gb < lob → Gb 5 #[true, true, true, true, true, true, false, false, false, true, false, false] { tmps := (((Tb.setIfInBounds 39 (.agg #[.int .i64 m.C, .int .i64 m.D, .int .i64 m.S, .int .i64 m.M, .int .i64 m.L])).setIfInBounds 43 (.tuple #[.agg #[.slice Vb nb cb], .int .i64 (wlkE m yss wr t)])).setIfInBounds 13 (.pointer (some ⟨gb, 0, none⟩))), defers := [] } W := by
      intro W Vb nb cb gb lob gsb DW Y hg G4 hlo TG hlh hgG
      have hG2 := hGb
      have hT2 := hTb
      rw [hGb, hTb]
      try simp only [List.setIfInBounds_toArray, List.set_cons_zero, List.set_cons_succ]
      have hHeld : (fun w' => w'.cell? ⟨w.heap.size, 0, none⟩ = some (.int .i64 m.C) ∧ w'.cell? ⟨w.heap.size, 1, none⟩ = some (.int .i64 m.D) ∧ w'.cell? ⟨w.heap.size, 2, none⟩ = some (.int .i64 m.S) ∧ w'.cell? ⟨w.heap.size, 3, none⟩ = some (.int .i64 m.M) ∧ w'.cell? ⟨w.heap.size, 4, none⟩ = some (.int .i64 m.L) ∧ w'.cell? ⟨w3.heap.size, 0, none⟩ = some (.slice V3 n c3)) W := boxed_and (B_4.out.on DW) (X0_4.out.on DW).cell
      refine held_take (i := 6) (oi := _) (v := ?_) (some 37) rfl rfl (by kernel_rfl) (by kernel_rfl) (by kernel_rfl) (fun _ _ _ h => h) (Or.inl ⟨by rfl, ?_⟩) hHeld ?_
      rotate_left
      · intro w' hSw
        obtain ⟨r0, r1, r2, r3, r4, r5⟩ := hSw
        go_simp
        try with_reducible rfl
      try simp only [Act.put, List.setIfInBounds_toArray, List.set_cons_zero, List.set_cons_succ]
      refine held_take (i := 7) (oi := _) (v := ?_) (some 44) rfl rfl (by kernel_rfl) (by kernel_rfl) (by kernel_rfl) (fun _ _ _ h => h) (Or.inl ⟨by rfl, ?_⟩) hHeld ?_
      rotate_left
      · intro w' hSw
        obtain ⟨r0, r1, r2, r3, r4, r5⟩ := hSw
        go_simp
        try with_reducible rfl
      try simp only [Act.put, List.setIfInBounds_toArray, List.set_cons_zero, List.set_cons_succ]
      refine held_take (i := 8) (oi := _) (v := ?_) (some 45) rfl rfl (by kernel_rfl) (by kernel_rfl) (by kernel_rfl) (fun _ _ _ h => h) (Or.inl ⟨by rfl, ?_⟩) hHeld ?_
      rotate_left
      · intro w' hSw
        obtain ⟨r0, r1, r2, r3, r4, r5⟩ := hSw
        go_simp
        try with_reducible rfl
      try simp only [Act.put, List.setIfInBounds_toArray, List.set_cons_zero, List.set_cons_succ]
      have fz := Y.thawed
      have cz := Y.cell
      refine wpAnyH_ready (rs := [10]) (by kernel_rfl) (by simp) ?_
      refine AllReadyH.cons (o := _) rfl (fun K' hK' => ?_) AllReadyH.nil
      go_simp
      have bS := DW.setCell (p := ⟨gb, 0, none⟩) hg (.slice Vb nb cb)
      have Y2 := Y.put (.slice Vb nb cb)
      have G5 := G4.asetCell (p := ⟨gb, 0, none⟩) hgG (.slice Vb nb cb)
      have hx := nFb _ Vb nb cb gb lob W.heap.size gsb bS Y2 hg G5 hlo TG (by simp [World.setCell]) hlh (.inl hgG)
      rw [hG2, hT2] at hx
      try simp only [List.setIfInBounds_toArray, List.set_cons_zero, List.set_cons_succ] at hx
      have DW := bS
      refine hK'.out _ _ (boxed_and (B_4.out.on DW) (X0_4.out.on DW).cell) (fun _ => ?_)
      refine wpAnyH_ready (rs := [11]) (by kernel_rfl) (by simp) ?_
      refine AllReadyH.cons (o := _) rfl (fun K2 hK2 => ?_) AllReadyH.nil
      go_simp
      refine hK2.out _ _ (boxed_and (B_4.out.on DW) (X0_4.out.on DW).cell) (fun _ => ?_)
      exact hx
    have nb2f : ∀ (W : World) (Vb : Option Addr) (nb cb : Nat) (lob : Nat) (gsb : List (Option Addr × Nat × Nat)), Below w4.heap.size w4 W → Rag W lob Vb nb gsb (wlkL m yss wr t) → w4.heap.size ≤ lob → Top gsb W.heap.size → lob ≤ W.heap.size → Gb 6 #[true, true, true, true, true, true, false, false, false, false, false, false] { tmps := ((Tb.setIfInBounds 39 (.agg #[.int .i64 m.C, .int .i64 m.D, .int .i64 m.S, .int .i64 m.M, .int .i64 m.L])).setIfInBounds 43 (.tuple #[.agg #[.slice Vb nb cb], .int .i64 (wlkE m yss wr t)])), defers := [] } W := by
      intro W Vb nb cb lob gsb DW G4 hlo TG hlh
      have hG2 := hGb
      have hT2 := hTb
      rw [hGb, hTb]
      try simp only [List.setIfInBounds_toArray, List.set_cons_zero, List.set_cons_succ]
      have hHeld : (fun w' => w'.cell? ⟨w.heap.size, 0, none⟩ = some (.int .i64 m.C) ∧ w'.cell? ⟨w.heap.size, 1, none⟩ = some (.int .i64 m.D) ∧ w'.cell? ⟨w.heap.size, 2, none⟩ = some (.int .i64 m.S) ∧ w'.cell? ⟨w.heap.size, 3, none⟩ = some (.int .i64 m.M) ∧ w'.cell? ⟨w.heap.size, 4, none⟩ = some (.int .i64 m.L) ∧ w'.cell? ⟨w3.heap.size, 0, none⟩ = some (.slice V3 n c3)) W := boxed_and (B_4.out.on DW) (X0_4.out.on DW).cell
      refine held_take (i := 6) (oi := _) (v := ?_) (some 37) rfl rfl (by kernel_rfl) (by kernel_rfl) (by kernel_rfl) (fun _ _ _ h => h) (Or.inl ⟨by rfl, ?_⟩) hHeld ?_
      rotate_left
      · intro w' hSw
        obtain ⟨r0, r1, r2, r3, r4, r5⟩ := hSw
        go_simp
        try with_reducible rfl
      try simp only [Act.put, List.setIfInBounds_toArray, List.set_cons_zero, List.set_cons_succ]
      refine held_take (i := 7) (oi := _) (v := ?_) (some 44) rfl rfl (by kernel_rfl) (by kernel_rfl) (by kernel_rfl) (fun _ _ _ h => h) (Or.inl ⟨by rfl, ?_⟩) hHeld ?_
      rotate_left
      · intro w' hSw
        obtain ⟨r0, r1, r2, r3, r4, r5⟩ := hSw
        go_simp
        try with_reducible rfl
      try simp only [Act.put, List.setIfInBounds_toArray, List.set_cons_zero, List.set_cons_succ]
      refine held_take (i := 8) (oi := _) (v := ?_) (some 45) rfl rfl (by kernel_rfl) (by kernel_rfl) (by kernel_rfl) (fun _ _ _ h => h) (Or.inl ⟨by rfl, ?_⟩) hHeld ?_
      rotate_left
      · intro w' hSw
        obtain ⟨r0, r1, r2, r3, r4, r5⟩ := hSw
        go_simp
        try with_reducible rfl
      try simp only [Act.put, List.setIfInBounds_toArray, List.set_cons_zero, List.set_cons_succ]
      refine wpAnyH_ready (rs := [9]) (by kernel_rfl) (by simp) ?_
      refine AllReadyH.cons (o := _) rfl (fun K hK => ?_) AllReadyH.nil
      go_simp
      have bA := below_alloc' W (.cells #[.slice none 0 0] 30)
      have Y := Cell1.new W 30 (.slice none 0 0)
      have hg : w4.heap.size ≤ W.heap.size := DW.size
      have bB := below_alloc' W (.cells #[.slice Vb nb cb] 30)
      have bS := below_trans' DW bB
      have Y2 := Cell1.new W 30 (.slice Vb nb cb)
      have DW := below_trans' DW bA
      have G5 := G4.on bB
      refine hK.out _ _ (boxed_and (B_4.out.on DW) (X0_4.out.on DW).cell) (fun _ => ?_)
      have fz := Y.thawed
      have cz := Y.cell
      refine wpAnyH_ready (rs := [10]) (by kernel_rfl) (by simp) ?_
      refine AllReadyH.cons (o := _) rfl (fun K' hK' => ?_) AllReadyH.nil
      go_simp
      have hx := nFb _ Vb nb cb W.heap.size lob W.heap.size gsb bS Y2 hg G5 hlo TG (by simp) hlh (.inr (Nat.le_refl _))
      rw [hG2, hT2] at hx
      try simp only [List.setIfInBounds_toArray, List.set_cons_zero, List.set_cons_succ] at hx
      have DW := bS
      refine hK'.out _ _ (boxed_and (B_4.out.on DW) (X0_4.out.on DW).cell) (fun _ => ?_)
      refine wpAnyH_ready (rs := [11]) (by kernel_rfl) (by simp) ?_
      refine AllReadyH.cons (o := _) rfl (fun K2 hK2 => ?_) AllReadyH.nil
      go_simp
      refine hK2.out _ _ (boxed_and (B_4.out.on DW) (X0_4.out.on DW).cell) (fun _ => ?_)
      exact hx
    have nb1t : ∀ (W : World) (gb : Nat), Below w4.heap.size w4 W → Cell1 W gb 30 (.slice none 0 0) → w4.heap.size ≤ gb → Gb 6 #[true, true, true, true, true, false, false, false, false, true, false, false] { tmps := ((Tb.setIfInBounds 39 (.agg #[.int .i64 m.C, .int .i64 m.D, .int .i64 m.S, .int .i64 m.M, .int .i64 m.L])).setIfInBounds 13 (.pointer (some ⟨gb, 0, none⟩))), defers := [] } W := by
      intro W gb DW Y hg 
      have hG2 := hGb
      have hT2 := hTb
      rw [hGb, hTb]
      try simp only [List.setIfInBounds_toArray, List.set_cons_zero, List.set_cons_succ]
      refine wpAnyH_ready (rs := [5]) (by kernel_rfl) (by simp) ?_
      refine AllReadyH.cons (o := _) rfl (fun K hK => ?_) ?_
      · go_simp
        have hb0 : w4.heap.size ≤ W.heap.size := DW.size
        refine (wornLock_any m _ _ _ yss wr t _ (R0_4.out.on DW).sets HN0.out).mono ?_
        rintro e W1 ⟨V1, n1, c1, gs1, rfl, G1', z1, y1, b⟩
        have DW := below_trans' DW b
        refine hK.out _ _ (boxed_and (B_4.out.on DW) (X0_4.out.on DW).cell) (fun _ => ?_)
        have hx := nb2t _ V1 n1 c1 gb W.heap.size gs1 DW (Y.on b) hg G1' hb0 G1'.top b.size Y.lt
        rw [hG2, hT2] at hx
        try simp only [List.setIfInBounds_toArray, List.set_cons_zero, List.set_cons_succ] at hx
        exact hx
      exact AllReadyH.nil
    have nb1f : ∀ (W : World), Below w4.heap.size w4 W → Gb 7 #[true, true, true, true, true, false, false, false, false, false, false, false] { tmps := (Tb.setIfInBounds 39 (.agg #[.int .i64 m.C, .int .i64 m.D, .int .i64 m.S, .int .i64 m.M, .int .i64 m.L])), defers := [] } W := by
      intro W DW 
      have hG2 := hGb
      have hT2 := hTb
      rw [hGb, hTb]
      try simp only [List.setIfInBounds_toArray, List.set_cons_zero, List.set_cons_succ]
      refine wpAnyH_ready (rs := [5, 9]) (by kernel_rfl) (by simp) ?_
      refine AllReadyH.cons (o := _) rfl (fun K hK => ?_) ?_
      · go_simp
        have hb0 : w4.heap.size ≤ W.heap.size := DW.size
        refine (wornLock_any m _ _ _ yss wr t _ (R0_4.out.on DW).sets HN0.out).mono ?_
        rintro e W1 ⟨V1, n1, c1, gs1, rfl, G1', z1, y1, b⟩
        have DW := below_trans' DW b
        refine hK.out _ _ (boxed_and (B_4.out.on DW) (X0_4.out.on DW).cell) (fun _ => ?_)
        have hx := nb2f _ V1 n1 c1 W.heap.size gs1 DW G1' hb0 G1'.top b.size
        rw [hG2, hT2] at hx
        try simp only [List.setIfInBounds_toArray, List.set_cons_zero, List.set_cons_succ] at hx
        exact hx
      refine AllReadyH.cons (o := _) rfl (fun K hK => ?_) ?_
      · go_simp
        have bA := below_alloc' W (.cells #[.slice none 0 0] 30)
        have hg : w4.heap.size ≤ W.heap.size := DW.size
        have DW := below_trans' DW bA
        refine hK.out _ _ (boxed_and (B_4.out.on DW) (X0_4.out.on DW).cell) (fun _ => ?_)
        have hx := nb1t _ W.heap.size DW (Cell1.new W 30 (.slice none 0 0)) hg 
        rw [hG2, hT2] at hx
        try simp only [List.setIfInBounds_toArray, List.set_cons_zero, List.set_cons_succ] at hx
        exact hx
      exact AllReadyH.nil
    have nb0t : ∀ (W : World) (gb : Nat), Below w4.heap.size w4 W → Cell1 W gb 30 (.slice none 0 0) → w4.heap.size ≤ gb → Gb 7 #[true, false, true, true, true, false, false, false, false, true, false, false] { tmps := (Tb.setIfInBounds 13 (.pointer (some ⟨gb, 0, none⟩))), defers := [] } W := by
      intro W gb DW Y hg 
      have hG2 := hGb
      have hT2 := hTb
      rw [hGb, hTb]
      try simp only [List.setIfInBounds_toArray, List.set_cons_zero, List.set_cons_succ]
      refine wpAnyH_ready (rs := [1]) (by kernel_rfl) (by simp) ?_
      refine AllReadyH.cons (o := _) rfl (fun K hK => ?_) ?_
      · go_simp
        refine (toMaker_any m _).mono ?_
        rintro e W1 ⟨rfl, b⟩
        have DW := below_trans' DW b
        refine hK.out _ _ (boxed_and (B_4.out.on DW) (X0_4.out.on DW).cell) (fun _ => ?_)
        have hx := nb1t _ gb DW (Y.on b) hg 
        rw [hG2, hT2] at hx
        try simp only [List.setIfInBounds_toArray, List.set_cons_zero, List.set_cons_succ] at hx
        exact hx
      exact AllReadyH.nil
    have nb0f : ∀ (W : World), Below w4.heap.size w4 W → Gb 8 #[true, false, true, true, true, false, false, false, false, false, false, false] { tmps := Tb, defers := [] } W := by
      intro W DW 
      have hG2 := hGb
      have hT2 := hTb
      rw [hGb, hTb]
      try simp only [List.setIfInBounds_toArray, List.set_cons_zero, List.set_cons_succ]
      refine wpAnyH_ready (rs := [1, 9]) (by kernel_rfl) (by simp) ?_
      refine AllReadyH.cons (o := _) rfl (fun K hK => ?_) ?_
      · go_simp
        refine (toMaker_any m _).mono ?_
        rintro e W1 ⟨rfl, b⟩
        have DW := below_trans' DW b
        refine hK.out _ _ (boxed_and (B_4.out.on DW) (X0_4.out.on DW).cell) (fun _ => ?_)
        have hx := nb1f _ DW 
        rw [hG2, hT2] at hx
        try simp only [List.setIfInBounds_toArray, List.set_cons_zero, List.set_cons_succ] at hx
        exact hx
      refine AllReadyH.cons (o := _) rfl (fun K hK => ?_) ?_
      · go_simp
        have bA := below_alloc' W (.cells #[.slice none 0 0] 30)
        have hg : w4.heap.size ≤ W.heap.size := DW.size
        have DW := below_trans' DW bA
        refine hK.out _ _ (boxed_and (B_4.out.on DW) (X0_4.out.on DW).cell) (fun _ => ?_)
        have hx := nb0t _ W.heap.size DW (Cell1.new W 30 (.slice none 0 0)) hg 
        rw [hG2, hT2] at hx
        try simp only [List.setIfInBounds_toArray, List.set_cons_zero, List.set_cons_succ] at hx
        exact hx
      exact AllReadyH.nil
    exact nb0f _ (below_drewN (Below.refl w4.heap.size w4) 1)
  -- the states of the region
  have na3t : ∀ (W : World) (vV0 : Option Addr) (vc0 : Nat) (Va : Option Addr) (na ca : Nat) (ga : Nat), Below ws0.heap.size ws0 W → Cell1 W ga 30 (.slice none 0 0) → ws0.heap.size ≤ ga → Sets W W.heap.size Va na (wlkL m yss wr t) → Ga 5 #[true, true, true, true, true, true, true, false, false, false, true, false, false] { tmps := ((((Ta.setIfInBounds 27 (.agg #[.int .i64 m.C, .int .i64 m.D, .int .i64 m.S, .int .i64 m.M, .int .i64 m.L])).setIfInBounds 29 (.agg #[.slice vV0 n vc0])).setIfInBounds 32 (.tuple #[.agg #[.slice Va na ca], .int .i64 (wlkE m yss wr t)])).setIfInBounds 10 (.pointer (some ⟨ga, 0, none⟩))), defers := [] } W := by
    intro W vV0 vc0 Va na ca ga DW Y hg S4
    have hG2 := hGa
    have hT2 := hTa
    rw [hGa, hTa]
    try simp only [List.setIfInBounds_toArray, List.set_cons_zero, List.set_cons_succ]
    have hHeld : (fun w' => w'.cell? ⟨w.heap.size, 0, none⟩ = some (.int .i64 m.C) ∧ w'.cell? ⟨w.heap.size, 1, none⟩ = some (.int .i64 m.D) ∧ w'.cell? ⟨w.heap.size, 2, none⟩ = some (.int .i64 m.S) ∧ w'.cell? ⟨w.heap.size, 3, none⟩ = some (.int .i64 m.M) ∧ w'.cell? ⟨w.heap.size, 4, none⟩ = some (.int .i64 m.L) ∧ w'.cell? ⟨w.heap.size + 1, 0, none⟩ = some (.slice V n c)) W := boxed_and (B_1.out.on DW) (A0_1.out.on DW).cell
    refine held_take (i := 7) (oi := _) (v := ?_) (some 25) rfl rfl (by kernel_rfl) (by kernel_rfl) (by kernel_rfl) (fun _ _ _ h => h) (Or.inl ⟨by rfl, ?_⟩) hHeld ?_
    rotate_left
    · intro w' hSw
      obtain ⟨r0, r1, r2, r3, r4, r5⟩ := hSw
      go_simp
      try with_reducible rfl
    try simp only [Act.put, List.setIfInBounds_toArray, List.set_cons_zero, List.set_cons_succ]
    refine held_take (i := 8) (oi := _) (v := ?_) (some 33) rfl rfl (by kernel_rfl) (by kernel_rfl) (by kernel_rfl) (fun _ _ _ h => h) (Or.inl ⟨by rfl, ?_⟩) hHeld ?_
    rotate_left
    · intro w' hSw
      obtain ⟨r0, r1, r2, r3, r4, r5⟩ := hSw
      go_simp
      try with_reducible rfl
    try simp only [Act.put, List.setIfInBounds_toArray, List.set_cons_zero, List.set_cons_succ]
    refine held_take (i := 9) (oi := _) (v := ?_) (some 34) rfl rfl (by kernel_rfl) (by kernel_rfl) (by kernel_rfl) (fun _ _ _ h => h) (Or.inl ⟨by rfl, ?_⟩) hHeld ?_
    rotate_left
    · intro w' hSw
      obtain ⟨r0, r1, r2, r3, r4, r5⟩ := hSw
      go_simp
      try with_reducible rfl
    try simp only [Act.put, List.setIfInBounds_toArray, List.set_cons_zero, List.set_cons_succ]
    have fz := Y.thawed
    have cz := Y.cell
    refine wpAnyH_ready (rs := [11]) (by kernel_rfl) (by simp) ?_
    refine AllReadyH.cons (o := _) rfl (fun K' hK' => ?_) AllReadyH.nil
    go_simp
    have bS := DW.setCell (p := ⟨ga, 0, none⟩) hg (.slice Va na ca)
    have Y2 := Y.put (.slice Va na ca)
    have S5 := S4.stored HNE.out Y (.slice Va na ca)
    have hx := nFa _ vV0 vc0 Va na ca ga bS Y2 hg S5
    rw [hG2, hT2] at hx
    try simp only [List.setIfInBounds_toArray, List.set_cons_zero, List.set_cons_succ] at hx
    have DW := bS
    refine hK'.out _ _ (boxed_and (B_1.out.on DW) (A0_1.out.on DW).cell) (fun _ => ?_)
    refine wpAnyH_ready (rs := [12]) (by kernel_rfl) (by simp) ?_
    refine AllReadyH.cons (o := _) rfl (fun K2 hK2 => ?_) AllReadyH.nil
    go_simp
    refine hK2.out _ _ (boxed_and (B_1.out.on DW) (A0_1.out.on DW).cell) (fun _ => ?_)
    exact hx
  have na3f : ∀ (W : World) (vV0 : Option Addr) (vc0 : Nat) (Va : Option Addr) (na ca : Nat), Below ws0.heap.size ws0 W → Sets W W.heap.size Va na (wlkL m yss wr t) → Ga 6 #[true, true, true, true, true, true, true, false, false, false, false, false, false] { tmps := (((Ta.setIfInBounds 27 (.agg #[.int .i64 m.C, .int .i64 m.D, .int .i64 m.S, .int .i64 m.M, .int .i64 m.L])).setIfInBounds 29 (.agg #[.slice vV0 n vc0])).setIfInBounds 32 (.tuple #[.agg #[.slice Va na ca], .int .i64 (wlkE m yss wr t)])), defers := [] } W := by
    intro W vV0 vc0 Va na ca DW S4
    have hG2 := hGa
    have hT2 := hTa
    rw [hGa, hTa]
    try simp only [List.setIfInBounds_toArray, List.set_cons_zero, List.set_cons_succ]
    have hHeld : (fun w' => w'.cell? ⟨w.heap.size, 0, none⟩ = some (.int .i64 m.C) ∧ w'.cell? ⟨w.heap.size, 1, none⟩ = some (.int .i64 m.D) ∧ w'.cell? ⟨w.heap.size, 2, none⟩ = some (.int .i64 m.S) ∧ w'.cell? ⟨w.heap.size, 3, none⟩ = some (.int .i64 m.M) ∧ w'.cell? ⟨w.heap.size, 4, none⟩ = some (.int .i64 m.L) ∧ w'.cell? ⟨w.heap.size + 1, 0, none⟩ = some (.slice V n c)) W := boxed_and (B_1.out.on DW) (A0_1.out.on DW).cell
    refine held_take (i := 7) (oi := _) (v := ?_) (some 25) rfl rfl (by kernel_rfl) (by kernel_rfl) (by kernel_rfl) (fun _ _ _ h => h) (Or.inl ⟨by rfl, ?_⟩) hHeld ?_
    rotate_left
    · intro w' hSw
      obtain ⟨r0, r1, r2, r3, r4, r5⟩ := hSw
      go_simp
      try with_reducible rfl
    try simp only [Act.put, List.setIfInBounds_toArray, List.set_cons_zero, List.set_cons_succ]
    refine held_take (i := 8) (oi := _) (v := ?_) (some 33) rfl rfl (by kernel_rfl) (by kernel_rfl) (by kernel_rfl) (fun _ _ _ h => h) (Or.inl ⟨by rfl, ?_⟩) hHeld ?_
    rotate_left
    · intro w' hSw
      obtain ⟨r0, r1, r2, r3, r4, r5⟩ := hSw
      go_simp
      try with_reducible rfl
    try simp only [Act.put, List.setIfInBounds_toArray, List.set_cons_zero, List.set_cons_succ]
    refine held_take (i := 9) (oi := _) (v := ?_) (some 34) rfl rfl (by kernel_rfl) (by kernel_rfl) (by kernel_rfl) (fun _ _ _ h => h) (Or.inl ⟨by rfl, ?_⟩) hHeld ?_
    rotate_left
    · intro w' hSw
      obtain ⟨r0, r1, r2, r3, r4, r5⟩ := hSw
      go_simp
      try with_reducible rfl
    try simp only [Act.put, List.setIfInBounds_toArray, List.set_cons_zero, List.set_cons_succ]
    refine wpAnyH_ready (rs := [10]) (by kernel_rfl) (by simp) ?_
    refine AllReadyH.cons (o := _) rfl (fun K hK => ?_) AllReadyH.nil
    go_simp
    have bA := below_alloc' W (.cells #[.slice none 0 0] 30)
    have Y := Cell1.new W 30 (.slice none 0 0)
    have hg : ws0.heap.size ≤ W.heap.size := DW.size
    have bB := below_alloc' W (.cells #[.slice Va na ca] 30)
    have bS := below_trans' DW bB
    have Y2 := Cell1.new W 30 (.slice Va na ca)
    have DW := below_trans' DW bA
    have S5 := S4.on bB
    refine hK.out _ _ (boxed_and (B_1.out.on DW) (A0_1.out.on DW).cell) (fun _ => ?_)
    have fz := Y.thawed
    have cz := Y.cell
    refine wpAnyH_ready (rs := [11]) (by kernel_rfl) (by simp) ?_
    refine AllReadyH.cons (o := _) rfl (fun K' hK' => ?_) AllReadyH.nil
    go_simp
    have hx := nFa _ vV0 vc0 Va na ca W.heap.size bS Y2 hg S5
    rw [hG2, hT2] at hx
    try simp only [List.setIfInBounds_toArray, List.set_cons_zero, List.set_cons_succ] at hx
    have DW := bS
    refine hK'.out _ _ (boxed_and (B_1.out.on DW) (A0_1.out.on DW).cell) (fun _ => ?_)
    refine wpAnyH_ready (rs := [12]) (by kernel_rfl) (by simp) ?_
    refine AllReadyH.cons (o := _) rfl (fun K2 hK2 => ?_) AllReadyH.nil
    go_simp
    refine hK2.out _ _ (boxed_and (B_1.out.on DW) (A0_1.out.on DW).cell) (fun _ => ?_)
    exact hx
  have na2t : ∀ (W : World) (ga : Nat) (vV0 : Option Addr) (vc0 : Nat), Below ws0.heap.size ws0 W → Cell1 W ga 30 (.slice none 0 0) → ws0.heap.size ≤ ga → Sets W W.heap.size vV0 n yss → Ga 6 #[true, true, true, true, true, true, false, false, false, false, true, false, false] { tmps := (((Ta.setIfInBounds 27 (.agg #[.int .i64 m.C, .int .i64 m.D, .int .i64 m.S, .int .i64 m.M, .int .i64 m.L])).setIfInBounds 29 (.agg #[.slice vV0 n vc0])).setIfInBounds 10 (.pointer (some ⟨ga, 0, none⟩))), defers := [] } W := by
    intro W ga vV0 vc0 DW Y hg S0
    have hG2 := hGa
    have hT2 := hTa
    rw [hGa, hTa]
    try simp only [List.setIfInBounds_toArray, List.set_cons_zero, List.set_cons_succ]
    refine wpAnyH_ready (rs := [6]) (by kernel_rfl) (by simp) ?_
    refine AllReadyH.cons (o := _) rfl (fun K hK => ?_) ?_
    · go_simp
      refine (specWornLock_any m _ _ _ yss wr t _ S0 HN0.out).mono ?_
      rintro e W1 ⟨V1, n1, c1, rfl, S1', z1, y1, b⟩
      have DW := below_trans' DW b
      refine hK.out _ _ (boxed_and (B_1.out.on DW) (A0_1.out.on DW).cell) (fun _ => ?_)
      have hx := na3t _ vV0 vc0 V1 n1 c1 ga DW (Y.on b) hg S1'
      rw [hG2, hT2] at hx
      try simp only [List.setIfInBounds_toArray, List.set_cons_zero, List.set_cons_succ] at hx
      exact hx
    exact AllReadyH.nil
  have na2f : ∀ (W : World) (vV0 : Option Addr) (vc0 : Nat), Below ws0.heap.size ws0 W → Sets W W.heap.size vV0 n yss → Ga 7 #[true, true, true, true, true, true, false, false, false, false, false, false, false] { tmps := ((Ta.setIfInBounds 27 (.agg #[.int .i64 m.C, .int .i64 m.D, .int .i64 m.S, .int .i64 m.M, .int .i64 m.L])).setIfInBounds 29 (.agg #[.slice vV0 n vc0])), defers := [] } W := by
    intro W vV0 vc0 DW S0
    have hG2 := hGa
    have hT2 := hTa
    rw [hGa, hTa]
    try simp only [List.setIfInBounds_toArray, List.set_cons_zero, List.set_cons_succ]
    refine wpAnyH_ready (rs := [6, 10]) (by kernel_rfl) (by simp) ?_
    refine AllReadyH.cons (o := _) rfl (fun K hK => ?_) ?_
    · go_simp
      refine (specWornLock_any m _ _ _ yss wr t _ S0 HN0.out).mono ?_
      rintro e W1 ⟨V1, n1, c1, rfl, S1', z1, y1, b⟩
      have DW := below_trans' DW b
      refine hK.out _ _ (boxed_and (B_1.out.on DW) (A0_1.out.on DW).cell) (fun _ => ?_)
      have hx := na3f _ vV0 vc0 V1 n1 c1 DW S1'
      rw [hG2, hT2] at hx
      try simp only [List.setIfInBounds_toArray, List.set_cons_zero, List.set_cons_succ] at hx
      exact hx
    refine AllReadyH.cons (o := _) rfl (fun K hK => ?_) ?_
    · go_simp
      have bA := below_alloc' W (.cells #[.slice none 0 0] 30)
      have hg : ws0.heap.size ≤ W.heap.size := DW.size
      have DW := below_trans' DW bA
      refine hK.out _ _ (boxed_and (B_1.out.on DW) (A0_1.out.on DW).cell) (fun _ => ?_)
      have hx := na2t _ W.heap.size vV0 vc0 DW (Cell1.new W 30 (.slice none 0 0)) hg (S0.on bA)
      rw [hG2, hT2] at hx
      try simp only [List.setIfInBounds_toArray, List.set_cons_zero, List.set_cons_succ] at hx
      exact hx
    exact AllReadyH.nil
  have na1t : ∀ (W : World) (ga : Nat), Below ws0.heap.size ws0 W → Cell1 W ga 30 (.slice none 0 0) → ws0.heap.size ≤ ga → Ga 7 #[true, true, true, false, true, true, false, false, false, false, true, false, false] { tmps := ((Ta.setIfInBounds 27 (.agg #[.int .i64 m.C, .int .i64 m.D, .int .i64 m.S, .int .i64 m.M, .int .i64 m.L])).setIfInBounds 10 (.pointer (some ⟨ga, 0, none⟩))), defers := [] } W := by
    intro W ga DW Y hg 
    have hG2 := hGa
    have hT2 := hTa
    rw [hGa, hTa]
    try simp only [List.setIfInBounds_toArray, List.set_cons_zero, List.set_cons_succ]
    refine wpAnyH_ready (rs := [3]) (by kernel_rfl) (by simp) ?_
    refine AllReadyH.cons (o := _) rfl (fun K hK => ?_) ?_
    · go_simp
      refine (toLock_any _ _ _ yss _ (H0.out.on (below_trans' C_1.out DW)) HN0.out).mono ?_
      rintro e W1 ⟨V1, n1, c1, gs1, rfl, R1, z1, y1, b⟩
      obtain rfl : n = n1 := (R1.len.symm.trans HL0.out).symm
      have DW := below_trans' DW b
      refine hK.out _ _ (boxed_and (B_1.out.on DW) (A0_1.out.on DW).cell) (fun _ => ?_)
      have hx := na2t _ ga V1 c1 DW (Y.on b) hg  R1.sets
      rw [hG2, hT2] at hx
      try simp only [List.setIfInBounds_toArray, List.set_cons_zero, List.set_cons_succ] at hx
      exact hx
    exact AllReadyH.nil
  have na1f : ∀ (W : World), Below ws0.heap.size ws0 W → Ga 8 #[true, true, true, false, true, true, false, false, false, false, false, false, false] { tmps := (Ta.setIfInBounds 27 (.agg #[.int .i64 m.C, .int .i64 m.D, .int .i64 m.S, .int .i64 m.M, .int .i64 m.L])), defers := [] } W := by
    intro W DW 
    have hG2 := hGa
    have hT2 := hTa
    rw [hGa, hTa]
    try simp only [List.setIfInBounds_toArray, List.set_cons_zero, List.set_cons_succ]
    refine wpAnyH_ready (rs := [3, 10]) (by kernel_rfl) (by simp) ?_
    refine AllReadyH.cons (o := _) rfl (fun K hK => ?_) ?_
    · go_simp
      refine (toLock_any _ _ _ yss _ (H0.out.on (below_trans' C_1.out DW)) HN0.out).mono ?_
      rintro e W1 ⟨V1, n1, c1, gs1, rfl, R1, z1, y1, b⟩
      obtain rfl : n = n1 := (R1.len.symm.trans HL0.out).symm
      have DW := below_trans' DW b
      refine hK.out _ _ (boxed_and (B_1.out.on DW) (A0_1.out.on DW).cell) (fun _ => ?_)
      have hx := na2f _ V1 c1 DW  R1.sets
      rw [hG2, hT2] at hx
      try simp only [List.setIfInBounds_toArray, List.set_cons_zero, List.set_cons_succ] at hx
      exact hx
    refine AllReadyH.cons (o := _) rfl (fun K hK => ?_) ?_
    · go_simp
      have bA := below_alloc' W (.cells #[.slice none 0 0] 30)
      have hg : ws0.heap.size ≤ W.heap.size := DW.size
      have DW := below_trans' DW bA
      refine hK.out _ _ (boxed_and (B_1.out.on DW) (A0_1.out.on DW).cell) (fun _ => ?_)
      have hx := na1t _ W.heap.size DW (Cell1.new W 30 (.slice none 0 0)) hg 
      rw [hG2, hT2] at hx
      try simp only [List.setIfInBounds_toArray, List.set_cons_zero, List.set_cons_succ] at hx
      exact hx
    exact AllReadyH.nil
  have na0t : ∀ (W : World) (ga : Nat), Below ws0.heap.size ws0 W → Cell1 W ga 30 (.slice none 0 0) → ws0.heap.size ≤ ga → Ga 8 #[true, false, true, false, true, true, false, false, false, false, true, false, false] { tmps := (Ta.setIfInBounds 10 (.pointer (some ⟨ga, 0, none⟩))), defers := [] } W := by
    intro W ga DW Y hg 
    have hG2 := hGa
    have hT2 := hTa
    rw [hGa, hTa]
    try simp only [List.setIfInBounds_toArray, List.set_cons_zero, List.set_cons_succ]
    refine wpAnyH_ready (rs := [1]) (by kernel_rfl) (by simp) ?_
    refine AllReadyH.cons (o := _) rfl (fun K hK => ?_) ?_
    · go_simp
      refine (toMaker_any m _).mono ?_
      rintro e W1 ⟨rfl, b⟩
      have DW := below_trans' DW b
      refine hK.out _ _ (boxed_and (B_1.out.on DW) (A0_1.out.on DW).cell) (fun _ => ?_)
      have hx := na1t _ ga DW (Y.on b) hg 
      rw [hG2, hT2] at hx
      try simp only [List.setIfInBounds_toArray, List.set_cons_zero, List.set_cons_succ] at hx
      exact hx
    exact AllReadyH.nil
  have na0f : ∀ (W : World), Below ws0.heap.size ws0 W → Ga 9 #[true, false, true, false, true, true, false, false, false, false, false, false, false] { tmps := Ta, defers := [] } W := by
    intro W DW 
    have hG2 := hGa
    have hT2 := hTa
    rw [hGa, hTa]
    try simp only [List.setIfInBounds_toArray, List.set_cons_zero, List.set_cons_succ]
    refine wpAnyH_ready (rs := [1, 10]) (by kernel_rfl) (by simp) ?_
    refine AllReadyH.cons (o := _) rfl (fun K hK => ?_) ?_
    · go_simp
      refine (toMaker_any m _).mono ?_
      rintro e W1 ⟨rfl, b⟩
      have DW := below_trans' DW b
      refine hK.out _ _ (boxed_and (B_1.out.on DW) (A0_1.out.on DW).cell) (fun _ => ?_)
      have hx := na1f _ DW 
      rw [hG2, hT2] at hx
      try simp only [List.setIfInBounds_toArray, List.set_cons_zero, List.set_cons_succ] at hx
      exact hx
    refine AllReadyH.cons (o := _) rfl (fun K hK => ?_) ?_
    · go_simp
      have bA := below_alloc' W (.cells #[.slice none 0 0] 30)
      have hg : ws0.heap.size ≤ W.heap.size := DW.size
      have DW := below_trans' DW bA
      refine hK.out _ _ (boxed_and (B_1.out.on DW) (A0_1.out.on DW).cell) (fun _ => ?_)
      have hx := na0t _ W.heap.size DW (Cell1.new W 30 (.slice none 0 0)) hg 
      rw [hG2, hT2] at hx
      try simp only [List.setIfInBounds_toArray, List.set_cons_zero, List.set_cons_succ] at hx
      exact hx
    exact AllReadyH.nil
  exact na0f _ (below_drewN (Below.refl ws0.heap.size ws0) 1)

end Go.Proofs.Ytbfnffecmglgfaa
