/- The questions about a worn cut: the program. -/
import Derived.Test.YtbfnffecmglgfaaWearP
namespace Go.Proofs.Ytbfnffecmglgfaa
open Go Go.RowKit
attribute [local go_sem] Oper.semAt_some

set_option maxRecDepth 100000 in
set_option maxHeartbeats 8000000 in
theorem mayFree_any (c r v t : Nat) (hc : c ≤ 8) (hr : r ≤ 20) (hv : v < 256) (ht : t ≤ 4) (w : World) (b : Bool) (hb : someAt (freeAt (fun d => v.testBit d) (t : Int)) (c : Int) (r + 1) = b) :
    Calls Try.prog 127 #[.agg #[.int .i64 (c : Int), .int .i64 (r : Int)], .agg #[.int .u8 (v : Int), .int .i64 (t : Int)]] w fun e w' => e = .returned (.bool b) ∧ Below w.heap.size w w' := by
  refine (callsIn_wide (n := 9)).1 ?_
  refine callsIn_of_wp_marks Try.func127 rfl trivial ?_ rfl
  refine wpIn_wide.2 ?_
  simp only [Try.ntmps127, List.size_toArray, List.length_cons, List.length_nil, Nat.reduceAdd, Nat.reduceSub, Array.replicate_succ, Array.replicate_zero, List.push_toArray, List.append_toArray, List.nil_append, List.cons_append]
  have b0 := (((Below.refl w.heap.size w).alloc (Nat.le_refl _) (.cells #[.int .i64 (c : Int), .int .i64 (r : Int)] 137)).alloc (by simp) (.cells #[.int .u8 (v : Int), .int .i64 (t : Int)] 135)).alloc (by simp; omega) (.cells #[.bool false] 4)
  have X0 := ((Cell2.new w 137 (.int .i64 (c : Int)) (.int .i64 (r : Int))).alloc (.cells #[.int .u8 (v : Int), .int .i64 (t : Int)] 135)).alloc (.cells #[.bool false] 4)
  have Y0 := (Cell2.new (w.alloc (.cells #[.int .i64 (c : Int), .int .i64 (r : Int)] 137)) 135 (.int .u8 (v : Int)) (.int .i64 (t : Int))).alloc (.cells #[.bool false] 4)
  have Z0 := Cell1.new ((w.alloc (.cells #[.int .i64 (c : Int), .int .i64 (r : Int)] 137)).alloc (.cells #[.int .u8 (v : Int), .int .i64 (t : Int)] 135)) 4 (.bool false)
  simp only [World.size_alloc] at X0 Y0 Z0
  have HB := Lib.hid hb
  clear hb
  obtain ⟨q0, q1⟩ := X0.cells
  go_wp2_with fail
  clear q0 q1 X0
  have hs3 : (((w.alloc (.cells #[.int .i64 (c : Int), .int .i64 (r : Int)] 137)).alloc (.cells #[.int .u8 (v : Int), .int .i64 (t : Int)] 135)).alloc (.cells #[.bool false] 4)).heap.size = w.heap.size + 3 := by simp
  generalize (((w.alloc (.cells #[.int .i64 (c : Int), .int .i64 (r : Int)] 137)).alloc (.cells #[.int .u8 (v : Int), .int .i64 (t : Int)] 135)).alloc (.cells #[.bool false] 4)) = w3 at *
  refine (wpIn_wide (n := 9)).1 ?_
  refine wpIn_yieldI rfl (by omega) (gf := 156) (rb := #[.agg #[.int .i64 (c : Int), .int .i64 (r : Int)]]) (lb := #[]) rfl trivial (enters_of Try.func156 (by kernel_rfl) rfl) (places_yield c r hc hr 8 _) (Below.refl _ _) rfl
    (fun pre W => Hid (∀ x ∈ pre, freeAt (fun d => v.testBit d) (t : Int) ((x : Nat) : Int) = false) ∧ Cell2 W (w.heap.size + 1) 135 (.int .u8 (v : Int)) (.int .i64 (t : Int)) ∧ Cell1 W (w.heap.size + 1 + 1) 4 (.bool false) ∧ Below w.heap.size w W)
    (fun cd pre W => Hid (cd = .ret ∧ (∃ x ∈ pre, freeAt (fun d => v.testBit d) (t : Int) ((x : Nat) : Int) = true) ∧ Cell1 W (w.heap.size + 1 + 1) 4 (.bool true) ∧ Below w.heap.size w W))
    ?_ ?_ ?_ ⟨Lib.hid (fun x hx => by cases hx), Y0, Z0, b0⟩
    (fun u => { tmps := #[.agg #[.int .i64 (c : Int), .int .i64 (r : Int)], .agg #[.int .u8 (v : Int), .int .i64 (t : Int)], .pointer (some ⟨w.heap.size, 0, none⟩), .pointer (some ⟨w.heap.size + 1, 0, none⟩), .pointer (some ⟨w.heap.size + 1 + 1, 0, none⟩), u, .agg #[.int .i64 (c : Int), .int .i64 (r : Int)], .func (.func 156) #[.agg #[.int .i64 (c : Int), .int .i64 (r : Int)]] #[], u, undef, undef, undef], defers := [] }) ?assign ?body ?done ?stop
  · rintro s A1 C1 ⟨h1, h2, h3, h4⟩ hb
    rw [hs3] at hb
    exact ⟨h1, h2.below hb (by omega), h3.below hb (by omega), h4.trans (hb.mono (by omega))⟩
  · intro pre W _
    trivial
  · rintro cd s A1 o h
    rw [hs3]
    have hb := below_putObj (B := w.heap.size + 3) (l := w.heap.size + 3 + 1) A1 o (by omega)
    obtain ⟨h0, h1, h2, h3⟩ := h.out
    exact Lib.hid ⟨h0, h1, h2.below hb (by omega), h3.trans (hb.mono (by omega))⟩
  case assign =>
    intro l v W K hK
    gi_wp2
    exact hK
  case body =>
    rintro l pre x u W ⟨h1, h2, h3, h4⟩ hM hsz rfl
    have hx : x < 101 := by
      obtain ⟨R, e⟩ := hM
      have := plT_mem (c := c) (k := r + 1) (x := x) (by rw [e]; simp)
      omega
    have H1 := Lib.hid h1
    obtain ⟨q0, q1⟩ := h2.cells
    clear hM
    rcases hf : freeAt (fun d => v.testBit d) (t : Int) (x : Int) with _ | _
    · have HF := Lib.hid hf
      gi_wp2_with fail
      refine ⟨trivial, (CallsIn.inRound l (callsIn_wide.2 (isFreeAt_any v (t : Int) (x : Int) _ hv (by omega) (by omega) (by omega) (by omega)))).mono ?_⟩
      rw [hf]
      rintro e w4 ⟨rfl, b4⟩
      have A4 := Lib.hid (Above.of_below (B := w3.heap.size) b4)
      have B4 := Lib.hid (below_trans' h4 b4)
      have Y4 := Lib.hid (h2.on b4)
      have Z4 := Lib.hid (h3.on b4)
      clear q0 q1 h2 h3 h4 b4 hf
      gi_wp2
      exact ⟨A4.out, Lib.hid (fun y hy => by
        rcases List.mem_append.1 hy with hy | hy
        · exact H1.out.out y hy
        · obtain rfl : y = x := by simpa using hy
          exact HF.out), Y4.out, Z4.out, B4.out⟩
    · have HF := Lib.hid hf
      gi_wp2_with fail
      refine ⟨trivial, (CallsIn.inRound l (callsIn_wide.2 (isFreeAt_any v (t : Int) (x : Int) _ hv (by omega) (by omega) (by omega) (by omega)))).mono ?_⟩
      rw [hf]
      rintro e w4 ⟨rfl, b4⟩
      have A4 := Lib.hid (Above.of_below (B := w3.heap.size) b4)
      have B4 := Lib.hid (below_trans' h4 b4)
      have Y4 := Lib.hid (h2.on b4)
      have Z4 := Lib.hid (h3.on b4)
      clear q0 q1 h2 h3 h4 b4 hf
      have fz := Z4.out.thawed
      have cz := Z4.out.cell
      have AZ := Lib.hid (A4.out.trans (Above.setCell (B := w3.heap.size) (p := ⟨w.heap.size + 1 + 1, 0, none⟩) w4 (.bool true) (by show w.heap.size + 1 + 1 < _; omega)))
      have BZ := Lib.hid (B4.out.setCell (p := ⟨w.heap.size + 1 + 1, 0, none⟩) (by show w.heap.size ≤ w.heap.size + 1 + 1; omega) (.bool true))
      have ZZ := Lib.hid (Z4.out.put (.bool true))
      gi_wp2
      exact ⟨AZ.out, Lib.hid ⟨rfl, ⟨x, by simp, HF.out⟩, ZZ.out, BZ.out⟩⟩
  case done =>
    rintro l W rfl ⟨h1, _, h3, h4⟩ hK
    have HE : Hid (b = false) := Lib.hid (by
      rw [← HB.out, some_is]
      refine List.any_eq_false.2 (fun y hy => ?_)
      have hh := h1.out y hy
      rw [hh]
      exact Bool.false_ne_true)
    rw [hs3] at hK
    have HZ := Lib.hid (h4.setCell (p := ⟨w.heap.size + 1 + 1, 0, none⟩) (by show w.heap.size ≤ w.heap.size + 1 + 1; omega) (.bool false))
    have r0 := Lib.hid (h3.put (.bool false))
    have HK := Lib.hid ((KeepsOthers.setCell W ⟨w.heap.size + 1 + 1, 0, none⟩ (.bool false)).same (w.heap.size + 3) _ hK rfl)
    have c0 := h3.cell
    have f0 := h3.thawed
    rw [hs3]
    clear h1 h3 h4 hK
    go_wp2
    refine ⟨by simp, .inl ⟨_, _, rfl, run_takeDeferred HK.out, ?_⟩⟩
    have hbp := below_putObj (B := w.heap.size + 3) (l := w.heap.size + 3) (W.setCell ⟨w.heap.size + 1 + 1, 0, none⟩ (.bool false)) (.deferred none) (Nat.le_refl _)
    have e0 := (r0.out.below hbp (by omega)).cell
    refine ⟨.bool false, by simp [results, Try.results127, go_sem, e0], ret_bool HE.out.symm, HZ.out.trans (hbp.mono (by omega))⟩
  case stop =>
    rintro cd pre W ⟨p, x, R, e1, e2⟩ hh hK
    obtain ⟨rfl, ⟨y, hy, hf⟩, h3, h4⟩ := hh.out
    have HE : Hid (b = true) := Lib.hid (by
      rw [← HB.out, some_is, e1]
      rw [e2] at hy
      have hy2 : y ∈ p ++ x :: R := by
        rcases List.mem_append.1 hy with hy | hy
        · exact List.mem_append_left _ hy
        · obtain rfl : y = x := by simpa using hy
          simp
      exact List.any_eq_true.2 ⟨y, hy2, hf⟩)
    rw [hs3] at hK ⊢
    refine wpIn_wide.2 ?_
    have H3 := Lib.hid h3
    have H4 := Lib.hid h4
    clear e1 e2 hy hf h3 h4 hh
    go_wp2
    refine ⟨by simp, .inl ⟨_, _, rfl, run_takeDeferred hK, ?_⟩⟩
    have hbp := below_putObj (B := w.heap.size + 3) (l := w.heap.size + 3) W (.deferred none) (Nat.le_refl _)
    have g0 := (H3.out.below hbp (by omega)).cell
    refine ⟨.bool true, by simp [results, Try.results127, go_sem, g0], ret_bool HE.out.symm, H4.out.trans (hbp.mono (by omega))⟩

set_option maxRecDepth 100000 in
set_option maxHeartbeats 8000000 in
theorem surelyFrees_any (c r v t : Nat) (hc : c ≤ 8) (hr : r ≤ 20) (hv : v < 256) (ht : t ≤ 4) (w : World) (b : Bool) (hb : everyAt (freeAt (fun d => v.testBit d) (t : Int)) (c : Int) (r + 1) = b) :
    Calls Try.prog 163 #[.agg #[.int .i64 (c : Int), .int .i64 (r : Int)], .agg #[.int .u8 (v : Int), .int .i64 (t : Int)]] w fun e w' => e = .returned (.bool b) ∧ Below w.heap.size w w' := by
  refine (callsIn_wide (n := 9)).1 ?_
  refine callsIn_of_wp_marks Try.func163 rfl trivial ?_ rfl
  refine wpIn_wide.2 ?_
  simp only [Try.ntmps163, List.size_toArray, List.length_cons, List.length_nil, Nat.reduceAdd, Nat.reduceSub, Array.replicate_succ, Array.replicate_zero, List.push_toArray, List.append_toArray, List.nil_append, List.cons_append]
  have b0 := (((Below.refl w.heap.size w).alloc (Nat.le_refl _) (.cells #[.int .i64 (c : Int), .int .i64 (r : Int)] 137)).alloc (by simp) (.cells #[.int .u8 (v : Int), .int .i64 (t : Int)] 135)).alloc (by simp; omega) (.cells #[.bool false] 4)
  have X0 := ((Cell2.new w 137 (.int .i64 (c : Int)) (.int .i64 (r : Int))).alloc (.cells #[.int .u8 (v : Int), .int .i64 (t : Int)] 135)).alloc (.cells #[.bool false] 4)
  have Y0 := (Cell2.new (w.alloc (.cells #[.int .i64 (c : Int), .int .i64 (r : Int)] 137)) 135 (.int .u8 (v : Int)) (.int .i64 (t : Int))).alloc (.cells #[.bool false] 4)
  have Z0 := Cell1.new ((w.alloc (.cells #[.int .i64 (c : Int), .int .i64 (r : Int)] 137)).alloc (.cells #[.int .u8 (v : Int), .int .i64 (t : Int)] 135)) 4 (.bool false)
  simp only [World.size_alloc] at X0 Y0 Z0
  have HB := Lib.hid hb
  clear hb
  obtain ⟨q0, q1⟩ := X0.cells
  go_wp2_with fail
  clear q0 q1 X0
  have hs3 : (((w.alloc (.cells #[.int .i64 (c : Int), .int .i64 (r : Int)] 137)).alloc (.cells #[.int .u8 (v : Int), .int .i64 (t : Int)] 135)).alloc (.cells #[.bool false] 4)).heap.size = w.heap.size + 3 := by simp
  generalize (((w.alloc (.cells #[.int .i64 (c : Int), .int .i64 (r : Int)] 137)).alloc (.cells #[.int .u8 (v : Int), .int .i64 (t : Int)] 135)).alloc (.cells #[.bool false] 4)) = w3 at *
  refine (wpIn_wide (n := 9)).1 ?_
  refine wpIn_yieldI rfl (by omega) (gf := 156) (rb := #[.agg #[.int .i64 (c : Int), .int .i64 (r : Int)]]) (lb := #[]) rfl trivial (enters_of Try.func156 (by kernel_rfl) rfl) (places_yield c r hc hr 8 _) (Below.refl _ _) rfl
    (fun pre W => Hid (∀ x ∈ pre, freeAt (fun d => v.testBit d) (t : Int) ((x : Nat) : Int) = true) ∧ Cell2 W (w.heap.size + 1) 135 (.int .u8 (v : Int)) (.int .i64 (t : Int)) ∧ Cell1 W (w.heap.size + 1 + 1) 4 (.bool false) ∧ Below w.heap.size w W)
    (fun cd pre W => Hid (cd = .ret ∧ (∃ x ∈ pre, freeAt (fun d => v.testBit d) (t : Int) ((x : Nat) : Int) = false) ∧ Cell1 W (w.heap.size + 1 + 1) 4 (.bool false) ∧ Below w.heap.size w W))
    ?_ ?_ ?_ ⟨Lib.hid (fun x hx => by cases hx), Y0, Z0, b0⟩
    (fun u => { tmps := #[.agg #[.int .i64 (c : Int), .int .i64 (r : Int)], .agg #[.int .u8 (v : Int), .int .i64 (t : Int)], .pointer (some ⟨w.heap.size, 0, none⟩), .pointer (some ⟨w.heap.size + 1, 0, none⟩), .pointer (some ⟨w.heap.size + 1 + 1, 0, none⟩), u, .agg #[.int .i64 (c : Int), .int .i64 (r : Int)], .func (.func 156) #[.agg #[.int .i64 (c : Int), .int .i64 (r : Int)]] #[], u, undef, undef, undef, undef], defers := [] }) ?assign ?body ?done ?stop
  · rintro s A1 C1 ⟨h1, h2, h3, h4⟩ hb
    rw [hs3] at hb
    exact ⟨h1, h2.below hb (by omega), h3.below hb (by omega), h4.trans (hb.mono (by omega))⟩
  · intro pre W _
    trivial
  · rintro cd s A1 o h
    rw [hs3]
    have hb := below_putObj (B := w.heap.size + 3) (l := w.heap.size + 3 + 1) A1 o (by omega)
    obtain ⟨h0, h1, h2, h3⟩ := h.out
    exact Lib.hid ⟨h0, h1, h2.below hb (by omega), h3.trans (hb.mono (by omega))⟩
  case assign =>
    intro l v W K hK
    gi_wp2
    exact hK
  case body =>
    rintro l pre x u W ⟨h1, h2, h3, h4⟩ hM hsz rfl
    have hx : x < 101 := by
      obtain ⟨R, e⟩ := hM
      have := plT_mem (c := c) (k := r + 1) (x := x) (by rw [e]; simp)
      omega
    have H1 := Lib.hid h1
    obtain ⟨q0, q1⟩ := h2.cells
    clear hM
    rcases hf : freeAt (fun d => v.testBit d) (t : Int) (x : Int) with _ | _
    · have HF := Lib.hid hf
      gi_wp2_with fail
      refine ⟨trivial, (CallsIn.inRound l (callsIn_wide.2 (isFreeAt_any v (t : Int) (x : Int) _ hv (by omega) (by omega) (by omega) (by omega)))).mono ?_⟩
      rw [hf]
      rintro e w4 ⟨rfl, b4⟩
      have A4 := Lib.hid (Above.of_below (B := w3.heap.size) b4)
      have B4 := Lib.hid (below_trans' h4 b4)
      have Y4 := Lib.hid (h2.on b4)
      have Z4 := Lib.hid (h3.on b4)
      clear q0 q1 h2 h3 h4 b4 hf
      have fz := Z4.out.thawed
      have cz := Z4.out.cell
      have AZ := Lib.hid (A4.out.trans (Above.setCell (B := w3.heap.size) (p := ⟨w.heap.size + 1 + 1, 0, none⟩) w4 (.bool false) (by show w.heap.size + 1 + 1 < _; omega)))
      have BZ := Lib.hid (B4.out.setCell (p := ⟨w.heap.size + 1 + 1, 0, none⟩) (by show w.heap.size ≤ w.heap.size + 1 + 1; omega) (.bool false))
      have ZZ := Lib.hid (Z4.out.put (.bool false))
      gi_wp2
      exact ⟨AZ.out, Lib.hid ⟨rfl, ⟨x, by simp, HF.out⟩, ZZ.out, BZ.out⟩⟩
    · have HF := Lib.hid hf
      gi_wp2_with fail
      refine ⟨trivial, (CallsIn.inRound l (callsIn_wide.2 (isFreeAt_any v (t : Int) (x : Int) _ hv (by omega) (by omega) (by omega) (by omega)))).mono ?_⟩
      rw [hf]
      rintro e w4 ⟨rfl, b4⟩
      have A4 := Lib.hid (Above.of_below (B := w3.heap.size) b4)
      have B4 := Lib.hid (below_trans' h4 b4)
      have Y4 := Lib.hid (h2.on b4)
      have Z4 := Lib.hid (h3.on b4)
      clear q0 q1 h2 h3 h4 b4 hf
      gi_wp2
      exact ⟨A4.out, Lib.hid (fun y hy => by
        rcases List.mem_append.1 hy with hy | hy
        · exact H1.out.out y hy
        · obtain rfl : y = x := by simpa using hy
          exact HF.out), Y4.out, Z4.out, B4.out⟩
  case done =>
    rintro l W rfl ⟨h1, _, h3, h4⟩ hK
    have HE : Hid (b = true) := Lib.hid (by
      rw [← HB.out, every_is]
      refine List.all_eq_true.2 ?_
      exact h1.out)
    rw [hs3] at hK
    have HZ := Lib.hid (h4.setCell (p := ⟨w.heap.size + 1 + 1, 0, none⟩) (by show w.heap.size ≤ w.heap.size + 1 + 1; omega) (.bool true))
    have r0 := Lib.hid (h3.put (.bool true))
    have HK := Lib.hid ((KeepsOthers.setCell W ⟨w.heap.size + 1 + 1, 0, none⟩ (.bool true)).same (w.heap.size + 3) _ hK rfl)
    have c0 := h3.cell
    have f0 := h3.thawed
    rw [hs3]
    clear h1 h3 h4 hK
    go_wp2
    refine ⟨by simp, .inl ⟨_, _, rfl, run_takeDeferred HK.out, ?_⟩⟩
    have hbp := below_putObj (B := w.heap.size + 3) (l := w.heap.size + 3) (W.setCell ⟨w.heap.size + 1 + 1, 0, none⟩ (.bool true)) (.deferred none) (Nat.le_refl _)
    have e0 := (r0.out.below hbp (by omega)).cell
    refine ⟨.bool true, by simp [results, Try.results163, go_sem, e0], ret_bool HE.out.symm, HZ.out.trans (hbp.mono (by omega))⟩
  case stop =>
    rintro cd pre W ⟨p, x, R, e1, e2⟩ hh hK
    obtain ⟨rfl, ⟨y, hy, hf⟩, h3, h4⟩ := hh.out
    have HE : Hid (b = false) := Lib.hid (by
      rw [← HB.out, every_is, e1]
      rw [e2] at hy
      have hy2 : y ∈ p ++ x :: R := by
        rcases List.mem_append.1 hy with hy | hy
        · exact List.mem_append_left _ hy
        · obtain rfl : y = x := by simpa using hy
          simp
      exact List.all_eq_false.2 ⟨y, hy2, by simp only [hf]; exact Bool.false_ne_true⟩)
    rw [hs3] at hK ⊢
    refine wpIn_wide.2 ?_
    have H3 := Lib.hid h3
    have H4 := Lib.hid h4
    clear e1 e2 hy hf h3 h4 hh
    go_wp2
    refine ⟨by simp, .inl ⟨_, _, rfl, run_takeDeferred hK, ?_⟩⟩
    have hbp := below_putObj (B := w.heap.size + 3) (l := w.heap.size + 3) W (.deferred none) (Nat.le_refl _)
    have g0 := (H3.out.below hbp (by omega)).cell
    refine ⟨.bool false, by simp [results, Try.results163, go_sem, g0], ret_bool HE.out.symm, H4.out.trans (hbp.mono (by omega))⟩

end Go.Proofs.Ytbfnffecmglgfaa
