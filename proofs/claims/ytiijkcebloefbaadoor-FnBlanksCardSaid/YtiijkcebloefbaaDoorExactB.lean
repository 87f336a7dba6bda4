/- ExactBlank of the program. -/
import Derived.Test.YtiijkcebloefbaaDoorBlankY
namespace Go.Proofs.YtiijkcebloefbaaDoor
open Go Go.RowKit
attribute [local go_sem] Oper.semAt_some

theorem exT_mem {xs : List Int} {f : Nat → Bool} {k x : Nat} (h : x ∈ exT xs f k) : x < k := by
  unfold exT at h
  exact List.mem_range.1 (List.mem_filter.1 h).1

set_option maxRecDepth 100000 in
set_option maxHeartbeats 8000000 in
theorem exactBlank_any (A : Option Addr) (n c : Nat) (xs : List Int) (A' : Option Addr) (n' c' : Nat) (ys : List Int) (w : World) (h : Ints w w.heap.size A n xs) (hn : n ≤ 1048576) (h' : Ints w w.heap.size A' n' ys) (hn' : n' ≤ 1048576) :
    Calls Tryd.prog 7 #[.slice A n c, .slice A' n' c'] w (GivesNum w (xbV xs ys) (xbE xs ys)) := by
  have HL := Lib.hid h.len
  have b0 := ((Below.refl w.heap.size w).alloc (Nat.le_refl _) (.cells #[.int .i64 0] 2)).alloc (by simp) (.cells #[.int .i64 0] 2)
  have h0 := h.on b0
  have h0' := h'.on b0
  have p0 := (Cell1.new w 2 (.int .i64 0)).alloc (.cells #[.int .i64 0] 2)
  have p1 := Cell1.new (w.alloc (.cells #[.int .i64 0] 2)) 2 (.int .i64 0)
  rw [World.size_alloc] at p1
  have HS : Hid (((w.alloc (.cells #[.int .i64 0] 2)).alloc (.cells #[.int .i64 0] 2)).heap.size = w.heap.size + 2) := Lib.hid (by simp)
  rcases hx : exOk xs ys with _ | _
  · rw [(xb_no hx).1, (xb_no hx).2]
    go_enter Tryd.func7, Tryd.ntmps7
    go_wp2_with fail
    refine (choiceOf_no A n c xs A' n' c' ys _ h0 hn h0' hn' hx).mono ?_
    rintro e w1 ⟨rfl, b1⟩
    have q0 := (p0.on b1).alloc (.cells #[.slice none 0 0, .bool false, .bool false, .bool false, .bool false, .bool false, .bool false, .bool false, .bool false] 47)
    have q1 := (p1.on b1).alloc (.cells #[.slice none 0 0, .bool false, .bool false, .bool false, .bool false, .bool false, .bool false, .bool false, .bool false] 47)
    have hb := (below_trans' b0 b1).alloc (below_trans' b0 b1).size (.cells #[.slice none 0 0, .bool false, .bool false, .bool false, .bool false, .bool false, .bool false, .bool false, .bool false] 47)
    have hb3 := Lib.hid ((hb.setCell (p := ⟨w.heap.size, 0, none⟩) (Nat.le_refl _) (.int .i64 0)).setCell (p := ⟨w.heap.size + 1, 0, none⟩) (by show w.heap.size ≤ w.heap.size + 1; omega) (.int .i64 2))
    have r0 := Lib.hid ((q0.put (.int .i64 0)).other (p := ⟨w.heap.size + 1, 0, none⟩) (by show w.heap.size ≠ w.heap.size + 1; omega) (.int .i64 2))
    have r1 := Lib.hid ((q1.other (p := ⟨w.heap.size, 0, none⟩) (by show w.heap.size + 1 ≠ w.heap.size; omega) (.int .i64 0)).put (.int .i64 2))
    have c0 := q0.cell
    have f0 := q0.thawed
    have c1 := (q1.other (p := ⟨w.heap.size, 0, none⟩) (by show w.heap.size + 1 ≠ w.heap.size; omega) (.int .i64 0)).cell
    have f1 := (q1.other (p := ⟨w.heap.size, 0, none⟩) (by show w.heap.size + 1 ≠ w.heap.size; omega) (.int .i64 0)).thawed
    clear q0 q1 hb b1 p0 p1 b0 h0 h0'
    go_wp2
    generalize hW : World.setCell _ (Addr.mk (w.heap.size + 1) 0 none) _ = Z at *
    clear hW
    have e0 := r0.out.cell
    have e1 := r1.out.cell
    exact bodyPost_ret (v := .tuple #[.int .i64 0, .int .i64 2]) (by simp [results, Tryd.results7, go_sem, e0, e1]) rfl ⟨rfl, hb3.out⟩
  have hq : waysB xs = true := by unfold exOk at hx; rw [Bool.and_eq_true] at hx; exact hx.1
  have hr : riseB (n : Int) ys = true := by unfold exOk at hx; rw [Bool.and_eq_true, HL.out] at hx; exact hx.2
  have HA := Lib.hid (waysB_true hq).2
  have hn8 : n ≤ 8 := by have := (waysB_true hq).1; rw [HL.out] at this; exact this
  have HEX : Hid (exI xs ys 4096 = (exT xs (fOf ys) 4096).map (fun (b : Nat) => (b : Int))) := Lib.hid (exT_is HL.out hr 4096)
  have HX := Lib.hid hx
  clear hq hr hx
  refine (callsIn_wide (n := 9)).1 ?_
  refine callsIn_of_wp_marks Tryd.func7 rfl trivial ?_ rfl
  refine wpIn_wide.2 ?_
  simp only [Tryd.ntmps7, List.size_toArray, List.length_cons, List.length_nil, Nat.reduceAdd, Nat.reduceSub, Array.replicate_succ, Array.replicate_zero, List.push_toArray, List.append_toArray, List.nil_append, List.cons_append]
  go_wp2_with fail
  refine (choiceOf_yes A n c xs A' n' c' ys _ h0 hn h0' hn' HX.out).mono ?_
  rintro e w1 ⟨g, rfl, hg, hrow, b1⟩
  rw [HS.out] at hg
  generalize fOf ys = f at *
  have hbx := WBox.new w1 47 (some ⟨g, 0, none⟩) n n f
  obtain ⟨c0, c1, c2, c3, c4, c5, c6, c7, c8⟩ := hbx.cells
  have hg1 := hrow.lt
  have hrow2 := hrow.alloc (.cells #[.slice (some ⟨g, 0, none⟩) n n, .bool (f 0), .bool (f 1), .bool (f 2), .bool (f 3), .bool (f 4), .bool (f 5), .bool (f 6), .bool (f 7)] 47)
  have bb := below_trans' b0 b1
  have hb2 := bb.alloc bb.size (.cells #[.slice (some ⟨g, 0, none⟩) n n, .bool (f 0), .bool (f 1), .bool (f 2), .bool (f 3), .bool (f 4), .bool (f 5), .bool (f 6), .bool (f 7)] 47)
  have q0 := (p0.on b1).alloc (.cells #[.slice (some ⟨g, 0, none⟩) n n, .bool (f 0), .bool (f 1), .bool (f 2), .bool (f 3), .bool (f 4), .bool (f 5), .bool (f 6), .bool (f 7)] 47)
  have q1 := (p1.on b1).alloc (.cells #[.slice (some ⟨g, 0, none⟩) n n, .bool (f 0), .bool (f 1), .bool (f 2), .bool (f 3), .bool (f 4), .bool (f 5), .bool (f 6), .bool (f 7)] 47)
  have hws : w.heap.size + 2 ≤ w1.heap.size := by have := b1.size; rw [HS.out] at this; exact this
  have hsz4 : (w1.alloc (.cells #[.slice (some ⟨g, 0, none⟩) n n, .bool (f 0), .bool (f 1), .bool (f 2), .bool (f 3), .bool (f 4), .bool (f 5), .bool (f 6), .bool (f 7)] 47)).heap.size = w1.heap.size + 1 := by simp
  clear hrow p0 p1 b0 b1 bb h0 h0' hbx
  go_wp2_with fail
  clear c0 c1 c2 c3 c4 c5 c6 c7 c8
  refine (wpIn_wide (n := 9)).1 ?_
  refine wpIn_yield16 rfl (by omega) (gf := 25) (rb := #[.agg #[.slice (some ⟨g, 0, none⟩) n n, .bool (f 0), .bool (f 1), .bool (f 2), .bool (f 3), .bool (f 4), .bool (f 5), .bool (f 6), .bool (f 7)]]) (lb := #[]) rfl trivial (enters_of Tryd.func25 (by kernel_rfl) rfl) (blanks_yield g n xs f HL.out hn8 HA.out 8 _) (Below.refl _ _) rfl
    (fun pre W => pre = [] ∧ Cell1 W w.heap.size 2 (.int .i64 0) ∧ Cell1 W (w.heap.size + 1) 2 (.int .i64 0) ∧ Ways16 W g n xs ∧ Below w.heap.size w W)
    (fun cd pre W => Hid (cd = .ret ∧ ∃ x : Nat, pre = [x] ∧ Cell1 W w.heap.size 2 (.int .i64 (x : Int)) ∧ Cell1 W (w.heap.size + 1) 2 (.int .i64 0) ∧ Below w.heap.size w W))
    ?_ ?_ ?_ ⟨rfl, q0, q1, hrow2, hb2⟩
    (fun v => { tmps := #[.slice A n c, .slice A' n' c', undef, undef, .pointer (some ⟨w.heap.size, 0, none⟩), .pointer (some ⟨w.heap.size + 1, 0, none⟩), .pointer (some ⟨w1.heap.size, 0, none⟩), .bool true, v, .tuple #[.agg #[.slice (some ⟨g, 0, none⟩) n n, .bool (f 0), .bool (f 1), .bool (f 2), .bool (f 3), .bool (f 4), .bool (f 5), .bool (f 6), .bool (f 7)], .bool true], .slice A n c, .slice A' n' c', .tuple #[.agg #[.slice (some ⟨g, 0, none⟩) n n, .bool (f 0), .bool (f 1), .bool (f 2), .bool (f 3), .bool (f 4), .bool (f 5), .bool (f 6), .bool (f 7)], .bool true], .agg #[.slice (some ⟨g, 0, none⟩) n n, .bool (f 0), .bool (f 1), .bool (f 2), .bool (f 3), .bool (f 4), .bool (f 5), .bool (f 6), .bool (f 7)], .bool true, .bool true, .bool false, .agg #[.slice (some ⟨g, 0, none⟩) n n, .bool (f 0), .bool (f 1), .bool (f 2), .bool (f 3), .bool (f 4), .bool (f 5), .bool (f 6), .bool (f 7)], .func (.func 25) #[.agg #[.slice (some ⟨g, 0, none⟩) n n, .bool (f 0), .bool (f 1), .bool (f 2), .bool (f 3), .bool (f 4), .bool (f 5), .bool (f 6), .bool (f 7)]] #[], v, undef, undef], defers := [] }) ?assign ?body ?done ?stop
  · rintro s A1 C1 ⟨h1, h2, h3, h4, h5⟩ hb
    rw [hsz4] at hb
    exact ⟨h1, h2.below hb (by omega), h3.below hb (by omega), h4.below hb (by omega), h5.trans (hb.mono (by omega))⟩
  · rintro pre W ⟨_, _, _, h4, _⟩
    exact h4
  · rintro cd s A1 o h
    rw [hsz4]
    have hb := below_putObj (B := w1.heap.size + 1) (l := w1.heap.size + 1 + 1) A1 o (by omega)
    obtain ⟨h0, x, h1, h2, h3, h4⟩ := h.out
    exact Lib.hid ⟨h0, x, h1, h2.below hb (by omega), h3.below hb (by omega), h4.trans (hb.mono (by omega))⟩
  case assign =>
    intro l v W K hK
    gi_wp2
    exact hK
  case body =>
    rintro l pre x v W ⟨rfl, h2, h3, h4, h5⟩ hM hsz rfl
    have hx4 : x < 4096 := by
      obtain ⟨R, e⟩ := hM
      exact exT_mem (f := f) (xs := xs) (by rw [e]; simp)
    have HB3 := Lib.hid ((h5.setCell (p := ⟨w.heap.size, 0, none⟩) (Nat.le_refl _) (.int .i64 (x : Int))).setCell (p := ⟨w.heap.size + 1, 0, none⟩) (by show w.heap.size ≤ w.heap.size + 1; omega) (.int .i64 0))
    have r0 := Lib.hid ((h2.put (.int .i64 (x : Int))).other (p := ⟨w.heap.size + 1, 0, none⟩) (by show w.heap.size ≠ w.heap.size + 1; omega) (.int .i64 0))
    have r1 := Lib.hid ((h3.other (p := ⟨w.heap.size, 0, none⟩) (by show w.heap.size + 1 ≠ w.heap.size; omega) (.int .i64 (x : Int))).put (.int .i64 0))
    have c0 := h2.cell
    have f0 := h2.thawed
    have c1 := (h3.other (p := ⟨w.heap.size, 0, none⟩) (by show w.heap.size + 1 ≠ w.heap.size; omega) (.int .i64 (x : Int))).cell
    have f1 := (h3.other (p := ⟨w.heap.size, 0, none⟩) (by show w.heap.size + 1 ≠ w.heap.size; omega) (.int .i64 (x : Int))).thawed
    have a1 := Lib.hid ((Above.setCell (B := w1.heap.size + 1) (p := ⟨w.heap.size, 0, none⟩) W (.int .i64 (x : Int)) (by show w.heap.size < _; omega)).trans (Above.setCell (B := w1.heap.size + 1) (p := ⟨w.heap.size + 1, 0, none⟩) _ (.int .i64 0) (by show w.heap.size + 1 < _; omega)))
    clear h2 h3 h4 h5 hM
    rw [hsz4]
    gi_wp2
    exact ⟨a1.out, Lib.hid ⟨rfl, x, rfl, r0.out, r1.out, HB3.out⟩⟩
  case done =>
    rintro l W rfl ⟨h1, h2, h3, _, h5⟩ hK
    have HN := Lib.hid (xb_none HX.out (by rw [HEX.out, h1]; rfl))
    rw [hsz4] at hK
    have HB3 := Lib.hid ((h5.setCell (p := ⟨w.heap.size, 0, none⟩) (Nat.le_refl _) (.int .i64 0)).setCell (p := ⟨w.heap.size + 1, 0, none⟩) (by show w.heap.size ≤ w.heap.size + 1; omega) (.int .i64 4))
    have r0 := Lib.hid ((h2.put (.int .i64 0)).other (p := ⟨w.heap.size + 1, 0, none⟩) (by show w.heap.size ≠ w.heap.size + 1; omega) (.int .i64 4))
    have r1 := Lib.hid ((h3.other (p := ⟨w.heap.size, 0, none⟩) (by show w.heap.size + 1 ≠ w.heap.size; omega) (.int .i64 0)).put (.int .i64 4))
    have HK := Lib.hid (((KeepsOthers.setCell W ⟨w.heap.size, 0, none⟩ (.int .i64 0)).trans (KeepsOthers.setCell _ ⟨w.heap.size + 1, 0, none⟩ (.int .i64 4))).same (w1.heap.size + 1) _ hK rfl)
    have c0 := h2.cell
    have f0 := h2.thawed
    have c1 := (h3.other (p := ⟨w.heap.size, 0, none⟩) (by show w.heap.size + 1 ≠ w.heap.size; omega) (.int .i64 0)).cell
    have f1 := (h3.other (p := ⟨w.heap.size, 0, none⟩) (by show w.heap.size + 1 ≠ w.heap.size; omega) (.int .i64 0)).thawed
    rw [hsz4]
    clear h1 h2 h3 h5 hK
    go_wp2
    refine ⟨by simp, .inl ⟨_, _, rfl, run_takeDeferred HK.out, ?_⟩⟩
    have hbp := below_putObj (B := w1.heap.size + 1) (l := w1.heap.size + 1) ((W.setCell ⟨w.heap.size, 0, none⟩ (.int .i64 0)).setCell ⟨w.heap.size + 1, 0, none⟩ (.int .i64 4)) (.deferred none) (Nat.le_refl _)
    have e0 := (r0.out.below hbp (by omega)).cell
    have e1 := (r1.out.below hbp (by omega)).cell
    refine ⟨.tuple #[.int .i64 0, .int .i64 4], by simp [results, Tryd.results7, go_sem, e0, e1], ret_int2 HN.out.1.symm HN.out.2.symm, HB3.out.trans (hbp.mono (by omega))⟩
  case stop =>
    rintro cd pre W ⟨p, x, R, e1, e2⟩ hh hK
    obtain ⟨rfl, x', e3, h2, h3, h4⟩ := hh.out
    have e4 : p = [] ∧ x = x' := by
      rw [e3] at e2
      cases p with
      | nil => simpa using e2.symm
      | cons a b => simp at e2
    obtain ⟨rfl, rfl⟩ := e4
    have HN := Lib.hid (xb_yes HX.out (v := (x : Int)) (l := R.map (fun (b : Nat) => (b : Int))) (by rw [HEX.out, e1]; rfl))
    rw [hsz4] at hK ⊢
    refine wpIn_wide.2 ?_
    have H2 := Lib.hid h2
    have H3 := Lib.hid h3
    have HB := Lib.hid h4
    clear e1 e2 e3 h2 h3 h4 hh
    go_wp2
    refine ⟨by simp, .inl ⟨_, _, rfl, run_takeDeferred hK, ?_⟩⟩
    have hbp := below_putObj (B := w1.heap.size + 1) (l := w1.heap.size + 1) W (.deferred none) (Nat.le_refl _)
    have g0 := (H2.out.below hbp (by omega)).cell
    have g1 := (H3.out.below hbp (by omega)).cell
    refine ⟨.tuple #[.int .i64 (x : Int), .int .i64 0], by simp [results, Tryd.results7, go_sem, g0, g1], ret_int2 HN.out.1.symm HN.out.2.symm, HB.out.trans (hbp.mono (by omega))⟩

end Go.Proofs.YtiijkcebloefbaaDoor
