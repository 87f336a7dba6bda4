/- CountExact and ExactBlank of the program. -/
import Derived.Test.YtiijkcebloefbaaDoorBlankY
namespace Go.Proofs.YtiijkcebloefbaaDoor
open Go Go.RowKit
attribute [local go_sem] Oper.semAt_some

set_option maxRecDepth 100000 in
set_option maxHeartbeats 8000000 in
theorem countExact_any (A : Option Addr) (n c : Nat) (xs : List Int) (A' : Option Addr) (n' c' : Nat) (ys : List Int) (w : World) (h : Ints w w.heap.size A n xs) (hn : n ≤ 1048576) (h' : Ints w w.heap.size A' n' ys) (hn' : n' ≤ 1048576) :
    Calls Tryd.prog 9 #[.slice A n c, .slice A' n' c'] w (GivesNum w (ceV xs ys) (ceE xs ys)) := by
  have HL := Lib.hid h.len
  rcases hx : exOk xs ys with _ | _
  · rw [(ce_no hx).1, (ce_no hx).2]
    go_enter Tryd.func9, Tryd.ntmps9
    go_wp2_with fail
    refine (choiceOf_no A n c xs A' n' c' ys _ h hn h' hn' hx).mono ?_
    rintro e w1 ⟨rfl, b1⟩
    go_wp2
    go_ret2
    exact ⟨rfl, b1.alloc b1.size _⟩
  rw [(ce_yes hx).1, (ce_yes hx).2]
  have hq : waysB xs = true := by unfold exOk at hx; rw [Bool.and_eq_true] at hx; exact hx.1
  have hr : riseB (n : Int) ys = true := by unfold exOk at hx; rw [Bool.and_eq_true, HL.out] at hx; exact hx.2
  have HA := Lib.hid (waysB_true hq).2
  have hn8 : n ≤ 8 := by have := (waysB_true hq).1; rw [HL.out] at this; exact this
  have HEX : Hid ((exI xs ys 4096).length = (exT xs (fOf ys) 4096).length) := Lib.hid (by rw [exT_is HL.out hr, List.length_map])
  have HX := Lib.hid hx
  clear hq hr hx
  refine (callsIn_wide (n := 9)).1 ?_
  refine callsIn_of_wp_marks Tryd.func9 rfl trivial ?_ rfl
  refine wpIn_wide.2 ?_
  simp only [Tryd.ntmps9, List.size_toArray, List.length_cons, List.length_nil, Nat.reduceAdd, Nat.reduceSub, Array.replicate_succ, Array.replicate_zero, List.push_toArray, List.append_toArray, List.nil_append, List.cons_append]
  go_wp2_with fail
  refine (choiceOf_yes A n c xs A' n' c' ys _ h hn h' hn' HX.out).mono ?_
  rintro e w1 ⟨g, rfl, hg, hrow, b1⟩
  generalize fOf ys = f at *
  have hbx := WBox.new w1 47 (some ⟨g, 0, none⟩) n n f
  obtain ⟨c0, c1, c2, c3, c4, c5, c6, c7, c8⟩ := (hbx.alloc (.cells #[.int .i64 0] 2)).cells
  have hg1 := hrow.lt
  have hrow2 := (hrow.alloc (.cells #[.slice (some ⟨g, 0, none⟩) n n, .bool (f 0), .bool (f 1), .bool (f 2), .bool (f 3), .bool (f 4), .bool (f 5), .bool (f 6), .bool (f 7)] 47)).alloc (.cells #[.int .i64 0] 2)
  have hb2 := (b1.alloc b1.size (.cells #[.slice (some ⟨g, 0, none⟩) n n, .bool (f 0), .bool (f 1), .bool (f 2), .bool (f 3), .bool (f 4), .bool (f 5), .bool (f 6), .bool (f 7)] 47)).alloc (by have := b1.size; simp; omega) (.cells #[.int .i64 0] 2)
  have n2 := Cell1.new (w1.alloc (.cells #[.slice (some ⟨g, 0, none⟩) n n, .bool (f 0), .bool (f 1), .bool (f 2), .bool (f 3), .bool (f 4), .bool (f 5), .bool (f 6), .bool (f 7)] 47)) 2 (.int .i64 0)
  rw [World.size_alloc] at n2
  have ki := n2.cell
  have kf := n2.thawed
  have hz2 := n2.lt
  have hws := b1.size
  have HT := exT_len xs f 4096
  clear n2 hrow
  go_wp2_with fail
  clear c0 c1 c2 c3 c4 c5 c6 c7 c8 hbx
  refine (wpIn_wide (n := 9)).1 ?_
  refine wpIn_yield16 rfl (by omega) (gf := 25) (rb := #[.agg #[.slice (some ⟨g, 0, none⟩) n n, .bool (f 0), .bool (f 1), .bool (f 2), .bool (f 3), .bool (f 4), .bool (f 5), .bool (f 6), .bool (f 7)]]) (lb := #[]) rfl trivial (enters_of Tryd.func25 (by kernel_rfl) rfl) (blanks_yield g n xs f HL.out hn8 HA.out 8 _) (Below.refl _ _) rfl
    (fun pre W => (W.cell? ⟨w1.heap.size + 1, 0, none⟩ = some (.int .i64 (pre.length : Int)) ∧ W.frozen? ⟨w1.heap.size + 1, 0, none⟩ = false) ∧ Ways16 W g n xs ∧ Below w.heap.size w W)
    (fun _ _ _ => False)
    ?_ ?_ ?_ ⟨⟨ki, kf⟩, hrow2, hb2⟩
    (fun v => { tmps := #[.slice A n c, .slice A' n' c', undef, undef, .int .i64 0, .int .i64 0, .pointer (some ⟨w1.heap.size, 0, none⟩), .bool true, .pointer (some ⟨w1.heap.size + 1, 0, none⟩), .tuple #[.agg #[.slice (some ⟨g, 0, none⟩) n n, .bool (f 0), .bool (f 1), .bool (f 2), .bool (f 3), .bool (f 4), .bool (f 5), .bool (f 6), .bool (f 7)], .bool true], .slice A n c, .slice A' n' c', .tuple #[.agg #[.slice (some ⟨g, 0, none⟩) n n, .bool (f 0), .bool (f 1), .bool (f 2), .bool (f 3), .bool (f 4), .bool (f 5), .bool (f 6), .bool (f 7)], .bool true], .agg #[.slice (some ⟨g, 0, none⟩) n n, .bool (f 0), .bool (f 1), .bool (f 2), .bool (f 3), .bool (f 4), .bool (f 5), .bool (f 6), .bool (f 7)], .bool true, .bool true, .bool false, .agg #[.slice (some ⟨g, 0, none⟩) n n, .bool (f 0), .bool (f 1), .bool (f 2), .bool (f 3), .bool (f 4), .bool (f 5), .bool (f 6), .bool (f 7)], .func (.func 25) #[.agg #[.slice (some ⟨g, 0, none⟩) n n, .bool (f 0), .bool (f 1), .bool (f 2), .bool (f 3), .bool (f 4), .bool (f 5), .bool (f 6), .bool (f 7)]] #[], v, undef, undef, undef], defers := [] }) ?assign ?body ?done ?stop
  · rintro s A1 C1 ⟨⟨h1, h2⟩, h3, h5⟩ hb
    exact ⟨⟨(hb.cell (p := ⟨w1.heap.size + 1, 0, none⟩) hz2).trans h1, (hb.frozen (p := ⟨w1.heap.size + 1, 0, none⟩) hz2).trans h2⟩, h3.below hb (by have := hrow2.lt; exact this), h5.trans (hb.mono hb2.size)⟩
  · rintro pre W ⟨_, h3, _⟩
    exact h3
  · rintro cd s A1 o h
    exact h
  case assign =>
    intro l v W K hK
    gi_wp2
    simp
    exact hK
  case body =>
    rintro l pre x v W ⟨⟨h1, h2⟩, h3, h5⟩ hM hsz rfl
    have hlen : pre.length < 4096 := by
      obtain ⟨R, e⟩ := hM
      have e2 := congrArg List.length e
      simp only [List.length_append, List.length_cons, List.length_nil] at e2
      omega
    have g1 : IntKind.i64.wrap ((pre.length : Int) + 1) = (pre.length : Int) + 1 := IntWalk.i64_in _ (by omega)
    have HB := Lib.hid h5
    have HC1 := Lib.hid h1
    have HF := Lib.hid h2
    have H3 := Lib.hid h3
    clear h5 hM h3
    gi_wp2
    refine ⟨Above.setCell _ _ (by exact hz2), ⟨⟨?_, ?_⟩, ?_, ?_⟩⟩
    · rw [List.length_append]
      exact World.cell?_setCell_same _ _ _ HC1.out
    · rw [World.frozen?_setCell]; exact HF.out
    · exact World.rowIs.of_block H3.out (Below.heap_setCell W ⟨w1.heap.size + 1, 0, none⟩ _ g (by simp; omega))
    · exact HB.out.setCell (p := ⟨w1.heap.size + 1, 0, none⟩) (by show w.heap.size ≤ w1.heap.size + 1; omega) _
  case done =>
    rintro l W rfl ⟨⟨hC, _⟩, _, hB⟩ hK
    have HB := Lib.hid hB
    clear hB
    go_wp2
    refine ⟨by simp, .inl ⟨_, _, rfl, run_takeDeferred hK, ?_⟩⟩
    refine ⟨_, results_tmp2 rfl _ _ _, ?_, HB.out.trans (below_putObj _ _ (by have := hb2.size; omega))⟩
    show Ending.returned (.tuple #[.int .i64 ((exT xs f 4096).length : Int), .int .i64 0]) = _
    rw [HEX.out]
  case stop =>
    rintro cd pre W _ hh _
    exact hh.elim

end Go.Proofs.YtiijkcebloefbaaDoor
