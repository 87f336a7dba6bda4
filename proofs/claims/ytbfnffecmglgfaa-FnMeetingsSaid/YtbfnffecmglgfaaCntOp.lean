/- CountOpeners of the program. -/
import Derived.Test.YtbfnffecmglgfaaLockC
import Derived.Test.YtbfnffecmglgfaaSCount
namespace Go.Proofs.Ytbfnffecmglgfaa
open Go Go.RowKit
attribute [local go_sem] Oper.semAt_some

def coV (m : Mk) (yss : List (List Int)) : Int := if lockB m yss then ((opAll m (setP yss)).length : Int) else 0
theorem co_no {m : Mk} {yss : List (List Int)} (h : lockB m yss = false) : coV m yss = 0 ∧ lkE m yss = 1 := by simp [coV, lkE, h]
theorem co_yes {m : Mk} {yss : List (List Int)} (h : lockB m yss = true) : coV m yss = (opAll m (setP yss)).length ∧ lkE m yss = 0 := by simp [coV, lkE, h]
theorem op_bits {m : Mk} {yss : List (List Int)} (h : lockB m yss = true) : opAll m (bitP (bitsOf yss)) = opAll m (setP yss) := by
  have : bitP (bitsOf yss) = setP yss := by funext i d; exact bitsOf_set h i d
  rw [this]
theorem op_count (m : Mk) (p : Nat → Nat → Bool) : (opAll m p).length ≤ (allKeys m).length := by
  rw [op_all]
  exact List.length_filter_le _ _

set_option maxRecDepth 100000 in
set_option maxHeartbeats 8000000 in
theorem countOpeners_any (m : Mk) (V : Option Addr) (n c : Nat) (yss : List (List Int)) (w : World) (h : Sets w w.heap.size V n yss) (hn : n + sizeL yss ≤ 1048576) :
    Calls Try.prog 30 #[.agg #[.int .i64 m.C, .int .i64 m.D, .int .i64 m.S, .int .i64 m.M, .int .i64 m.L], .agg #[.slice V n c]] w fun e w' => e = .returned (.tuple #[.int .i64 (coV m yss), .int .i64 (lkE m yss)]) ∧ Below w.heap.size w w' := by
  have c0 := ((Below.refl w.heap.size w).alloc (Nat.le_refl _) (.cells #[.int .i64 m.C, .int .i64 m.D, .int .i64 m.S, .int .i64 m.M, .int .i64 m.L] 25)).alloc (by simp) (.cells #[.slice V n c] 30)
  have hx := (Boxed.new w 25 m).alloc (.cells #[.slice V n c] 30)
  have k0 := Cell1.new (w.alloc (.cells #[.int .i64 m.C, .int .i64 m.D, .int .i64 m.S, .int .i64 m.M, .int .i64 m.L] 25)) 30 (.slice V n c)
  rw [World.size_alloc] at k0
  have hs := h.on c0
  have HN := Lib.hid hn
  clear h hn
  obtain ⟨q0, q1, q2, q3, q4⟩ := hx.cells
  have ck := k0.cell
  rcases hL : lockB m yss with _ | _
  · rw [(co_no hL).1, (co_no hL).2]
    go_enter Try.func30, Try.ntmps30
    go_wp2_with fail
    refine (isLock_any m _ _ _ yss _ hs HN.out).mono ?_
    rw [hL]
    rintro e w1 ⟨rfl, b1⟩
    have c1 := below_trans' c0 b1
    go_wp2
    go_ret2
    exact ⟨rfl, c1⟩
  rw [(co_yes hL).1, (co_yes hL).2]
  have HL := Lib.hid hL
  obtain ⟨hm, _⟩ := lockB_facts hL
  obtain ⟨m1, m2, m3, m4, m5, m6, m7, m8, m9, m10, m11⟩ := Mk.ok_true hm
  have HM := Lib.hid hm
  obtain ⟨vs, hvs⟩ : ∃ vs, bitsOf yss = vs := ⟨_, rfl⟩
  have HOP : Hid (opAll m (bitP vs) = opAll m (setP yss)) := Lib.hid (by rw [← hvs]; exact op_bits hL)
  have HV : Hid (∀ i, vs i < 256) := Lib.hid (by rw [← hvs]; exact bitsOf_lt hL)
  have HVS := Lib.hid hvs
  clear hm hvs hL
  refine (callsIn_wide (n := 9)).1 ?_
  refine callsIn_of_wp_marks Try.func30 rfl trivial ?_ rfl
  refine wpIn_wide.2 ?_
  simp only [Try.ntmps30, List.size_toArray, List.length_cons, List.length_nil, Nat.reduceAdd, Nat.reduceSub, Array.replicate_succ, Array.replicate_zero, List.push_toArray, List.append_toArray, List.nil_append, List.cons_append]
  go_wp2_with fail
  refine (isLock_any m _ _ _ yss _ hs HN.out).mono ?_
  rw [HL.out]
  rintro e w1 ⟨rfl, b1⟩
  have c1 := below_trans' c0 b1
  have x1 := (hx.on b1).alloc (.cells #[.int .i64 0] 2)
  have k1 := (k0.on b1).alloc (.cells #[.int .i64 0] 2)
  have s1 := (hs.on b1).on ((Below.refl _ _).alloc (Nat.le_refl _) (.cells #[.int .i64 0] 2))
  have n1 := Cell1.new w1 2 (.int .i64 0)
  have c2 := c1.alloc c1.size (.cells #[.int .i64 0] 2)
  have hz1 := c1.size
  clear q0 q1 q2 q3 q4 ck hx k0 hs b1 c0 c1
  obtain ⟨q0, q1, q2, q3, q4⟩ := x1.cells
  have ck := k1.cell
  go_wp2_with fail
  refine (inBits_any m _ _ _ yss _ s1 HL.out vs HVS.out).mono ?_
  rintro e w2 ⟨rfl, b2⟩
  have c3 := below_trans' c2 b2
  have n2 := n1.on b2
  have hz2 := n2.lt
  clear q0 q1 q2 q3 q4 ck x1 k1 s1 n1 b2 c2
  go_wp2_with fail
  have ki := n2.cell
  have kf := n2.thawed
  have hmax : (allKeys m).length ≤ 262144 := by
    have := Nat.le_trans (keys_count m4 m.C.toNat []) (pow8 (by omega))
    unfold allKeys
    omega
  have hop : (opAll m (bitP vs)).length ≤ 262144 := Nat.le_trans (op_count m _) hmax
  clear n2 hmax
  refine (wpIn_wide (n := 9)).1 ?_
  refine wpIn_lent rfl (by omega) (gf := 107) (rb := #[.agg #[.int .i64 m.C, .int .i64 m.D, .int .i64 m.S, .int .i64 m.M, .int .i64 m.L, .int .u8 (vs 0 : Nat), .int .u8 (vs 1 : Nat), .int .u8 (vs 2 : Nat), .int .u8 (vs 3 : Nat), .int .u8 (vs 4 : Nat), .int .u8 (vs 5 : Nat)]]) (lb := #[]) rfl trivial (enters_of Try.func107 (by kernel_rfl) rfl) (openers_lend m vs HV.out HM.out 8 _) (Below.refl _ _) rfl
    (fun pre W => (W.cell? ⟨w1.heap.size, 0, none⟩ = some (.int .i64 (pre.length : Int)) ∧ W.frozen? ⟨w1.heap.size, 0, none⟩ = false) ∧ Below w.heap.size w W)
    (fun _ _ _ => False)
    ?_ ?_ ⟨⟨ki, kf⟩, c3⟩
    (fun v => { tmps := #[.agg #[.int .i64 m.C, .int .i64 m.D, .int .i64 m.S, .int .i64 m.M, .int .i64 m.L], .agg #[.slice V n c], .pointer (some ⟨w.heap.size, 0, none⟩), .pointer (some ⟨w.heap.size + 1, 0, none⟩), .int .i64 0, .int .i64 0, .pointer (some ⟨w1.heap.size, 0, none⟩), .agg #[.int .i64 m.C, .int .i64 m.D, .int .i64 m.S, .int .i64 m.M, .int .i64 m.L], .agg #[.slice V n c], .bool true, .bool false, .agg #[.slice V n c], .agg #[.int .i64 m.C, .int .i64 m.D, .int .i64 m.S, .int .i64 m.M, .int .i64 m.L], .agg #[.int .i64 m.C, .int .i64 m.D, .int .i64 m.S, .int .i64 m.M, .int .i64 m.L, .int .u8 (vs 0 : Nat), .int .u8 (vs 1 : Nat), .int .u8 (vs 2 : Nat), .int .u8 (vs 3 : Nat), .int .u8 (vs 4 : Nat), .int .u8 (vs 5 : Nat)], .func (.func 107) #[.agg #[.int .i64 m.C, .int .i64 m.D, .int .i64 m.S, .int .i64 m.M, .int .i64 m.L, .int .u8 (vs 0 : Nat), .int .u8 (vs 1 : Nat), .int .u8 (vs 2 : Nat), .int .u8 (vs 3 : Nat), .int .u8 (vs 4 : Nat), .int .u8 (vs 5 : Nat)]] #[], v, undef, undef, undef], defers := [] }) ?assign ?body ?done ?stop
  · rintro s A1 C1 ⟨⟨h1, h2⟩, h5⟩ hb
    exact ⟨⟨(hb.cell (p := ⟨w1.heap.size, 0, none⟩) hz2).trans h1, (hb.frozen (p := ⟨w1.heap.size, 0, none⟩) hz2).trans h2⟩, h5.trans (hb.mono (by have := c3.size; exact this))⟩
  · rintro cd s A1 o h
    exact h
  case assign =>
    intro l v W K hK
    gi_wp2
    simp
    exact hK
  case body =>
    rintro l pre x v W ⟨⟨h1, h2⟩, h5⟩ hM hsz hL
    obtain ⟨a, rfl, hown⟩ := hL
    have hlen : pre.length < 262144 := by
      obtain ⟨R, e⟩ := hM
      have e2 := congrArg List.length e
      simp only [List.length_append, List.length_cons, List.length_nil] at e2
      omega
    have g1 : IntKind.i64.wrap ((pre.length : Int) + 1) = (pre.length : Int) + 1 := IntWalk.i64_in _ (by omega)
    have HB := Lib.hid h5
    have HC1 := Lib.hid h1
    have HF := Lib.hid h2
    clear h5 hown hM
    gi_wp2
    refine ⟨Above.setCell _ _ (by exact hz2), ⟨⟨?_, ?_⟩, ?_⟩⟩
    · rw [List.length_append]
      exact World.cell?_setCell_same _ _ _ HC1.out
    · rw [World.frozen?_setCell]; exact HF.out
    · exact HB.out.setCell (p := ⟨w1.heap.size, 0, none⟩) (by show w.heap.size ≤ w1.heap.size; omega) _
  case done =>
    rintro ys W rfl ⟨⟨hC, _⟩, hB⟩ hK
    have HB := Lib.hid hB
    clear hB
    go_wp2
    refine ⟨by simp, .inl ⟨_, _, rfl, run_takeDeferred hK, ?_⟩⟩
    refine ⟨_, results_tmp2 rfl _ _ _, ?_, HB.out.trans (below_putObj _ _ (by have := c3.size; omega))⟩
    show Ending.returned (.tuple #[.int .i64 ((opAll m (bitP vs)).length : Int), .int .i64 0]) = _
    rw [HOP.out]
  case stop =>
    rintro cd pre W _ hh _
    exact hh.elim

end Go.Proofs.Ytbfnffecmglgfaa
