/- PinsOf of the program and of the model. -/
import Derived.Test.YtjoknbknhfnggaaStrip
namespace Go.Proofs.Ytjoknbknhfnggaa
open Go Go.RowKit

def poE (m : Mk) (yss : List (List Int)) : Int := if lockB m yss then 0 else 1
def poL (m : Mk) (yss : List (List Int)) : List (List Int) := if lockB m yss then yss.map (stk m.D) else []
theorem po_no {m : Mk} {yss : List (List Int)} (h : lockB m yss = false) : poE m yss = 1 ∧ poL m yss = [] := by simp [poE, poL, h]
theorem po_yes {m : Mk} {yss : List (List Int)} (h : lockB m yss = true) : poE m yss = 0 ∧ poL m yss = yss.map (stk m.D) := by simp [poE, poL, h]
theorem rise_few' {D : Int} (hD : 0 ≤ D) {s : List Int} (h : riseB D s = true) : s.length ≤ D.toNat := by
  have e := congrArg List.length (rise_set hD h)
  unfold setOf at e
  rw [List.length_map] at e
  have := List.length_filter_le (fun d : Nat => s.any (fun v => decide (v = (d : Int)))) (List.range D.toNat)
  rw [List.length_range] at this
  omega

/-- what a call answers that gives stacks and a code -/
def GivesStripE (w : World) (code : Int) (zss : List (List Int)) (e : Ending) (w' : World) : Prop :=
  ∃ V n c bs g0, e = .returned (.tuple #[.slice V n c, .int .i64 code]) ∧ Strip w' w.heap.size g0 V n bs zss zss ∧ n ≤ c ∧ c ≤ 9223372036854775807 ∧ Below w.heap.size w w'
/-- what a call answers that gives lists and a code -/
def GivesListsE (w : World) (code : Int) (zss : List (List Int)) (e : Ending) (w' : World) : Prop :=
  ∃ V n c, e = .returned (.tuple #[.slice V n c, .int .i64 code]) ∧ Sets w' w'.heap.size V n zss ∧ n ≤ c ∧ c ≤ 9223372036854775807 ∧ Below w.heap.size w w'

set_option maxRecDepth 100000 in
set_option maxHeartbeats 4000000 in
theorem pinsOf_any (m : Mk) (V : Option Addr) (n c : Nat) (yss : List (List Int)) (w : World) (h : Sets w w.heap.size V n yss) (hn : n + sizeL yss ≤ 1048576) :
    Calls Try.prog 49 #[.agg #[.int .i64 m.C, .int .i64 m.D, .int .i64 m.S, .int .i64 m.M, .int .i64 m.L], .agg #[.slice V n c]] w (GivesStripE w (poE m yss) (poL m yss)) := by
  have c0 := ((Below.refl w.heap.size w).alloc (Nat.le_refl _) (.cells #[.int .i64 m.C, .int .i64 m.D, .int .i64 m.S, .int .i64 m.M, .int .i64 m.L] 25)).alloc (by simp) (.cells #[.slice V n c] 30)
  have hx := (Boxed.new w 25 m).alloc (.cells #[.slice V n c] 30)
  have k0 := Cell1.new (w.alloc (.cells #[.int .i64 m.C, .int .i64 m.D, .int .i64 m.S, .int .i64 m.M, .int .i64 m.L] 25)) 30 (.slice V n c)
  simp only [World.size_alloc] at k0
  have hs := h.on c0
  have HN := Lib.hid hn
  have HLN := Lib.hid h.len
  have HS := Lib.hid h
  clear h hn
  obtain ⟨q0, q1, q2, q3, q4⟩ := hx.cells
  have ck := k0.cell
  rcases hL : lockB m yss with _ | _
  · rw [(po_no hL).1, (po_no hL).2]
    have HL := Lib.hid hL
    clear hL
    go_enter Try.func49, Try.ntmps49
    go_wp2_with fail
    refine (isLock_any m _ _ _ yss _ hs HN.out).mono ?_
    rw [HL.out]
    rintro e w1 ⟨rfl, b1⟩
    have c1 := below_trans' c0 b1
    clear q0 q1 q2 q3 q4 ck
    go_wp2
    go_ret2
    exact ⟨none, 0, 0, [], 0, rfl, ⟨rfl, rfl, rfl, c1.size, fun h => absurd h (by omega), fun j ys zs h _ => by simp at h, fun j b ys h _ => by simp at h, fun j b zs h _ => by simp at h⟩, Nat.le_refl _, by omega, c1⟩
  rw [(po_yes hL).1, (po_yes hL).2]
  have HL := Lib.hid hL
  obtain ⟨hm, hCn, hfs⟩ := lockB_facts hL
  obtain ⟨m1, m2, m3, m4, _⟩ := Mk.ok_true hm
  have hn6 : n ≤ 6 := by have := HLN.out; omega
  have H7 : Hid (∀ ys ∈ yss, allIn 0 7 ys = true ∧ ys.length ≤ 8) := Lib.hid (fun ys hy => by
    obtain ⟨k, hk⟩ := List.getElem?_of_mem hy
    have hr := (hfs k ys hk).2
    exact ⟨rise_seven hr m4, by have := rise_few' (by omega) hr; omega⟩)
  clear hL hm hCn hfs
  go_enter Try.func49, Try.ntmps49
  go_wp2_with fail
  refine (isLock_any m _ _ _ yss _ hs HN.out).mono ?_
  rw [HL.out]
  rintro e w1 ⟨rfl, b1⟩
  have c1 := below_trans' c0 b1
  have x1 := hx.on b1
  have k1 := k0.on b1
  have s1 := HS.out.on c1
  clear q0 q1 q2 q3 q4 ck hs b1 hx k0 c0
  obtain ⟨q0, q1, q2, q3, q4⟩ := x1.cells
  have ck := k1.cell
  go_wp2_with fail
  refine (stacksW_any m V n c yss _ s1 hn6 m3 m4 H7.out).mono ?_
  rintro e w3 ⟨g0, gs, pv, qq, rfl, hg0, hst, hof, b3⟩
  have S3 := Lib.hid (hst.strip hof (by rw [List.length_map, HLN.out]) (show w.heap.size ≤ g0 by have := c1.size; omega) (by omega))
  have B3 := Lib.hid (below_trans' c1 b3)
  clear hst hof b3 q0 q1 q2 q3 q4 ck hg0
  go_wp2
  go_ret2
  exact ⟨_, n, n, _, g0, rfl, S3.out, Nat.le_refl _, by omega, B3.out⟩

set_option maxRecDepth 100000 in
set_option maxHeartbeats 4000000 in
theorem specPinsOf_any (m : Mk) (V : Option Addr) (n c : Nat) (yss : List (List Int)) (w : World) (h : Sets w w.heap.size V n yss) (hn : n + sizeL yss ≤ 1048576) :
    Calls Try.prog 46 #[.agg #[.int .i64 m.C, .int .i64 m.D, .int .i64 m.S, .int .i64 m.M, .int .i64 m.L], .agg #[.slice V n c]] w (GivesListsE w (poE m yss) (poL m yss)) := by
  have c0 := ((Below.refl w.heap.size w).alloc (Nat.le_refl _) (.cells #[.int .i64 m.C, .int .i64 m.D, .int .i64 m.S, .int .i64 m.M, .int .i64 m.L] 25)).alloc (by simp) (.cells #[.slice V n c] 30)
  have hx := (Boxed.new w 25 m).alloc (.cells #[.slice V n c] 30)
  have k0 := Cell1.new (w.alloc (.cells #[.int .i64 m.C, .int .i64 m.D, .int .i64 m.S, .int .i64 m.M, .int .i64 m.L] 25)) 30 (.slice V n c)
  simp only [World.size_alloc] at k0
  have hs := h.on c0
  have HN := Lib.hid hn
  have HLN := Lib.hid h.len
  have HS := Lib.hid h
  clear h hn
  obtain ⟨q0, q1, q2, q3, q4⟩ := hx.cells
  have ck := k0.cell
  rcases hL : lockB m yss with _ | _
  · rw [(po_no hL).1, (po_no hL).2]
    have HL := Lib.hid hL
    clear hL
    go_enter Try.func46, Try.ntmps46
    go_wp2_with fail
    refine (specIsLock_any m _ _ _ yss _ hs HN.out).mono ?_
    rw [HL.out]
    rintro e w1 ⟨rfl, b1⟩
    have c1 := below_trans' c0 b1
    clear q0 q1 q2 q3 q4 ck
    go_wp2
    go_ret2
    exact ⟨none, 0, 0, rfl, Sets.nil none, Nat.le_refl _, by omega, c1⟩
  rw [(po_yes hL).1, (po_yes hL).2]
  have HL := Lib.hid hL
  obtain ⟨hm, hCn, hfs⟩ := lockB_facts hL
  obtain ⟨m1, m2, m3, m4, _⟩ := Mk.ok_true hm
  have hn6 : n ≤ 6 := by have := HLN.out; omega
  have H7 : Hid (∀ (k : Nat) (ys : List Int), yss[k]? = some ys → ys.length ≠ 0 ∧ allIn 0 7 ys = true) := Lib.hid (fun k ys hy => ⟨(hfs k ys hy).1, rise_seven (hfs k ys hy).2 m4⟩)
  clear hL hm hCn hfs
  go_enter Try.func46, Try.ntmps46
  go_wp2_with fail
  refine (specIsLock_any m _ _ _ yss _ hs HN.out).mono ?_
  rw [HL.out]
  rintro e w1 ⟨rfl, b1⟩
  have c1 := below_trans' c0 b1
  have x1 := hx.on b1
  have k1 := k0.on b1
  have s1 := HS.out.on c1
  clear q0 q1 q2 q3 q4 ck hs b1 hx k0 c0
  obtain ⟨q0, q1, q2, q3, q4⟩ := x1.cells
  have ck := k1.cell
  go_wp2_with fail
  refine (l05Pins_any m _ _ _ yss _ s1 HN.out H7.out m3 m4).mono ?_
  rintro e w3 ⟨V3, n3, c3, rfl, S3', hc3, hm3, b3⟩
  have S3 := Lib.hid S3'
  have B3 := Lib.hid (below_trans' c1 b3)
  clear S3' b3 q0 q1 q2 q3 q4 ck
  go_wp2
  go_ret2
  exact ⟨_, _, _, rfl, S3.out, hc3, hm3, B3.out⟩

end Go.Proofs.Ytjoknbknhfnggaa
