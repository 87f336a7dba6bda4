/- KeysNear of the program. -/
import Derived.Test.YtlgaocjcfdfhmaaKeyAt
import Derived.Test.YtlgaocjcfdfhmaaSNear
namespace Go.Proofs.Ytlgaocjcfdfhmaa
open Go Go.RowKit
attribute [local go_sem] Oper.semAt_some

def knE (m : Mk) (xs : List Int) (z : Int) : Int := if ktE m xs = 0 then (if inB z 0 m.C then 0 else 2) else ktE m xs
def knV (m : Mk) (xs : List Int) (z : Int) : Int := if knE m xs z = 0 then (nearN m xs m.C.toNat [] z : Int) else 0
theorem kn_bad {m : Mk} {xs : List Int} {z : Int} (h : ktE m xs ≠ 0) : knE m xs z = ktE m xs ∧ knV m xs z = 0 := by
  have e : knE m xs z = ktE m xs := by unfold knE; rw [if_neg h]
  exact ⟨e, by unfold knV; rw [e, if_neg h]⟩
theorem kn_no {m : Mk} {xs : List Int} {z : Int} (h : ktE m xs = 0) (h2 : inB z 0 m.C = false) : knE m xs z = 2 ∧ knV m xs z = 0 := by
  have e : knE m xs z = 2 := by unfold knE; rw [if_pos h, h2]; rfl
  exact ⟨e, by unfold knV; rw [e, if_neg (by decide)]⟩
theorem kn_yes {m : Mk} {xs : List Int} {z : Int} (h : ktE m xs = 0) (h2 : inB z 0 m.C = true) : knE m xs z = 0 ∧ knV m xs z = (nearN m xs m.C.toNat [] z : Int) := by
  have e : knE m xs z = 0 := by unfold knE; rw [if_pos h, h2]; rfl
  exact ⟨e, by unfold knV; rw [e, if_pos rfl]⟩
theorem nearP_diff (xs y : List Int) (z : Int) : nearP xs 0 z y = decide (diffI xs y = z) := by
  unfold nearP restD diffI
  have : diffTo xs y 0 = 0 := rfl
  rw [this, Int.sub_zero]
def cntP (xs : List Int) (z : Int) (pre : List (List Int)) : Nat := (pre.filter (nearP xs 0 z)).length
theorem cntP_yes {xs y : List Int} {z : Int} {pre : List (List Int)} (h : diffI xs y = z) : cntP xs z (pre ++ [y]) = cntP xs z pre + 1 := by
  unfold cntP
  rw [filter_app, List.filter_cons_of_pos (by rw [nearP_diff]; exact decide_eq_true h)]; rfl
theorem cntP_no {xs y : List Int} {z : Int} {pre : List (List Int)} (h : ¬ diffI xs y = z) : cntP xs z (pre ++ [y]) = cntP xs z pre := by
  unfold cntP
  rw [filter_app, List.filter_cons_of_neg (by rw [nearP_diff]; simpa using h)]; rfl
theorem cntP_le (xs : List Int) (z : Int) (pre : List (List Int)) : cntP xs z pre ≤ pre.length := List.length_filter_le _ _
theorem among_len {m : Mk} {pre : List (List Int)} {x : List Int} (hm : m.ok = true) (h : Among m (pre ++ [x])) : pre.length < 262144 := by
  obtain ⟨R, e⟩ := h
  obtain ⟨m1, m2, m3, m4, _⟩ := Mk.ok_true hm
  have := Nat.le_trans (keys_count m4 m.C.toNat []) (pow8 (by omega))
  have e2 := congrArg List.length e
  simp only [List.length_append, List.length_cons, List.length_nil] at e2
  unfold allKeys at e2
  omega
theorem among_key {m : Mk} {pre : List (List Int)} {x : List Int} (hm : m.ok = true) (h : Among m (pre ++ [x])) : isKeyB m x = true := by
  obtain ⟨R, e⟩ := h
  exact all_are_keys hm (by rw [e]; simp)

set_option maxRecDepth 100000 in
set_option maxHeartbeats 4000000 in
theorem keysNear_any (m : Mk) (A : Option Addr) (n c : Nat) (xs : List Int) (z : Int) (w : World) (h : Ints w w.heap.size A n xs) (hn : n ≤ 1048576) :
    Calls Try.prog 33 #[.agg #[.int .i64 m.C, .int .i64 m.D, .int .i64 m.S, .int .i64 m.M, .int .i64 m.L], .slice A n c, .int .i64 z] w
      fun e w' => e = .returned (.tuple #[.int .i64 (knV m xs z), .int .i64 (knE m xs z)]) ∧ Below w.heap.size w w' := by
  obtain ⟨k0, k1, k2, k3, hs, b0⟩ := four w (.cells #[.int .i64 m.C, .int .i64 m.D, .int .i64 m.S, .int .i64 m.M, .int .i64 m.L] 25) (.cells #[.slice A n c] 26) (.cells #[.int .i64 z] 2) (.cells #[.slice A n c] 26)
  have hx : Boxed _ w.heap.size 25 m := k0
  obtain ⟨kc, _⟩ := cell_at k1
  obtain ⟨kz, _⟩ := cell_at k2
  have bb := (((Below.refl w.heap.size w).alloc (Nat.le_refl _) (.cells #[.int .i64 m.C, .int .i64 m.D, .int .i64 m.S, .int .i64 m.M, .int .i64 m.L] 25)).alloc (by simp) (.cells #[.slice A n c] 26)).alloc (by simp; omega) (.cells #[.int .i64 z] 2)
  have hl := Lists.one (c := c) 26 (h.on bb) hn
  simp only [World.size_alloc] at hl
  have kk := heap_alloc_new (w.alloc (.cells #[.int .i64 m.C, .int .i64 m.D, .int .i64 m.S, .int .i64 m.M, .int .i64 m.L] 25)) (.cells #[.slice A n c] 26)
  rw [World.size_alloc] at kk
  obtain ⟨gz, _⟩ := cell_at ((Below.heap_alloc _ (.cells #[.int .i64 z] 2) _ (heapLt kk)).trans kk)
  clear bb k0 k1 k2 k3 kk
  by_cases hz : ktE m xs = 0
  rotate_left
  · obtain ⟨e1, e2⟩ := kn_bad (z := z) hz
    rw [e1, e2]; clear e1 e2
    obtain ⟨v, hv⟩ : ∃ v, ktE m xs = v := ⟨_, rfl⟩
    rw [hv] at hz ⊢
    have HV := Lib.hid (show codeF m [xs] = v by rw [code_one]; exact hv)
    have hq : (v != 0) = true := by simpa using hz
    clear hz hv
    go_enter Try.func33, Try.ntmps33
    go_wp2_with fail
    refine (codeFor_any m _ 1 _ [xs] _ hl (by omega)).mono ?_
    rw [HV.out]
    rintro e w1 ⟨rfl, b3⟩
    have c1 := below_trans' b0 b3
    clear hl b0 b3 hx kc kz
    go_wp2
    go_ret2
    exact ⟨rfl, c1⟩
  obtain ⟨hm, hk⟩ := kt_key hz
  have HZ := Lib.hid (show codeF m [xs] = 0 by rw [code_one]; exact hz)
  obtain ⟨_, hlen, hdep, _⟩ := key_facts hk
  have hnC : n = m.C.toNat := by have := h.len; omega
  subst hnC
  have HM := Lib.hid (And.intro hm hk)
  obtain ⟨m1, m2, m3, m4, m5, m6, m7, m8, m9, m10, m11⟩ := Mk.ok_true hm
  rcases hin : inB z 0 m.C with _ | _
  · obtain ⟨e1, e2⟩ := kn_no hz hin
    rw [e1, e2]; clear e1 e2 hz hm hk hlen hdep
    go_enter Try.func33, Try.ntmps33
    go_wp2_with fail
    refine (codeFor_any m _ 1 _ [xs] _ hl (by omega)).mono ?_
    rw [HZ.out]
    rintro e w1 ⟨rfl, b3⟩
    have c1 := below_trans' b0 b3
    have x3 := hx.on b3
    have kz3 := (b3.cell (p := ⟨w.heap.size + 1 + 1, 0, none⟩) (by rw [hs]; show w.heap.size + 1 + 1 < _; omega)).trans kz
    obtain ⟨q0, q1, q2, q3, q4⟩ := x3.cells
    clear hl b0 b3 hx kc kz gz hs
    go_wp2_with fail
    clear q0 q1 q2 q3 q4 kz3
    refine (isWithin_at _ _ _ _ _ hin).mono ?_
    rintro e w' ⟨rfl, rfl⟩
    go_wp2
    go_ret2
    exact ⟨rfl, c1⟩
  obtain ⟨e1, e2⟩ := kn_yes hz hin
  rw [e1, e2]; clear e1 e2 hz hm hk hlen hdep
  refine (callsIn_wide (n := 9)).1 ?_
  refine callsIn_of_wp_marks Try.func33 rfl trivial ?_ rfl
  refine wpIn_wide.2 ?_
  simp only [Try.ntmps33, List.size_toArray, List.length_cons, List.length_nil, Nat.reduceAdd, Nat.reduceSub, Array.replicate_succ, Array.replicate_zero, List.push_toArray, List.append_toArray, List.nil_append, List.cons_append]
  go_wp2_with fail
  refine (codeFor_any m _ 1 _ [xs] _ hl (by omega)).mono ?_
  rw [HZ.out]
  rintro e w1 ⟨rfl, b3⟩
  have c1 := below_trans' b0 b3
  have hsz1 : w.heap.size + 4 ≤ w1.heap.size := by have := b3.size; rw [hs] at this; omega
  have x3 := hx.on b3
  have kz3 := (b3.cell (p := ⟨w.heap.size + 1 + 1, 0, none⟩) (by rw [hs]; show w.heap.size + 1 + 1 < _; omega)).trans kz
  have kc3 := (b3.cell (p := ⟨w.heap.size + 1, 0, none⟩) (by rw [hs]; show w.heap.size + 1 < _; omega)).trans kc
  obtain ⟨q0, q1, q2, q3, q4⟩ := x3.cells
  clear hl b0 b3 hx kc kz gz hs
  go_wp2_with fail
  refine (isWithin_at _ _ _ _ _ hin).mono ?_
  rintro e w' ⟨rfl, rfl⟩
  clear q0 q1 q2 q3 q4
  have x4 := x3.alloc (.cells #[.int .i64 0] 2)
  obtain ⟨q0, q1, q2, q3, q4⟩ := x4.cells
  go_wp2_with fail
  clear q0 q1 q2 q3 q4
  have hsz4 : (w1.alloc (.cells #[.int .i64 0] 2)).heap.size = w1.heap.size + 1 := World.size_alloc _ _
  have ki := cell_at (heap_alloc_new w1 (.cells #[.int .i64 0] 2))
  have bl := (Below.refl w1.heap.size w1).alloc (Nat.le_refl _) (.cells #[.int .i64 0] 2)
  have kc4 := (bl.cell (p := ⟨w.heap.size + 1, 0, none⟩) (by show w.heap.size + 1 < _; omega)).trans kc3
  have kz4 := (bl.cell (p := ⟨w.heap.size + 1 + 1, 0, none⟩) (by show w.heap.size + 1 + 1 < _; omega)).trans kz3
  have c4 := c1.alloc c1.size (.cells #[.int .i64 0] 2)
  refine (wpIn_wide (n := 9)).1 ?_
  refine wpIn_lent rfl (by omega) (gf := 51) (rb := #[.agg #[.int .i64 m.C, .int .i64 m.D, .int .i64 m.S, .int .i64 m.M, .int .i64 m.L]]) (lb := #[]) rfl trivial (enters_of Try.func51 (by kernel_rfl) rfl) (keys_lend m HM.out.1 8 _) (Below.refl _ _) rfl
    (fun pre W => (W.cell? ⟨w1.heap.size, 0, none⟩ = some (.int .i64 (cntP xs z pre : Int)) ∧ W.frozen? ⟨w1.heap.size, 0, none⟩ = false) ∧ W.cell? ⟨w.heap.size + 1, 0, none⟩ = some (.slice A m.C.toNat c) ∧ W.cell? ⟨w.heap.size + 1 + 1, 0, none⟩ = some (.int .i64 z) ∧ Below w.heap.size w W)
    (fun _ _ _ => False)
    ?_ ?_ ⟨⟨ki.1, ki.2⟩, kc4, kz4, c4⟩
    (fun v => { tmps := #[.agg #[.int .i64 m.C, .int .i64 m.D, .int .i64 m.S, .int .i64 m.M, .int .i64 m.L], .slice A m.C.toNat c, .int .i64 z, .pointer (some ⟨w.heap.size, 0, none⟩), .pointer (some ⟨w.heap.size + 1, 0, none⟩), .pointer (some ⟨w.heap.size + 1 + 1, 0, none⟩), .int .i64 0, .int .i64 0, .int .i64 0, .pointer (some ⟨w1.heap.size, 0, none⟩), v, .agg #[.int .i64 m.C, .int .i64 m.D, .int .i64 m.S, .int .i64 m.M, .int .i64 m.L], .slice A m.C.toNat c, .slice (some ⟨w.heap.size + 1 + 1 + 1, 0, none⟩) 1 1, .int .i64 0, .int .i64 0, .bool false, undef, .int .i64 z, .pointer (some ⟨w.heap.size, 0, none⟩), .int .i64 m.C, .bool true, .bool false, .agg #[.int .i64 m.C, .int .i64 m.D, .int .i64 m.S, .int .i64 m.M, .int .i64 m.L], .func (.func 51) #[.agg #[.int .i64 m.C, .int .i64 m.D, .int .i64 m.S, .int .i64 m.M, .int .i64 m.L]] #[], v, undef, undef, undef, undef, undef, undef, undef, undef], defers := [] }) ?assign ?body ?done ?stop
  · rintro s A1 C1 ⟨⟨h1, h2⟩, h3, h4, h5⟩ hb
    rw [hsz4] at hb
    exact ⟨⟨(hb.cell (p := ⟨w1.heap.size, 0, none⟩) (by simp)).trans h1, (hb.frozen (p := ⟨w1.heap.size, 0, none⟩) (by simp)).trans h2⟩, (hb.cell (p := ⟨w.heap.size + 1, 0, none⟩) (by show w.heap.size + 1 < _; omega)).trans h3, (hb.cell (p := ⟨w.heap.size + 1 + 1, 0, none⟩) (by show w.heap.size + 1 + 1 < _; omega)).trans h4, h5.trans (hb.mono (by omega))⟩
  · rintro cd s A1 o h
    exact h
  case assign =>
    intro l v W K hK
    gi_wp2
    exact hK
  case body =>
    rintro l pre x v W ⟨⟨h1, h2⟩, h3, h4, h5⟩ hM hsz hL
    rw [hsz4] at hsz hL ⊢
    obtain ⟨a, rfl, hown⟩ := hL
    have hlen := among_len HM.out.1 hM
    have hcl := cntP_le xs z pre
    have HI := Lib.hid ((h.below h5).more h5.size)
    have HXI := Lib.hid hown.ints
    have HB := Lib.hid h5
    have HC1 := Lib.hid h1
    have HC3 := Lib.hid h3
    have HC4 := Lib.hid h4
    have HF := Lib.hid h2
    have g1 : IntKind.i64.wrap ((cntP xs z pre : Int) + 1) = (cntP xs z pre : Int) + 1 := IntWalk.i64_in _ (by omega)
    have hmix : (Try.prog).follows .mixedOrders = true := by kernel_rfl
    clear h5 hown hM
    obtain ⟨u, hu⟩ : ∃ u, diffI xs x = u := ⟨_, rfl⟩
    by_cases hxe : u = z
    · have HE := Lib.hid (hu.trans hxe)
      have HU := Lib.hid hu
      have hd : (u == z) = true := by simpa using hxe
      clear hxe hu
      gi_wp2_with fail
      gi_region_with_o (first
        | (gi_at_call 64; refine (CallsIn.inRound l (callsIn_wide.2 (cutDifference_any _ _ _ _ _ xs x _ (ints_drewN HI.out 1) (ints_drewN HXI.out 1) hn))).mono ?_; rw [HU.out]; rintro e w2 ⟨rfl, q, rfl⟩)
        | (refine ⟨trivial, ?_⟩; gi_at_call 64; refine (CallsIn.inRound l (callsIn_wide.2 (cutDifference_any _ _ _ _ _ xs x _ (ints_drewN HI.out 1) (ints_drewN HXI.out 1) hn))).mono ?_; rw [HU.out]; rintro e w2 ⟨rfl, q, rfl⟩))
      all_goals
        gi_wp2
        refine ⟨(Above.drewN _ _ _).trans (Above.setCell _ _ (by simp)), ⟨⟨?_, ?_⟩, ?_, ?_, ?_⟩⟩
        · rw [cntP_yes HE.out]
          exact World.cell?_setCell_same _ _ _ HC1.out
        · rw [World.frozen?_setCell]; exact HF.out
        · exact (World.cell?_setCell_other _ _ _ _ (by intro e; have := congrArg Addr.block e; simp at this; omega)).trans HC3.out
        · exact (World.cell?_setCell_other _ _ _ _ (by intro e; have := congrArg Addr.block e; simp at this; omega)).trans HC4.out
        · exact (below_drewN HB.out _).setCell (p := ⟨w1.heap.size, 0, none⟩) (by show w.heap.size ≤ w1.heap.size; omega) _
    · have HE := Lib.hid (show ¬ diffI xs x = z by rw [hu]; exact hxe)
      have HU := Lib.hid hu
      have hd : (u == z) = false := by simpa using hxe
      clear hxe hu
      gi_wp2_with fail
      gi_region_with_o (first
        | (gi_at_call 64; refine (CallsIn.inRound l (callsIn_wide.2 (cutDifference_any _ _ _ _ _ xs x _ (ints_drewN HI.out 1) (ints_drewN HXI.out 1) hn))).mono ?_; rw [HU.out]; rintro e w2 ⟨rfl, q, rfl⟩)
        | (refine ⟨trivial, ?_⟩; gi_at_call 64; refine (CallsIn.inRound l (callsIn_wide.2 (cutDifference_any _ _ _ _ _ xs x _ (ints_drewN HI.out 1) (ints_drewN HXI.out 1) hn))).mono ?_; rw [HU.out]; rintro e w2 ⟨rfl, q, rfl⟩))
      all_goals
        gi_wp2
        exact ⟨Above.drewN _ _ _, ⟨⟨by rw [cntP_no HE.out]; exact HC1.out, HF.out⟩, HC3.out, HC4.out, below_drewN HB.out _⟩⟩
  case done =>
    rintro ys W rfl ⟨⟨hC, _⟩, _, _, hB⟩ hK
    have HE : Hid (cntP xs z (allKeys m) = nearN m xs m.C.toNat [] z) := Lib.hid rfl
    have HB := Lib.hid hB
    rw [hsz4] at hK ⊢
    clear hB
    go_wp2
    refine ⟨by simp, .inl ⟨_, _, rfl, run_takeDeferred hK, ?_⟩⟩
    refine ⟨_, results_tmp2 rfl _ _ _, ?_, HB.out.trans (below_putObj _ _ (by omega))⟩
    show Ending.returned (.tuple #[.int .i64 (cntP xs z (allKeys m) : Int), .int .i64 0]) = _
    rw [HE.out]
  case stop =>
    rintro cd pre W _ hh _
    exact hh.elim

theorem specKeysNear_any (m : Mk) (A : Option Addr) (n c : Nat) (xs : List Int) (z : Int) (w : World) (h : Ints w w.heap.size A n xs) (hn : n ≤ 1048576) (hc : n ≤ c) (hcm : c ≤ 9223372036854775807) :
    Calls Try.prog 34 #[.agg #[.int .i64 m.C, .int .i64 m.D, .int .i64 m.S, .int .i64 m.M, .int .i64 m.L], .slice A n c, .int .i64 z] w
      fun e w' => e = .returned (.tuple #[.int .i64 (knV m xs z), .int .i64 (knE m xs z)]) ∧ Below w.heap.size w w' := by
  have b0 := (Below.refl w.heap.size w).alloc (Nat.le_refl _) (.cells #[.int .i64 m.C, .int .i64 m.D, .int .i64 m.S, .int .i64 m.M, .int .i64 m.L] 25)
  have hx := Boxed.new w 25 m
  by_cases hz : ktE m xs = 0
  rotate_left
  · obtain ⟨e1, e2⟩ := kn_bad (z := z) hz
    rw [e1, e2]; clear e1 e2
    obtain ⟨v, hv⟩ : ∃ v, ktE m xs = v := ⟨_, rfl⟩
    rw [hv] at hz ⊢
    have HV := Lib.hid hv
    have hq : (v != 0) = true := by simpa using hz
    have hq2 : (v == 0) = false := by simpa using hz
    clear hz hv
    go_enter Try.func34, Try.ntmps34
    go_wp2_with fail
    refine (l02Code_any m A n c xs _ (h.on b0) hn hc hcm).mono ?_
    rw [HV.out]
    rintro e w1 ⟨rfl, b1⟩
    have c1 := below_trans' b0 b1
    clear b0 b1 hx
    go_wp2
    go_ret2
    exact ⟨rfl, c1⟩
  obtain ⟨hm, hk⟩ := kt_key hz
  have HZ := Lib.hid hz
  have HK := Lib.hid hk
  obtain ⟨_, hlen, hdep, _⟩ := key_facts hk
  have hnC : (n : Int) = m.C := by rw [← h.len]; exact hlen
  obtain ⟨m1, m2, m3, m4, m5, m6, m7, m8, m9, m10, m11⟩ := Mk.ok_true hm
  have HM := Lib.hid hm
  have HC := Lib.hid hnC
  rcases hin : inB z 0 m.C with _ | _
  · obtain ⟨e1, e2⟩ := kn_no hz hin
    rw [e1, e2]; clear e1 e2 hz hm hk hlen hdep
    go_enter Try.func34, Try.ntmps34
    go_wp2_with fail
    refine (l02Code_any m A n c xs _ (h.on b0) hn hc hcm).mono ?_
    rw [HZ.out]
    rintro e w1 ⟨rfl, b1⟩
    have c1 := below_trans' b0 b1
    have x1 := hx.on b1
    obtain ⟨q0, q1, q2, q3, q4⟩ := x1.cells
    clear b0 b1 hx x1
    go_wp2_with fail
    clear q0 q1 q2 q3 q4
    refine (l01In_at _ _ _ _ _ hin).mono ?_
    rintro e w' ⟨rfl, rfl⟩
    go_wp2
    go_ret2
    exact ⟨rfl, c1⟩
  obtain ⟨e1, e2⟩ := kn_yes hz hin
  rw [e1, e2]; clear e1 e2 hz hm hk hlen hdep
  obtain ⟨z0, z1⟩ := inB_true.1 hin
  have HNA := Lib.hid (l03Near_any m HM.out xs A n c HC.out n)
  go_enter Try.func34, Try.ntmps34
  go_wp2_with fail
  refine (l02Code_any m A n c xs _ (h.on b0) hn hc hcm).mono ?_
  rw [HZ.out]
  rintro e w1 ⟨rfl, b1⟩
  have c1 := below_trans' b0 b1
  have x1 := hx.on b1
  obtain ⟨q0, q1, q2, q3, q4⟩ := x1.cells
  clear b0 b1 hx
  go_wp2_with fail
  refine (l01In_at _ _ _ _ _ hin).mono ?_
  rintro e w' ⟨rfl, rfl⟩
  go_wp2_with fail
  clear q0 q1 q2 q3 q4
  refine (HNA.out none 0 0 [] z _ (by omega) (h.on c1) ⟨rfl, fun h => absurd h (by omega)⟩ (by omega) (by omega) (fun _ => by simp) rfl (by omega) (by omega)).mono ?_
  rintro e w2 ⟨rfl, b2⟩
  have c2 := below_trans' c1 b2
  have HE : Hid (nearN m xs n [] z = nearN m xs m.C.toNat [] z) := Lib.hid (by rw [show n = m.C.toNat by have := HC.out; omega])
  clear x1
  go_wp2
  go_ret2
  exact ⟨by rw [← HE.out]; rfl, c2⟩

end Go.Proofs.Ytlgaocjcfdfhmaa
