/- NearestKey of the program. -/
import Derived.Test.YtbadahnhlehidaaNear
import Derived.Test.YtbadahnhlehidaaKeyMore
import Derived.Laws.CopyOwn
namespace Go.Proofs.Ytbadahnhlehidaa
open Go Go.RowKit
attribute [local go_sem] Oper.semAt_some

/-- the nearest key so far, and the next one -/
def better (key : List Int) (b : Option (List Int)) (y : List Int) : Bool :=
  decide (y ≠ key) && (match b with | none => true | some z => decide (distI key y < distI key z))
def nearStep (key : List Int) (b : Option (List Int)) (y : List Int) : Option (List Int) := if better key b y then some y else b
def nearest (m : Mk) (key : List Int) : Option (List Int) := (allKeys m).foldl (nearStep key) none
def leastOf (m : Mk) (key : List Int) : Option (List Int) → Int
  | none => m.C * m.D
  | some z => distI key z
def nkL (m : Mk) (xs : List Int) : List Int := if ktE m xs = 0 then (nearest m xs).getD [] else []
theorem nk_yes {m : Mk} {xs z : List Int} (h : ktE m xs = 0) (h2 : nearest m xs = some z) : nkL m xs = z := by unfold nkL; rw [if_pos h, h2]; rfl
theorem nk_no {m : Mk} {xs : List Int} (h : ktE m xs ≠ 0) : nkL m xs = [] := by unfold nkL; rw [if_neg h]
theorem fold_some (key : List Int) : ∀ (l : List (List Int)) (z : List Int), ∃ z', l.foldl (nearStep key) (some z) = some z'
  | [], z => ⟨z, rfl⟩
  | y :: l, z => by
    rw [List.foldl_cons]
    unfold nearStep
    split
    · exact fold_some key l y
    · exact fold_some key l z
theorem fold_other (key : List Int) : ∀ (l : List (List Int)) (b : Option (List Int)) (y : List Int), y ∈ l → y ≠ key → ∃ z', l.foldl (nearStep key) b = some z'
  | a :: l, b, y, hy, hne => by
    rw [List.foldl_cons]
    rcases hb : nearStep key b a with _ | z
    · rcases List.mem_cons.1 hy with rfl | h
      · exfalso
        unfold nearStep better at hb
        rw [decide_eq_true hne] at hb
        cases b with
        | none => simp at hb
        | some z => simp only [Bool.true_and] at hb; split at hb <;> cases hb
      · exact fold_other key l none y h hne
    · exact fold_some key l z
theorem nearest_is {m : Mk} {xs : List Int} (h : isKeyB m xs = true) : ∃ z, nearest m xs = some z := by
  obtain ⟨y, h1, h2⟩ := other_key h
  exact fold_other xs _ none y h1 h2
theorem distTo_in' {D : Int} {xs ys : List Int} (hx : allIn 0 (D - 1) xs = true) (hy : allIn 0 (D - 1) ys = true) (hD : 1 ≤ D) : ∀ k : Nat, distTo xs ys k ≤ (D - 1) * k
  | 0 => by simp [distTo, sumN]
  | k + 1 => by
    have h := distTo_in' hx hy hD k
    have hg : ∀ {zs : List Int}, allIn 0 (D - 1) zs = true → 0 ≤ zs.getD k 0 ∧ zs.getD k 0 ≤ D - 1 := fun {zs} hz => by
      rw [List.getD_eq_getElem?_getD]
      rcases hv : zs[k]? with _ | v
      · simp; omega
      · exact allIn_at hz hv
    have h1 := hg hx
    have h2 := hg hy
    have e : distTo xs ys (k + 1) = distTo xs ys k + absI (xs.getD k 0 - ys.getD k 0) := rfl
    have h3 : absI (xs.getD k 0 - ys.getD k 0) ≤ D - 1 := by unfold absI; split <;> omega
    have e2 : (D - 1) * ((k + 1 : Nat) : Int) = (D - 1) * k + (D - 1) := by rw [Int.natCast_add, Int.mul_add]; simp
    omega
theorem dist_least {m : Mk} {xs ys : List Int} (hx : isKeyB m xs = true) (hy : isKeyB m ys = true) : distI xs ys < m.C * m.D := by
  obtain ⟨hm, h1, h2, _⟩ := key_facts hx
  obtain ⟨_, _, h3, _⟩ := key_facts hy
  obtain ⟨m1, m2, m3, m4, _⟩ := Mk.ok_true hm
  have h4 := distTo_in' h2 h3 (by omega) xs.length
  unfold distI
  rw [h1] at h4
  have e : (m.D - 1) * m.C = m.C * m.D - m.C := by rw [Int.sub_mul, Int.mul_comm, Int.one_mul]
  omega
theorem better_is {m : Mk} {xs x : List Int} {b : Option (List Int)} (hx : isKeyB m xs = true) (hy : isKeyB m x = true) :
    better xs b x = (decide (0 < distI xs x) && decide (distI xs x < leastOf m xs b)) := by
  obtain ⟨_, l1, _⟩ := key_facts hx
  obtain ⟨_, l2, _⟩ := key_facts hy
  have hl : xs.length = x.length := by omega
  have h0 := (distTo_in (key_seven hx) (key_seven hy) xs.length).1
  have e1 : decide (x ≠ xs) = decide (0 < distI xs x) := decide_eq_decide.2 ⟨fun h => by
      rcases Int.lt_or_eq_of_le h0 with h1 | h1
      · exact h1
      · exact absurd ((distI_zero hl).1 h1.symm).symm h, fun h e => by
      rw [(distI_zero hl).2 e.symm] at h; omega⟩
  unfold better
  rw [e1]
  cases b with
  | none =>
    unfold leastOf
    rw [decide_eq_true (dist_least hx hy)]
  | some z => rfl
theorem near_yes {m : Mk} {xs x : List Int} {b : Option (List Int)} (hx : isKeyB m xs = true) (hy : isKeyB m x = true) (h1 : 0 < distI xs x) (h2 : distI xs x < leastOf m xs b) : nearStep xs b x = some x := by
  unfold nearStep
  rw [better_is (m := m) hx hy, decide_eq_true h1, decide_eq_true h2]; rfl
theorem near_no {m : Mk} {xs x : List Int} {b : Option (List Int)} (hx : isKeyB m xs = true) (hy : isKeyB m x = true) (h : ¬ (0 < distI xs x ∧ distI xs x < leastOf m xs b)) : nearStep xs b x = b := by
  unfold nearStep
  rw [better_is (m := m) hx hy]
  rw [if_neg]
  rw [Bool.and_eq_true, decide_eq_true_eq, decide_eq_true_eq]; exact h

/-- block g is a row of its own that holds a list -/
def RowOf (W : World) (g : Nat) (zs : List Int) : Prop := W.heap[g]? = some (.cells (intsV zs).toArray 2 (0, 0))
theorem RowOf.own {W : World} {g n lo : Nat} {zs : List Int} (h : RowOf W g zs) (hl : zs.length = n) (hlo : lo ≤ g) : Own W lo W.heap.size (some ⟨g, 0, none⟩) n zs := by
  refine ⟨hl, Nat.le_refl _, fun _ => ⟨_, rfl, hlo, heapLt h, fun j v hv => ?_⟩⟩
  have e : (⟨g, 0, none⟩ : Addr).add j = ⟨g, j, none⟩ := by
    unfold Addr.add
    split
    · next h0 => subst h0; rfl
    · simp
  rw [e]
  unfold RowOf at h
  have hv' : (intsV zs).toArray[j]? = some (.int .i64 v) := by unfold intsV; simp [hv]
  constructor
  · simp [World.frozen?, h]
  · simp only [World.cell?, h]
    exact hv'
theorem RowOf.below {A C : World} {g B : Nat} {zs : List Int} (h : RowOf A g zs) (hb : Below B A C) (hB : g < B) : RowOf C g zs := (hb.block g hB).trans h
theorem RowOf.set {A : World} {g : Nat} {zs : List Int} (h : RowOf A g zs) {p : Addr} (v : Value) (hp : p.block ≠ g) : RowOf (A.setCell p v) g zs := (Below.heap_setCell A p v g (Ne.symm hp)).trans h
theorem rowOf_made (w : World) (n : Nat) : RowOf (w.alloc (.cells (madeCells #[.int .i64 0] n) 2)) w.heap.size (List.replicate n (0 : Int)) := by
  unfold RowOf
  have e : (madeCells #[.int .i64 0] n) = (intsV (List.replicate n (0 : Int))).toArray := by
    apply Array.toList_inj.1
    rw [toList_madeCells_one]
    simp [intsV]
  rw [← e]
  exact heap_alloc_new w _
theorem above_setRow {B g : Nat} (W : World) (cs : Array Value) (h : g < B) : Above B W (W.setRow g cs) := ⟨by simp [World.setRow], fun k hk _ => setRow_other W g k cs (by omega)⟩

set_option maxRecDepth 100000 in
set_option maxHeartbeats 8000000 in
theorem nearestKey_any (m : Mk) (A : Option Addr) (n c : Nat) (xs : List Int) (w : World) (h : Ints w w.heap.size A n xs) (hn : n ≤ 1048576) :
    Calls Try.prog 69 #[.agg #[.int .i64 m.C, .int .i64 m.D, .int .i64 m.S, .int .i64 m.M, .int .i64 m.L], .slice A n c] w
      (GivesList w (ktE m xs) (nkL m xs)) := by
  have b0 := (Below.refl w.heap.size w).alloc (Nat.le_refl _) (.cells #[.int .i64 m.C, .int .i64 m.D, .int .i64 m.S, .int .i64 m.M, .int .i64 m.L] 29)
  have hx := Boxed.new w 29 m
  have b1 := b0.alloc (by simp) (.cells #[.slice A n c] 42)
  have x1 := hx.alloc (.cells #[.slice A n c] 42)
  have k1 := heap_alloc_new (w.alloc (.cells #[.int .i64 m.C, .int .i64 m.D, .int .i64 m.S, .int .i64 m.M, .int .i64 m.L] 29)) (.cells #[.slice A n c] 42)
  rw [World.size_alloc] at k1
  have b2 := b1.alloc (by simp; omega) (.cells #[.slice A n c] 42)
  have x2 := x1.alloc (.cells #[.slice A n c] 42)
  have k2 := (Below.heap_alloc _ (.cells #[.slice A n c] 42) _ (heapLt k1)).trans k1
  have hl := Lists.one (c := c) 42 (h.on b1) hn
  rw [World.size_alloc, World.size_alloc] at hl
  by_cases hz : ktE m xs = 0
  rotate_left
  · rw [nk_no hz]
    obtain ⟨v, hv⟩ : ∃ v, ktE m xs = v := ⟨_, rfl⟩
    rw [hv] at hz ⊢
    have HV := Lib.hid (show codeF m [xs] = v by rw [code_one]; exact hv)
    have hq : (v != 0) = true := by simpa using hz
    obtain ⟨ck1, fk1⟩ := cell_at k1
    clear hz hv
    go_enter Try.func69, Try.ntmps69
    go_wp2_with fail
    refine (codeFor_any m _ 1 _ [xs] _ hl (by omega)).mono ?_
    rw [HV.out]
    rintro e w1 ⟨rfl, b3⟩
    have c1 := below_trans' b2 b3
    clear hl b0 b1 b2 b3 hx x1 x2 k1 k2 ck1 fk1
    go_wp2
    go_ret2
    exact ⟨none, 0, 0, rfl, Own.nil _ (Nat.le_refl _), by omega, by omega, by omega, c1⟩
  obtain ⟨hm, hk⟩ := kt_key hz
  obtain ⟨zz, hzz⟩ := nearest_is hk
  rw [nk_yes hz hzz, hz]
  have HZZ := Lib.hid hzz
  have HZ := Lib.hid (show codeF m [xs] = 0 by rw [code_one]; exact hz)
  obtain ⟨_, hlen, _⟩ := key_facts hk
  have hnC : n = m.C.toNat := by have := h.len; omega
  obtain ⟨m1, m2, m3, m4, m5, m6, m7, m8, m9, m10, m11⟩ := Mk.ok_true hm
  have hnI : (n : Int) = m.C := by omega
  have HN := Lib.hid (And.intro hnC hnI)
  have HM := Lib.hid (And.intro hm hk)
  have hn6 : n ≤ 6 := by omega
  have hn0 : 0 < n := by omega
  have hP : 0 ≤ m.C * m.D ∧ m.C * m.D ≤ 48 := by
    refine ⟨Int.mul_nonneg (by omega) (by omega), ?_⟩
    have := Int.mul_le_mul m2 m4 (by omega) (by omega)
    omega
  have gP : IntKind.i64.wrap (m.C * m.D) = m.C * m.D := IntWalk.i64_in _ (by omega)
  have hsz2 : w.heap.size + 3 ≤ (((w.alloc (.cells #[.int .i64 m.C, .int .i64 m.D, .int .i64 m.S, .int .i64 m.M, .int .i64 m.L] 29)).alloc (.cells #[.slice A n c] 42)).alloc (.cells #[.slice A n c] 42)).heap.size := by simp
  have hmk := run_make_row' (P := Try.prog) 42 2 (.int .i64 0) 8 Try.underlying42 Try.info2' rfl .i64 .i64 n (by omega) (by omega)
  rw [hnI] at hmk
  clear hz hm hk hlen hzz hnC hnI
  refine (callsIn_wide (n := 9)).1 ?_
  refine callsIn_of_wp_marks Try.func69 rfl trivial ?_ rfl
  refine wpIn_wide.2 ?_
  simp only [Try.ntmps69, List.size_toArray, List.length_cons, List.length_nil, Nat.reduceAdd, Nat.reduceSub, Array.replicate_succ, Array.replicate_zero, List.push_toArray, List.append_toArray, List.nil_append, List.cons_append]
  obtain ⟨ck1, fk1⟩ := cell_at k1
  go_wp2_with fail
  refine (codeFor_any m _ 1 _ [xs] _ hl (by omega)).mono ?_
  rw [HZ.out]
  rintro e w1 ⟨rfl, b3⟩
  have hs3 := b3.size
  have c1 := below_trans' b2 b3
  have x3 := x2.on b3
  have k3 := (b3.block _ (heapLt k2)).trans k2
  have hsz1 : w.heap.size + 3 ≤ w1.heap.size := by omega
  clear hl b0 b1 b2 b3 hx x1 x2 k1 k2 ck1 fk1
  obtain ⟨q0, q1, q2, q3, q4⟩ := x3.cells
  have xa := x3.alloc (.cells (madeCells #[.int .i64 0] n) 2)
  have xb := xa.alloc (.cells #[.slice (some ⟨w1.heap.size, 0, none⟩) n n] 42)
  have xc := xb.alloc (.cells #[.int .i64 (m.C * m.D)] 2)
  obtain ⟨qa0, qa1, _⟩ := xa.cells
  obtain ⟨qb0, qb1, _⟩ := xb.cells
  obtain ⟨qc0, qc1, qc2, qc3, qc4⟩ := xc.cells
  go_wp2_with fail
  clear q0 q1 q2 q3 q4 qa0 qa1 qb0 qb1 qc0 qc1 qc2 qc3 qc4 hmk
  obtain ⟨wL, hwL⟩ : ∃ wL : World, wL = ((w1.alloc (.cells (madeCells #[.int .i64 0] n) 2)).alloc (.cells #[.slice (some ⟨w1.heap.size, 0, none⟩) n n] 42)).alloc (.cells #[.int .i64 (m.C * m.D)] 2) := ⟨_, rfl⟩
  have r0 := rowOf_made w1 n
  have r1 : RowOf wL w1.heap.size (List.replicate n (0 : Int)) := by
    rw [hwL]
    exact (r0.below ((Below.refl _ _).alloc (Nat.le_refl _) _) (by simp)).below ((Below.refl _ _).alloc (Nat.le_refl _) _) (by simp; omega)
  have kb := heap_alloc_new (w1.alloc (.cells (madeCells #[.int .i64 0] n) 2)) (.cells #[.slice (some ⟨w1.heap.size, 0, none⟩) n n] 42)
  rw [World.size_alloc] at kb
  have kb2 : wL.cell? ⟨w1.heap.size + 1, 0, none⟩ = some (.slice (some ⟨w1.heap.size, 0, none⟩) n n) := by
    rw [hwL]
    exact (cell_at ((Below.heap_alloc _ _ _ (heapLt kb)).trans kb)).1
  have kl := heap_alloc_new ((w1.alloc (.cells (madeCells #[.int .i64 0] n) 2)).alloc (.cells #[.slice (some ⟨w1.heap.size, 0, none⟩) n n] 42)) (.cells #[.int .i64 (m.C * m.D)] 2)
  rw [World.size_alloc, World.size_alloc] at kl
  have kl2 : wL.cell? ⟨w1.heap.size + 1 + 1, 0, none⟩ = some (.int .i64 (m.C * m.D)) ∧ wL.frozen? ⟨w1.heap.size + 1 + 1, 0, none⟩ = false := by
    rw [hwL]
    exact cell_at kl
  have bL : Below w1.heap.size w1 wL := by
    rw [hwL]
    exact (((Below.refl _ _).alloc (Nat.le_refl _) _).alloc (by simp) _).alloc (by simp; omega) _
  have hszL : wL.heap.size = w1.heap.size + 3 := by rw [hwL]; simp
  have kc4 : wL.cell? ⟨w.heap.size + 1, 0, none⟩ = some (.slice A n c) := (bL.cell (p := ⟨w.heap.size + 1, 0, none⟩) (by show w.heap.size + 1 < _; omega)).trans (cell_at k3).1
  have c4 : Below w.heap.size w wL := c1.trans (bL.mono (by omega))
  rw [← hwL]
  clear hwL r0 kb kl bL xa xb xc x3 k3
  refine (wpIn_wide (n := 9)).1 ?_
  refine wpIn_lent rfl (by omega) (gf := 112) (rb := #[.agg #[.int .i64 m.C, .int .i64 m.D, .int .i64 m.S, .int .i64 m.M, .int .i64 m.L]]) (lb := #[]) rfl trivial (enters_of Try.func112 (by kernel_rfl) rfl) (keys_lend m HM.out.1 8 _) (Below.refl _ _) rfl
    (fun pre W => (W.cell? ⟨w1.heap.size + 1 + 1, 0, none⟩ = some (.int .i64 (leastOf m xs (pre.foldl (nearStep xs) none))) ∧ W.frozen? ⟨w1.heap.size + 1 + 1, 0, none⟩ = false) ∧ W.cell? ⟨w1.heap.size + 1, 0, none⟩ = some (.slice (some ⟨w1.heap.size, 0, none⟩) n n) ∧ RowOf W w1.heap.size ((pre.foldl (nearStep xs) none).getD (List.replicate n 0)) ∧ W.cell? ⟨w.heap.size + 1, 0, none⟩ = some (.slice A n c) ∧ Hid (((pre.foldl (nearStep xs) none).getD (List.replicate n 0)).length = n) ∧ Below w.heap.size w W)
    (fun _ _ _ => False)
    ?_ ?_ ⟨kl2, kb2, r1, kc4, Lib.hid (by simp), c4⟩
    (fun v => { tmps := #[.agg #[.int .i64 m.C, .int .i64 m.D, .int .i64 m.S, .int .i64 m.M, .int .i64 m.L], .slice A n c, .pointer (some ⟨w.heap.size, 0, none⟩), .pointer (some ⟨w.heap.size + 1, 0, none⟩), .slice none 0 0, .int .i64 0, .int .i64 0, .pointer (some ⟨w1.heap.size + 1, 0, none⟩), .pointer (some ⟨w1.heap.size + 1 + 1, 0, none⟩), v, undef, .agg #[.int .i64 m.C, .int .i64 m.D, .int .i64 m.S, .int .i64 m.M, .int .i64 m.L], .slice A n c, .slice (some ⟨w.heap.size + 1 + 1, 0, none⟩) 1 1, .int .i64 0, .int .i64 0, .bool false, undef, .pointer (some ⟨w.heap.size, 0, none⟩), .int .i64 m.C, .slice (some ⟨w1.heap.size, 0, none⟩) n n, .pointer (some ⟨w.heap.size, 0, none⟩), .int .i64 m.C, .pointer (some ⟨w.heap.size, 1, none⟩), .int .i64 m.D, .int .i64 (m.C * m.D), .agg #[.int .i64 m.C, .int .i64 m.D, .int .i64 m.S, .int .i64 m.M, .int .i64 m.L], .func (.func 112) #[.agg #[.int .i64 m.C, .int .i64 m.D, .int .i64 m.S, .int .i64 m.M, .int .i64 m.L]] #[], v, undef, undef, undef, undef, undef, undef, undef, undef, undef, undef, undef, undef, undef, undef, undef], defers := [] }) ?assign ?body ?done ?stop
  · rintro pre A1 C1 ⟨⟨h1, h2⟩, h3, h4, h5, h6, h7⟩ hb
    rw [hszL] at hb
    exact ⟨⟨(hb.cell (p := ⟨w1.heap.size + 1 + 1, 0, none⟩) (by simp)).trans h1, (hb.frozen (p := ⟨w1.heap.size + 1 + 1, 0, none⟩) (by simp)).trans h2⟩, (hb.cell (p := ⟨w1.heap.size + 1, 0, none⟩) (by simp)).trans h3, h4.below hb (by omega), (hb.cell (p := ⟨w.heap.size + 1, 0, none⟩) (by show w.heap.size + 1 < _; omega)).trans h5, h6, h7.trans (hb.mono (by omega))⟩
  · rintro cd s A1 o h
    exact h
  case assign =>
    intro l v W K hK
    gi_wp2
    exact hK
  case body =>
    rintro l pre x v W ⟨⟨h1, h2⟩, h3, h4, h5, h6, h7⟩ hM hsz hL
    rw [hszL] at hsz hL ⊢
    rw [← HN.out.1] at hL
    obtain ⟨a, rfl, hown⟩ := hL
    obtain ⟨b, hb⟩ : ∃ b, (pre.foldl (nearStep xs) none) = b := ⟨_, rfl⟩
    rw [hb] at h1 h4 h6
    have HBB := Lib.hid hb
    have hxk := among_key HM.out.1 hM
    have HX := Lib.hid hxk
    have HS7 := Lib.hid (And.intro (key_seven HM.out.2) (key_seven hxk))
    have HI := Lib.hid ((h.below h7).more h7.size)
    have HXI := Lib.hid hown.ints
    have HO := Lib.hid hown
    have HB := Lib.hid h7
    have HC2 := Lib.hid h3
    have HC3 := Lib.hid h5
    have HF := Lib.hid h2
    have HRW := Lib.hid h4
    have HLN := h6
    obtain ⟨u, hu⟩ : ∃ u, distI xs x = u := ⟨_, rfl⟩
    obtain ⟨lv, hlv⟩ : ∃ lv, leastOf m xs b = lv := ⟨_, rfl⟩
    rw [hlv] at h1
    have HC1 := Lib.hid h1
    have HU := Lib.hid hu
    have HLV := Lib.hid hlv
    have hsw := h7.size
    clear h7 hown hM hb hu hlv hxk h4 h6
    by_cases hp : 0 < u
    rotate_left
    · -- the key itself
      have HP := Lib.hid (show nearStep xs b x = b from near_no HM.out.2 HX.out (by rw [HU.out, HLV.out]; omega))
      gi_wp2_with fail
      refine ⟨trivial, (CallsIn.inRound l (callsIn_wide.2 (cutDistance_any _ _ _ _ _ xs x _ HI.out HXI.out hn HS7.out.1 HS7.out.2))).mono ?_⟩
      rw [HU.out]
      rintro e w2 ⟨rfl, q, rfl⟩
      gi_wp2
      refine ⟨Above.drewN _ _ _, ?_⟩
      simp only [List.foldl_append, HBB.out, List.foldl_cons, List.foldl_nil, HP.out, HLV.out]
      exact ⟨⟨HC1.out, HF.out⟩, HC2.out, HRW.out, HC3.out, HLN, below_drewN HB.out _⟩
    by_cases hq : u < lv
    rotate_left
    · -- no nearer
      have HP := Lib.hid (show nearStep xs b x = b from near_no HM.out.2 HX.out (by rw [HU.out, HLV.out]; omega))
      gi_wp2_with fail
      refine ⟨trivial, (CallsIn.inRound l (callsIn_wide.2 (cutDistance_any _ _ _ _ _ xs x _ HI.out HXI.out hn HS7.out.1 HS7.out.2))).mono ?_⟩
      rw [HU.out]
      rintro e w2 ⟨rfl, q, rfl⟩
      gi_wp2
      refine ⟨Above.drewN _ _ _, ?_⟩
      simp only [List.foldl_append, HBB.out, List.foldl_cons, List.foldl_nil, HP.out, HLV.out]
      exact ⟨⟨HC1.out, HF.out⟩, HC2.out, HRW.out, HC3.out, HLN, below_drewN HB.out _⟩
    · have HP := Lib.hid (show nearStep xs b x = some x from near_yes HM.out.2 HX.out (by rw [HU.out]; exact hp) (by rw [HU.out, HLV.out]; exact hq))
      gi_wp2_with fail
      refine ⟨trivial, (CallsIn.inRound l (callsIn_wide.2 (cutDistance_any _ _ _ _ _ xs x _ HI.out HXI.out hn HS7.out.1 HS7.out.2))).mono ?_⟩
      rw [HU.out]
      rintro e w2 ⟨rfl, q, rfl⟩
      have a4 := (Above.drewN (w1.heap.size + 3) W q).trans (Above.setCell (p := ⟨w1.heap.size + 1 + 1, 0, none⟩) (W.drewN q) (.int .i64 u) (by simp))
      have o4 := HO.out.above a4 (by omega)
      have r4 : RowOf ((W.drewN q).setCell ⟨w1.heap.size + 1 + 1, 0, none⟩ (.int .i64 u)) w1.heap.size (b.getD (List.replicate n 0)) := RowOf.set (show RowOf (W.drewN q) _ _ from HRW.out) _ (by show w1.heap.size + 1 + 1 ≠ w1.heap.size; omega)
      obtain ⟨i0, hi, hz0, hz1, hz2⟩ := info_parts Try.info2'
      have hlx : (intsV x).length = n := by rw [intsV_len]; exact HO.out.len
      have hcp : ∀ ty, (Builtin.copy_ #[42, 42] ty #[.slice (some ⟨w1.heap.size, 0, none⟩) n n, .slice (some a) n n]).run Try.prog ((W.drewN q).setCell ⟨w1.heap.size + 1 + 1, 0, none⟩ (.int .i64 u)) = .ok (goInt n) (((W.drewN q).setCell ⟨w1.heap.size + 1 + 1, 0, none⟩ (.int .i64 u)).setRow w1.heap.size (intsV x).toArray) := by
        intro ty
        have hr := run_copy_row (P := Try.prog) ((W.drewN q).setCell ⟨w1.heap.size + 1 + 1, 0, none⟩ (.int .i64 u)) 42 42 ty 2 w1.heap.size 0 n n a n n _ 2 (intsV x) Try.underlying42 (by rw [hi]; simp [hz1]) r4 (by rw [hlx]; exact (Nat.min_self n).symm) (ints_news o4.ints hn0) (by rw [hlx]; simp [intsV_len, HLN.out]) (intsV_one _)
        rw [hlx] at hr
        rw [hr]
        congr 2
        rw [List.take_zero, List.nil_append, List.drop_of_length_le (by simp [intsV_len, HLN.out]), List.append_nil]
      have HRN := Lib.hid (show RowOf (((W.drewN q).setCell ⟨w1.heap.size + 1 + 1, 0, none⟩ (.int .i64 u)).setRow w1.heap.size (intsV x).toArray) w1.heap.size x from setRow_heap _ _ _ _ _ _ r4)
      have HA5 := Lib.hid (a4.trans (above_setRow (B := w1.heap.size + 3) (g := w1.heap.size) ((W.drewN q).setCell ⟨w1.heap.size + 1 + 1, 0, none⟩ (.int .i64 u)) (intsV x).toArray (by omega)))
      have HB5 := Lib.hid (below_setRow ((below_drewN HB.out q).setCell (p := ⟨w1.heap.size + 1 + 1, 0, none⟩) (by show w.heap.size ≤ w1.heap.size + 1 + 1; omega) (.int .i64 u)) (show w.heap.size ≤ w1.heap.size by omega) (intsV x).toArray)
      clear a4 o4 r4 hi hz0 hz1 hz2 hlx
      gi_wp2
      refine ⟨HA5.out, ?_⟩
      simp only [List.foldl_append, HBB.out, List.foldl_cons, List.foldl_nil, HP.out]
      have hoth : ∀ g : Nat, g ≠ w1.heap.size → g ≠ w1.heap.size + 1 + 1 → (((W.drewN q).setCell ⟨w1.heap.size + 1 + 1, 0, none⟩ (.int .i64 u)).setRow w1.heap.size (intsV x).toArray).heap[g]? = W.heap[g]? := fun g h1 h2 => (setRow_other _ _ _ _ h1).trans (Below.heap_setCell _ _ _ _ h2)
      refine ⟨⟨?_, ?_⟩, (World.cell?_of_block (w := W) (hoth _ (by show w1.heap.size + 1 ≠ w1.heap.size; omega) (by show w1.heap.size + 1 ≠ w1.heap.size + 1 + 1; omega))).trans HC2.out, HRN.out, (World.cell?_of_block (w := W) (hoth _ (by show w.heap.size + 1 ≠ _; omega) (by show w.heap.size + 1 ≠ _; omega))).trans HC3.out, Lib.hid HO.out.len, HB5.out⟩
      · refine (World.cell?_of_block (w := (W.drewN q).setCell ⟨w1.heap.size + 1 + 1, 0, none⟩ (.int .i64 u)) (setRow_other _ _ _ _ (by show w1.heap.size + 1 + 1 ≠ w1.heap.size; omega))).trans ?_
        rw [show leastOf m xs (some x) = u from HU.out]
        exact World.cell?_setCell_same _ _ _ HC1.out
      · refine (World.frozen?_of_block (w := (W.drewN q).setCell ⟨w1.heap.size + 1 + 1, 0, none⟩ (.int .i64 u)) (setRow_other _ _ _ _ (by show w1.heap.size + 1 + 1 ≠ w1.heap.size; omega))).trans ?_
        rw [World.frozen?_setCell]; exact HF.out
  case done =>
    rintro ys W rfl ⟨_, h3, h4, _, h6, h7⟩ hK
    have e : (allKeys m).foldl (nearStep xs) none = some zz := HZZ.out
    rw [e] at h4 h6
    have HR := Lib.hid h4
    have HLN := h6
    have HB := Lib.hid h7
    rw [hszL] at hK ⊢
    clear h4 h6 h7 e
    go_wp2
    refine ⟨by simp, .inl ⟨_, _, rfl, run_takeDeferred hK, ?_⟩⟩
    have hR2 : RowOf (W.putObj (w1.heap.size + 3) (.deferred none)) w1.heap.size zz := HR.out.below (below_putObj (B := w1.heap.size + 3) W _ (Nat.le_refl _)) (by omega)
    exact ⟨_, results_tmp2 rfl _ _ _, _, n, n, rfl, hR2.own HLN.out (by omega), hn, Nat.le_refl _, by omega, HB.out.trans (below_putObj _ _ (by omega))⟩
  case stop =>
    rintro cd pre W _ hh _
    exact hh.elim

end Go.Proofs.Ytbadahnhlehidaa
