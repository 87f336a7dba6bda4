/- WornLock of the program. -/
import Derived.Test.YtbfnffecmglgfaaWearA
import Derived.Test.YtbfnffecmglgfaaInLists
namespace Go.Proofs.Ytbfnffecmglgfaa
open Go Go.RowKit

theorem wlk_no {m : Mk} {yss : List (List Int)} {wr t : Int} (h : lockB m yss = false) : wlkE m yss wr t = 1 ∧ wlkL m yss wr t = [] := by simp [wlkE, wlkL, h]
theorem wlk_fit {m : Mk} {yss : List (List Int)} {wr t : Int} (h : lockB m yss = true) (h2 : isFit wr t = false) : wlkE m yss wr t = 2 ∧ wlkL m yss wr t = [] := by simp [wlkE, wlkL, h, h2]
theorem wlk_yes {m : Mk} {yss : List (List Int)} {wr t : Int} (h : lockB m yss = true) (h2 : isFit wr t = true) : wlkE m yss wr t = 0 ∧ wlkL m yss wr t = wornL m yss t (plc wr) := by simp [wlkE, wlkL, h, h2]

/-- the depths that have come to the sets: of the chambers before i, and those before d of chamber i -/
def Upto (D : Nat) (p : Nat → Nat → Bool) (us : Nat → Nat) (i d : Nat) : Prop := (∀ j, us j < 256) ∧ ∀ j e, e < D → bitP us j e = (decide (j < i ∨ (j = i ∧ e < d)) && p j e)
theorem Upto.zero (D : Nat) (p : Nat → Nat → Bool) : Upto D p (fun _ => 0) 0 0 := ⟨fun _ => by show 0 < 256; omega, fun j e _ => by
  unfold bitP
  rw [decide_eq_false (by omega)]
  simp⟩
theorem Upto.skip {D : Nat} {p : Nat → Nat → Bool} {us : Nat → Nat} {i d : Nat} (h : Upto D p us i d) (hp : p i d = false) : Upto D p us i (d + 1) := ⟨h.1, fun j e he => by
  rw [h.2 j e he]
  by_cases hx : j = i ∧ e = d
  · obtain ⟨rfl, rfl⟩ := hx
    rw [hp]; simp
  · have : (j < i ∨ (j = i ∧ e < d)) ↔ (j < i ∨ (j = i ∧ e < d + 1)) := by omega
    simp only [this]⟩
theorem Upto.add {D : Nat} {p : Nat → Nat → Bool} {us : Nat → Nat} {i d : Nat} (h : Upto D p us i d) (hp : p i d = true) (hd : d < 8) : Upto D p (bitAdd us i d) i (d + 1) := ⟨bitAdd_lt h.1 i hd, fun j e he => by
  rw [bitP_add, h.2 j e he]
  by_cases hx : j = i ∧ e = d
  · obtain ⟨rfl, rfl⟩ := hx
    rw [hp]; simp
  · have h1 : (decide (j = i) && decide (e = d)) = false := by
      rw [← Bool.not_eq_true, Bool.and_eq_true, decide_eq_true_eq, decide_eq_true_eq]; exact hx
    rw [h1, Bool.or_false]
    have : (j < i ∨ (j = i ∧ e < d)) ↔ (j < i ∨ (j = i ∧ e < d + 1)) := by omega
    simp only [this]⟩
theorem Upto.row {D : Nat} {p : Nat → Nat → Bool} {us : Nat → Nat} {i d : Nat} (h : Upto D p us i d) (hd : D ≤ d) : Upto D p us (i + 1) 0 := ⟨h.1, fun j e he => by
  rw [h.2 j e he]
  have : (j < i ∨ (j = i ∧ e < d)) ↔ (j < i + 1 ∨ (j = i + 1 ∧ e < 0)) := by omega
  simp only [this]⟩
theorem Upto.lock {D C : Nat} {p : Nat → Nat → Bool} {us : Nat → Nat} {i d : Nat} (h : Upto D p us i d) (hi : C ≤ i) : lockOf C D (bitP us) = lockOf C D p :=
  lockOf_congr (fun j e hj he => by rw [h.2 j e he, decide_eq_true (by omega)]; rfl)
theorem Cell2.other {w : World} {b : Nat} {t : TypeId} {u v : Value} (h : Cell2 w b t u v) {p : Addr} (hp : b ≠ p.block) (x : Value) : Cell2 (w.setCell p x) b t u v := (Below.heap_setCell w p x b hp).trans h

/-- what stays true while a worn lock is made -/
structure WK (w W : World) (m : Mk) (V : Option Addr) (n c : Nat) : Prop where
  x : Boxed W w.heap.size 25 m
  k : Cell1 W (w.heap.size + 1) 30 (.slice V n c)
  o : Cell1 W (w.heap.size + 1 + 1) 30 (.slice none 0 0)
  c : Below w.heap.size w W
theorem WK.new {w : World} {m : Mk} {V : Option Addr} {n c : Nat} {yss : List (List Int)} (_ : Sets w w.heap.size V n yss) : WK w (((w.alloc (.cells #[.int .i64 m.C, .int .i64 m.D, .int .i64 m.S, .int .i64 m.M, .int .i64 m.L] 25)).alloc (.cells #[.slice V n c] 30)).alloc (.cells #[.slice none 0 0] 30)) m V n c := by
  refine ⟨((Boxed.new w _ m).alloc _).alloc _, ?_, ?_, (((Below.refl w.heap.size w).alloc (Nat.le_refl _) _).alloc (by simp) _).alloc (by simp; omega) _⟩
  · have := (Cell1.new (w.alloc (.cells #[.int .i64 m.C, .int .i64 m.D, .int .i64 m.S, .int .i64 m.M, .int .i64 m.L] 25)) 30 (.slice V n c)).alloc (.cells #[.slice none 0 0] 30)
    rwa [World.size_alloc] at this
  · have := Cell1.new ((w.alloc (.cells #[.int .i64 m.C, .int .i64 m.D, .int .i64 m.S, .int .i64 m.M, .int .i64 m.L] 25)).alloc (.cells #[.slice V n c] 30)) 30 (.slice none 0 0)
    rwa [World.size_alloc, World.size_alloc] at this
theorem WK.on {w W W' : World} {m : Mk} {V : Option Addr} {n c : Nat} (h : WK w W m V n c) (b : Below W.heap.size W W') : WK w W' m V n c :=
  ⟨h.x.on b, h.k.on b, h.o.on b, below_trans' h.c b⟩
theorem WK.alloc {w W : World} {m : Mk} {V : Option Addr} {n c : Nat} (h : WK w W m V n c) (o : Obj) : WK w (W.alloc o) m V n c := h.on ((Below.refl _ W).alloc (Nat.le_refl _) o)
theorem WK.drew {w W : World} {m : Mk} {V : Option Addr} {n c : Nat} (h : WK w W m V n c) : WK w W.drew m V n c := h.on (below_drewN (Below.refl _ W) 1)
theorem WK.under {w W W' : World} {m : Mk} {V : Option Addr} {n c g : Nat} (h : WK w W m V n c) (hg : w.heap.size + 1 + 1 < g) (b : Below g W W') : WK w W' m V n c :=
  ⟨h.x.below b (by omega), h.k.below b (by omega), h.o.below b hg, h.c.trans (b.mono (by omega))⟩
theorem WK.put11 {w W : World} {m : Mk} {V : Option Addr} {n c g : Nat} (h : WK w W m V n c) (hg : w.heap.size + 1 + 1 < g) (m' : Mk) (vs : Nat → Nat) : WK w (put11 W g m' vs) m V n c := h.under hg (below_put11 (Below.refl _ W) (Nat.le_refl _) m' vs)
theorem WK.cells {w W : World} {m : Mk} {V : Option Addr} {n c : Nat} (h : WK w W m V n c) : W.cell? ⟨w.heap.size, 0, none⟩ = some (.int .i64 m.C) ∧ W.cell? ⟨w.heap.size, 1, none⟩ = some (.int .i64 m.D) ∧ W.cell? ⟨w.heap.size, 2, none⟩ = some (.int .i64 m.S) ∧ W.cell? ⟨w.heap.size, 3, none⟩ = some (.int .i64 m.M) ∧ W.cell? ⟨w.heap.size, 4, none⟩ = some (.int .i64 m.L) ∧ W.cell? ⟨w.heap.size + 1, 0, none⟩ = some (.slice V n c) :=
  boxed_and h.x h.k.cell
/-- a block for a lock of bits, of the call's own -/
def ZW (w : World) (W : World) (g : Nat) : Prop := BitBox W g 106 ⟨0, 0, 0, 0, 0⟩ (fun _ => 0) ∧ w.heap.size + 1 + 1 < g
theorem ZW.on {w W W' : World} {g : Nat} (h : ZW w W g) (b : Below W.heap.size W W') : ZW w W' g := ⟨h.1.on b, h.2⟩
theorem ZW.alloc {w W : World} {g : Nat} (h : ZW w W g) (o : Obj) : ZW w (W.alloc o) g := ⟨h.1.alloc o, h.2⟩
theorem ZW.new {w W : World} {m : Mk} {V : Option Addr} {n c : Nat} (h : WK w W m V n c) : ZW w (W.alloc (.cells #[.int .i64 0, .int .i64 0, .int .i64 0, .int .i64 0, .int .i64 0, .int .u8 0, .int .u8 0, .int .u8 0, .int .u8 0, .int .u8 0, .int .u8 0] 106)) W.heap.size :=
  ⟨BitBox.zero W 106 ⟨0, 0, 0, 0, 0⟩ rfl, h.o.lt⟩

set_option linter.unusedSimpArgs false in
set_option maxRecDepth 100000 in
set_option maxHeartbeats 16000000 in
theorem wornLock_any (m : Mk) (V : Option Addr) (n c : Nat) (yss : List (List Int)) (wr t : Int) (w : World) (h : Sets w w.heap.size V n yss) (hn : n + sizeL yss ≤ 1048576) :
    Calls Try.prog 57 #[.agg #[.int .i64 m.C, .int .i64 m.D, .int .i64 m.S, .int .i64 m.M, .int .i64 m.L], .agg #[.slice V n c], .int .i64 wr, .int .i64 t] w (GivesLockE w (wlkE m yss wr t) (wlkL m yss wr t)) := by
  have K0 := Lib.hid (WK.new (m := m) (c := c) h)
  have HN := Lib.hid hn
  have HS := Lib.hid h
  clear h hn
  obtain ⟨q0, q1, q2, q3, q4, ck⟩ := K0.out.cells
  rcases hL : lockB m yss with _ | _
  · have HE := Lib.hid (wlk_no (wr := wr) (t := t) hL)
    rw [HE.out.1, HE.out.2]
    go_enter Try.func57, Try.ntmps57
    go_wp2_with fail
    refine (isLock_any m _ _ _ yss _ (HS.out.on K0.out.c) HN.out).mono ?_
    rw [hL]
    rintro e w1 ⟨rfl, b1⟩
    have K1 := Lib.hid (K0.out.on b1)
    have f1 := K1.out.o.thawed
    have k1 := K1.out.o.cell
    clear q0 q1 q2 q3 q4 ck K0 b1
    go_wp2
    have r0 := (K1.out.o.put (.slice none 0 0)).cell
    refine bodyPost_ret (v := .tuple #[.agg #[.slice none 0 0], .int .i64 1]) (by simp [results, Try.results57, go_sem, r0]) rfl ⟨none, 0, 0, [], rfl, Rag.nil none ?_, Nat.le_refl _, by omega, K1.out.c.setCell (by simp; omega) _⟩
    have := K1.out.c.size
    simpa [World.setCell] using this
  have HLL := Lib.hid hL
  rcases hF : isFit wr t with _ | _
  · have HE := Lib.hid (wlk_fit hL hF)
    rw [HE.out.1, HE.out.2]
    clear hL
    go_enter Try.func57, Try.ntmps57
    go_wp2_with fail
    refine (isLock_any m _ _ _ yss _ (HS.out.on K0.out.c) HN.out).mono ?_
    rw [HLL.out]
    rintro e w1 ⟨rfl, b1⟩
    have K1 := Lib.hid (K0.out.on b1)
    clear q0 q1 q2 q3 q4 ck K0 b1
    go_wp2_with fail
    refine (isValid_any wr t _).mono ?_
    rw [hF]
    rintro e w2 ⟨rfl, b2⟩
    have K2 := Lib.hid (K1.out.on b2)
    have f1 := K2.out.o.thawed
    have k1 := K2.out.o.cell
    clear K1 b2
    go_wp2
    have r0 := (K2.out.o.put (.slice none 0 0)).cell
    refine bodyPost_ret (v := .tuple #[.agg #[.slice none 0 0], .int .i64 2]) (by simp [results, Try.results57, go_sem, r0]) rfl ⟨none, 0, 0, [], rfl, Rag.nil none ?_, Nat.le_refl _, by omega, K2.out.c.setCell (by simp; omega) _⟩
    have := K2.out.c.size
    simpa [World.setCell] using this
  have HFF := Lib.hid hF
  obtain ⟨r0, r1, t0, t1⟩ := fit_facts hF
  obtain ⟨rn, rfl⟩ : ∃ rn : Nat, wr = (rn : Int) := ⟨wr.toNat, by omega⟩
  obtain ⟨tn, rfl⟩ : ∃ tn : Nat, t = (tn : Int) := ⟨t.toNat, by omega⟩
  have HE := Lib.hid (wlk_yes hL hF)
  rw [HE.out.1, HE.out.2]
  have hpl : plc (rn : Int) = rn + 1 := by unfold plc; omega
  rw [hpl]
  obtain ⟨hm, hCn, _⟩ := lockB_facts hL
  obtain ⟨m1, m2, m3, m4, m5, m6, m7, m8, m9, m10, m11⟩ := Mk.ok_true hm
  have HM := Lib.hid hm
  obtain ⟨vs, hvs⟩ : ∃ vs, bitsOf yss = vs := ⟨_, rfl⟩
  have HVL : Hid (∀ i, vs i < 256) := Lib.hid (by rw [← hvs]; exact bitsOf_lt hL)
  have HVP : Hid (∀ i, setP yss i = fun d => (vs i).testBit d) := Lib.hid (by intro i; funext d; rw [← bitsOf_set hL, hvs]; rfl)
  have HVS := Lib.hid hvs
  clear hL hF hvs HE hm hCn hpl m5 m6 m7 m8 m9 m10 m11
  go_enter Try.func57, Try.ntmps57
  go_wp2_with fail
  refine (isLock_any m _ _ _ yss _ (HS.out.on K0.out.c) HN.out).mono ?_
  rw [HLL.out]
  rintro e w1 ⟨rfl, b1⟩
  have K1 := Lib.hid (K0.out.on b1)
  clear q0 q1 q2 q3 q4 ck K0 b1
  go_wp2_with fail
  refine (isValid_any _ _ _).mono ?_
  rw [HFF.out]
  rintro e w2 ⟨rfl, b2⟩
  have K2 := Lib.hid (K1.out.on b2)
  have z2 : w.heap.size + 1 + 1 < w2.heap.size := K2.out.o.lt
  clear K1 b2
  go_upto_region 5 with (fail)
  go_cut [10, 11] (fun y z wx => ∃ g k : Nat, y = .pointer (some ⟨g, 0, none⟩) ∧ z = .pointer (some ⟨k, 0, none⟩) ∧ g ≠ k ∧ w.heap.size + 1 + 1 < k ∧ BitBox wx g 106 m vs ∧ BitBox wx k 106 m (fun _ => 0) ∧ WK w wx m V n c)
  case first =>
    go_wp2
    refine wp_region_held_drew (S := (fun w' => w'.cell? ⟨w.heap.size, 0, none⟩ = some (.int .i64 m.C) ∧ w'.cell? ⟨w.heap.size, 1, none⟩ = some (.int .i64 m.D) ∧ w'.cell? ⟨w.heap.size, 2, none⟩ = some (.int .i64 m.S) ∧ w'.cell? ⟨w.heap.size, 3, none⟩ = some (.int .i64 m.M) ∧ w'.cell? ⟨w.heap.size, 4, none⟩ = some (.int .i64 m.L) ∧ w'.cell? ⟨w.heap.size + 1, 0, none⟩ = some (.slice V n c))) (by kernel_rfl) K2.out.drew.cells (fun hHeld => ?_)
    refine held_take (i := 0) (oi := _) (v := ?_) (some 26) rfl rfl (by kernel_rfl) (by kernel_rfl) (by kernel_rfl) (fun _ _ _ h => h) (Or.inl ⟨by rfl, ?_⟩) (by assumption) ?_
    rotate_left
    · intro w' hSw
      obtain ⟨r0, r1, r2, r3, r4, r5⟩ := hSw
      go_simp
      try with_reducible rfl
    try simp only [Act.put, List.setIfInBounds_toArray, List.set_cons_zero, List.set_cons_succ]
    refine held_take (i := 1) (oi := _) (v := ?_) (some 27) rfl rfl (by kernel_rfl) (by kernel_rfl) (by kernel_rfl) (fun _ _ _ h => h) (Or.inl ⟨by rfl, ?_⟩) (by assumption) ?_
    rotate_left
    · intro w' hSw
      obtain ⟨r0, r1, r2, r3, r4, r5⟩ := hSw
      go_simp
      try with_reducible rfl
    try simp only [Act.put, List.setIfInBounds_toArray, List.set_cons_zero, List.set_cons_succ]
    refine held_take (i := 3) (oi := _) (v := ?_) (some 29) rfl rfl (by kernel_rfl) (by kernel_rfl) (by kernel_rfl) (fun _ _ _ h => h) (Or.inl ⟨by rfl, ?_⟩) (by assumption) ?_
    rotate_left
    · intro w' hSw
      obtain ⟨r0, r1, r2, r3, r4, r5⟩ := hSw
      go_simp
      try with_reducible rfl
    try simp only [Act.put, List.setIfInBounds_toArray, List.set_cons_zero, List.set_cons_succ]
    refine held_take (i := 4) (oi := _) (v := ?_) (some 30) rfl rfl (by kernel_rfl) (by kernel_rfl) (by kernel_rfl) (fun _ _ _ h => h) (Or.inl ⟨by rfl, ?_⟩) (by assumption) ?_
    rotate_left
    · intro w' hSw
      obtain ⟨r0, r1, r2, r3, r4, r5⟩ := hSw
      go_simp
      try with_reducible rfl
    try simp only [Act.put, List.setIfInBounds_toArray, List.set_cons_zero, List.set_cons_succ]
    refine with_node (fun G hG => ?_)
    clear hHeld
    have nF : ∀ (W : World) (g q : Nat), WK w W m V n c → BitBox W g 106 m vs → BitBox W q 106 m (fun _ => 0) → g ≠ q → w.heap.size + 1 + 1 < q → G 0 #[true, true, true, true, true, true, true, true, true] { tmps := #[.agg #[.int .i64 m.C, .int .i64 m.D, .int .i64 m.S, .int .i64 m.M, .int .i64 m.L], .agg #[.slice V n c], .int .i64 (rn : Int), .int .i64 (tn : Int), .pointer (some ⟨w.heap.size, 0, none⟩), .pointer (some ⟨w.heap.size + 1, 0, none⟩), undef, undef, .pointer (some ⟨w.heap.size + 1 + 1, 0, none⟩), .int .i64 0, .pointer (some ⟨g, 0, none⟩), .pointer (some ⟨q, 0, none⟩), undef, undef, undef, .agg #[.int .i64 m.C, .int .i64 m.D, .int .i64 m.S, .int .i64 m.M, .int .i64 m.L], .agg #[.slice V n c], .bool true, .bool false, undef, .int .i64 (rn : Int), .int .i64 (tn : Int), .agg #[.int .i64 (rn : Int), .int .i64 (tn : Int)], .bool true, .bool false, undef, .agg #[.slice V n c], .agg #[.int .i64 m.C, .int .i64 m.D, .int .i64 m.S, .int .i64 m.M, .int .i64 m.L], .agg #[.int .i64 m.C, .int .i64 m.D, .int .i64 m.S, .int .i64 m.M, .int .i64 m.L, .int .u8 (vs 0 : Nat), .int .u8 (vs 1 : Nat), .int .u8 (vs 2 : Nat), .int .u8 (vs 3 : Nat), .int .u8 (vs 4 : Nat), .int .u8 (vs 5 : Nat)], .agg #[.int .i64 m.C, .int .i64 m.D, .int .i64 m.S, .int .i64 m.M, .int .i64 m.L], .agg #[.int .i64 m.C, .int .i64 m.D, .int .i64 m.S, .int .i64 m.M, .int .i64 m.L, .int .u8 0, .int .u8 0, .int .u8 0, .int .u8 0, .int .u8 0, .int .u8 0], undef, undef, undef, undef, undef, undef, undef, undef, undef, undef, undef, undef, undef, undef, undef, undef, undef, undef, undef, undef, undef, undef, undef, undef, undef, undef, undef, undef, undef, undef], defers := [] } W := by
      intro W g q J hg hq hne hlq
      rw [hG]
      clear hG G
      refine wpAnyH_done (by kernel_rfl) ?_ _
      go_wp2_with fail
      go_meet
      exact ⟨g, q, rfl, rfl, hne, hlq, hg, hq, J⟩
    have nS : ∀ (W : World) (g q : Nat), WK w W m V n c → BitBox W g 106 m vs → ZW w W q → g ≠ q → G 1 #[true, true, true, true, true, true, true, true, false] { tmps := #[.agg #[.int .i64 m.C, .int .i64 m.D, .int .i64 m.S, .int .i64 m.M, .int .i64 m.L], .agg #[.slice V n c], .int .i64 (rn : Int), .int .i64 (tn : Int), .pointer (some ⟨w.heap.size, 0, none⟩), .pointer (some ⟨w.heap.size + 1, 0, none⟩), undef, undef, .pointer (some ⟨w.heap.size + 1 + 1, 0, none⟩), .int .i64 0, .pointer (some ⟨g, 0, none⟩), .pointer (some ⟨q, 0, none⟩), undef, undef, undef, .agg #[.int .i64 m.C, .int .i64 m.D, .int .i64 m.S, .int .i64 m.M, .int .i64 m.L], .agg #[.slice V n c], .bool true, .bool false, undef, .int .i64 (rn : Int), .int .i64 (tn : Int), .agg #[.int .i64 (rn : Int), .int .i64 (tn : Int)], .bool true, .bool false, undef, .agg #[.slice V n c], .agg #[.int .i64 m.C, .int .i64 m.D, .int .i64 m.S, .int .i64 m.M, .int .i64 m.L], .agg #[.int .i64 m.C, .int .i64 m.D, .int .i64 m.S, .int .i64 m.M, .int .i64 m.L, .int .u8 (vs 0 : Nat), .int .u8 (vs 1 : Nat), .int .u8 (vs 2 : Nat), .int .u8 (vs 3 : Nat), .int .u8 (vs 4 : Nat), .int .u8 (vs 5 : Nat)], .agg #[.int .i64 m.C, .int .i64 m.D, .int .i64 m.S, .int .i64 m.M, .int .i64 m.L], .agg #[.int .i64 m.C, .int .i64 m.D, .int .i64 m.S, .int .i64 m.M, .int .i64 m.L, .int .u8 0, .int .u8 0, .int .u8 0, .int .u8 0, .int .u8 0, .int .u8 0], undef, undef, undef, undef, undef, undef, undef, undef, undef, undef, undef, undef, undef, undef, undef, undef, undef, undef, undef, undef, undef, undef, undef, undef, undef, undef, undef, undef, undef, undef], defers := [] } W := by
      intro W g q J hg hq hne
      obtain ⟨f0, f1, f2, f3, f4, f5, f6, f7, f8, f9, f10⟩ := hq.1.thaws
      obtain ⟨d0, d1, d2, d3, d4, d5, d6, d7, d8, d9, d10⟩ := hq.1.cells
      have JU := J.put11 hq.2 m (fun _ => 0)
      have hx := nF (put11 W q m (fun _ => 0)) g q JU (box_off hg hne) hq.1.put11 hne hq.2
      have JS := JU.cells
      rw [hG] at hx ⊢
      clear hG nF J hg hq JU
      refine wpAnyH_ready (rs := [8]) (by kernel_rfl) (by simp) ?_
      refine AllReadyH.cons (o := _) rfl (fun K hK => ?_) AllReadyH.nil
      go_simp
      unfold put11 at hx JS
      have hzz : ((0 : Nat) : Int) = 0 := rfl
      simp only [hzz] at hx JS
      exact hK.out _ _ JS (fun _ => hx)
    have n1tt : ∀ (W : World) (g q : Nat), WK w W m V n c → ZW w W g → ZW w W q → g ≠ q → G 2 #[true, true, true, true, true, true, true, false, false] { tmps := #[.agg #[.int .i64 m.C, .int .i64 m.D, .int .i64 m.S, .int .i64 m.M, .int .i64 m.L], .agg #[.slice V n c], .int .i64 (rn : Int), .int .i64 (tn : Int), .pointer (some ⟨w.heap.size, 0, none⟩), .pointer (some ⟨w.heap.size + 1, 0, none⟩), undef, undef, .pointer (some ⟨w.heap.size + 1 + 1, 0, none⟩), .int .i64 0, .pointer (some ⟨g, 0, none⟩), .pointer (some ⟨q, 0, none⟩), undef, undef, undef, .agg #[.int .i64 m.C, .int .i64 m.D, .int .i64 m.S, .int .i64 m.M, .int .i64 m.L], .agg #[.slice V n c], .bool true, .bool false, undef, .int .i64 (rn : Int), .int .i64 (tn : Int), .agg #[.int .i64 (rn : Int), .int .i64 (tn : Int)], .bool true, .bool false, undef, .agg #[.slice V n c], .agg #[.int .i64 m.C, .int .i64 m.D, .int .i64 m.S, .int .i64 m.M, .int .i64 m.L], .agg #[.int .i64 m.C, .int .i64 m.D, .int .i64 m.S, .int .i64 m.M, .int .i64 m.L, .int .u8 (vs 0 : Nat), .int .u8 (vs 1 : Nat), .int .u8 (vs 2 : Nat), .int .u8 (vs 3 : Nat), .int .u8 (vs 4 : Nat), .int .u8 (vs 5 : Nat)], .agg #[.int .i64 m.C, .int .i64 m.D, .int .i64 m.S, .int .i64 m.M, .int .i64 m.L], .agg #[.int .i64 m.C, .int .i64 m.D, .int .i64 m.S, .int .i64 m.M, .int .i64 m.L, .int .u8 0, .int .u8 0, .int .u8 0, .int .u8 0, .int .u8 0, .int .u8 0], undef, undef, undef, undef, undef, undef, undef, undef, undef, undef, undef, undef, undef, undef, undef, undef, undef, undef, undef, undef, undef, undef, undef, undef, undef, undef, undef, undef, undef, undef], defers := [] } W := by
      intro W g q J hg hq hne
      obtain ⟨f0, f1, f2, f3, f4, f5, f6, f7, f8, f9, f10⟩ := hg.1.thaws
      obtain ⟨d0, d1, d2, d3, d4, d5, d6, d7, d8, d9, d10⟩ := hg.1.cells
      have JU := J.put11 hg.2 m vs
      have hx := nS (put11 W g m vs) g q JU hg.1.put11 ⟨box_off hq.1 (Ne.symm hne), hq.2⟩ hne
      have JS := JU.cells
      rw [hG] at hx ⊢
      clear hG nF nS J hg hq JU
      refine wpAnyH_ready (rs := [7]) (by kernel_rfl) (by simp) ?_
      refine AllReadyH.cons (o := _) rfl (fun K hK => ?_) AllReadyH.nil
      go_simp
      unfold put11 at hx JS
      exact hK.out _ _ JS (fun _ => hx)
    have n1tf : ∀ (W : World) (g : Nat), WK w W m V n c → ZW w W g → G 3 #[true, true, true, true, true, true, false, false, false] { tmps := #[.agg #[.int .i64 m.C, .int .i64 m.D, .int .i64 m.S, .int .i64 m.M, .int .i64 m.L], .agg #[.slice V n c], .int .i64 (rn : Int), .int .i64 (tn : Int), .pointer (some ⟨w.heap.size, 0, none⟩), .pointer (some ⟨w.heap.size + 1, 0, none⟩), undef, undef, .pointer (some ⟨w.heap.size + 1 + 1, 0, none⟩), .int .i64 0, .pointer (some ⟨g, 0, none⟩), undef, undef, undef, undef, .agg #[.int .i64 m.C, .int .i64 m.D, .int .i64 m.S, .int .i64 m.M, .int .i64 m.L], .agg #[.slice V n c], .bool true, .bool false, undef, .int .i64 (rn : Int), .int .i64 (tn : Int), .agg #[.int .i64 (rn : Int), .int .i64 (tn : Int)], .bool true, .bool false, undef, .agg #[.slice V n c], .agg #[.int .i64 m.C, .int .i64 m.D, .int .i64 m.S, .int .i64 m.M, .int .i64 m.L], .agg #[.int .i64 m.C, .int .i64 m.D, .int .i64 m.S, .int .i64 m.M, .int .i64 m.L, .int .u8 (vs 0 : Nat), .int .u8 (vs 1 : Nat), .int .u8 (vs 2 : Nat), .int .u8 (vs 3 : Nat), .int .u8 (vs 4 : Nat), .int .u8 (vs 5 : Nat)], .agg #[.int .i64 m.C, .int .i64 m.D, .int .i64 m.S, .int .i64 m.M, .int .i64 m.L], .agg #[.int .i64 m.C, .int .i64 m.D, .int .i64 m.S, .int .i64 m.M, .int .i64 m.L, .int .u8 0, .int .u8 0, .int .u8 0, .int .u8 0, .int .u8 0, .int .u8 0], undef, undef, undef, undef, undef, undef, undef, undef, undef, undef, undef, undef, undef, undef, undef, undef, undef, undef, undef, undef, undef, undef, undef, undef, undef, undef, undef, undef, undef, undef], defers := [] } W := by
      intro W g J hg
      have hG2 := hG
      rw [hG]
      refine wpAnyH_ready (rs := [6]) (by kernel_rfl) (by simp) ?_
      refine AllReadyH.cons (o := _) rfl (fun K hK => ?_) ?_
      · go_simp
        refine hK.out _ _ (J.alloc _).cells (fun _ => ?_)
        have hx := n1tt (W.alloc (.cells #[.int .i64 0, .int .i64 0, .int .i64 0, .int .i64 0, .int .i64 0, .int .u8 0, .int .u8 0, .int .u8 0, .int .u8 0, .int .u8 0, .int .u8 0] 106)) g W.heap.size (J.alloc _) (hg.alloc _) (ZW.new J) (fun e => by have := hg.1.lt; omega)
        rw [hG2] at hx
        exact hx
      exact AllReadyH.nil
    have n1ft : ∀ (W : World) (q : Nat), WK w W m V n c → ZW w W q → G 3 #[true, true, true, true, true, false, true, false, false] { tmps := #[.agg #[.int .i64 m.C, .int .i64 m.D, .int .i64 m.S, .int .i64 m.M, .int .i64 m.L], .agg #[.slice V n c], .int .i64 (rn : Int), .int .i64 (tn : Int), .pointer (some ⟨w.heap.size, 0, none⟩), .pointer (some ⟨w.heap.size + 1, 0, none⟩), undef, undef, .pointer (some ⟨w.heap.size + 1 + 1, 0, none⟩), .int .i64 0, undef, .pointer (some ⟨q, 0, none⟩), undef, undef, undef, .agg #[.int .i64 m.C, .int .i64 m.D, .int .i64 m.S, .int .i64 m.M, .int .i64 m.L], .agg #[.slice V n c], .bool true, .bool false, undef, .int .i64 (rn : Int), .int .i64 (tn : Int), .agg #[.int .i64 (rn : Int), .int .i64 (tn : Int)], .bool true, .bool false, undef, .agg #[.slice V n c], .agg #[.int .i64 m.C, .int .i64 m.D, .int .i64 m.S, .int .i64 m.M, .int .i64 m.L], .agg #[.int .i64 m.C, .int .i64 m.D, .int .i64 m.S, .int .i64 m.M, .int .i64 m.L, .int .u8 (vs 0 : Nat), .int .u8 (vs 1 : Nat), .int .u8 (vs 2 : Nat), .int .u8 (vs 3 : Nat), .int .u8 (vs 4 : Nat), .int .u8 (vs 5 : Nat)], .agg #[.int .i64 m.C, .int .i64 m.D, .int .i64 m.S, .int .i64 m.M, .int .i64 m.L], .agg #[.int .i64 m.C, .int .i64 m.D, .int .i64 m.S, .int .i64 m.M, .int .i64 m.L, .int .u8 0, .int .u8 0, .int .u8 0, .int .u8 0, .int .u8 0, .int .u8 0], undef, undef, undef, undef, undef, undef, undef, undef, undef, undef, undef, undef, undef, undef, undef, undef, undef, undef, undef, undef, undef, undef, undef, undef, undef, undef, undef, undef, undef, undef], defers := [] } W := by
      intro W q J hq
      have hG2 := hG
      rw [hG]
      refine wpAnyH_ready (rs := [5]) (by kernel_rfl) (by simp) ?_
      refine AllReadyH.cons (o := _) rfl (fun K hK => ?_) ?_
      · go_simp
        refine hK.out _ _ (J.alloc _).cells (fun _ => ?_)
        have hx := n1tt (W.alloc (.cells #[.int .i64 0, .int .i64 0, .int .i64 0, .int .i64 0, .int .i64 0, .int .u8 0, .int .u8 0, .int .u8 0, .int .u8 0, .int .u8 0, .int .u8 0] 106)) W.heap.size q (J.alloc _) (ZW.new J) (hq.alloc _) (fun e => by have := hq.1.lt; omega)
        rw [hG2] at hx
        exact hx
      exact AllReadyH.nil
    have n0tt : ∀ (W : World) (g : Nat) (q : Nat), WK w W m V n c → ZW w W g → ZW w W q → g ≠ q → G 3 #[true, true, false, true, true, true, true, false, false] { tmps := #[.agg #[.int .i64 m.C, .int .i64 m.D, .int .i64 m.S, .int .i64 m.M, .int .i64 m.L], .agg #[.slice V n c], .int .i64 (rn : Int), .int .i64 (tn : Int), .pointer (some ⟨w.heap.size, 0, none⟩), .pointer (some ⟨w.heap.size + 1, 0, none⟩), undef, undef, .pointer (some ⟨w.heap.size + 1 + 1, 0, none⟩), .int .i64 0, .pointer (some ⟨g, 0, none⟩), .pointer (some ⟨q, 0, none⟩), undef, undef, undef, .agg #[.int .i64 m.C, .int .i64 m.D, .int .i64 m.S, .int .i64 m.M, .int .i64 m.L], .agg #[.slice V n c], .bool true, .bool false, undef, .int .i64 (rn : Int), .int .i64 (tn : Int), .agg #[.int .i64 (rn : Int), .int .i64 (tn : Int)], .bool true, .bool false, undef, .agg #[.slice V n c], .agg #[.int .i64 m.C, .int .i64 m.D, .int .i64 m.S, .int .i64 m.M, .int .i64 m.L], undef, .agg #[.int .i64 m.C, .int .i64 m.D, .int .i64 m.S, .int .i64 m.M, .int .i64 m.L], .agg #[.int .i64 m.C, .int .i64 m.D, .int .i64 m.S, .int .i64 m.M, .int .i64 m.L, .int .u8 0, .int .u8 0, .int .u8 0, .int .u8 0, .int .u8 0, .int .u8 0], undef, undef, undef, undef, undef, undef, undef, undef, undef, undef, undef, undef, undef, undef, undef, undef, undef, undef, undef, undef, undef, undef, undef, undef, undef, undef, undef, undef, undef, undef], defers := [] } W := by
      intro W g q J hg hq hne
      have hG2 := hG
      rw [hG]
      refine wpAnyH_ready (rs := [2]) (by kernel_rfl) (by simp) ?_
      refine AllReadyH.cons (o := _) rfl (fun K hK => ?_) ?_
      · go_simp
        refine (inBits_any m V n c yss _ (HS.out.on J.c) HLL.out vs HVS.out).mono ?_
        rintro e W1 ⟨rfl, b⟩
        refine hK.out _ _ (J.on b).cells (fun _ => ?_)
        have hx := n1tt W1 g q (J.on b) (hg.on b) (hq.on b) hne
        rw [hG2] at hx
        exact hx
      exact AllReadyH.nil
    have n1ff : ∀ (W : World), WK w W m V n c → G 4 #[true, true, true, true, true, false, false, false, false] { tmps := #[.agg #[.int .i64 m.C, .int .i64 m.D, .int .i64 m.S, .int .i64 m.M, .int .i64 m.L], .agg #[.slice V n c], .int .i64 (rn : Int), .int .i64 (tn : Int), .pointer (some ⟨w.heap.size, 0, none⟩), .pointer (some ⟨w.heap.size + 1, 0, none⟩), undef, undef, .pointer (some ⟨w.heap.size + 1 + 1, 0, none⟩), .int .i64 0, undef, undef, undef, undef, undef, .agg #[.int .i64 m.C, .int .i64 m.D, .int .i64 m.S, .int .i64 m.M, .int .i64 m.L], .agg #[.slice V n c], .bool true, .bool false, undef, .int .i64 (rn : Int), .int .i64 (tn : Int), .agg #[.int .i64 (rn : Int), .int .i64 (tn : Int)], .bool true, .bool false, undef, .agg #[.slice V n c], .agg #[.int .i64 m.C, .int .i64 m.D, .int .i64 m.S, .int .i64 m.M, .int .i64 m.L], .agg #[.int .i64 m.C, .int .i64 m.D, .int .i64 m.S, .int .i64 m.M, .int .i64 m.L, .int .u8 (vs 0 : Nat), .int .u8 (vs 1 : Nat), .int .u8 (vs 2 : Nat), .int .u8 (vs 3 : Nat), .int .u8 (vs 4 : Nat), .int .u8 (vs 5 : Nat)], .agg #[.int .i64 m.C, .int .i64 m.D, .int .i64 m.S, .int .i64 m.M, .int .i64 m.L], .agg #[.int .i64 m.C, .int .i64 m.D, .int .i64 m.S, .int .i64 m.M, .int .i64 m.L, .int .u8 0, .int .u8 0, .int .u8 0, .int .u8 0, .int .u8 0, .int .u8 0], undef, undef, undef, undef, undef, undef, undef, undef, undef, undef, undef, undef, undef, undef, undef, undef, undef, undef, undef, undef, undef, undef, undef, undef, undef, undef, undef, undef, undef, undef], defers := [] } W := by
      intro W J
      have hG2 := hG
      rw [hG]
      refine wpAnyH_ready (rs := [5, 6]) (by kernel_rfl) (by simp) ?_
      refine AllReadyH.cons (o := _) rfl (fun K hK => ?_) ?_
      · go_simp
        refine hK.out _ _ (J.alloc _).cells (fun _ => ?_)
        have hx := n1tf (W.alloc (.cells #[.int .i64 0, .int .i64 0, .int .i64 0, .int .i64 0, .int .i64 0, .int .u8 0, .int .u8 0, .int .u8 0, .int .u8 0, .int .u8 0, .int .u8 0] 106)) W.heap.size (J.alloc _) (ZW.new J)
        rw [hG2] at hx
        exact hx
      refine AllReadyH.cons (o := _) rfl (fun K hK => ?_) ?_
      · go_simp
        refine hK.out _ _ (J.alloc _).cells (fun _ => ?_)
        have hx := n1ft (W.alloc (.cells #[.int .i64 0, .int .i64 0, .int .i64 0, .int .i64 0, .int .i64 0, .int .u8 0, .int .u8 0, .int .u8 0, .int .u8 0, .int .u8 0, .int .u8 0] 106)) W.heap.size (J.alloc _) (ZW.new J)
        rw [hG2] at hx
        exact hx
      exact AllReadyH.nil
    have n0tf : ∀ (W : World) (g : Nat), WK w W m V n c → ZW w W g → G 4 #[true, true, false, true, true, true, false, false, false] { tmps := #[.agg #[.int .i64 m.C, .int .i64 m.D, .int .i64 m.S, .int .i64 m.M, .int .i64 m.L], .agg #[.slice V n c], .int .i64 (rn : Int), .int .i64 (tn : Int), .pointer (some ⟨w.heap.size, 0, none⟩), .pointer (some ⟨w.heap.size + 1, 0, none⟩), undef, undef, .pointer (some ⟨w.heap.size + 1 + 1, 0, none⟩), .int .i64 0, .pointer (some ⟨g, 0, none⟩), undef, undef, undef, undef, .agg #[.int .i64 m.C, .int .i64 m.D, .int .i64 m.S, .int .i64 m.M, .int .i64 m.L], .agg #[.slice V n c], .bool true, .bool false, undef, .int .i64 (rn : Int), .int .i64 (tn : Int), .agg #[.int .i64 (rn : Int), .int .i64 (tn : Int)], .bool true, .bool false, undef, .agg #[.slice V n c], .agg #[.int .i64 m.C, .int .i64 m.D, .int .i64 m.S, .int .i64 m.M, .int .i64 m.L], undef, .agg #[.int .i64 m.C, .int .i64 m.D, .int .i64 m.S, .int .i64 m.M, .int .i64 m.L], .agg #[.int .i64 m.C, .int .i64 m.D, .int .i64 m.S, .int .i64 m.M, .int .i64 m.L, .int .u8 0, .int .u8 0, .int .u8 0, .int .u8 0, .int .u8 0, .int .u8 0], undef, undef, undef, undef, undef, undef, undef, undef, undef, undef, undef, undef, undef, undef, undef, undef, undef, undef, undef, undef, undef, undef, undef, undef, undef, undef, undef, undef, undef, undef], defers := [] } W := by
      intro W g J hg
      have hG2 := hG
      rw [hG]
      refine wpAnyH_ready (rs := [2, 6]) (by kernel_rfl) (by simp) ?_
      refine AllReadyH.cons (o := _) rfl (fun K hK => ?_) ?_
      · go_simp
        refine (inBits_any m V n c yss _ (HS.out.on J.c) HLL.out vs HVS.out).mono ?_
        rintro e W1 ⟨rfl, b⟩
        refine hK.out _ _ (J.on b).cells (fun _ => ?_)
        have hx := n1tf W1 g (J.on b) (hg.on b)
        rw [hG2] at hx
        exact hx
      refine AllReadyH.cons (o := _) rfl (fun K hK => ?_) ?_
      · go_simp
        refine hK.out _ _ (J.alloc _).cells (fun _ => ?_)
        have hx := n0tt (W.alloc (.cells #[.int .i64 0, .int .i64 0, .int .i64 0, .int .i64 0, .int .i64 0, .int .u8 0, .int .u8 0, .int .u8 0, .int .u8 0, .int .u8 0, .int .u8 0] 106)) g W.heap.size (J.alloc _) (hg.alloc _) (ZW.new J) (fun e => by have := hg.1.lt; omega)
        rw [hG2] at hx
        exact hx
      exact AllReadyH.nil
    have n0ft : ∀ (W : World) (q : Nat), WK w W m V n c → ZW w W q → G 4 #[true, true, false, true, true, false, true, false, false] { tmps := #[.agg #[.int .i64 m.C, .int .i64 m.D, .int .i64 m.S, .int .i64 m.M, .int .i64 m.L], .agg #[.slice V n c], .int .i64 (rn : Int), .int .i64 (tn : Int), .pointer (some ⟨w.heap.size, 0, none⟩), .pointer (some ⟨w.heap.size + 1, 0, none⟩), undef, undef, .pointer (some ⟨w.heap.size + 1 + 1, 0, none⟩), .int .i64 0, undef, .pointer (some ⟨q, 0, none⟩), undef, undef, undef, .agg #[.int .i64 m.C, .int .i64 m.D, .int .i64 m.S, .int .i64 m.M, .int .i64 m.L], .agg #[.slice V n c], .bool true, .bool false, undef, .int .i64 (rn : Int), .int .i64 (tn : Int), .agg #[.int .i64 (rn : Int), .int .i64 (tn : Int)], .bool true, .bool false, undef, .agg #[.slice V n c], .agg #[.int .i64 m.C, .int .i64 m.D, .int .i64 m.S, .int .i64 m.M, .int .i64 m.L], undef, .agg #[.int .i64 m.C, .int .i64 m.D, .int .i64 m.S, .int .i64 m.M, .int .i64 m.L], .agg #[.int .i64 m.C, .int .i64 m.D, .int .i64 m.S, .int .i64 m.M, .int .i64 m.L, .int .u8 0, .int .u8 0, .int .u8 0, .int .u8 0, .int .u8 0, .int .u8 0], undef, undef, undef, undef, undef, undef, undef, undef, undef, undef, undef, undef, undef, undef, undef, undef, undef, undef, undef, undef, undef, undef, undef, undef, undef, undef, undef, undef, undef, undef], defers := [] } W := by
      intro W q J hq
      have hG2 := hG
      rw [hG]
      refine wpAnyH_ready (rs := [2, 5]) (by kernel_rfl) (by simp) ?_
      refine AllReadyH.cons (o := _) rfl (fun K hK => ?_) ?_
      · go_simp
        refine (inBits_any m V n c yss _ (HS.out.on J.c) HLL.out vs HVS.out).mono ?_
        rintro e W1 ⟨rfl, b⟩
        refine hK.out _ _ (J.on b).cells (fun _ => ?_)
        have hx := n1ft W1 q (J.on b) (hq.on b)
        rw [hG2] at hx
        exact hx
      refine AllReadyH.cons (o := _) rfl (fun K hK => ?_) ?_
      · go_simp
        refine hK.out _ _ (J.alloc _).cells (fun _ => ?_)
        have hx := n0tt (W.alloc (.cells #[.int .i64 0, .int .i64 0, .int .i64 0, .int .i64 0, .int .i64 0, .int .u8 0, .int .u8 0, .int .u8 0, .int .u8 0, .int .u8 0, .int .u8 0] 106)) W.heap.size q (J.alloc _) (ZW.new J) (hq.alloc _) (fun e => by have := hq.1.lt; omega)
        rw [hG2] at hx
        exact hx
      exact AllReadyH.nil
    have n0ff : ∀ (W : World), WK w W m V n c → G 5 #[true, true, false, true, true, false, false, false, false] { tmps := #[.agg #[.int .i64 m.C, .int .i64 m.D, .int .i64 m.S, .int .i64 m.M, .int .i64 m.L], .agg #[.slice V n c], .int .i64 (rn : Int), .int .i64 (tn : Int), .pointer (some ⟨w.heap.size, 0, none⟩), .pointer (some ⟨w.heap.size + 1, 0, none⟩), undef, undef, .pointer (some ⟨w.heap.size + 1 + 1, 0, none⟩), .int .i64 0, undef, undef, undef, undef, undef, .agg #[.int .i64 m.C, .int .i64 m.D, .int .i64 m.S, .int .i64 m.M, .int .i64 m.L], .agg #[.slice V n c], .bool true, .bool false, undef, .int .i64 (rn : Int), .int .i64 (tn : Int), .agg #[.int .i64 (rn : Int), .int .i64 (tn : Int)], .bool true, .bool false, undef, .agg #[.slice V n c], .agg #[.int .i64 m.C, .int .i64 m.D, .int .i64 m.S, .int .i64 m.M, .int .i64 m.L], undef, .agg #[.int .i64 m.C, .int .i64 m.D, .int .i64 m.S, .int .i64 m.M, .int .i64 m.L], .agg #[.int .i64 m.C, .int .i64 m.D, .int .i64 m.S, .int .i64 m.M, .int .i64 m.L, .int .u8 0, .int .u8 0, .int .u8 0, .int .u8 0, .int .u8 0, .int .u8 0], undef, undef, undef, undef, undef, undef, undef, undef, undef, undef, undef, undef, undef, undef, undef, undef, undef, undef, undef, undef, undef, undef, undef, undef, undef, undef, undef, undef, undef, undef], defers := [] } W := by
      intro W J
      have hG2 := hG
      rw [hG]
      refine wpAnyH_ready (rs := [2, 5, 6]) (by kernel_rfl) (by simp) ?_
      refine AllReadyH.cons (o := _) rfl (fun K hK => ?_) ?_
      · go_simp
        refine (inBits_any m V n c yss _ (HS.out.on J.c) HLL.out vs HVS.out).mono ?_
        rintro e W1 ⟨rfl, b⟩
        refine hK.out _ _ (J.on b).cells (fun _ => ?_)
        have hx := n1ff W1 (J.on b)
        rw [hG2] at hx
        exact hx
      refine AllReadyH.cons (o := _) rfl (fun K hK => ?_) ?_
      · go_simp
        refine hK.out _ _ (J.alloc _).cells (fun _ => ?_)
        have hx := n0tf (W.alloc (.cells #[.int .i64 0, .int .i64 0, .int .i64 0, .int .i64 0, .int .i64 0, .int .u8 0, .int .u8 0, .int .u8 0, .int .u8 0, .int .u8 0, .int .u8 0] 106)) W.heap.size (J.alloc _) (ZW.new J)
        rw [hG2] at hx
        exact hx
      refine AllReadyH.cons (o := _) rfl (fun K hK => ?_) ?_
      · go_simp
        refine hK.out _ _ (J.alloc _).cells (fun _ => ?_)
        have hx := n0ft (W.alloc (.cells #[.int .i64 0, .int .i64 0, .int .i64 0, .int .i64 0, .int .i64 0, .int .u8 0, .int .u8 0, .int .u8 0, .int .u8 0, .int .u8 0, .int .u8 0] 106)) W.heap.size (J.alloc _) (ZW.new J)
        rw [hG2] at hx
        exact hx
      exact AllReadyH.nil
    exact n0ff _ K2.out.drew
  case rest =>
    obtain ⟨g, k, rfl, rfl, hne, hzk, hg, hk, hK⟩ := hcut
    obtain ⟨w6, rfl⟩ : ∃ w6, w6 = wc := ⟨_, rfl⟩
    have HG := Lib.hid hg
    have HB := Lib.hid hk
    have HK := Lib.hid hK
    obtain ⟨q0, q1, q2, q3, q4, ck⟩ := hK.cells
    clear hg hk hK K2 z2 q1 q2 q3 q4 ck
    go_wp2_with fail
    clear q0
    go_loopw [33] (fun x wr => ∃ (i : Nat) (us : Nat → Nat), x = .int .i64 i ∧ (i : Int) ≤ m.C ∧ Hid (WK w wr m V n c) ∧ Hid (BitBox wr g 106 m vs) ∧ Hid (BitBox wr k 106 m us) ∧ Hid (Upto m.D.toNat (mayP (setP yss) (tn : Int) (rn + 1)) us i 0)) (fun x _ => m.C.toNat - (intOf x).toNat)
    case atStart => exact ⟨0, fun _ => 0, rfl, by omega, HK, HG, HB, Lib.hid (Upto.zero _ _)⟩
    case round =>
      clear HG HB HK
      obtain ⟨i, us, rfl, hi, HK, HG, HB, HU⟩ := hrel
      obtain ⟨wo, rfl⟩ : ∃ wo, wo = wr := ⟨_, rfl⟩
      by_cases hlt : (i : Int) < m.C
      · have i0 : (0 : Int) ≤ (i : Int) := by omega
        have i6 : (i : Int) < 6 := by omega
        have hst := HG.out.bit (show i < 6 by omega)
        have K1 := Lib.hid (HK.out.alloc (.cells #[.int .u8 (vs i : Nat), .int .i64 (tn : Int)] 135))
        have G1 := Lib.hid (HG.out.alloc (.cells #[.int .u8 (vs i : Nat), .int .i64 (tn : Int)] 135))
        have B1 := Lib.hid (HB.out.alloc (.cells #[.int .u8 (vs i : Nat), .int .i64 (tn : Int)] 135))
        have Y1 := Lib.hid (Cell2.new wo 135 (.int .u8 (vs i : Nat)) (.int .i64 (tn : Int)))
        have hkw := HB.out.lt
        obtain ⟨q0, q1, q2, q3, q4, ck⟩ := K1.out.cells
        clear q0 q2 q3 q4 ck HK HG HB
        go_wp2
        clear q1 hst
        go_loopw [44] (fun x wr => ∃ (d : Nat) (ts : Nat → Nat), x = .int .i64 d ∧ (d : Int) ≤ m.D ∧ Hid (WK w wr m V n c) ∧ Hid (BitBox wr g 106 m vs) ∧ Hid (BitBox wr k 106 m ts) ∧ Hid (Cell2 wr wo.heap.size 135 (.int .u8 (vs i : Nat)) (.int .i64 (tn : Int))) ∧ Hid (Upto m.D.toNat (mayP (setP yss) (tn : Int) (rn + 1)) ts i d)) (fun x _ => m.D.toNat - (intOf x).toNat)
        case atStart => exact ⟨0, us, rfl, by omega, K1, G1, B1, Y1, HU⟩
        case round =>
          clear K1 G1 B1 Y1 HU
          obtain ⟨d, ts, rfl, hd, HK, HG, HB, HY, HU⟩ := hrel
          by_cases hltd : (d : Int) < m.D
          · obtain ⟨p0, p1⟩ := HY.out.cells
            obtain ⟨bb, hbb⟩ : ∃ bb, mayP (setP yss) (tn : Int) (rn + 1) i d = bb := ⟨_, rfl⟩
            have HB2 : Hid (someAt (freeAt (fun d => (vs i).testBit d) (tn : Int)) (d : Int) (rn + 1) = bb) := Lib.hid (by rw [← hbb]; unfold mayP; rw [HVP.out])
            have HBB := Lib.hid hbb
            clear hbb
            go_wp2_with fail
            refine (mayFree_any d rn (vs i) tn (by omega) (by omega) (HVL.out i) (by omega) _ bb HB2.out).mono ?_
            rintro e w7 ⟨rfl, b7⟩
            have K7 := Lib.hid (HK.out.on b7)
            have G7 := Lib.hid (HG.out.on b7)
            have B7 := Lib.hid (HB.out.on b7)
            have Y7 := Lib.hid (HY.out.on b7)
            clear p0 p1 HK HG HB HY b7
            rcases bb with _ | _
            · have U7 := Lib.hid (HU.out.skip HBB.out)
              go_wp2
              go_roundw
              case rel => exact ⟨d + 1, ts, by go_num, by omega, K7, G7, B7, Y7, U7⟩
              case measure => simp [intOf]; omega
            · have hst := B7.out.bit (show i < 6 by omega)
              have hfz := B7.out.thawed (5 + i)
              go_wp2_with fail
              refine (add_any ⟨k, 5 + i, none⟩ (ts i) d _ (HU.out.1 i) (by omega) hst hfz).mono ?_
              rintro e w8 ⟨rfl, r, rfl⟩
              have gb := grown_set (p := ⟨k, 5 + i, none⟩) (World.grownBy.refl w7 (some k)) rfl (.int .u8 ((nxtU (ts i) d : Nat) : Int))
              have K8 := Lib.hid ((K7.out.under hzk ((Below.refl k w7).setCell (p := ⟨k, 5 + i, none⟩) (Nat.le_refl _) (.int .u8 ((nxtU (ts i) d : Nat) : Int)))).on (below_drewN (Below.refl _ _) r))
              have G8 := Lib.hid ((G7.out.grown gb (fun e => hne (by injection e))).drewN r)
              have B8 := Lib.hid ((B7.out.put (d := d) (show i < 6 by omega)).drewN r)
              have Y8 := Lib.hid ((Y7.out.other (p := ⟨k, 5 + i, none⟩) (by show wo.heap.size ≠ k; omega) (.int .u8 ((nxtU (ts i) d : Nat) : Int))).drewN r)
              have U8 := Lib.hid (HU.out.add HBB.out (show d < 8 by omega))
              clear hst hfz gb K7 G7 B7 Y7 HU
              go_wp2
              go_roundw
              case rel => exact ⟨d + 1, _, by go_num, by omega, K8, G8, B8, Y8, U8⟩
              case measure => simp [intOf]; omega
          · have U2 := Lib.hid (HU.out.row (by omega))
            go_wp2
            go_roundw
            case rel => exact ⟨i + 1, ts, by go_num, by omega, HK, HG, HB, U2⟩
            case measure => simp [intOf]; omega
      · have HP : Hid (lockOf m.C.toNat m.D.toNat (bitP us) = wornL m yss (tn : Int) (rn + 1)) := Lib.hid (HU.out.lock (by omega))
        have HU1 := Lib.hid HU.out.1
        obtain ⟨r0, r1, r2, r3, r4, r5, r6, r7, r8, r9, r10⟩ := HB.out.cells
        go_wp2_with fail
        refine (inLists_any m HM.out us HU1.out _).mono ?_
        rintro e w5 ⟨V2, n2, c2, gs, rfl, hrag, hc2, hcm2, b2⟩
        rw [HP.out] at hrag
        have K2 := Lib.hid (HK.out.on b2)
        have hlj := HK.out.o.lt
        have hsz := HK.out.c.size
        have f2 := K2.out.o.thawed
        have g2 := K2.out.o.cell
        have HR := Lib.hid hrag
        clear r0 r1 r2 r3 r4 r5 r6 r7 r8 r9 r10 hrag b2
        go_wp2
        have r0 := (K2.out.o.put (.slice V2 n2 c2)).cell
        have R2 := HR.out.asetCell (p := ⟨w.heap.size + 1 + 1, 0, none⟩) (by show w.heap.size + 1 + 1 < _; omega) (.slice V2 n2 c2)
        refine bodyPost_ret (v := .tuple #[.agg #[.slice V2 n2 c2], .int .i64 0]) (by simp [results, Try.results57, go_sem, r0]) rfl ⟨V2, n2, c2, gs, rfl, R2.more (by omega), hc2, hcm2, K2.out.c.setCell (by simp; omega) _⟩

end Go.Proofs.Ytbfnffecmglgfaa
