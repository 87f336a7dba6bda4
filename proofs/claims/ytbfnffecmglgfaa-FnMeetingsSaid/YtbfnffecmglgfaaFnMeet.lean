/- FnMeetings: keys open the common lock exactly if they open both, and the joined lock if they open one. -/
import Derived.Test.YtbfnffecmglgfaaDrawJ
import Derived.Test.YtbfnffecmglgfaaWear
import Derived.Test.YtbfnffecmglgfaaJoin
import Derived.Test.YtbfnffecmglgfaaMeet
import Derived.Lib.MinMax
namespace Go.Proofs.Ytbfnffecmglgfaa
open Go Go.RowKit

theorem mt_small (m : Mk) (yss zss : List (List Int)) : (mtL m yss zss).length + sizeL (mtL m yss zss) ≤ 1048576 := by
  rcases hL : lockB m yss with _ | _
  · rw [(meet_no (.inl hL)).2]; simp [sizeL, sizeAt]
  unfold mtL
  by_cases h : mtE m yss zss = 0
  · rw [if_pos h]
    obtain ⟨hm, _⟩ := lockB_facts hL
    obtain ⟨m1, m2, m3, m4, _⟩ := Mk.ok_true hm
    have e : (List.range m.C.toNat).map (mset yss zss) = lockOf m.C.toNat m.D.toNat (meetP yss zss) := by
      unfold lockOf
      exact List.map_congr_left (fun j hj => (mset_set hL (List.mem_range.1 hj)).symm)
    rw [e]
    exact lockOf_sizeJ (by omega) (by omega)
  · rw [if_neg h]; simp [sizeL, sizeAt]


theorem frees_and (P Q : Nat → Nat → Bool) (xs : List Int) : frees (fun i d => P i d && Q i d) 0 xs = (frees P 0 xs && frees Q 0 xs) := by
  rw [Bool.eq_iff_iff, Bool.and_eq_true]
  unfold frees
  rw [List.all_eq_true, List.all_eq_true, List.all_eq_true]
  constructor
  · intro h
    constructor <;> intro i hi <;> have := h i hi <;> simp_all
  · rintro ⟨h1, h2⟩ i hi
    have := h1 i hi
    have := h2 i hi
    simp_all
theorem cnt_more {p q r s : List Int → Bool} (hr : ∀ x, r x = (p x && q x)) (hs : ∀ x, (p x || q x) = true → s x = true) : ∀ l : List (List Int), (l.filter p).length + (l.filter q).length ≤ (l.filter s).length + (l.filter r).length
  | [] => Nat.le_refl _
  | x :: l => by
    have ih := cnt_more hr hs l
    have h1 := hr x
    have h2 := hs x
    rw [List.filter_cons, List.filter_cons, List.filter_cons, List.filter_cons]
    rcases hp : p x with _ | _ <;> rcases hq : q x with _ | _ <;> rcases hs : s x with _ | _ <;> simp_all <;> omega
theorem cnt_sub {p q : List Int → Bool} (h : ∀ x, p x = true → q x = true) : ∀ l : List (List Int), (l.filter p).length ≤ (l.filter q).length
  | [] => Nat.le_refl _
  | x :: l => by
    have ih := cnt_sub h l
    have h1 := h x
    rw [List.filter_cons, List.filter_cons]
    rcases hp : p x with _ | _ <;> rcases hq : q x with _ | _ <;> simp_all <;> omega
theorem op_lock {m : Mk} (p : Nat → Nat → Bool) : opAll m (setP (lockOf m.C.toNat m.D.toNat p)) = opAll m p := by
  unfold opAll
  exact op_congr (fun i d hi hd => setP_lockOf hi hd) _ _ (by simp)
theorem full_lock {m : Mk} (hm : m.ok = true) {p : Nat → Nat → Bool} (h : ∀ i, i < m.C.toNat → (setOf m.D.toNat (p i)).length ≠ 0) : lockB m (lockOf m.C.toNat m.D.toNat p) = true := by
  obtain ⟨m1, m2, m3, m4, _⟩ := Mk.ok_true hm
  refine lockB_yes hm (by rw [lockOf_len]; omega) (fun i s hs => ?_)
  have hi : i < m.C.toNat := by
    have := (List.getElem?_eq_some_iff.1 hs).1
    rw [lockOf_len] at this; exact this
  rw [lockOf_at hi] at hs
  injection hs with hs
  subst hs
  exact ⟨h i hi, rise_setOf _ _ (by omega)⟩
theorem meet_law {m : Mk} {yss zss : List (List Int)} (h : twoE m yss zss = 0) : lkE m yss = 0 ∧ lkE m zss = 0 ∧ lkE m (jnL m yss zss) = 0 ∧ (mtE m yss zss = 0 → lkE m (mtL m yss zss) = 0) ∧ ∃ j a b c : Nat, coV m (jnL m yss zss) = j ∧ coV m yss = a ∧ coV m zss = b ∧ (mtE m yss zss = 0 → coV m (mtL m yss zss) = c) ∧ (mtE m yss zss ≠ 0 → c = 0) ∧ a + b ≤ j + c ∧ c ≤ a ∧ c ≤ b ∧ a ≤ 262144 ∧ b ≤ 262144 ∧ j ≤ 262144 := by
  have hh : lockB m yss = true ∧ lockB m zss = true := by
    unfold twoE at h
    rcases h1 : lockB m yss with _ | _ <;> rcases h2 : lockB m zss with _ | _ <;> simp_all
  obtain ⟨hL, hL2⟩ := hh
  obtain ⟨hm, hl, hs⟩ := lockB_facts hL
  obtain ⟨m1, m2, m3, m4, _⟩ := Mk.ok_true hm
  have hmax : (allKeys m).length ≤ 262144 := Nat.le_trans (keys_count m4 m.C.toNat []) (pow8 (by omega))
  have hset : ∀ i, i < m.C.toNat → setOf m.D.toNat (setP yss i) = yss.getD i [] ∧ (yss.getD i []).length ≠ 0 := fun i hi => by
    have hy : yss[i]? = some (yss[i]'(by omega)) := List.getElem?_eq_getElem _
    obtain ⟨h1, h2⟩ := hs _ _ hy
    have h3 := rise_set (by omega : (0 : Int) ≤ m.D) h2
    rw [← setP_at hy] at h3
    rw [h3, List.getD_eq_getElem?_getD, hy]
    exact ⟨rfl, h1⟩
  have hJ : lockB m (lockOf m.C.toNat m.D.toNat (joinP yss zss)) = true := full_lock hm (fun i hi e => by
    obtain ⟨h1, h2⟩ := hset i hi
    rw [← h1] at h2
    apply h2
    rw [List.length_eq_zero_iff] at e ⊢
    rw [List.eq_nil_iff_forall_not_mem] at e ⊢
    intro v hv
    obtain ⟨d, hd, hp, rfl⟩ := setOf_mem.1 hv
    exact e _ (setOf_mem.2 ⟨d, hd, by unfold joinP; rw [hp]; rfl, rfl⟩))
  have hjn := (two_yes hL hL2).2
  have hM : mtE m yss zss = 0 → mtL m yss zss = lockOf m.C.toNat m.D.toNat (meetP yss zss) := fun e => by
    unfold mtL
    rw [if_pos e]
    unfold lockOf
    exact List.map_congr_left (fun j hj => (mset_set hL (List.mem_range.1 hj)).symm)
  have hML : mtE m yss zss = 0 → lockB m (mtL m yss zss) = true := fun e => by
    rw [hM e]
    refine full_lock hm (fun i hi => ?_)
    rw [mset_set hL hi]
    unfold mtE at e
    rw [hL, hL2] at e
    by_cases hk : mok yss zss m.C.toNat = true
    · unfold mok at hk
      rw [List.all_eq_true] at hk
      simpa using hk i (List.mem_range.2 hi)
    · simp [hk] at e
  have hM0 : mtE m yss zss ≠ 0 → opAll m (meetP yss zss) = [] := fun e => by
    rw [op_all]
    have hk : mok yss zss m.C.toNat = false := by
      unfold mtE at e
      rw [hL, hL2] at e
      rcases hk : mok yss zss m.C.toNat with _ | _
      · rfl
      · rw [hk] at e; simp at e
    unfold mok at hk
    rw [List.all_eq_false] at hk
    obtain ⟨i, hi, hne⟩ := hk
    have hi2 := List.mem_range.1 hi
    have hemp : setOf m.D.toNat (meetP yss zss i) = [] := by
      rw [mset_set hL hi2]
      exact List.length_eq_zero_iff.1 (by simpa using hne)
    refine filter_none (fun x hx => ?_)
    obtain ⟨_, lx, dx, _⟩ := key_facts (all_are_keys hm hx)
    have ex : x[i]? = some (x[i]'(by omega)) := List.getElem?_eq_getElem _
    generalize x[i]'(by omega) = u at ex
    obtain ⟨u0, u1⟩ := allIn_at dx ex
    refine frees_no (k := i) (d := u.toNat) (by rw [ex]; congr 1; omega) ?_
    rcases hq : meetP yss zss i u.toNat with _ | _
    · rfl
    · have : (u.toNat : Int) ∈ setOf m.D.toNat (meetP yss zss i) := setOf_mem.2 ⟨u.toNat, by omega, hq, rfl⟩
      rw [hemp] at this
      cases this
  have e1 := co_yes hL
  have e2 := co_yes hL2
  have e3 := co_yes hJ
  rw [op_lock] at e3
  refine ⟨e1.2, e2.2, by rw [hjn]; exact e3.2, fun e => (co_yes (hML e)).2, (opAll m (joinP yss zss)).length, (opAll m (setP yss)).length, (opAll m (setP zss)).length, (opAll m (meetP yss zss)).length, by rw [hjn]; exact e3.1, e1.1, e2.1, fun e => ?_, fun e => by rw [hM0 e]; rfl, ?_, ?_, ?_, Nat.le_trans (op_count _ _) hmax, Nat.le_trans (op_count _ _) hmax, Nat.le_trans (op_count _ _) hmax⟩
  · have := (co_yes (hML e)).1
    rw [hM e, op_lock] at this
    rw [hM e]
    exact this
  · rw [op_all, op_all, op_all, op_all]
    refine cnt_more (fun x => frees_and _ _ x) (fun x hx => ?_) _
    rw [Bool.or_eq_true] at hx
    rcases hx with hx | hx
    · exact frees_mono (fun i hi h1 => by unfold joinP; rw [h1]; rfl) hx
    · exact frees_mono (fun i hi h1 => by unfold joinP; rw [h1, Bool.or_true]) hx
  · rw [op_all, op_all]
    exact cnt_sub (fun x hx => by have := frees_and (setP yss) (setP zss) x; rw [show frees (meetP yss zss) 0 x = _ from this, Bool.and_eq_true] at hx; exact hx.1) _
  · rw [op_all, op_all]
    exact cnt_sub (fun x hx => by have := frees_and (setP yss) (setP zss) x; rw [show frees (meetP yss zss) 0 x = _ from this, Bool.and_eq_true] at hx; exact hx.2) _

/-- a box of a lock, and its lists -/
structure BX (W : World) (b : Nat) (V : Option Addr) (n c : Nat) (ys : List (List Int)) : Prop where
  k : Cell1 W b 30 (.slice V n c)
  s : Sets W W.heap.size V n ys
theorem BX.on {W W' : World} {b n c : Nat} {V : Option Addr} {ys : List (List Int)} (h : BX W b V n c ys) (hb : Below W.heap.size W W') : BX W' b V n c ys := ⟨h.k.on hb, h.s.on hb⟩
/-- what the law carries of its arguments -/
structure RL (w w1 W : World) (m : Mk) (V : Option Addr) (k c' : Nat) (zss : List (List Int)) (V2 : Option Addr) (k2 c2 : Nat) (yss : List (List Int)) : Prop where
  x : Boxed W w1.heap.size 25 m
  a : Cell1 W (w1.heap.size + 1) 30 (.slice V k c')
  b : Cell1 W (w1.heap.size + 2) 30 (.slice V2 k2 c2)
  s1 : Sets W W.heap.size V k zss
  s2 : Sets W W.heap.size V2 k2 yss
  C : Below w.heap.size w W
theorem RL.on {w w1 W W' : World} {m : Mk} {V V2 : Option Addr} {k c' k2 c2 : Nat} {zss yss : List (List Int)} (h : RL w w1 W m V k c' zss V2 k2 c2 yss) (b : Below W.heap.size W W') : RL w w1 W' m V k c' zss V2 k2 c2 yss := ⟨h.x.on b, h.a.on b, h.b.on b, h.s1.on b, h.s2.on b, below_trans' h.C b⟩
theorem RL.cells {w w1 W : World} {m : Mk} {V V2 : Option Addr} {k c' k2 c2 : Nat} {zss yss : List (List Int)} (h : RL w w1 W m V k c' zss V2 k2 c2 yss) : W.cell? ⟨w1.heap.size, 0, none⟩ = some (.int .i64 m.C) ∧ W.cell? ⟨w1.heap.size, 1, none⟩ = some (.int .i64 m.D) ∧ W.cell? ⟨w1.heap.size, 2, none⟩ = some (.int .i64 m.S) ∧ W.cell? ⟨w1.heap.size, 3, none⟩ = some (.int .i64 m.M) ∧ W.cell? ⟨w1.heap.size, 4, none⟩ = some (.int .i64 m.L) ∧ W.cell? ⟨w1.heap.size + 1, 0, none⟩ = some (.slice V k c') ∧ W.cell? ⟨w1.heap.size + 2, 0, none⟩ = some (.slice V2 k2 c2) := by
  obtain ⟨q0, q1, q2, q3, q4⟩ := h.x.cells
  exact ⟨q0, q1, q2, q3, q4, h.a.cell, h.b.cell⟩

set_option maxRecDepth 100000 in
set_option maxHeartbeats 8000000 in
theorem fnMeetings_any (A : Option Addr) (n c : Nat) (w : World) (h : Bts w w.heap.size A n) :
    Calls Try.prog 5 #[.slice A n c] w fun e w' => e = .returned (.bool true) ∧ Below w.heap.size w w' := by
  by_cases hn : n ≤ 4096
  rotate_left
  · have d0 : decide (4096 < (n : Int)) = true := by simp; omega
    go_enter Try.func5, Try.ntmps5
    go_wp2_with fail
    refine (big_any _ _ _ _).mono ?_
    rintro e w' ⟨rfl, rfl⟩
    rw [d0]
    go_wp2
    go_ret
    exact ⟨rfl, Below.refl _ _⟩
  have d0 : decide (4096 < (n : Int)) = false := by simp; omega
  have HB := Lib.hid h
  clear h
  go_enter Try.func5, Try.ntmps5
  go_wp2_with fail
  refine (big_any _ _ _ _).mono ?_
  rintro e w' ⟨rfl, rfl⟩
  rw [d0]
  clear d0
  go_wp2_with fail
  refine (drawMeetLocks_any w.heap.size A n c w HB.out (Nat.le_refl _) hn).mono ?_
  rintro e w1 ⟨m, V, k, c', zss, V2, k2, c2, yss, rfl, hF, hN1, hF2, hN2, b1⟩
  have HN1 := Lib.hid hN1
  have HN2 := Lib.hid hN2
  have R1 : Hid (RL w w1 (((w1.alloc (.cells #[.int .i64 m.C, .int .i64 m.D, .int .i64 m.S, .int .i64 m.M, .int .i64 m.L] 25)).alloc (.cells #[.slice V k c'] 30)).alloc (.cells #[.slice V2 k2 c2] 30)) m V k c' zss V2 k2 c2 yss) := Lib.hid (by
    have bA := ((Below.refl w1.heap.size w1).alloc (Nat.le_refl _) (.cells #[.int .i64 m.C, .int .i64 m.D, .int .i64 m.S, .int .i64 m.M, .int .i64 m.L] 25)).alloc (by simp) (.cells #[.slice V k c'] 30)
    have bB := (Below.refl ((w1.alloc (.cells #[.int .i64 m.C, .int .i64 m.D, .int .i64 m.S, .int .i64 m.M, .int .i64 m.L] 25)).alloc (.cells #[.slice V k c'] 30)).heap.size ((w1.alloc (.cells #[.int .i64 m.C, .int .i64 m.D, .int .i64 m.S, .int .i64 m.M, .int .i64 m.L] 25)).alloc (.cells #[.slice V k c'] 30))).alloc (Nat.le_refl _) (.cells #[.slice V2 k2 c2] 30)
    have l1 := Cell1.new (w1.alloc (.cells #[.int .i64 m.C, .int .i64 m.D, .int .i64 m.S, .int .i64 m.M, .int .i64 m.L] 25)) 30 (.slice V k c')
    have l2 := Cell1.new ((w1.alloc (.cells #[.int .i64 m.C, .int .i64 m.D, .int .i64 m.S, .int .i64 m.M, .int .i64 m.L] 25)).alloc (.cells #[.slice V k c'] 30)) 30 (.slice V2 k2 c2)
    rw [World.size_alloc] at l1
    rw [World.size_alloc, World.size_alloc] at l2
    exact ⟨((Boxed.new w1 25 m).alloc (.cells #[.slice V k c'] 30)).alloc (.cells #[.slice V2 k2 c2] 30), l1.on bB, l2, (hF.sets.on bA).on bB, (hF2.sets.on bA).on bB, below_trans' (below_trans' b1 bA) bB⟩)
  obtain ⟨me, hme⟩ : ∃ me, mtE m zss yss = me := ⟨_, rfl⟩
  obtain ⟨ml, hml⟩ : ∃ ml, mtL m zss yss = ml := ⟨_, rfl⟩
  obtain ⟨te, hte⟩ : ∃ te, twoE m zss yss = te := ⟨_, rfl⟩
  obtain ⟨jl, hjl⟩ : ∃ jl, jnL m zss yss = jl := ⟨_, rfl⟩
  have HME := Lib.hid hme
  have HML := Lib.hid hml
  have HTE := Lib.hid hte
  have HJL := Lib.hid hjl
  have HMS : Hid (ml.length + sizeL ml ≤ 1048576) := Lib.hid (by rw [← hml]; exact mt_small m zss yss)
  have HJS : Hid (jl.length + sizeL jl ≤ 1048576) := Lib.hid (by rw [← hjl]; exact jn_small m zss yss)
  have HLAW := Lib.hid (fun e : te = 0 => meet_law (m := m) (yss := zss) (zss := yss) (hte.trans e))
  rw [hme, hml, hjl] at HLAW
  have e1 : (me != me) = false := by simp
  have e2 : (te != te) = false := by simp
  clear hme hml hte hjl hF hF2 hN1 hN2 b1 HB
  obtain ⟨q0, q1, q2, q3, q4, ca, cb⟩ := R1.out.cells
  go_wp2_with fail
  refine (meetLocks_any m _ _ _ zss _ _ _ yss _ R1.out.s1 HN1.out R1.out.s2 HN2.out).mono ?_
  rw [HME.out, HML.out]
  rintro e w2 ⟨Vx, nx, cx_, gs2, rfl, hrag, hc2, hd2, b2⟩
  have hs2 := hrag.sets
  clear hrag
  have bX := (Below.refl w2.heap.size w2).alloc (Nat.le_refl _) (.cells #[.slice Vx nx cx_] 30)
  have X2 : Hid (BX (w2.alloc (.cells #[.slice Vx nx cx_] 30)) w2.heap.size Vx nx cx_ ml) := Lib.hid ⟨Cell1.new w2 30 (.slice Vx nx cx_), hs2.on bX⟩
  have R2 := Lib.hid ((R1.out.on b2).on bX)
  clear q0 q1 q2 q3 q4 ca cb R1  b2 bX hs2
  obtain ⟨q0, q1, q2, q3, q4, ca, cb⟩ := R2.out.cells
  go_wp2_with fail
  refine (specMeetLocks_any m _ _ _ zss _ _ _ yss _ R2.out.s1 HN1.out R2.out.s2 HN2.out).mono ?_
  rw [HME.out, HML.out]
  rintro e w3 ⟨Vm, nm, cm_, rfl, hs3, hc3, hd3, b3⟩
  have bX := (Below.refl w3.heap.size w3).alloc (Nat.le_refl _) (.cells #[.slice Vm nm cm_] 30)
  have M3 : Hid (BX (w3.alloc (.cells #[.slice Vm nm cm_] 30)) w3.heap.size Vm nm cm_ ml) := Lib.hid ⟨Cell1.new w3 30 (.slice Vm nm cm_), hs3.on bX⟩
  have R3 := Lib.hid ((R2.out.on b3).on bX)
  have X3 := Lib.hid ((X2.out.on b3).on bX)
  clear q0 q1 q2 q3 q4 ca cb R2 X2 b3 bX hs3
  obtain ⟨q0, q1, q2, q3, q4, ca, cb⟩ := R3.out.cells
  go_wp2_with fail
  refine (joinLocks_any m _ _ _ zss _ _ _ yss _ R3.out.s1 HN1.out R3.out.s2 HN2.out).mono ?_
  rw [HTE.out, HJL.out]
  rintro e w4 ⟨Vj, nj, cj_, gs4, rfl, hrag, hc4, hd4, b4⟩
  have hs4 := hrag.sets
  clear hrag
  have bX := (Below.refl w4.heap.size w4).alloc (Nat.le_refl _) (.cells #[.slice Vj nj cj_] 30)
  have J4 : Hid (BX (w4.alloc (.cells #[.slice Vj nj cj_] 30)) w4.heap.size Vj nj cj_ jl) := Lib.hid ⟨Cell1.new w4 30 (.slice Vj nj cj_), hs4.on bX⟩
  have R4 := Lib.hid ((R3.out.on b4).on bX)
  have X4 := Lib.hid ((X3.out.on b4).on bX)
  have M4 := Lib.hid ((M3.out.on b4).on bX)
  clear q0 q1 q2 q3 q4 ca cb R3 X3 M3 b4 bX hs4
  obtain ⟨q0, q1, q2, q3, q4, ca, cb⟩ := R4.out.cells
  go_wp2_with fail
  refine (specJoinLocks_any m _ _ _ zss _ _ _ yss _ R4.out.s1 HN1.out R4.out.s2 HN2.out).mono ?_
  rw [HTE.out, HJL.out]
  rintro e w5 ⟨Vd, nd, cd_, rfl, hs5, hc5, hd5, b5⟩
  have bX := (Below.refl w5.heap.size w5).alloc (Nat.le_refl _) (.cells #[.slice Vd nd cd_] 30)
  have D5 : Hid (BX (w5.alloc (.cells #[.slice Vd nd cd_] 30)) w5.heap.size Vd nd cd_ jl) := Lib.hid ⟨Cell1.new w5 30 (.slice Vd nd cd_), hs5.on bX⟩
  have R5 := Lib.hid ((R4.out.on b5).on bX)
  have X5 := Lib.hid ((X4.out.on b5).on bX)
  have M5 := Lib.hid ((M4.out.on b5).on bX)
  have J5 := Lib.hid ((J4.out.on b5).on bX)
  clear q0 q1 q2 q3 q4 ca cb R4 X4 M4 J4 b5 bX hs5
  obtain rfl : nx = nm := by have h1 := X5.out.s.len; have h2 := M5.out.s.len; omega
  obtain rfl : nj = nd := by have h1 := J5.out.s.len; have h2 := D5.out.s.len; omega
  have hm2 : nx + sizeL ml ≤ 1048576 := by have := HMS.out; rw [X5.out.s.len] at this; exact this
  have hj2 : nj + sizeL jl ≤ 1048576 := by have := HJS.out; rw [J5.out.s.len] at this; exact this
  have f1 := X5.out.k.cell
  have f2 := M5.out.k.cell
  go_wp2_with fail
  refine (likeLocks_true _ _ _ _ _ _ _ X5.out.s M5.out.s hm2).mono ?_
  rintro e w6 ⟨rfl, b6⟩
  have R6 := Lib.hid (R5.out.on b6)
  have X6 := Lib.hid (X5.out.on b6)
  have J6 := Lib.hid (J5.out.on b6)
  have D6 := Lib.hid (D5.out.on b6)
  clear f1 f2 R5 X5 M5 J5 D5 b6
  have f1 := J6.out.k.cell
  have f2 := D6.out.k.cell
  go_wp2_with fail
  refine (likeLocks_true _ _ _ _ _ _ _ J6.out.s D6.out.s hj2).mono ?_
  rintro e w7 ⟨rfl, b7⟩
  have R7 := Lib.hid (R6.out.on b7)
  have X7 := Lib.hid (X6.out.on b7)
  have J7 := Lib.hid (J6.out.on b7)
  clear f1 f2 R6 X6 J6 D6 b7
  by_cases ht : te = 0
  rotate_left
  · have dn : (te != 0) = true := by simpa using ht
    have C := R7.out.C
    clear ht HLAW
    go_wp2
    go_ret
    exact ⟨rfl, C⟩
  obtain ⟨l1, l2, l3, l4, j, a, b, d, v1, v2, v3, v4, v5, i1, i2, i3, i4, i5, i6⟩ := HLAW.out ht
  subst ht
  have HV1 := Lib.hid (And.intro l3 v1)
  have HV2 := Lib.hid (And.intro l1 v2)
  have HV3 := Lib.hid (And.intro l2 v3)
  have HV4 := Lib.hid (fun e => And.intro (l4 e) (v4 e))
  have HV5 := Lib.hid v5
  clear l1 l2 l3 l4 v1 v2 v3 v4 v5 HLAW
  obtain ⟨q0, q1, q2, q3, q4, ca, cb⟩ := R7.out.cells
  have cx := J7.out.k.cell
  go_wp2_with fail
  refine (countOpeners_any m _ _ _ jl _ J7.out.s hj2).mono ?_
  rw [HV1.out.1, HV1.out.2]
  rintro e w8 ⟨rfl, b8⟩
  have R8 := Lib.hid (R7.out.on b8)
  have X8 := Lib.hid (X7.out.on b8)
  clear q0 q1 q2 q3 q4 ca cb cx R7 X7 b8
  obtain ⟨q0, q1, q2, q3, q4, ca, cb⟩ := R8.out.cells
  go_wp2_with fail
  refine (countOpeners_any m _ _ _ zss _ R8.out.s1 HN1.out).mono ?_
  rw [HV2.out.1, HV2.out.2]
  rintro e w9 ⟨rfl, b9⟩
  have R9 := Lib.hid (R8.out.on b9)
  have X9 := Lib.hid (X8.out.on b9)
  clear q0 q1 q2 q3 q4 ca cb R8 X8 b9
  obtain ⟨q0, q1, q2, q3, q4, ca, cb⟩ := R9.out.cells
  go_wp2_with fail
  refine (countOpeners_any m _ _ _ yss _ R9.out.s2 HN2.out).mono ?_
  rw [HV3.out.1, HV3.out.2]
  rintro e wa ⟨rfl, ba⟩
  have Ra := Lib.hid (R9.out.on ba)
  have Xa := Lib.hid (X9.out.on ba)
  clear q0 q1 q2 q3 q4 ca cb R9 X9 ba
  have g1 : IntKind.i64.wrap ((a : Int) + (b : Int)) = (a : Int) + (b : Int) := IntWalk.i64_in _ (by omega)
  have dge : decide ((a : Int) + (b : Int) - (d : Int) ≤ (j : Int)) = true := by simp; omega
  have hmn : min (a : Int) (b : Int) = ((min a b : Nat) : Int) := by omega
  have dm2 : decide (d ≤ min a b) = true := by simp; omega
  have dmn : decide ((d : Int) ≤ min (a : Int) (b : Int)) = true := by simp; omega
  have g2 : IntKind.i64.wrap ((a : Int) + (b : Int) - (d : Int)) = (a : Int) + (b : Int) - (d : Int) := IntWalk.i64_in _ (by omega)
  by_cases hb : me = 0
  · subst hb
    have HX := Lib.hid (HV4.out rfl)
    clear HV4 HV5
    obtain ⟨q0, q1, q2, q3, q4, ca, cb⟩ := Ra.out.cells
    have cx := Xa.out.k.cell
    go_wp2_with fail
    refine (countOpeners_any m _ _ _ ml _ Xa.out.s hm2).mono ?_
    rw [HX.out.1, HX.out.2]
    rintro e wb ⟨rfl, bb⟩
    have Rb := Lib.hid (Ra.out.on bb)
    clear q0 q1 q2 q3 q4 ca cb cx Ra  bb
    have C := Rb.out.C
    go_wp2
    go_ret
    exact ⟨rfl, C⟩
  obtain rfl : d = 0 := HV5.out hb
  have db : (me == 0) = false := by simpa using hb
  have C := Ra.out.C
  clear HV4 HV5 hb
  go_wp2
  go_ret
  exact ⟨rfl, C⟩

end Go.Proofs.Ytbfnffecmglgfaa
