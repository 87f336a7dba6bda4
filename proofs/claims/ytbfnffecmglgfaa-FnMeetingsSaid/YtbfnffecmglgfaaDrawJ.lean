/- The draw of a maker and two locks. -/
import Derived.Test.YtbfnffecmglgfaaDraw8
import Derived.Test.YtbfnffecmglgfaaSJoinF
namespace Go.Proofs.Ytbfnffecmglgfaa
open Go Go.RowKit

/-- what stands while a maker and two locks are drawn -/
structure DM (w W : World) (B g : Nat) (A : Option Addr) (n c : Nat) (m : Mk) (bm lo : Nat) (V : Option Addr) (k c' : Nat) (zss : List (List Int)) : Prop where
  d : DL w W B g A n c m bm lo V k c' zss
  o2 : Cell1 W (w.heap.size + 2) 30 (.slice none 0 0)
  h2 : w.heap.size + 2 < g
theorem DM.on {w W W' : World} {B g n c bm lo k c' : Nat} {A V : Option Addr} {m : Mk} {zss : List (List Int)} (h : DM w W B g A n c m bm lo V k c' zss) (b : Below W.heap.size W W') : DM w W' B g A n c m bm lo V k c' zss := ⟨h.d.on b, h.o2.on b, h.h2⟩
theorem DM.grown {w W W' : World} {B g n c bm lo k c' : Nat} {A V : Option Addr} {m : Mk} {zss : List (List Int)} (h : DM w W B g A n c m bm lo V k c' zss) (hg : W.grownBy W' (some g)) (hs : Src W' B g A n c) : DM w W' B g A n c m bm lo V k c' zss := ⟨h.d.grown hg hs, h.o2.grown hg (fun e => by injection e with e; have := h.h2; omega), h.h2⟩
theorem Far.past8 {w : World} {lo n c : Nat} {V : Option Addr} {zss : List (List Int)} {p : Addr} {t : TypeId} {a : Option Addr} {n' c' : Nat} (h : Far w lo V n c zss) (k : Cell1 w p.block t (.slice a n' c')) (hV : ∀ ad, V = some ad → ad.block ≠ p.block) (u : Value) : Far (w.setCell p u) lo V n c zss := ⟨h.sets.past k hV u, h.top, h.low.put hV (Nat.le_refl _) u⟩
theorem DM.put8 {w W : World} {B g n c bm lo k c' b8 n1 c1 : Nat} {A V a : Option Addr} {m : Mk} {zss : List (List Int)} {t : TypeId} (h : DM w W B g A n c m bm lo V k c' zss) (k8 : Cell1 W b8 t (.slice a n1 c1)) (hb8 : bm + 1 < b8) (hV : ∀ ad, V = some ad → ad.block ≠ b8) (u : Value) : DM w (W.setCell ⟨b8, 0, none⟩ u) B g A n c m bm lo V k c' zss :=
  have h1 := h.d.hg
  have h2 := h.d.hl
  have h3 := h.d.hm
  have h4 := h.h2
  ⟨⟨h.d.x.other (p := ⟨b8, 0, none⟩) (by show b8 ≠ w.heap.size; omega) u, h.d.o.other (p := ⟨b8, 0, none⟩) (by show w.heap.size + 1 ≠ b8; omega) u, h.d.y.other (p := ⟨b8, 0, none⟩) (by show b8 ≠ bm; omega) u, h.d.l.other (p := ⟨b8, 0, none⟩) (by show bm + 1 ≠ b8; omega) u, h.d.f.past8 (p := ⟨b8, 0, none⟩) k8 hV u, h.d.h.apart (grown_set (p := ⟨b8, 0, none⟩) (World.grownBy.refl W (some b8)) rfl u) (fun q e => by injection e with e; omega), below_set h.d.c (p := ⟨b8, 0, none⟩) (by show w.heap.size ≤ b8; omega) u, h.d.hB, h.d.hg, h.d.hl, h.d.hm⟩, h.o2.other (p := ⟨b8, 0, none⟩) (by show w.heap.size + 2 ≠ b8; omega) u, h.h2⟩
/-- all three results stored -/
structure DY (w W : World) (m : Mk) (V : Option Addr) (k c' : Nat) (zss : List (List Int)) (V2 : Option Addr) (k2 c2 : Nat) (yss : List (List Int)) : Prop where
  x : Boxed W w.heap.size 25 m
  o : Cell1 W (w.heap.size + 1) 30 (.slice V k c')
  o2 : Cell1 W (w.heap.size + 2) 30 (.slice V2 k2 c2)
  f : Far W w.heap.size V k c' zss
  f2 : Far W w.heap.size V2 k2 c2 yss
  c : Below w.heap.size w W
theorem DY.drew {w W : World} {m : Mk} {V V2 : Option Addr} {k c' k2 c2 : Nat} {zss yss : List (List Int)} (h : DY w W m V k c' zss V2 k2 c2 yss) : DY w W.drew m V k c' zss V2 k2 c2 yss :=
  have b := below_drewN (Below.refl W.heap.size W) 1
  ⟨h.x.on b, h.o.on b, h.o2.on b, h.f.on b, h.f2.on b, below_trans' h.c b⟩
theorem DM.last {w W : World} {B g n c bm lo k c' : Nat} {A V : Option Addr} {m : Mk} {zss : List (List Int)} {V2 : Option Addr} {k2 c2 : Nat} {yss : List (List Int)} (h : DM w W B g A n c m bm lo V k c' zss) (hf2 : Far W lo V2 k2 c2 yss) : DY w ((((((((W.setCell ⟨w.heap.size, 0, none⟩ (.int .i64 m.C)).setCell ⟨w.heap.size, 1, none⟩ (.int .i64 m.D)).setCell ⟨w.heap.size, 2, none⟩ (.int .i64 m.S)).setCell ⟨w.heap.size, 3, none⟩ (.int .i64 m.M)).setCell ⟨w.heap.size, 4, none⟩ (.int .i64 m.L)).setCell ⟨w.heap.size + 1, 0, none⟩ (.slice V k c'))).setCell ⟨w.heap.size + 2, 0, none⟩ ((.slice V2 k2 c2))) m V k c' zss V2 k2 c2 yss := by
  have h1 := h.h2
  have h2 := h.d.hl
  have hx := ((h.d.x.put m).other (p := ⟨w.heap.size + 1, 0, none⟩) (by show w.heap.size + 1 ≠ w.heap.size; omega) (.slice V k c')).other (p := ⟨w.heap.size + 2, 0, none⟩) (by show w.heap.size + 2 ≠ w.heap.size; omega) (.slice V2 k2 c2)
  have ho := ((h.d.o.aside5 (b' := w.heap.size) (by omega) m).put (.slice V k c')).other (p := ⟨w.heap.size + 2, 0, none⟩) (by show w.heap.size + 1 ≠ w.heap.size + 2; omega) (.slice V2 k2 c2)
  have ho2 := ((h.o2.aside5 (b' := w.heap.size) (by omega) m).other (p := ⟨w.heap.size + 1, 0, none⟩) (by show w.heap.size + 2 ≠ w.heap.size + 1; omega) (.slice V k c')).put (.slice V2 k2 c2)
  have hf := (((h.d.f.aside5 (b := w.heap.size) (by omega) m).aside (p := ⟨w.heap.size + 1, 0, none⟩) (by show w.heap.size + 1 < _; omega) (.slice V k c')).aside (p := ⟨w.heap.size + 2, 0, none⟩) (by show w.heap.size + 2 < _; omega) (.slice V2 k2 c2)).down (lo' := w.heap.size) (by omega)
  have hg := (((hf2.aside5 (b := w.heap.size) (by omega) m).aside (p := ⟨w.heap.size + 1, 0, none⟩) (by show w.heap.size + 1 < _; omega) (.slice V k c')).aside (p := ⟨w.heap.size + 2, 0, none⟩) (by show w.heap.size + 2 < _; omega) (.slice V2 k2 c2)).down (lo' := w.heap.size) (by omega)
  have hc := below_set (below_set (below_put h.d.c (Nat.le_refl _) m) (p := ⟨w.heap.size + 1, 0, none⟩) (by show w.heap.size ≤ w.heap.size + 1; omega) (.slice V k c')) (p := ⟨w.heap.size + 2, 0, none⟩) (by show w.heap.size ≤ w.heap.size + 2; omega) (.slice V2 k2 c2)
  unfold put5 at hx ho ho2 hf hg hc
  exact ⟨hx, ho, ho2, hf, hg, hc⟩
/-- a maker and two locks -/
def DrawnLL (w : World) (e : Ending) (w' : World) : Prop :=
  ∃ (m : Mk) (V : Option Addr) (k c' : Nat) (zss : List (List Int)) (V2 : Option Addr) (k2 c2 : Nat) (yss : List (List Int)), e = .returned (.tuple #[.agg #[.int .i64 m.C, .int .i64 m.D, .int .i64 m.S, .int .i64 m.M, .int .i64 m.L], .agg #[.slice V k c'], .agg #[.slice V2 k2 c2]]) ∧ Far w' w.heap.size V k c' zss ∧ k + sizeL zss ≤ 1048576 ∧ Far w' w.heap.size V2 k2 c2 yss ∧ k2 + sizeL yss ≤ 1048576 ∧ Below w.heap.size w w'
theorem sizeAt_boundJ {yss : List (List Int)} {b : Nat} (h : ∀ i, (yss.getD i []).length ≤ b) : ∀ k, sizeAt yss k ≤ k * b
  | 0 => Nat.zero_le _
  | k + 1 => by
    have h1 := sizeAt_boundJ h k
    have h2 := h k
    show sizeAt yss k + _ ≤ (k + 1) * b
    rw [Nat.add_mul, Nat.one_mul]
    omega
theorem lockOf_sizeJ {C D : Nat} {p : Nat → Nat → Bool} (hC : C ≤ 6) (hD : D ≤ 8) : (lockOf C D p).length + sizeL (lockOf C D p) ≤ 1048576 := by
  have h1 : ∀ i, ((lockOf C D p).getD i []).length ≤ 8 := by
    intro i
    rcases Nat.lt_or_ge i C with h | h
    · rw [getD_list (lockOf_at h)]
      have := setOf_len D (p i)
      omega
    · rw [List.getD_eq_getElem?_getD, List.getElem?_eq_none (by rw [lockOf_len]; exact h)]
      exact Nat.zero_le _
  have h2 := sizeAt_boundJ h1 (lockOf C D p).length
  unfold sizeL
  rw [lockOf_len] at *
  omega
theorem jn_small (m : Mk) (yss zss : List (List Int)) : (jnL m yss zss).length + sizeL (jnL m yss zss) ≤ 1048576 := by
  by_cases h : lockB m yss = true ∧ lockB m zss = true
  · rw [(two_yes h.1 h.2).2]
    obtain ⟨m1, m2, m3, m4, _⟩ := Mk.ok_true (lockB_facts h.1).1
    exact lockOf_sizeJ (by omega) (by omega)
  · have hh : lockB m yss = false ∨ lockB m zss = false := by
      rcases h1 : lockB m yss with _ | _ <;> rcases h2 : lockB m zss with _ | _ <;> simp_all
    rw [(two_no hh).2]; simp [sizeL, sizeAt]

theorem few_sizeJ {k : Nat} {zss : List (List Int)} (h : Few k zss) (hl : zss.length = k) : k + sizeL zss ≤ 1048576 := by
  have h1 : ∀ j, sizeAt zss j ≤ j * 9 := by
    intro j
    induction j with
    | zero => exact Nat.le_refl _
    | succ j ih =>
      have h2 : (zss.getD j []).length ≤ 9 := by
        rcases Nat.lt_or_ge j zss.length with hi | hi
        · rw [List.getD_eq_getElem?_getD, List.getElem?_eq_getElem hi]
          exact h.2 _ (List.getElem_mem hi)
        · rw [List.getD_eq_getElem?_getD, List.getElem?_eq_none hi]
          exact Nat.zero_le _
      show sizeAt zss j + _ ≤ (j + 1) * 9
      rw [Nat.add_mul, Nat.one_mul]
      omega
  have h2 := h1 zss.length
  have h3 := h.1
  unfold sizeL
  rw [hl] at *
  omega

set_option maxRecDepth 100000 in
set_option maxHeartbeats 8000000 in
theorem drawMeetLocks_any (B : Nat) (A : Option Addr) (n c : Nat) (w : World) (hb : Bts w B A n) (hB : B ≤ w.heap.size) (hn : n ≤ 4096) :
    Calls Try.prog 37 #[.slice A n c] w (DrawnLL w) := by
  have bA0 := ((Below.refl w.heap.size w).alloc (Nat.le_refl _) (.cells #[.int .i64 0, .int .i64 0, .int .i64 0, .int .i64 0, .int .i64 0] 25)).alloc (by simp) (.cells #[.slice none 0 0] 30)
  have bA := bA0.alloc (by simp; omega) (.cells #[.slice none 0 0] 30)
  have bL := (Below.refl ((w.alloc (.cells #[.int .i64 0, .int .i64 0, .int .i64 0, .int .i64 0, .int .i64 0] 25)).alloc (.cells #[.slice none 0 0] 30)).heap.size ((w.alloc (.cells #[.int .i64 0, .int .i64 0, .int .i64 0, .int .i64 0, .int .i64 0] 25)).alloc (.cells #[.slice none 0 0] 30))).alloc (Nat.le_refl _) (.cells #[.slice none 0 0] 30)
  have HB := Lib.hid (hb.keep (fun p hp => Below.cell bA (by omega)))
  have X0 := Lib.hid (((Boxed.new w 25 ⟨0, 0, 0, 0, 0⟩).alloc (.cells #[.slice none 0 0] 30)).alloc (.cells #[.slice none 0 0] 30))
  have O0' := Cell1.new (w.alloc (.cells #[.int .i64 0, .int .i64 0, .int .i64 0, .int .i64 0, .int .i64 0] 25)) 30 (.slice none 0 0)
  rw [World.size_alloc] at O0'
  have O0 := Lib.hid (O0'.on bL)
  have P0' := Cell1.new ((w.alloc (.cells #[.int .i64 0, .int .i64 0, .int .i64 0, .int .i64 0, .int .i64 0] 25)).alloc (.cells #[.slice none 0 0] 30)) 30 (.slice none 0 0)
  rw [World.size_alloc, World.size_alloc] at P0'
  have P0 := Lib.hid P0'
  have BA := Lib.hid bA
  clear hb O0' P0' bA bA0 bL
  go_enter Try.func37, Try.ntmps37
  go_wp2_with fail
  refine (l01From_any B A n c _ HB.out (by simp; omega) hn).mono ?_
  rintro e w1 ⟨g, rfl, hg, hg1, h1, b1⟩
  have X1 := Lib.hid (X0.out.on b1)
  have O1 := Lib.hid (O0.out.on b1)
  have P1 := Lib.hid (P0.out.on b1)
  have B1 := Lib.hid (below_trans' BA.out b1)
  have hgw : w.heap.size + 2 < g := by simp at hg; omega
  clear X0 O0 P0 BA HB b1
  go_wp2_with fail
  refine (l04Draw_any B g A n c _ h1 (by have := B1.out.size; omega)).mono ?_
  rintro e w2 ⟨m, V, k, c', zss, rfl, hSm, hF, hFew, hkc, hcm, h2, g2⟩
  have K2 : Hid (DM w ((w2.alloc (.cells #[.int .i64 m.C, .int .i64 m.D, .int .i64 m.S, .int .i64 m.M, .int .i64 m.L] 25)).alloc (.cells #[.slice V k c'] 30)) B g A n c m w2.heap.size w1.heap.size V k c' zss) := Lib.hid ⟨DL.start (X1.out.grown g2 (by intro e; injection e with e; omega)) (O1.out.grown g2 (by intro e; injection e with e; omega)) hF h2 (below_grown B1.out g2 (fun q e => by injection e with e; omega)) hB (by omega) hg1 g2.size, (P1.out.grown g2 (by intro e; injection e with e; omega)).on (((Below.refl w2.heap.size w2).alloc (Nat.le_refl _) (.cells #[.int .i64 m.C, .int .i64 m.D, .int .i64 m.S, .int .i64 m.M, .int .i64 m.L] 25)).alloc (by simp) (.cells #[.slice V k c'] 30)), hgw⟩
  have HN := Lib.hid (few_sizeJ hFew hF.sets.len)
  have HV : Hid (0 < k → ∀ ad, V = some ad → ad.block < w2.heap.size) := Lib.hid (fun hk ad e => by
    obtain ⟨ad', e', hb', _⟩ := hF.sets.2 hk
    rw [e] at e'
    injection e' with e'
    subst e'
    exact hb')
  obtain ⟨b6, h6⟩ : ∃ b6, b6 = w2.heap.size := ⟨_, rfl⟩
  rw [← h6] at HV
  clear X1 O1 P1 B1 hF hFew h1 h2 g2
  obtain ⟨q0, q1, q2, q3, q4, cl⟩ := K2.out.d.cells
  go_wp2_with fail
  refine (specIsMaker_any m _).mono ?_
  clear q0 q1 q2 q3 q4 cl
  rcases hok : m.ok with _ | _
  · rintro e w3 ⟨rfl, b3⟩
    have K3 := K2.out.on b3
    rw [← h6] at K3 ⊢
    have K3 := Lib.hid K3
    clear K2 b3 h6
    obtain ⟨q0, q1, q2, q3, q4, cl⟩ := K3.out.d.cells
    obtain ⟨p0, p1, p2, p3, p4⟩ := K3.out.d.x.cells
    have co := K3.out.d.o.cell
    have fo := K3.out.d.o.thawed
    have fx := K3.out.d.x.thawed
    have co2 := K3.out.o2.cell
    have fo2 := K3.out.o2.thawed
    skip
    have hwb : w.heap.size + 2 < b6 := by have h1 := K3.out.h2; have h2 := K3.out.d.hl; have h3 := K3.out.d.hm; omega
    go_wp2
    go_region
    have HZ := (K3.out.last K3.out.d.f).drew
    generalize hW : ((((((((w3.setCell ⟨w.heap.size, 0, none⟩ (.int .i64 m.C)).setCell ⟨w.heap.size, 1, none⟩ (.int .i64 m.D)).setCell ⟨w.heap.size, 2, none⟩ (.int .i64 m.S)).setCell ⟨w.heap.size, 3, none⟩ (.int .i64 m.M)).setCell ⟨w.heap.size, 4, none⟩ (.int .i64 m.L)).setCell ⟨w.heap.size + 1, 0, none⟩ (.slice V k c'))).setCell ⟨w.heap.size + 2, 0, none⟩ ((.slice V k c'))).drew = W7 at HZ ⊢
    have HZ := Lib.hid HZ
    clear q0 q1 q2 q3 q4 p0 p1 p2 p3 p4 cl co fo fx co2 fo2 hW K3
    go_wp2
    obtain ⟨r0, r1, r2, r3, r4⟩ := HZ.out.x.cells
    have r5 := HZ.out.o.cell
    have r6 := HZ.out.o2.cell
    exact bodyPost_ret (v := .tuple #[.agg #[.int .i64 m.C, .int .i64 m.D, .int .i64 m.S, .int .i64 m.M, .int .i64 m.L], .agg #[.slice V k c'], .agg #[(.slice V k c')]]) (by simp [results, Try.results37, go_sem, r0, r1, r2, r3, r4, r5, r6]) rfl ⟨m, V, k, c', zss, V, k, c', zss, rfl, HZ.out.f, HN.out, HZ.out.f2, HN.out, HZ.out.c⟩
  rintro e w3 ⟨rfl, b3⟩
  have K3 := K2.out.on b3
  rw [← h6] at K3 ⊢
  have K3 := Lib.hid K3
  clear K2 b3 h6
  have hB3 : B ≤ w3.heap.size := Nat.le_trans hB K3.out.d.c.size
  obtain ⟨q0, q1, q2, q3, q4, cl⟩ := K3.out.d.cells
  go_wp2_with fail
  refine (l04Valid_any m hok B g A n c _ K3.out.d.h hB3).mono ?_
  rintro e w4 ⟨V2, k2, c2, xss, rfl, hs2, hkc2, hcm2, htop2, hfree2, hlow2, hxs, h4, g4⟩
  obtain ⟨m1, m2, m3, m4, _⟩ := Mk.ok_true hok
  have hsz := lockOf_sizeJ (C := m.C.toNat) (D := m.D.toNat) (p := hullP xss) (by omega) (by omega)
  rw [hs2.len] at hsz
  have HN2 := Lib.hid hsz
  obtain ⟨yss, hyss⟩ : ∃ yss, yss = lockOf m.C.toNat m.D.toNat (hullP xss) := ⟨_, rfl⟩
  rw [← hyss] at hs2 HN2
  have bL4 := (Below.refl w4.heap.size w4).alloc (Nat.le_refl _) (.cells #[.slice V2 k2 c2] 30)
  have hlo3 : w1.heap.size ≤ w3.heap.size := by have h1 := K3.out.d.hm; have h2 := K3.out.d.y.lt; omega
  have hb63 : b6 + 1 < w3.heap.size := K3.out.d.l.lt
  have hw34 := g4.size
  have F4 : Hid (Far (w4.alloc (.cells #[.slice V2 k2 c2] 30)) w1.heap.size V2 k2 c2 yss) := Lib.hid (((⟨hs2, htop2, hlow2⟩ : Far w4 w3.heap.size V2 k2 c2 yss).on bL4).down hlo3)
  have L4 := Lib.hid (Cell1.new w4 30 (.slice V2 k2 c2))
  have K4 := Lib.hid ((K3.out.grown g4 h4).on bL4)
  clear q0 q1 q2 q3 q4 cl K3 h4 g4 bL4 hs2 htop2 hfree2 hlow2 hxs hsz hyss xss
  obtain ⟨b8, h8⟩ : ∃ b8, b8 = w4.heap.size := ⟨_, rfl⟩
  go_wp2_with fail
  refine (l01Next_any B g A n c _ _ K4.out.d.h (by omega)).mono ?_
  rintro e w5 ⟨x, rfl, x0, x1, h5, g5⟩
  have hg1' := K4.out.d.hl
  have K5 := Lib.hid (K4.out.grown g5 h5)
  have F5 := Lib.hid (F4.out.grown g5 hg1')
  have L5' := L4.out.grown g5 (fun e => by injection e with e; omega)
  rw [← h8] at L5' ⊢
  have L5 := Lib.hid L5'
  have hb68 : b6 + 1 < b8 := by omega
  clear K4 F4 L4 L5' h5 g5 x1 h8 hw34
  by_cases hx : x = 0
  rotate_left
  · have d0 : (x == 0) = false := by simpa using hx
    clear hx
    obtain ⟨q0, q1, q2, q3, q4, cl⟩ := K5.out.d.cells
    obtain ⟨p0, p1, p2, p3, p4⟩ := K5.out.d.x.cells
    have co := K5.out.d.o.cell
    have fo := K5.out.d.o.thawed
    have fx := K5.out.d.x.thawed
    have co2 := K5.out.o2.cell
    have fo2 := K5.out.o2.thawed
    have cb := L5.out.cell
    have hwb : w.heap.size + 2 < b6 := by have h1 := K5.out.h2; have h2 := K5.out.d.hl; have h3 := K5.out.d.hm; omega
    go_wp2
    go_region
    have HZ := (K5.out.last F5.out).drew
    generalize hW : ((((((((w5.setCell ⟨w.heap.size, 0, none⟩ (.int .i64 m.C)).setCell ⟨w.heap.size, 1, none⟩ (.int .i64 m.D)).setCell ⟨w.heap.size, 2, none⟩ (.int .i64 m.S)).setCell ⟨w.heap.size, 3, none⟩ (.int .i64 m.M)).setCell ⟨w.heap.size, 4, none⟩ (.int .i64 m.L)).setCell ⟨w.heap.size + 1, 0, none⟩ (.slice V k c'))).setCell ⟨w.heap.size + 2, 0, none⟩ ((.slice V2 k2 c2))).drew = W7 at HZ ⊢
    have HZ := Lib.hid HZ
    clear q0 q1 q2 q3 q4 p0 p1 p2 p3 p4 cl co fo fx co2 fo2 hW K5
    go_wp2
    obtain ⟨r0, r1, r2, r3, r4⟩ := HZ.out.x.cells
    have r5 := HZ.out.o.cell
    have r6 := HZ.out.o2.cell
    exact bodyPost_ret (v := .tuple #[.agg #[.int .i64 m.C, .int .i64 m.D, .int .i64 m.S, .int .i64 m.M, .int .i64 m.L], .agg #[.slice V k c'], .agg #[(.slice V2 k2 c2)]]) (by simp [results, Try.results37, go_sem, r0, r1, r2, r3, r4, r5, r6]) rfl ⟨m, V, k, c', zss, V2, k2, c2, yss, rfl, HZ.out.f, HN.out, HZ.out.f2, HN2.out, HZ.out.c⟩
  have d0 : (x == 0) = true := by simpa using hx
  clear hx
  obtain ⟨q0, q1, q2, q3, q4, cl⟩ := K5.out.d.cells
  go_wp2_with fail
  refine (specIsLock_any m _ _ _ zss _ K5.out.d.f.sets HN.out).mono ?_
  clear q0 q1 q2 q3 q4 cl
  rcases hL : lockB m zss with _ | _
  · rintro e w6 ⟨rfl, b6'⟩
    have K6 := Lib.hid (K5.out.on b6')
    have F6 := Lib.hid (F5.out.on b6')
    have L6 := Lib.hid (L5.out.on b6')
    clear K5 F5 L5 b6'
    obtain ⟨q0, q1, q2, q3, q4, cl⟩ := K6.out.d.cells
    obtain ⟨p0, p1, p2, p3, p4⟩ := K6.out.d.x.cells
    have co := K6.out.d.o.cell
    have fo := K6.out.d.o.thawed
    have fx := K6.out.d.x.thawed
    have co2 := K6.out.o2.cell
    have fo2 := K6.out.o2.thawed
    have cb := L6.out.cell
    have hwb : w.heap.size + 2 < b6 := by have h1 := K6.out.h2; have h2 := K6.out.d.hl; have h3 := K6.out.d.hm; omega
    go_wp2
    go_region
    have HZ := (K6.out.last F6.out).drew
    generalize hW : ((((((((w6.setCell ⟨w.heap.size, 0, none⟩ (.int .i64 m.C)).setCell ⟨w.heap.size, 1, none⟩ (.int .i64 m.D)).setCell ⟨w.heap.size, 2, none⟩ (.int .i64 m.S)).setCell ⟨w.heap.size, 3, none⟩ (.int .i64 m.M)).setCell ⟨w.heap.size, 4, none⟩ (.int .i64 m.L)).setCell ⟨w.heap.size + 1, 0, none⟩ (.slice V k c'))).setCell ⟨w.heap.size + 2, 0, none⟩ ((.slice V2 k2 c2))).drew = W7 at HZ ⊢
    have HZ := Lib.hid HZ
    clear q0 q1 q2 q3 q4 p0 p1 p2 p3 p4 cl co fo fx co2 fo2 hW K6
    go_wp2
    obtain ⟨r0, r1, r2, r3, r4⟩ := HZ.out.x.cells
    have r5 := HZ.out.o.cell
    have r6 := HZ.out.o2.cell
    exact bodyPost_ret (v := .tuple #[.agg #[.int .i64 m.C, .int .i64 m.D, .int .i64 m.S, .int .i64 m.M, .int .i64 m.L], .agg #[.slice V k c'], .agg #[(.slice V2 k2 c2)]]) (by simp [results, Try.results37, go_sem, r0, r1, r2, r3, r4, r5, r6]) rfl ⟨m, V, k, c', zss, V2, k2, c2, yss, rfl, HZ.out.f, HN.out, HZ.out.f2, HN2.out, HZ.out.c⟩
  rintro e w6 ⟨rfl, b6'⟩
  have K6 := Lib.hid (K5.out.on b6')
  have F6 := Lib.hid (F5.out.on b6')
  have L6 := Lib.hid (L5.out.on b6')
  clear K5 F5 L5 b6'
  have hk0 : 0 < k := by have h1 := (lockB_facts hL).2.1; have h2 := K6.out.d.f.sets.len; omega
  obtain ⟨q0, q1, q2, q3, q4, cl⟩ := K6.out.d.cells
  have cb := L6.out.cell
  go_wp2_with fail
  refine (specJoinFar_any m V k c' zss V2 k2 c2 yss _ K6.out.d.f.sets HN.out F6.out.sets HN2.out).mono ?_
  rintro e w7 ⟨V3, k3, c3, rfl, hF3, hkc3, hcm3, b7⟩
  have HN3 : Hid (k3 + sizeL (jnL m zss yss) ≤ 1048576) := Lib.hid (by have h1 := jn_small m zss yss; rw [hF3.sets.len] at h1; exact h1)
  obtain ⟨jl, hjl⟩ : ∃ jl, jl = jnL m zss yss := ⟨_, rfl⟩
  rw [← hjl] at hF3 HN3
  clear hjl
  have K7 := K6.out.on b7
  have L7 := L6.out.on b7
  have hb86 : b8 < w6.heap.size := L6.out.lt
  have hlo6 : w1.heap.size ≤ w6.heap.size := by have := K7.d.hm; omega
  have K8' := K7.put8 L7 hb68 (fun ad e => by have := HV.out hk0 ad e; omega) (.slice V3 k3 c3)
  have F8' := (hF3.aside (p := ⟨b8, 0, none⟩) hb86 (.slice V3 k3 c3)).down hlo6
  have L8' := L7.put (.slice V3 k3 c3)
  have ft := L7.thawed
  have fc := L7.cell
  clear q0 q1 q2 q3 q4 cl cb K6 F6 L6 b7 hF3 K7
  obtain ⟨w8, hW8⟩ : ∃ w8, w8 = w7.setCell ⟨b8, 0, none⟩ (.slice V3 k3 c3) := ⟨_, rfl⟩
  go_wp2_with fail
  rw [← hW8] at K8' F8' L8' ⊢
  have K8 := Lib.hid K8'
  have F8 := Lib.hid F8'
  have L8 := Lib.hid L8'
  clear K8' F8' L8' ft fc hW8 L7
  obtain ⟨q0, q1, q2, q3, q4, cl⟩ := K8.out.d.cells
  obtain ⟨p0, p1, p2, p3, p4⟩ := K8.out.d.x.cells
  have co := K8.out.d.o.cell
  have fo := K8.out.d.o.thawed
  have fx := K8.out.d.x.thawed
  have co2 := K8.out.o2.cell
  have fo2 := K8.out.o2.thawed
  have cb := L8.out.cell
  have hwb : w.heap.size + 2 < b6 := by have h1 := K8.out.h2; have h2 := K8.out.d.hl; have h3 := K8.out.d.hm; omega
  skip
  go_region
  have HZ := (K8.out.last F8.out).drew
  generalize hW : ((((((((w8.setCell ⟨w.heap.size, 0, none⟩ (.int .i64 m.C)).setCell ⟨w.heap.size, 1, none⟩ (.int .i64 m.D)).setCell ⟨w.heap.size, 2, none⟩ (.int .i64 m.S)).setCell ⟨w.heap.size, 3, none⟩ (.int .i64 m.M)).setCell ⟨w.heap.size, 4, none⟩ (.int .i64 m.L)).setCell ⟨w.heap.size + 1, 0, none⟩ (.slice V k c'))).setCell ⟨w.heap.size + 2, 0, none⟩ ((.slice V3 k3 c3))).drew = W7 at HZ ⊢
  have HZ := Lib.hid HZ
  clear q0 q1 q2 q3 q4 p0 p1 p2 p3 p4 cl co fo fx co2 fo2 hW K8
  go_wp2
  obtain ⟨r0, r1, r2, r3, r4⟩ := HZ.out.x.cells
  have r5 := HZ.out.o.cell
  have r6 := HZ.out.o2.cell
  exact bodyPost_ret (v := .tuple #[.agg #[.int .i64 m.C, .int .i64 m.D, .int .i64 m.S, .int .i64 m.M, .int .i64 m.L], .agg #[.slice V k c'], .agg #[(.slice V3 k3 c3)]]) (by simp [results, Try.results37, go_sem, r0, r1, r2, r3, r4, r5, r6]) rfl ⟨m, V, k, c', zss, V3, k3, c3, jl, rfl, HZ.out.f, HN.out, HZ.out.f2, HN3.out, HZ.out.c⟩

end Go.Proofs.Ytbfnffecmglgfaa
