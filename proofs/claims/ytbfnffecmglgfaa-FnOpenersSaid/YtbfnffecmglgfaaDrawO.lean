/- What the laws draw of makers, locks and keys. -/
import Derived.Test.YtbfnffecmglgfaaDraw8
import Derived.Test.YtbfnffecmglgfaaDrawKey
namespace Go.Proofs.Ytbfnffecmglgfaa
open Go Go.RowKit

/-- a list that lies from a block on -/
structure FarI (w : World) (lo : Nat) (A : Option Addr) (q : Nat) (xs : List Int) : Prop where
  ints : Ints w w.heap.size A q xs
  top : 0 < q → ∀ ad, A = some ad → lo ≤ ad.block
theorem FarI.on {w w' : World} {lo q : Nat} {A : Option Addr} {xs : List Int} (h : FarI w lo A q xs) (hb : Below w.heap.size w w') : FarI w' lo A q xs := ⟨h.ints.on hb, h.top⟩
theorem FarI.past {w w' : World} {lo q : Nat} {A : Option Addr} {xs : List Int} {row : Option Nat} (h : FarI w lo A q xs) (hg : w.grownBy w' row) (hr : ∀ g, row = some g → g < lo) : FarI w' lo A q xs :=
  ⟨h.ints.past hg (fun h0 ad e e2 => by have := h.top h0 ad e; have := hr _ e2; omega), h.top⟩
theorem FarI.aside {w : World} {lo q : Nat} {A : Option Addr} {xs : List Int} {p : Addr} (h : FarI w lo A q xs) (hp : p.block < lo) (u : Value) : FarI (w.setCell p u) lo A q xs :=
  h.past (grown_set (p := p) (World.grownBy.refl w (some p.block)) rfl u) (fun g e => by injection e with e; omega)
theorem FarI.down {w : World} {lo lo' q : Nat} {A : Option Addr} {xs : List Int} (h : FarI w lo A q xs) (hl : lo' ≤ lo) : FarI w lo' A q xs := ⟨h.ints, fun h0 ad e => Nat.le_trans hl (h.top h0 ad e)⟩
theorem FarI.put6 {w W : World} {lo q k c' : Nat} {A V : Option Addr} {m : Mk} {xs : List Int} (h : FarI W lo A q xs) (hl : w.heap.size + 1 < lo) : FarI (((((((W.setCell ⟨w.heap.size, 0, none⟩ (.int .i64 m.C)).setCell ⟨w.heap.size, 1, none⟩ (.int .i64 m.D)).setCell ⟨w.heap.size, 2, none⟩ (.int .i64 m.S)).setCell ⟨w.heap.size, 3, none⟩ (.int .i64 m.M)).setCell ⟨w.heap.size, 4, none⟩ (.int .i64 m.L)).setCell ⟨w.heap.size + 1, 0, none⟩ (.slice V k c'))) w.heap.size A q xs :=
  ((((((h.aside (p := ⟨w.heap.size, 0, none⟩) (by show w.heap.size < lo; omega) _).aside (p := ⟨w.heap.size, 1, none⟩) (by show w.heap.size < lo; omega) _).aside (p := ⟨w.heap.size, 2, none⟩) (by show w.heap.size < lo; omega) _).aside (p := ⟨w.heap.size, 3, none⟩) (by show w.heap.size < lo; omega) _).aside (p := ⟨w.heap.size, 4, none⟩) (by show w.heap.size < lo; omega) _).aside (p := ⟨w.heap.size + 1, 0, none⟩) (by show w.heap.size + 1 < lo; omega) _).down (by omega)
theorem FarI.of_own {w : World} {lo hi q : Nat} {A : Option Addr} {xs : List Int} (h : Own w lo hi A q xs) (hh : hi ≤ w.heap.size) : FarI w lo A q xs :=
  ⟨⟨h.1, fun h0 => by
    obtain ⟨ad, e, h1, h2, hc⟩ := h.2.2 h0
    exact ⟨ad, e, by omega, fun j v hv => (hc j v hv).2⟩⟩, fun h0 ad e => by
    obtain ⟨ad2, e2, h1, _⟩ := h.2.2 h0
    rw [e] at e2
    injection e2 with e2
    subst e2
    exact h1⟩
theorem DL.s5 {w W : World} {B g n c bm lo k c' : Nat} {A V : Option Addr} {m : Mk} {zss : List (List Int)} (h : DL w W B g A n c m bm lo V k c' zss) : (((((W.setCell ⟨w.heap.size, 0, none⟩ (.int .i64 m.C)).setCell ⟨w.heap.size, 1, none⟩ (.int .i64 m.D)).setCell ⟨w.heap.size, 2, none⟩ (.int .i64 m.S)).setCell ⟨w.heap.size, 3, none⟩ (.int .i64 m.M)).setCell ⟨w.heap.size, 4, none⟩ (.int .i64 m.L)).cell? ⟨bm, 0, none⟩ = some (.int .i64 m.C) ∧ (((((W.setCell ⟨w.heap.size, 0, none⟩ (.int .i64 m.C)).setCell ⟨w.heap.size, 1, none⟩ (.int .i64 m.D)).setCell ⟨w.heap.size, 2, none⟩ (.int .i64 m.S)).setCell ⟨w.heap.size, 3, none⟩ (.int .i64 m.M)).setCell ⟨w.heap.size, 4, none⟩ (.int .i64 m.L)).cell? ⟨bm, 1, none⟩ = some (.int .i64 m.D) ∧ (((((W.setCell ⟨w.heap.size, 0, none⟩ (.int .i64 m.C)).setCell ⟨w.heap.size, 1, none⟩ (.int .i64 m.D)).setCell ⟨w.heap.size, 2, none⟩ (.int .i64 m.S)).setCell ⟨w.heap.size, 3, none⟩ (.int .i64 m.M)).setCell ⟨w.heap.size, 4, none⟩ (.int .i64 m.L)).cell? ⟨bm, 2, none⟩ = some (.int .i64 m.S) ∧ (((((W.setCell ⟨w.heap.size, 0, none⟩ (.int .i64 m.C)).setCell ⟨w.heap.size, 1, none⟩ (.int .i64 m.D)).setCell ⟨w.heap.size, 2, none⟩ (.int .i64 m.S)).setCell ⟨w.heap.size, 3, none⟩ (.int .i64 m.M)).setCell ⟨w.heap.size, 4, none⟩ (.int .i64 m.L)).cell? ⟨bm, 3, none⟩ = some (.int .i64 m.M) ∧ (((((W.setCell ⟨w.heap.size, 0, none⟩ (.int .i64 m.C)).setCell ⟨w.heap.size, 1, none⟩ (.int .i64 m.D)).setCell ⟨w.heap.size, 2, none⟩ (.int .i64 m.S)).setCell ⟨w.heap.size, 3, none⟩ (.int .i64 m.M)).setCell ⟨w.heap.size, 4, none⟩ (.int .i64 m.L)).cell? ⟨bm, 4, none⟩ = some (.int .i64 m.L) ∧ (((((W.setCell ⟨w.heap.size, 0, none⟩ (.int .i64 m.C)).setCell ⟨w.heap.size, 1, none⟩ (.int .i64 m.D)).setCell ⟨w.heap.size, 2, none⟩ (.int .i64 m.S)).setCell ⟨w.heap.size, 3, none⟩ (.int .i64 m.M)).setCell ⟨w.heap.size, 4, none⟩ (.int .i64 m.L)).cell? ⟨bm + 1, 0, none⟩ = some (.slice V k c') := by
  have h1 := h.hg
  have h2 := h.hl
  have h3 := h.hm
  have y := h.y.put_other (b' := w.heap.size) (by omega) m
  have l := h.l.aside5 (b' := w.heap.size) (by omega) m
  unfold put5 at y l
  obtain ⟨q0, q1, q2, q3, q4⟩ := y.cells
  exact ⟨q0, q1, q2, q3, q4, l.cell⟩
theorem DL.s6 {w W : World} {B g n c bm lo k c' : Nat} {A V : Option Addr} {m : Mk} {zss : List (List Int)} (h : DL w W B g A n c m bm lo V k c' zss) : ((((((W.setCell ⟨w.heap.size, 0, none⟩ (.int .i64 m.C)).setCell ⟨w.heap.size, 1, none⟩ (.int .i64 m.D)).setCell ⟨w.heap.size, 2, none⟩ (.int .i64 m.S)).setCell ⟨w.heap.size, 3, none⟩ (.int .i64 m.M)).setCell ⟨w.heap.size, 4, none⟩ (.int .i64 m.L)).setCell ⟨w.heap.size + 1, 0, none⟩ (.slice V k c')).cell? ⟨bm, 0, none⟩ = some (.int .i64 m.C) ∧ ((((((W.setCell ⟨w.heap.size, 0, none⟩ (.int .i64 m.C)).setCell ⟨w.heap.size, 1, none⟩ (.int .i64 m.D)).setCell ⟨w.heap.size, 2, none⟩ (.int .i64 m.S)).setCell ⟨w.heap.size, 3, none⟩ (.int .i64 m.M)).setCell ⟨w.heap.size, 4, none⟩ (.int .i64 m.L)).setCell ⟨w.heap.size + 1, 0, none⟩ (.slice V k c')).cell? ⟨bm, 1, none⟩ = some (.int .i64 m.D) ∧ ((((((W.setCell ⟨w.heap.size, 0, none⟩ (.int .i64 m.C)).setCell ⟨w.heap.size, 1, none⟩ (.int .i64 m.D)).setCell ⟨w.heap.size, 2, none⟩ (.int .i64 m.S)).setCell ⟨w.heap.size, 3, none⟩ (.int .i64 m.M)).setCell ⟨w.heap.size, 4, none⟩ (.int .i64 m.L)).setCell ⟨w.heap.size + 1, 0, none⟩ (.slice V k c')).cell? ⟨bm, 2, none⟩ = some (.int .i64 m.S) ∧ ((((((W.setCell ⟨w.heap.size, 0, none⟩ (.int .i64 m.C)).setCell ⟨w.heap.size, 1, none⟩ (.int .i64 m.D)).setCell ⟨w.heap.size, 2, none⟩ (.int .i64 m.S)).setCell ⟨w.heap.size, 3, none⟩ (.int .i64 m.M)).setCell ⟨w.heap.size, 4, none⟩ (.int .i64 m.L)).setCell ⟨w.heap.size + 1, 0, none⟩ (.slice V k c')).cell? ⟨bm, 3, none⟩ = some (.int .i64 m.M) ∧ ((((((W.setCell ⟨w.heap.size, 0, none⟩ (.int .i64 m.C)).setCell ⟨w.heap.size, 1, none⟩ (.int .i64 m.D)).setCell ⟨w.heap.size, 2, none⟩ (.int .i64 m.S)).setCell ⟨w.heap.size, 3, none⟩ (.int .i64 m.M)).setCell ⟨w.heap.size, 4, none⟩ (.int .i64 m.L)).setCell ⟨w.heap.size + 1, 0, none⟩ (.slice V k c')).cell? ⟨bm, 4, none⟩ = some (.int .i64 m.L) ∧ ((((((W.setCell ⟨w.heap.size, 0, none⟩ (.int .i64 m.C)).setCell ⟨w.heap.size, 1, none⟩ (.int .i64 m.D)).setCell ⟨w.heap.size, 2, none⟩ (.int .i64 m.S)).setCell ⟨w.heap.size, 3, none⟩ (.int .i64 m.M)).setCell ⟨w.heap.size, 4, none⟩ (.int .i64 m.L)).setCell ⟨w.heap.size + 1, 0, none⟩ (.slice V k c')).cell? ⟨bm + 1, 0, none⟩ = some (.slice V k c') := by
  have h1 := h.hg
  have h2 := h.hl
  have h3 := h.hm
  have y := (h.y.put_other (b' := w.heap.size) (by omega) m).other (p := ⟨w.heap.size + 1, 0, none⟩) (by show w.heap.size + 1 ≠ bm; omega) (.slice V k c')
  have l := (h.l.aside5 (b' := w.heap.size) (by omega) m).other (p := ⟨w.heap.size + 1, 0, none⟩) (by show bm + 1 ≠ w.heap.size + 1; omega) (.slice V k c')
  unfold put5 at y l
  obtain ⟨q0, q1, q2, q3, q4⟩ := y.cells
  exact ⟨q0, q1, q2, q3, q4, l.cell⟩

theorem grownDrew (w : World) (row : Option Nat) : w.grownBy w.drew row := ⟨rfl, rfl, rfl, Nat.le_refl _, fun _ _ _ => rfl⟩
theorem drawnLt {r : Int} {n : Nat} (hp : 0 < n) (h : r < (n : Int) ∨ r = 0) : r < (n : Int) := by omega
theorem drawnLtN {r : Int} {n : Nat} (h0 : 0 ≤ r) (h : r < (n : Int)) : r.toNat < n := by omega
theorem and7 {a b c d e f g : Prop} (h : a ∧ b ∧ c ∧ d ∧ e ∧ f) (hg : g) : a ∧ b ∧ c ∧ d ∧ e ∧ f ∧ g := ⟨h.1, h.2.1, h.2.2.1, h.2.2.2.1, h.2.2.2.2.1, h.2.2.2.2.2, hg⟩
/-- cells of a row abide stores ahead of it -/
theorem row5 {w W : World} {ad : Addr} {k : Nat} {vs : Nat → Value} {m : Mk} (hb : w.heap.size < ad.block) (h : ∀ j, j < k → W.cell? (ad.add j) = some (vs j)) : ∀ j, j < k → ((((((W.setCell ⟨w.heap.size, 0, none⟩ (.int .i64 m.C)).setCell ⟨w.heap.size, 1, none⟩ (.int .i64 m.D)).setCell ⟨w.heap.size, 2, none⟩ (.int .i64 m.S)).setCell ⟨w.heap.size, 3, none⟩ (.int .i64 m.M)).setCell ⟨w.heap.size, 4, none⟩ (.int .i64 m.L))).cell? (ad.add j) = some (vs j) := fun j hj => by
  have hne : ∀ i, ad.add j ≠ (⟨w.heap.size, i, none⟩ : Addr) := fun i e => by have := congrArg Addr.block e; rw [block_of_add] at this; simp at this; omega
  rw [World.cell?_setCell_other _ _ _ _ (hne 4).symm, World.cell?_setCell_other _ _ _ _ (hne 3).symm, World.cell?_setCell_other _ _ _ _ (hne 2).symm, World.cell?_setCell_other _ _ _ _ (hne 1).symm, World.cell?_setCell_other _ _ _ _ (hne 0).symm]
  exact h j hj
theorem row6 {w W : World} {ad : Addr} {k kk c' : Nat} {V : Option Addr} {vs : Nat → Value} {m : Mk} (hb : w.heap.size + 1 < ad.block) (h : ∀ j, j < kk → W.cell? (ad.add j) = some (vs j)) : ∀ j, j < kk → (((((((W.setCell ⟨w.heap.size, 0, none⟩ (.int .i64 m.C)).setCell ⟨w.heap.size, 1, none⟩ (.int .i64 m.D)).setCell ⟨w.heap.size, 2, none⟩ (.int .i64 m.S)).setCell ⟨w.heap.size, 3, none⟩ (.int .i64 m.M)).setCell ⟨w.heap.size, 4, none⟩ (.int .i64 m.L)).setCell ⟨w.heap.size + 1, 0, none⟩ (.slice V k c'))).cell? (ad.add j) = some (vs j) := fun j hj => by
  rw [World.cell?_setCell_other _ _ _ _ (fun e => by have := congrArg Addr.block e; rw [block_of_add] at this; simp at this; omega)]
  exact row5 (by omega) h j hj
/-- a maker, a lock and a list -/
def DrawnLMK (w : World) (e : Ending) (w' : World) : Prop :=
  ∃ (m : Mk) (V : Option Addr) (k c' : Nat) (zss : List (List Int)) (A1 : Option Addr) (q d : Nat) (xs : List Int), e = .returned (.tuple #[.agg #[.int .i64 m.C, .int .i64 m.D, .int .i64 m.S, .int .i64 m.M, .int .i64 m.L], .agg #[.slice V k c'], .slice A1 q d]) ∧ Small m ∧ Far w' w.heap.size V k c' zss ∧ Few k zss ∧ k ≤ c' ∧ c' ≤ 9223372036854775807 ∧ FarI w' w.heap.size A1 q xs ∧ q ≤ 1048576 ∧ q ≤ d ∧ d ≤ 9223372036854775807 ∧ Below w.heap.size w w'
theorem few_sizeD {k : Nat} {zss : List (List Int)} (h : Few k zss) (hl : zss.length = k) : k + sizeL zss ≤ 1048576 := by
  have h1 : ∀ j, sizeAt zss j ≤ j * 9 := by
    intro j
    induction j with
    | zero => exact Nat.le_refl _
    | succ j ih =>
      have h2 : (zss.getD j []).length ≤ 9 := by
        rcases Nat.lt_or_ge j zss.length with hi | hi
        · rw [List.getD_eq_getElem?_getD, List.getElem?_eq_getElem hi]
          exact h.2 _ (List.getElem_mem hi)
        · rw [List.getD_eq_getElem?_getD, List.getElem?_eq_none hi]
          exact Nat.zero_le _
      show sizeAt zss j + _ ≤ (j + 1) * 9
      rw [Nat.add_mul, Nat.one_mul]
      omega
  have h2 := h1 zss.length
  have h3 := h.1
  unfold sizeL
  rw [hl] at *
  omega

set_option maxRecDepth 100000 in
set_option maxHeartbeats 8000000 in
theorem drawOpens_any (B : Nat) (A : Option Addr) (n c : Nat) (w : World) (hb : Bts w B A n) (hB : B ≤ w.heap.size) (hn : n ≤ 4096) :
    Calls Try.prog 34 #[.slice A n c] w (DrawnLMK w) := by
  have bA := ((Below.refl w.heap.size w).alloc (Nat.le_refl _) (.cells #[.int .i64 0, .int .i64 0, .int .i64 0, .int .i64 0, .int .i64 0] 25)).alloc (by simp) (.cells #[.slice none 0 0] 30)
  have HB := Lib.hid (hb.keep (fun p hp => Below.cell bA (by omega)))
  have X0 := Lib.hid ((Boxed.new w 25 ⟨0, 0, 0, 0, 0⟩).alloc (.cells #[.slice none 0 0] 30))
  have O0' := Cell1.new (w.alloc (.cells #[.int .i64 0, .int .i64 0, .int .i64 0, .int .i64 0, .int .i64 0] 25)) 30 (.slice none 0 0)
  rw [World.size_alloc] at O0'
  have O0 := Lib.hid O0'
  have BA := Lib.hid bA
  clear hb O0' bA
  go_enter Try.func34, Try.ntmps34
  go_wp2_with fail
  refine (l01From_any B A n c _ HB.out (by simp; omega) hn).mono ?_
  rintro e w1 ⟨g, rfl, hg, hg1, h1, b1⟩
  have X1 := Lib.hid (X0.out.on b1)
  have O1 := Lib.hid (O0.out.on b1)
  have B1 := Lib.hid (below_trans' BA.out b1)
  have hgw : w.heap.size + 1 < g := by simp at hg; omega
  clear X0 O0 BA HB b1
  go_wp2_with fail
  refine (l04Draw_any B g A n c _ h1 (by have := B1.out.size; omega)).mono ?_
  rintro e w2 ⟨m, V, k, c', zss, rfl, hSm, hF, hFew, hkc, hcm, h2, g2⟩
  have K2 : Hid (DL w ((w2.alloc (.cells #[.int .i64 m.C, .int .i64 m.D, .int .i64 m.S, .int .i64 m.M, .int .i64 m.L] 25)).alloc (.cells #[.slice V k c'] 30)) B g A n c m w2.heap.size w1.heap.size V k c' zss) := Lib.hid (DL.start (X1.out.grown g2 (by intro e; injection e with e; omega)) (O1.out.grown g2 (by intro e; injection e with e; omega)) hF h2 (below_grown B1.out g2 (fun q e => by injection e with e; omega)) hB hgw hg1 g2.size)
  have HW := Lib.hid hFew
  have HN := Lib.hid (few_sizeD hFew hF.sets.len)
  obtain ⟨b6, h6⟩ : ∃ b6, b6 = w2.heap.size := ⟨_, rfl⟩
  clear X1 O1 B1 hF hFew h1 h2 g2
  obtain ⟨q0, q1, q2, q3, q4, cl⟩ := K2.out.cells
  go_wp2_with fail
  refine (specIsLock_any m _ _ _ zss _ K2.out.f.sets HN.out).mono ?_
  clear q0 q1 q2 q3 q4 cl
  rcases hL : lockB m zss with _ | _
  · rintro e w3 ⟨rfl, b3⟩
    have K3 := K2.out.on b3
    rw [← h6] at K3 ⊢
    have K3 := Lib.hid K3
    clear K2 b3 h6
    obtain ⟨q0, q1, q2, q3, q4, cl⟩ := K3.out.cells
    have hwb : w.heap.size + 1 < b6 := by have h1 := K3.out.hg; have h2 := K3.out.hl; have h3 := K3.out.hm; omega
    go_wp2
    go_region_held3 (fun w' => w'.cell? ⟨b6, 0, none⟩ = some (.int .i64 m.C) ∧ w'.cell? ⟨b6, 1, none⟩ = some (.int .i64 m.D) ∧ w'.cell? ⟨b6, 2, none⟩ = some (.int .i64 m.S) ∧ w'.cell? ⟨b6, 3, none⟩ = some (.int .i64 m.M) ∧ w'.cell? ⟨b6, 4, none⟩ = some (.int .i64 m.L) ∧ w'.cell? ⟨b6 + 1, 0, none⟩ = some (.slice V k c'))
      (first
        | go_keep
        | with_reducible exact K3.out.drew.cells
        | with_reducible exact K7.out.cells
        | with_reducible exact K7.out.s5
        | with_reducible exact K7.out.s6)
      (first
        | (go_at_call 90; refine (l02DrawKey_any m hSm B g A n c _ K3.out.drew.h (Nat.le_trans hB K3.out.drew.c.size)).mono ?_; rintro e w7 ⟨A5, q5, d5, xs5, rfl, hown5, hq5, hqd5, hd5, h7, g7⟩; have K7 := Lib.hid (K3.out.drew.grown g7 h7); have F7 := Lib.hid (FarI.of_own hown5 (Nat.le_refl _)); have hlo7 : w.heap.size + 1 < w3.drew.heap.size := K3.out.drew.o.lt; obtain ⟨p0, p1, p2, p3, p4⟩ := K7.out.x.cells; have co := K7.out.o.cell; have fo := K7.out.o.thawed; have fx := K7.out.x.thawed))
    clear q0 q1 q2 q3 q4 cl p0 p1 p2 p3 p4 co fo fx h7 g7 hown5
    have HZ := Lib.hid (K7.out.last)
    have FK := Lib.hid (F7.out.put6 (m := m) (V := V) (k := k) (c' := c') hlo7)
    generalize hW : ((((((w7.setCell ⟨w.heap.size, 0, none⟩ (.int .i64 m.C)).setCell ⟨w.heap.size, 1, none⟩ (.int .i64 m.D)).setCell ⟨w.heap.size, 2, none⟩ (.int .i64 m.S)).setCell ⟨w.heap.size, 3, none⟩ (.int .i64 m.M)).setCell ⟨w.heap.size, 4, none⟩ (.int .i64 m.L)).setCell ⟨w.heap.size + 1, 0, none⟩ (.slice V k c')) = W7 at HZ FK ⊢
    clear hW K7 F7
    go_wp2
    obtain ⟨r0, r1, r2, r3, r4⟩ := HZ.out.x.cells
    have r5 := HZ.out.o.cell
    exact bodyPost_ret (v := .tuple #[.agg #[.int .i64 m.C, .int .i64 m.D, .int .i64 m.S, .int .i64 m.M, .int .i64 m.L], .agg #[.slice V k c'], .slice A5 q5 d5]) (by simp [results, Try.results34, go_sem, r0, r1, r2, r3, r4, r5]) rfl ⟨m, V, k, c', zss, A5, q5, d5, xs5, rfl, hSm, HZ.out.f, HW.out, hkc, hcm, FK.out, hq5, hqd5, hd5, HZ.out.c⟩
  rintro e w3 ⟨rfl, b3⟩
  have K3 := K2.out.on b3
  rw [← h6] at K3 ⊢
  have K3 := Lib.hid K3
  clear K2 b3 h6
  go_wp2_with fail
  refine (l01Next_any B g A n c _ _ K3.out.h (by omega)).mono ?_
  rintro e w4 ⟨x, rfl, x0, x1, h4, g4⟩
  have K4 := Lib.hid (K3.out.grown g4 h4)
  clear K3 h4 g4
  by_cases e0 : x = 0
  rotate_left
  · have d0 : (x == 0) = false := by simpa using e0
    clear e0
    obtain ⟨q0, q1, q2, q3, q4, cl⟩ := K4.out.cells
    have hwb : w.heap.size + 1 < b6 := by have h1 := K4.out.hg; have h2 := K4.out.hl; have h3 := K4.out.hm; omega
    go_wp2
    go_region_held3 (fun w' => w'.cell? ⟨b6, 0, none⟩ = some (.int .i64 m.C) ∧ w'.cell? ⟨b6, 1, none⟩ = some (.int .i64 m.D) ∧ w'.cell? ⟨b6, 2, none⟩ = some (.int .i64 m.S) ∧ w'.cell? ⟨b6, 3, none⟩ = some (.int .i64 m.M) ∧ w'.cell? ⟨b6, 4, none⟩ = some (.int .i64 m.L) ∧ w'.cell? ⟨b6 + 1, 0, none⟩ = some (.slice V k c'))
      (first
        | go_keep
        | with_reducible exact K4.out.drew.cells
        | with_reducible exact K7.out.cells
        | with_reducible exact K7.out.s5
        | with_reducible exact K7.out.s6)
      (first
        | (go_at_call 90; refine (l02DrawKey_any m hSm B g A n c _ K4.out.drew.h (Nat.le_trans hB K4.out.drew.c.size)).mono ?_; rintro e w7 ⟨A5, q5, d5, xs5, rfl, hown5, hq5, hqd5, hd5, h7, g7⟩; have K7 := Lib.hid (K4.out.drew.grown g7 h7); have F7 := Lib.hid (FarI.of_own hown5 (Nat.le_refl _)); have hlo7 : w.heap.size + 1 < w4.drew.heap.size := K4.out.drew.o.lt; obtain ⟨p0, p1, p2, p3, p4⟩ := K7.out.x.cells; have co := K7.out.o.cell; have fo := K7.out.o.thawed; have fx := K7.out.x.thawed))
    clear q0 q1 q2 q3 q4 cl p0 p1 p2 p3 p4 co fo fx h7 g7 hown5
    have HZ := Lib.hid (K7.out.last)
    have FK := Lib.hid (F7.out.put6 (m := m) (V := V) (k := k) (c' := c') hlo7)
    generalize hW : ((((((w7.setCell ⟨w.heap.size, 0, none⟩ (.int .i64 m.C)).setCell ⟨w.heap.size, 1, none⟩ (.int .i64 m.D)).setCell ⟨w.heap.size, 2, none⟩ (.int .i64 m.S)).setCell ⟨w.heap.size, 3, none⟩ (.int .i64 m.M)).setCell ⟨w.heap.size, 4, none⟩ (.int .i64 m.L)).setCell ⟨w.heap.size + 1, 0, none⟩ (.slice V k c')) = W7 at HZ FK ⊢
    clear hW K7 F7
    go_wp2
    obtain ⟨r0, r1, r2, r3, r4⟩ := HZ.out.x.cells
    have r5 := HZ.out.o.cell
    exact bodyPost_ret (v := .tuple #[.agg #[.int .i64 m.C, .int .i64 m.D, .int .i64 m.S, .int .i64 m.M, .int .i64 m.L], .agg #[.slice V k c'], .slice A5 q5 d5]) (by simp [results, Try.results34, go_sem, r0, r1, r2, r3, r4, r5]) rfl ⟨m, V, k, c', zss, A5, q5, d5, xs5, rfl, hSm, HZ.out.f, HW.out, hkc, hcm, FK.out, hq5, hqd5, hd5, HZ.out.c⟩
  have d0 : (x == 0) = true := by simpa using e0
  obtain ⟨q0, q1, q2, q3, q4, cl⟩ := K4.out.cells
  have hm := (lockB_facts hL).1
  clear e0
  go_wp2_with fail
  refine (openers_all m hm _ _ _ zss hL 5 _ K4.out.f.sets (by omega) (by omega)).mono ?_
  rintro e w5 ⟨V3, n3, c3, vals, rfl, P, b5⟩
  have K5 := Lib.hid (K4.out.on b5)
  have hlen : n3 ≤ 5 := by rw [← P.len]; exact List.length_take_le _ _
  have hws := b5.size
  have hlo4 : w.heap.size + 1 < w4.heap.size := K4.out.o.lt
  have hgw4 : g < w4.heap.size := K4.out.h.lt
  clear q0 q1 q2 q3 q4 cl K4 b5
  by_cases hpos : 0 < n3
  rotate_left
  · obtain rfl : n3 = 0 := by omega
    clear hpos P
    obtain ⟨q0, q1, q2, q3, q4, cl⟩ := K5.out.cells
    have hwb : w.heap.size + 1 < b6 := by have h1 := K5.out.hg; have h2 := K5.out.hl; have h3 := K5.out.hm; omega
    go_wp2
    go_region_held3 (fun w' => w'.cell? ⟨b6, 0, none⟩ = some (.int .i64 m.C) ∧ w'.cell? ⟨b6, 1, none⟩ = some (.int .i64 m.D) ∧ w'.cell? ⟨b6, 2, none⟩ = some (.int .i64 m.S) ∧ w'.cell? ⟨b6, 3, none⟩ = some (.int .i64 m.M) ∧ w'.cell? ⟨b6, 4, none⟩ = some (.int .i64 m.L) ∧ w'.cell? ⟨b6 + 1, 0, none⟩ = some (.slice V k c'))
      (first
        | go_keep
        | with_reducible exact K5.out.drew.cells
        | with_reducible exact K7.out.cells
        | with_reducible exact K7.out.s5
        | with_reducible exact K7.out.s6)
      (first
        | (go_at_call 90; refine (l02DrawKey_any m hSm B g A n c _ K5.out.drew.h (Nat.le_trans hB K5.out.drew.c.size)).mono ?_; rintro e w7 ⟨A5, q5, d5, xs5, rfl, hown5, hq5, hqd5, hd5, h7, g7⟩; have K7 := Lib.hid (K5.out.drew.grown g7 h7); have F7 := Lib.hid (FarI.of_own hown5 (Nat.le_refl _)); have hlo7 : w.heap.size + 1 < w5.drew.heap.size := K5.out.drew.o.lt; obtain ⟨p0, p1, p2, p3, p4⟩ := K7.out.x.cells; have co := K7.out.o.cell; have fo := K7.out.o.thawed; have fx := K7.out.x.thawed))
    clear q0 q1 q2 q3 q4 cl p0 p1 p2 p3 p4 co fo fx h7 g7 hown5
    have HZ := Lib.hid (K7.out.last)
    have FK := Lib.hid (F7.out.put6 (m := m) (V := V) (k := k) (c' := c') hlo7)
    generalize hW : ((((((w7.setCell ⟨w.heap.size, 0, none⟩ (.int .i64 m.C)).setCell ⟨w.heap.size, 1, none⟩ (.int .i64 m.D)).setCell ⟨w.heap.size, 2, none⟩ (.int .i64 m.S)).setCell ⟨w.heap.size, 3, none⟩ (.int .i64 m.M)).setCell ⟨w.heap.size, 4, none⟩ (.int .i64 m.L)).setCell ⟨w.heap.size + 1, 0, none⟩ (.slice V k c')) = W7 at HZ FK ⊢
    clear hW K7 F7
    go_wp2
    obtain ⟨r0, r1, r2, r3, r4⟩ := HZ.out.x.cells
    have r5 := HZ.out.o.cell
    exact bodyPost_ret (v := .tuple #[.agg #[.int .i64 m.C, .int .i64 m.D, .int .i64 m.S, .int .i64 m.M, .int .i64 m.L], .agg #[.slice V k c'], .slice A5 q5 d5]) (by simp [results, Try.results34, go_sem, r0, r1, r2, r3, r4, r5]) rfl ⟨m, V, k, c', zss, A5, q5, d5, xs5, rfl, hSm, HZ.out.f, HW.out, hkc, hcm, FK.out, hq5, hqd5, hd5, HZ.out.c⟩
  have dp : decide (0 < (n3 : Int)) = true := by simp; omega
  obtain ⟨ad3, rfl, hab3, hlo3, hcells⟩ := P.outer hpos
  obtain ⟨q0, q1, q2, q3, q4, cl⟩ := K5.out.cells
  have hC0 : ∀ (W : World), Below ad3.block w5 W → False → True := fun _ _ h => h.elim
  have hCX : ∀ (W : World) (b : Nat), w5.grownBy W (some b) → b < ad3.block → ∀ j, j < n3 → W.cell? (ad3.add j) = some (vals.getD j undef) := fun W b hg hb j hj => by
    have hv : vals[j]? = some (vals[j]'(by rw [P.vlen]; exact hj)) := List.getElem?_eq_getElem _
    rw [World.cell?_of_block (w := w5) (hg.block _ (by rw [block_of_add]; exact hab3) (fun e => by rw [block_of_add] at e; injection e with e; omega)), hcells j _ hv, List.getD_eq_getElem?_getD, hv]; rfl
  have hwb : w.heap.size + 1 < b6 := by have h1 := K5.out.hg; have h2 := K5.out.hl; have h3 := K5.out.hm; omega
  have hC5 : ∀ j, j < n3 → w5.drew.cell? (ad3.add j) = some (vals.getD j undef) := hCX w5.drew g (grownDrew w5 (some g)) (by omega)
  clear hC0
  have C5 := and7 K5.out.drew.cells hC5
  go_wp2
  go_region_held3 (fun w' => w'.cell? ⟨b6, 0, none⟩ = some (.int .i64 m.C) ∧ w'.cell? ⟨b6, 1, none⟩ = some (.int .i64 m.D) ∧ w'.cell? ⟨b6, 2, none⟩ = some (.int .i64 m.S) ∧ w'.cell? ⟨b6, 3, none⟩ = some (.int .i64 m.M) ∧ w'.cell? ⟨b6, 4, none⟩ = some (.int .i64 m.L) ∧ w'.cell? ⟨b6 + 1, 0, none⟩ = some (.slice V k c') ∧ ∀ j, j < n3 → w'.cell? (ad3.add j) = some (vals.getD j undef))
    (first
      | with_reducible exact C5
      | with_reducible exact C7
      | with_reducible exact C75
      | with_reducible exact C76
      | (trace_state; sorry))
    (first
      | (go_at_call 89; refine (l01Next_any B g A n c _ _ K5.out.drew.h (by omega)).mono ?_; rintro e w7 ⟨r, rfl, r0, r1, h7, g7⟩; have K7 := Lib.hid (K5.out.drew.grown g7 h7); have hr1 := drawnLt hpos r1; have hr2 := drawnLtN r0 hr1; obtain ⟨p0, p1, p2, p3, p4⟩ := K7.out.x.cells; have co := K7.out.o.cell; have fo := K7.out.o.thawed; have fx := K7.out.x.thawed; have hg7 : w5.grownBy w7 (some g) := grown_trans' (grownDrew w5 (some g)) g7; have C7 := and7 K7.out.cells (hCX w7 g hg7 (by omega)); have C75 := and7 K7.out.s5 (row5 (w := w) (m := m) (by omega) (hCX w7 g hg7 (by omega))); have C76 := and7 K7.out.s6 (row6 (w := w) (m := m) (c' := c') (V := V) (k := k) (by omega) (hCX w7 g hg7 (by omega)))))
  clear q0 q1 q2 q3 q4 cl p0 p1 p2 p3 p4 co fo fx C7 C75 C76 C5 hC5 hCX
  obtain ⟨u5, hv⟩ : ∃ u5, vals[r.toNat]? = some u5 := ⟨_, List.getElem?_eq_getElem (by rw [P.vlen]; exact hr2)⟩
  obtain ⟨xs5, hz⟩ : ∃ xs5, ((opAll m (setP zss)).take (Int.toNat 5))[r.toNat]? = some xs5 := ⟨_, List.getElem?_eq_getElem (by rw [P.len]; exact hr2)⟩
  obtain ⟨A5, q5, d5, rfl, hi5, hq5, hd5, ht5⟩ := P.inner _ _ _ hv hz
  have hmem := List.take_subset _ _ (List.mem_of_getElem? hz)
  have hkl := key_len (op_mem hmem).1 hm
  have hq6 : q5 ≤ 1048576 := by have h1 := hi5.len; have h2 := hSm.2.1; omega
  have F5 : FarI w5 w4.heap.size A5 q5 xs5 := ⟨hi5, fun h0 ad e => by
    rcases ht5 h0 ad e with h | ⟨a, h, _⟩
    · exact h
    · cases h⟩
  have F7 := Lib.hid (F5.past hg7 (fun g' e => by injection e with e; omega))
  rw [hv, show (some (Value.slice A5 q5 d5)).getD undef = .slice A5 q5 d5 from rfl]
  clear hi5 F5 hv hz hmem hcells P
  have HZ := Lib.hid (K7.out.last)
  have FK := Lib.hid (F7.out.put6 (m := m) (V := V) (k := k) (c' := c') hlo4)
  generalize hW : ((((((w7.setCell ⟨w.heap.size, 0, none⟩ (.int .i64 m.C)).setCell ⟨w.heap.size, 1, none⟩ (.int .i64 m.D)).setCell ⟨w.heap.size, 2, none⟩ (.int .i64 m.S)).setCell ⟨w.heap.size, 3, none⟩ (.int .i64 m.M)).setCell ⟨w.heap.size, 4, none⟩ (.int .i64 m.L)).setCell ⟨w.heap.size + 1, 0, none⟩ (.slice V k c')) = W7 at HZ FK ⊢
  clear hW K7 F7 h7 g7 hg7
  go_wp2
  obtain ⟨r0, r1, r2, r3, r4⟩ := HZ.out.x.cells
  have r5 := HZ.out.o.cell
  exact bodyPost_ret (v := .tuple #[.agg #[.int .i64 m.C, .int .i64 m.D, .int .i64 m.S, .int .i64 m.M, .int .i64 m.L], .agg #[.slice V k c'], .slice A5 q5 d5]) (by simp [results, Try.results34, go_sem, r0, r1, r2, r3, r4, r5]) rfl ⟨m, V, k, c', zss, A5, q5, d5, xs5, rfl, hSm, HZ.out.f, HW.out, hkc, hcm, FK.out, hq6, hq5, hd5, HZ.out.c⟩

end Go.Proofs.Ytbfnffecmglgfaa
