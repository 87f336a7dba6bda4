/- The draw of a maker and a lock. -/
import Derived.Test.YtbfnffecmglgfaaLk
import Derived.Deep.DeepCutAuto
import Derived.Deep.CutBlock
import Derived.Deep.RegionHeld3
namespace Go.Proofs.Ytbfnffecmglgfaa
open Go Go.RowKit

def DrawnML (w : World) (B g : Nat) (A : Option Addr) (n c : Nat) (e : Ending) (w' : World) : Prop :=
  ∃ (m : Mk) (V : Option Addr) (k c' : Nat) (zss : List (List Int)), e = .returned (.tuple #[.agg #[.int .i64 m.C, .int .i64 m.D, .int .i64 m.S, .int .i64 m.M, .int .i64 m.L], .agg #[.slice V k c']]) ∧ Small m ∧ Far w' w.heap.size V k c' zss ∧ Few k zss ∧ k ≤ c' ∧ c' ≤ 9223372036854775807 ∧ Src w' B g A n c ∧ w.grownBy w' (some g)

theorem mk_lim {m : Mk} (h : m.ok = true) : 2 ≤ m.C.toNat ∧ m.C.toNat ≤ 7 ∧ m.D.toNat ≤ 9 := by
  have := Mk.ok_true h
  omega
theorem few_lock {m : Mk} {p : Nat → Nat → Bool} (h : m.ok = true) : Few m.C.toNat (lockOf m.C.toNat m.D.toNat p) := by
  obtain ⟨h1, h2, h3⟩ := mk_lim h
  refine ⟨by omega, fun ys hy => ?_⟩
  unfold lockOf at hy
  obtain ⟨i, _, rfl⟩ := List.mem_map.1 hy
  have := setOf_len m.D.toNat (p i)
  omega

/-- what stands at the end of the switch: the boxes of both results, the maker's box, the lock's -/
structure LdW (W w : World) (m : Mk) (bm bl lo : Nat) (B g : Nat) (A : Option Addr) (n c : Nat) (V : Option Addr) (k c' : Nat) (zss : List (List Int)) : Prop where
  x : Boxed w W.heap.size 25 ⟨0, 0, 0, 0, 0⟩
  o : Cell1 w (W.heap.size + 1) 30 (.slice none 0 0)
  y : Boxed w bm 25 m
  l : Cell1 w bl 30 (.slice V k c')
  f : Far w lo V k c' zss
  few : Few k zss
  h : Src w B g A n c
  g : W.grownBy w (some g)

/-- two lists in a row, anew -/
theorem two_lists {w : World} {A A' : Option Addr} {q c q' c' lo : Nat} {xs ys : List Int} (t : TypeId) (h : Ints w w.heap.size A q xs) (hc : q ≤ c) (hcm : c ≤ 9223372036854775807) (h' : Ints w w.heap.size A' q' ys) (hc' : q' ≤ c') (hcm' : c' ≤ 9223372036854775807)
    (hl : lo ≤ w.heap.size) (hA : ∀ a, A = some a → lo ≤ a.block) (hA' : ∀ a, A' = some a → lo ≤ a.block) :
    Far (w.alloc (.cells #[.slice A q c, .slice A' q' c'] t)) lo (some ⟨w.heap.size, 0, none⟩) 2 2 [xs, ys] := by
  have hb := (Below.refl w.heap.size w).alloc (Nat.le_refl _) (.cells #[.slice A q c, .slice A' q' c'] t)
  refine ⟨⟨rfl, fun _ => ⟨_, rfl, by simp, fun j zs hj => ?_⟩⟩, fun ad e => by injection e with e; subst e; exact hl, fun ad k c' e j hj a q c2 hcc _ => ?_⟩
  · rcases j with _ | _ | j
    · obtain rfl : xs = zs := by simpa using hj
      exact ⟨A, q, c, by simp [Addr.add], h.on hb, hc, hcm⟩
    · obtain rfl : ys = zs := by simpa using hj
      exact ⟨A', q', c', by simp [Addr.add], h'.on hb, hc', hcm'⟩
    · simp at hj
  · obtain ⟨e1, e2, _⟩ := Value.slice.inj e
    injection e1 with e1
    subst e1; subst e2
    rcases j with _ | _ | j
    · simp [Addr.add] at hcc
      exact hA a hcc.1
    · simp [Addr.add] at hcc
      exact hA' a hcc.1
    · omega
/-- two lists of a zero, anew -/
theorem two_zero (w : World) (t t2 : TypeId) : Far (((w.alloc (.cells #[.int .i64 0] t)).alloc (.cells #[.int .i64 0] t)).alloc (.cells #[.slice (some ⟨w.heap.size, 0, none⟩) 1 1, .slice (some ⟨w.heap.size + 1, 0, none⟩) 1 1] t2)) w.heap.size (some ⟨w.heap.size + 1 + 1, 0, none⟩) 2 2 [[0], [0]] := by
  have I1 := ints_new w [0] t
  have b1 := (Below.refl (w.alloc (.cells #[.int .i64 0] t)).heap.size (w.alloc (.cells #[.int .i64 0] t))).alloc (Nat.le_refl _) (.cells #[.int .i64 0] t)
  have I2 := ints_new (w.alloc (.cells #[.int .i64 0] t)) [0] t
  have I1' := I1.on b1
  have := two_lists (lo := w.heap.size) (c := 1) (c' := 1) t2 I1' (Nat.le_refl _) (by omega) I2 (Nat.le_refl _) (by omega) (by rw [World.size_alloc, World.size_alloc]; omega) (fun a e => by injection e with e; subst e; exact Nat.le_refl _) (fun a e => by injection e with e; subst e; show w.heap.size ≤ (w.alloc _).heap.size; rw [World.size_alloc]; omega)
  simp only [World.size_alloc] at this
  exact this
theorem Far.down {w : World} {lo lo' k c' : Nat} {V : Option Addr} {zss : List (List Int)} (h : Far w lo V k c' zss) (hl : lo' ≤ lo) : Far w lo' V k c' zss :=
  ⟨h.sets, fun ad e => Nat.le_trans hl (h.top ad e), fun ad n c e j hj a q c2 hc h0 => Nat.le_trans hl (h.low ad n c e j hj a q c2 hc h0)⟩
theorem add_one (ad : Addr) (j : Nat) : (⟨ad.block, ad.off + 1, none⟩ : Addr).add j = ad.add (1 + j) := by
  show (if j = 0 then _ else _) = (if 1 + j = 0 then _ else _)
  rw [if_neg (show ¬ 1 + j = 0 by omega)]
  split
  · next h => subst h; rfl
  · show (⟨ad.block, ad.off + 1 + j, none⟩ : Addr) = ⟨ad.block, ad.off + (1 + j), none⟩
    rw [Nat.add_assoc]
theorem Far.tail {w : World} {lo k c' : Nat} {ad : Addr} {zss : List (List Int)} (h : Far w lo (some ad) k c' zss) (hk : 1 < k) : Far w lo (some ⟨ad.block, ad.off + 1, none⟩) (k - 1) (c' - 1) (zss.drop 1) := by
  obtain ⟨ad', e, hb, hc⟩ := h.sets.2 (by omega)
  injection e with e
  subst e
  refine ⟨⟨by rw [List.length_drop, h.sets.1], fun _ => ⟨_, rfl, hb, fun j ys hy => ?_⟩⟩, fun bd e => ?_, fun bd k2 c2 e j hj a q c3 hcc h0 => ?_⟩
  · rw [List.getElem?_drop] at hy
    rw [add_one]
    exact hc (1 + j) ys hy
  · injection e with e
    subst e
    exact h.top ad rfl
  · obtain ⟨e1, e2, _⟩ := Value.slice.inj e
    injection e1 with e1
    subst e1; subst e2
    rw [add_one] at hcc
    exact h.low ad k c' rfl (1 + j) (by omega) a q c3 hcc h0
theorem Few.tail {k : Nat} {zss : List (List Int)} (h : Few k zss) : Few (k - 1) (zss.drop 1) := ⟨by have := h.1; omega, fun ys hy => h.2 ys (List.mem_of_mem_drop hy)⟩

/-- .. while the row may be written -/
structure LdK (W w : World) (m : Mk) (bm bl lo : Nat) (B g : Nat) (A : Option Addr) (n c : Nat) (V : Option Addr) (k c' : Nat) (zss : List (List Int)) : Prop where
  x : Boxed w W.heap.size 25 ⟨0, 0, 0, 0, 0⟩
  o : Cell1 w (W.heap.size + 1) 30 (.slice none 0 0)
  y : Boxed w bm 25 m
  l : Cell1 w bl 30 (.slice V k c')
  f : Lk w lo V k c' zss
  few : Few k zss
  h : Src w B g A n c
  g : W.grownBy w (some g)
theorem LdK.on {W w w' : World} {m : Mk} {bm bl lo B g n c k c' : Nat} {A V : Option Addr} {zss : List (List Int)} (h : LdK W w m bm bl lo B g A n c V k c' zss) (hb : Below w.heap.size w w') (hB : B ≤ w.heap.size) : LdK W w' m bm bl lo B g A n c V k c' zss :=
  ⟨h.x.on hb, h.o.on hb, h.y.on hb, h.l.on hb, h.f.on hb, h.few, h.h.on hb hB, grown_below h.g hb⟩
theorem LdK.grown {W w w' : World} {m : Mk} {bm bl lo B g n c k c' : Nat} {A V : Option Addr} {zss : List (List Int)} (h : LdK W w m bm bl lo B g A n c V k c' zss) (hg : w.grownBy w' (some g)) (hs : Src w' B g A n c) (h1 : g < W.heap.size) (h2 : W.heap.size ≤ bm) (h3 : W.heap.size ≤ bl) (h4 : W.heap.size ≤ lo) : LdK W w' m bm bl lo B g A n c V k c' zss :=
  ⟨h.x.grown hg (by intro e; injection e with e; omega), h.o.grown hg (by intro e; injection e with e; omega), h.y.grown hg (by intro e; injection e with e; omega), h.l.grown hg (by intro e; injection e with e; omega), h.f.grown hg (by omega), h.few, hs, grown_trans' h.g hg⟩
theorem LdK.swap {W w : World} {m : Mk} {bm bl lo B g n c k c' j q c2 : Nat} {A A2 : Option Addr} {ad : Addr} {zss : List (List Int)} {ys : List Int} (h : LdK W w m bm bl lo B g A n c (some ad) k c' zss) (hj : j < k) (hi : Ints w w.heap.size A2 q ys) (hlo : 0 < q → ∀ a, A2 = some a → lo ≤ a.block ∧ a.block ≠ ad.block) (hq : q ≤ c2) (hc2 : c2 ≤ 9223372036854775807) (hy : ys.length ≤ 9)
    (h1 : W.heap.size + 1 < lo) (h2 : bm < lo) (h3 : bl ≠ ad.block) (hg : g < W.heap.size) : LdW W (w.setCell (ad.add j) (.slice A2 q c2)) m bm bl lo B g A n c (some ad) k c' (zss.set j ys) := by
  have ht := h.f.far.top ad rfl
  have eb : (ad.add j).block = ad.block := block_of_add ad j
  obtain ⟨H6, G6⟩ := set_new h.h h.g (p := ad.add j) (by rw [eb]; omega) (by rw [eb]; omega) (.slice A2 q c2)
  exact ⟨h.x.other (by rw [eb]; omega) _, h.o.other (by rw [eb]; omega) _, h.y.other (by rw [eb]; omega) _, h.l.other (by rw [eb]; exact h3) _, h.f.swap hj hi hlo hq hc2, h.few.set hy, H6, G6⟩
theorem LdK.wide {W w : World} {m : Mk} {bm bl lo B g n c k c' : Nat} {A V : Option Addr} {zss : List (List Int)} (h : LdK W w m bm bl lo B g A n c V k c' zss) : LdW W w m bm bl lo B g A n c V k c' zss := ⟨h.x, h.o, h.y, h.l, h.f.far, h.few, h.h, h.g⟩

/-- .. and when both results are stored -/
structure LdZ (W w : World) (m : Mk) (B g : Nat) (A : Option Addr) (n c : Nat) (V : Option Addr) (k c' : Nat) (zss : List (List Int)) : Prop where
  x : Boxed w W.heap.size 25 m
  o : Cell1 w (W.heap.size + 1) 30 (.slice V k c')
  s : Far w W.heap.size V k c' zss
  h : Src w B g A n c
  g : W.grownBy w (some g)
theorem LdZ.drew {W w : World} {m : Mk} {B g n c k c' : Nat} {A V : Option Addr} {zss : List (List Int)} (h : LdZ W w m B g A n c V k c' zss) : LdZ W w.drew m B g A n c V k c' zss := ⟨h.x, h.o, h.s.on (Below.refl _ _).drew, h.h, grown_dn h.g 1⟩
set_option maxHeartbeats 1000000 in
theorem ld_last {W w : World} {m : Mk} {lo B g n c : Nat} {A : Option Addr} (hx : Boxed w W.heap.size 25 ⟨0, 0, 0, 0, 0⟩) (ho : Cell1 w (W.heap.size + 1) 30 (.slice none 0 0)) (hh : Src w B g A n c) (hgr : W.grownBy w (some g)) (V2 : Option Addr) (k2 c2 : Nat) (z2 : List (List Int)) (hf : Far w lo V2 k2 c2 z2) (h1 : W.heap.size + 1 < lo) (hg : g < W.heap.size) :
    LdZ W ((put5 w W.heap.size m).setCell ⟨W.heap.size + 1, 0, none⟩ (.slice V2 k2 c2)) m B g A n c V2 k2 c2 z2 := by
  obtain ⟨H6, G6⟩ := put_new hh hgr (b := W.heap.size) (Nat.le_refl _) (by omega) m
  obtain ⟨H7, G7⟩ := set_new H6 G6 (p := ⟨W.heap.size + 1, 0, none⟩) (by show W.heap.size ≤ W.heap.size + 1; omega) (by show g < W.heap.size + 1; omega) (.slice V2 k2 c2)
  have X7 := (hx.put m).other (p := ⟨W.heap.size + 1, 0, none⟩) (by show W.heap.size + 1 ≠ W.heap.size; omega) (.slice V2 k2 c2)
  have O7 := (ho.aside5 (b' := W.heap.size) (by omega) m).put (.slice V2 k2 c2)
  have F7 := (hf.aside5 (b := W.heap.size) (by omega) m).aside (p := ⟨W.heap.size + 1, 0, none⟩) h1 (.slice V2 k2 c2)
  exact ⟨X7, O7, F7.down (by omega), H7, G7⟩
theorem LdW.last {W w : World} {m : Mk} {bm bl lo B g n c k c' : Nat} {A V : Option Addr} {zss : List (List Int)} (h : LdW W w m bm bl lo B g A n c V k c' zss) (V2 : Option Addr) (k2 c2 : Nat) (z2 : List (List Int)) (hf : Far w lo V2 k2 c2 z2) (h1 : W.heap.size + 1 < lo) (hg : g < W.heap.size) :
    LdZ W ((put5 w W.heap.size m).setCell ⟨W.heap.size + 1, 0, none⟩ (.slice V2 k2 c2)) m B g A n c V2 k2 c2 z2 :=
  ld_last h.x h.o h.h h.g V2 k2 c2 z2 hf h1 hg

set_option maxRecDepth 100000 in
set_option maxHeartbeats 8000000 in
theorem l04Draw_any (B g : Nat) (A : Option Addr) (n c : Nat) (w : World) (h : Src w B g A n c) (hBw : B ≤ w.heap.size) :
    Calls Try.prog 99 #[.pointer (some ⟨g, 0, none⟩)] w (DrawnML w B g A n c) := by
  have hg1 := h.lt
  have H1 := Lib.hid ((h.alloc (.cells #[.int .i64 0, .int .i64 0, .int .i64 0, .int .i64 0, .int .i64 0] 25)).alloc (.cells #[.slice none 0 0] 30))
  have X1 := Lib.hid ((Boxed.new w 25 ⟨0, 0, 0, 0, 0⟩).alloc (.cells #[.slice none 0 0] 30))
  have O1' := Cell1.new (w.alloc (.cells #[.int .i64 0, .int .i64 0, .int .i64 0, .int .i64 0, .int .i64 0] 25)) 30 (.slice none 0 0)
  rw [World.size_alloc] at O1'
  have O1 := Lib.hid O1'
  have G1 := Lib.hid (grown_alloc (grown_alloc (World.grownBy.refl w (some g)) (.cells #[.int .i64 0, .int .i64 0, .int .i64 0, .int .i64 0, .int .i64 0] 25)) (.cells #[.slice none 0 0] 30))
  clear h O1'
  go_enter Try.func99, Try.ntmps99
  go_wp2_with fail
  refine (l02Draw_any B g A n c _ H1.out).mono ?_
  rintro e w2 ⟨m, rfl, hSm, h2, g2⟩
  have X2 := Lib.hid ((X1.out.grown g2 (by intro e; injection e with e; omega)).alloc (.cells #[.int .i64 m.C, .int .i64 m.D, .int .i64 m.S, .int .i64 m.M, .int .i64 m.L] 25))
  have O2 := Lib.hid ((O1.out.grown g2 (by intro e; injection e with e; omega)).alloc (.cells #[.int .i64 m.C, .int .i64 m.D, .int .i64 m.S, .int .i64 m.M, .int .i64 m.L] 25))
  have G2 := Lib.hid (grown_alloc (grown_trans' G1.out g2) (.cells #[.int .i64 m.C, .int .i64 m.D, .int .i64 m.S, .int .i64 m.M, .int .i64 m.L] 25))
  have H2 := Lib.hid (h2.alloc (.cells #[.int .i64 m.C, .int .i64 m.D, .int .i64 m.S, .int .i64 m.M, .int .i64 m.L] 25))
  have Y2 := Lib.hid (Boxed.new w2 25 m)
  have z2 : w.heap.size + 2 ≤ w2.heap.size := by have := g2.size; simp at this; omega
  clear H1 X1 O1 G1 g2 h2
  obtain ⟨q0, q1, q2, q3, q4⟩ := Y2.out.cells
  go_wp2_with fail
  refine (specIsMaker_any m _).mono ?_
  rcases hm : m.ok with _ | _
  · rintro e w3 ⟨rfl, b3⟩
    have X3 := X2.out.on b3
    have O3 := O2.out.on b3
    have H3 := H2.out.on b3 (by simp; omega)
    have G3 := grown_below G2.out b3
    have Y3 := Lib.hid (Y2.out.on b3)
    have z3 : w2.heap.size + 1 ≤ w3.heap.size := by have := b3.size; simp at this; omega
    have bA := (((Below.refl w3.heap.size w3).alloc (Nat.le_refl _) (.cells #[.int .i64 0] 2)).alloc (by simp) (.cells #[.int .i64 0] 2)).alloc (by simp; omega) (.cells #[.slice (some ⟨w3.heap.size, 0, none⟩) 1 1, .slice (some ⟨w3.heap.size + 1, 0, none⟩) 1 1] 39)
    have F4 := two_zero w3 2 39
    have X4 := Lib.hid (X3.on bA)
    have O4 := Lib.hid (O3.on bA)
    have H4 := Lib.hid (H3.on bA (by omega))
    have G4 := Lib.hid (grown_below G3 bA)
    have HZ := Lib.hid (ld_last (m := m) X4.out O4.out H4.out G4.out _ 2 2 _ F4 (by omega) hg1)
    clear q0 q1 q2 q3 q4 X2 O2 Y2 H2 G2 b3 X3 O3 H3 G3 H4 G4 F4 bA
    obtain ⟨q0, q1, q2, q3, q4⟩ := Y3.out.cells
    obtain ⟨p0, p1, p2, p3, p4⟩ := X4.out.cells
    have co := O4.out.cell
    have fo := O4.out.thawed
    have fx := X4.out.thawed
    clear X4 O4
    go_wp2
    obtain ⟨r0, r1, r2, r3, r4⟩ := HZ.out.x.cells
    have r5 := HZ.out.o.cell
    unfold put5 at HZ r0 r1 r2 r3 r4 r5
    refine bodyPost_ret (v := .tuple #[.agg #[.int .i64 m.C, .int .i64 m.D, .int .i64 m.S, .int .i64 m.M, .int .i64 m.L], .agg #[.slice (some ⟨w3.heap.size + 1 + 1, 0, none⟩) 2 2]]) (by simp [results, Try.results99, go_sem, r0, r1, r2, r3, r4, r5]) rfl ⟨m, _, 2, 2, _, rfl, hSm, HZ.out.s, ⟨by omega, by simp⟩, Nat.le_refl _, by omega, HZ.out.h, HZ.out.g⟩
  rintro e w3 ⟨rfl, b3⟩
  have X3 := Lib.hid (X2.out.on b3)
  have O3 := Lib.hid (O2.out.on b3)
  have Y3 := Lib.hid (Y2.out.on b3)
  have H3 := Lib.hid (H2.out.on b3 (by simp; omega))
  have G3 := Lib.hid (grown_below G2.out b3)
  have z3 : w2.heap.size + 1 ≤ w3.heap.size := by have := b3.size; simp at this; omega
  clear q0 q1 q2 q3 q4 X2 O2 Y2 H2 G2 b3
  obtain ⟨q0, q1, q2, q3, q4⟩ := Y3.out.cells
  go_wp2_with fail
  refine (l04Valid_any m hm B g A n c _ H3.out (by omega)).mono ?_
  rintro e w4 ⟨V, k, c', xss, rfl, S4', hkc, hcm, hv, hfr, hlr, _, h4, g4⟩
  have bA := (Below.refl w4.heap.size w4).alloc (Nat.le_refl _) (.cells #[.slice V k c'] 30)
  have W4 := Lib.hid (few_lock (p := hullP xss) hm)
  have F4 := Lib.hid ((Lk.mk (Far.mk S4' hv hlr) hfr).on bA)
  have K4 : Hid (k = m.C.toNat) := Lib.hid (by rw [← S4'.len, lockOf_len])
  have X4 := Lib.hid ((X3.out.grown g4 (by intro e; injection e with e; omega)).on bA)
  have O4 := Lib.hid ((O3.out.grown g4 (by intro e; injection e with e; omega)).on bA)
  have Y4 := Lib.hid ((Y3.out.grown g4 (by intro e; injection e with e; omega)).on bA)
  have L4 := Lib.hid (Cell1.new w4 30 (.slice V k c'))
  have H4 := Lib.hid (h4.on bA (by have := g4.size; omega))
  have G4 := Lib.hid (grown_below (grown_trans' G3.out g4) bA)
  have HT : Hid (∀ ad, V = some ad → ad.block < w4.heap.size) := Lib.hid (fun ad e => by
    obtain ⟨ad', e', hb, _⟩ := S4'.2 (by have := mk_lim hm; have := S4'.len; rw [lockOf_len] at this; omega)
    rw [e] at e'; injection e' with e'; subst e'
    exact hb)
  have HM := Lib.hid hm
  have z4 : w3.heap.size ≤ w4.heap.size := g4.size
  clear q0 q1 q2 q3 q4 X3 O3 Y3 H3 G3 S4' bA h4 g4 hfr hlr hv hm
  go_wp2_with fail
  refine (l01Next_any B g A n c 24 _ H4.out (by omega)).mono ?_
  rintro e w5 ⟨x, rfl, x0, x9, h5, g5⟩
  have X5 := Lib.hid (X4.out.grown g5 (by intro e; injection e with e; omega))
  have O5 := Lib.hid (O4.out.grown g5 (by intro e; injection e with e; omega))
  have Y5 := Lib.hid (Y4.out.grown g5 (by intro e; injection e with e; omega))
  have L5 := Lib.hid (L4.out.grown g5 (by intro e; injection e with e; omega))
  have F5 := Lib.hid (F4.out.grown g5 (by omega))
  have H5 := Lib.hid h5
  have z5 := g5.size
  have G5 := Lib.hid (grown_trans' G4.out g5)
  clear X4 O4 Y4 L4 H4 G4 F4 h5 g5
  have hk2 : 2 ≤ k ∧ k ≤ 8 := by have := mk_lim HM.out; have := K4.out; omega
  have HK := Lib.hid (LdK.mk X5.out O5.out Y5.out L5.out F5.out (by rw [K4.out]; exact W4.out) H5.out G5.out)
  have hab5 : ∀ ad, V = some ad → ad.block < w4.heap.size := HT.out
  have hB5 : B ≤ w5.heap.size := by simp at z5; omega
  clear X5 O5 Y5 L5 F5 H5 G5 W4 K4 HT HM
  generalize lockOf m.C.toNat m.D.toNat (hullP xss) = zss at HK
  go_upto_block 0 with fail
  go_cut [] (fun wx => ∃ zs2 : List (List Int), LdW w wx m w2.heap.size w4.heap.size w3.heap.size B g A n c V k c' zs2)
  case first =>
    by_cases e0 : x = 0
    · have d0 : (x == 0) = true := by simpa using e0
      obtain ⟨ad, v, rfl, p1, p2, _, _⟩ := HK.out.f.place (j := 0) (by omega)
      have hne := hab5 ad rfl
      have cl := HK.out.l.cell
      obtain ⟨q0, q1, q2, q3, q4⟩ := HK.out.y.cells
      have gw := HK.out.h.lt
      have bA := (Below.refl w5.heap.size w5).alloc (Nat.le_refl _) (.cells #[.int .i64 0, .int .i64 (-1), .int .i64 m.D] 2)
      have K5 := HK.out.on bA hB5
      have K5d := Lib.hid (K5.on (Below.refl (w5.alloc (.cells #[.int .i64 0, .int .i64 (-1), .int .i64 m.D] 2)).heap.size (w5.alloc (.cells #[.int .i64 0, .int .i64 (-1), .int .i64 m.D] 2))).drew (by rw [World.size_alloc]; omega))
      have HI := Lib.hid (show Ints (w5.alloc (.cells #[.int .i64 0, .int .i64 (-1), .int .i64 m.D] 2)).drew (w5.alloc (.cells #[.int .i64 0, .int .i64 (-1), .int .i64 m.D] 2)).drew.heap.size (some ⟨w5.heap.size, 0, none⟩) 3 [0, -1, m.D] from ints_new w5 [0, -1, m.D] 2)
      have i0 : (0 : Int) < (k : Int) := by omega
      have i1 : 0 < k := by omega
      have i2 : decide ((0 : Int) < (k : Int)) = true := decide_eq_true i0
      have i3 : ¬ k = 0 := by omega
      have i4 : ¬ k ≤ 0 := by omega
      have i5 : ¬ (k : Int) ≤ 0 := by omega
      clear e0 K5 bA
      go_wp2
      go_region_held3 (fun w' => w'.cell? ⟨w4.heap.size, 0, none⟩ = some (.slice (some ad) k c') ∧ w'.cell? ⟨w2.heap.size, 1, none⟩ = some (.int .i64 m.D))
        (first
          | go_keep
          | with_reducible exact CL6
          | with_reducible exact CL7)
        (first
          | (go_at_call 106; refine (l01Pick_any B g A n c _ _ _ [0, -1, m.D] _ K5d.out.h HI.out (fun ad e => by injection e with e; subst e; show w5.heap.size ≠ g; omega) (by simp) (by simp)).mono ?_; rintro e w6 ⟨r, rfl, _, h6, g6⟩; have K6 := Lib.hid (K5d.out.grown g6 h6 hg1 (by omega) (by omega) (by omega)); have CL6 := And.intro K6.out.l.cell K6.out.y.cells.2.1; have gz6 := g6.size; have K7 := Lib.hid (K6.out.on ((Below.refl w6.heap.size w6).alloc (Nat.le_refl _) (.cells #[.int .i64 r] 2)) (by have : w5.heap.size ≤ (w5.alloc (.cells #[.int .i64 0, .int .i64 (-1), .int .i64 m.D] 2)).drew.heap.size := (by show _ ≤ (w5.alloc _).heap.size; rw [World.size_alloc]; omega); omega)); obtain ⟨ad2, v2, e2', _, _, hfz, hcl⟩ := K7.out.f.place (j := 0) (by omega); injection e2' with e2'; subst e2'; have ea : ad.add 0 = ad := rfl; rw [ea] at hfz hcl; have K8 := Lib.hid (show LdW w ((w6.alloc (.cells #[.int .i64 r] 2)).setCell ad (.slice (some ⟨w6.heap.size, 0, none⟩) 1 1)) m w2.heap.size w4.heap.size w3.heap.size B g A n c (some ad) k c' (zss.set 0 [r]) from K7.out.swap (j := 0) (c2 := 1) (by omega) (ints_new w6 [r] 2) (fun _ a e => by injection e with e; subst e; exact ⟨by show w3.heap.size ≤ w6.heap.size; have : w5.heap.size ≤ (w5.alloc (.cells #[.int .i64 0, .int .i64 (-1), .int .i64 m.D] 2)).drew.heap.size := (by show _ ≤ (w5.alloc _).heap.size; rw [World.size_alloc]; omega); simp at z5; omega, by show w6.heap.size ≠ _; have : w5.heap.size ≤ (w5.alloc (.cells #[.int .i64 0, .int .i64 (-1), .int .i64 m.D] 2)).drew.heap.size := (by show _ ≤ (w5.alloc _).heap.size; rw [World.size_alloc]; omega); omega⟩) (Nat.le_refl _) (by omega) (by simp) (by omega) (by omega) (by omega) hg1); have CL7 : ((w6.alloc (.cells #[.int .i64 r] 2)).setCell ad (.slice (some ⟨w6.heap.size, 0, none⟩) 1 1)).cell? ⟨w4.heap.size, 0, none⟩ = some (.slice (some ad) k c') ∧ ((w6.alloc (.cells #[.int .i64 r] 2)).setCell ad (.slice (some ⟨w6.heap.size, 0, none⟩) 1 1)).cell? ⟨w2.heap.size, 1, none⟩ = some (.int .i64 m.D) := And.intro K8.out.l.cell K8.out.y.cells.2.1))
      go_wp2_with fail
      go_meet
      exact ⟨_, K8.out⟩
    have d0 : (x == 0) = false := by simpa using e0
    by_cases e1 : x = 1
    · have d1 : (x == 1) = true := by simpa using e1
      obtain ⟨ad, v, rfl, p1, p2, _, _⟩ := HK.out.f.place (j := 0) (by omega)
      have bA := (Below.refl w5.heap.size w5).alloc (Nat.le_refl _) (.cells #[.int .i64 1, .int .i64 0] 2)
      have K6 := Lib.hid (HK.out.on bA hB5)
      obtain ⟨ad', v', e', _, _, hfz, hcl⟩ := K6.out.f.place (j := 0) (by omega)
      injection e' with e'
      subst e'
      have ea : ad.add 0 = ad := rfl
      rw [ea] at hfz hcl
      have I6 := ints_new w5 [1, 0] 2
      have hne := hab5 ad rfl
      have K7 := Lib.hid (K6.out.swap (j := 0) (c2 := 2) (by omega) I6 (fun _ a e => by injection e with e; subst e; exact ⟨by show w3.heap.size ≤ w5.heap.size; simp at z5; omega, by show w5.heap.size ≠ _; omega⟩) (Nat.le_refl _) (by omega) (by simp) (by omega) (by omega) (by omega) hg1)
      have cl := HK.out.l.cell
      have i0 : (0 : Int) < (k : Int) := by omega
      clear HK K6 e0 e1 I6 bA
      go_wp2_with fail
      go_meet
      exact ⟨_, K7.out⟩
    have d1 : (x == 1) = false := by simpa using e1
    by_cases e2 : x = 2
    · have d2 : (x == 2) = true := by simpa using e2
      obtain ⟨ad, v, rfl, p1, p2, hfz, hcl⟩ := HK.out.f.place (j := 1) (by omega)
      have hne := hab5 ad rfl
      have K7 := Lib.hid (HK.out.swap (j := 1) (A2 := none) (q := 0) (c2 := 0) (ys := []) (by omega) ⟨rfl, fun h0 => absurd h0 (by omega)⟩ (fun h0 => absurd h0 (by omega)) (Nat.le_refl _) (by omega) (by simp) (by omega) (by omega) (by omega) hg1)
      have cl := HK.out.l.cell
      have i0 : (1 : Int) < (k : Int) := by omega
      have ea : ad.add 1 = ⟨ad.block, ad.off + 1, none⟩ := rfl
      rw [ea] at hfz hcl K7
      clear HK e0 e1 e2
      go_wp2_with fail
      go_meet
      exact ⟨_, K7.out⟩
    have d2 : (x == 2) = false := by simpa using e2
    by_cases e3 : x = 3
    · have d3 : (x == 3) = true := by simpa using e3
      obtain ⟨ad, v, rfl, p1, p2, _, _⟩ := HK.out.f.place (j := 1) (by omega)
      have hne := hab5 ad rfl
      obtain ⟨q0, q1, q2, q3, q4⟩ := HK.out.y.cells
      obtain ⟨p0, p1', p2', p3, p4⟩ := HK.out.x.cells
      have cl := HK.out.l.cell
      have co := HK.out.o.cell
      have fo := HK.out.o.thawed
      have fx := HK.out.x.thawed
      have i0 : (1 : Int) ≤ (k : Int) := by omega
      have i1 : (k : Int) ≤ (c' : Int) := by omega
      clear e0 e1 e2 e3
      go_wp2
      go_region
      generalize hW : ((((((w5.setCell ⟨w.heap.size, 0, none⟩ (.int .i64 m.C)).setCell ⟨w.heap.size, 1, none⟩ (.int .i64 m.D)).setCell ⟨w.heap.size, 2, none⟩ (.int .i64 m.S)).setCell ⟨w.heap.size, 3, none⟩ (.int .i64 m.M)).setCell ⟨w.heap.size, 4, none⟩ (.int .i64 m.L)).setCell ⟨w.heap.size + 1, 0, none⟩ (.slice (some ⟨ad.block, ad.off + 1, none⟩) (k - 1) (c' - 1))).drew = W7
      have HZ := Lib.hid (hW ▸ (HK.out.wide.last _ (k - 1) (c' - 1) _ (HK.out.f.far.tail (by omega)) (by omega) hg1).drew)
      have HF := Lib.hid HK.out.few.tail
      clear q0 q1 q2 q3 q4 p0 p1' p2' p3 p4 cl co fo fx hW HK
      go_wp2
      obtain ⟨r0, r1, r2, r3, r4⟩ := HZ.out.x.cells
      have r5 := HZ.out.o.cell
      refine bodyPost_ret (v := .tuple #[.agg #[.int .i64 m.C, .int .i64 m.D, .int .i64 m.S, .int .i64 m.M, .int .i64 m.L], .agg #[.slice (some ⟨ad.block, ad.off + 1, none⟩) (k - 1) (c' - 1)]]) (by simp [results, Try.results99, go_sem, r0, r1, r2, r3, r4, r5]) rfl ⟨m, _, k - 1, c' - 1, _, rfl, hSm, HZ.out.s, HF.out, by omega, by omega, HZ.out.h, HZ.out.g⟩
    have d3 : (x == 3) = false := by simpa using e3
    go_wp2_with fail
    go_meet
    exact ⟨zss, HK.out.wide⟩
  case rest =>
    clear HK
    obtain ⟨zs2, h6⟩ := hcut
    obtain ⟨w6, rfl⟩ : ∃ w6, w6 = wc := ⟨_, rfl⟩
    have H6 := Lib.hid h6
    obtain ⟨q0, q1, q2, q3, q4⟩ := h6.y.cells
    obtain ⟨p0, p1, p2, p3, p4⟩ := h6.x.cells
    have cl := h6.l.cell
    have co := h6.o.cell
    have fo := h6.o.thawed
    have fx := h6.x.thawed
    clear h6
    go_wp2
    go_region
    generalize hW : ((((((w6.setCell ⟨w.heap.size, 0, none⟩ (.int .i64 m.C)).setCell ⟨w.heap.size, 1, none⟩ (.int .i64 m.D)).setCell ⟨w.heap.size, 2, none⟩ (.int .i64 m.S)).setCell ⟨w.heap.size, 3, none⟩ (.int .i64 m.M)).setCell ⟨w.heap.size, 4, none⟩ (.int .i64 m.L)).setCell ⟨w.heap.size + 1, 0, none⟩ (.slice V k c')).drew = W7
    have HZ := Lib.hid (hW ▸ (H6.out.last V k c' zs2 H6.out.f (by omega) hg1).drew)
    have HF := Lib.hid H6.out.few
    clear q0 q1 q2 q3 q4 p0 p1 p2 p3 p4 cl co fo fx hW H6
    go_wp2
    obtain ⟨r0, r1, r2, r3, r4⟩ := HZ.out.x.cells
    have r5 := HZ.out.o.cell
    refine bodyPost_ret (v := .tuple #[.agg #[.int .i64 m.C, .int .i64 m.D, .int .i64 m.S, .int .i64 m.M, .int .i64 m.L], .agg #[.slice V k c']]) (by simp [results, Try.results99, go_sem, r0, r1, r2, r3, r4, r5]) rfl ⟨m, V, k, c', zs2, rfl, hSm, HZ.out.s, HF.out, hkc, hcm, HZ.out.h, HZ.out.g⟩

end Go.Proofs.Ytbfnffecmglgfaa
