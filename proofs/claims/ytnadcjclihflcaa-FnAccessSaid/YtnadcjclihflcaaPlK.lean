/- Plans in memory: words, and the laws' functions on them. -/
import Derived.Test.YtnadcjclihflcaaBldI
import Derived.Test.YtnadcjclihflcaaPlM
import Derived.Deep.MidRow
namespace Go.Proofs.Ytnadcjclihflcaa
open Go.RowKit

/-- three slices read as a plan -/
structure Pl (w : World) (A : Option Addr) (n : Nat) (B : Option Addr) (k : Nat) (V : Option Addr) (q : Nat) (P : List Int) (D : List Bool) (R : List (List Int)) : Prop where
  b : Bld w A n B k P D
  r : Sets w w.heap.size V q R
theorem Pl.on {w w' : World} {A B V : Option Addr} {n k q : Nat} {P : List Int} {D : List Bool} {R : List (List Int)} (h : Pl w A n B k V q P D R) (b : Below w.heap.size w w') : Pl w' A n B k V q P D R := ⟨h.b.on b, h.r.on b⟩
theorem Pl.alloc {w : World} {A B V : Option Addr} {n k q : Nat} {P : List Int} {D : List Bool} {R : List (List Int)} (h : Pl w A n B k V q P D R) (o : Obj) : Pl (w.alloc o) A n B k V q P D R := h.on ((Below.refl _ _).alloc (Nat.le_refl _) o)
theorem Pl.drewN {w : World} {A B V : Option Addr} {n k q : Nat} {P : List Int} {D : List Bool} {R : List (List Int)} (h : Pl w A n B k V q P D R) (j : Nat) : Pl (w.drewN j) A n B k V q P D R := h.on (below_drewN (Below.refl _ _) j)

/-- .. of the call's own: the building from lo on, below mid, the rights from mid on, below hi -/
structure POwn (w : World) (lo mid hi : Nat) (A : Option Addr) (n : Nat) (B : Option Addr) (k : Nat) (V : Option Addr) (q : Nat) (gs : List (Option Addr × Nat × Nat)) (P : List Int) (D : List Bool) (R : List (List Int)) : Prop where
  b : BOwn w lo mid A n B k P D
  r : Rag w mid V q gs R
  lm : lo ≤ mid
  top : Top gs hi
theorem POwn.pl {w : World} {lo mid hi : Nat} {A B V : Option Addr} {n k q : Nat} {gs : List (Option Addr × Nat × Nat)} {P : List Int} {D : List Bool} {R : List (List Int)} (h : POwn w lo mid hi A n B k V q gs P D R) : Pl w A n B k V q P D R := ⟨h.b.bld, h.r.sets⟩
theorem POwn.below {w w' : World} {lo mid hi : Nat} {A B V : Option Addr} {n k q : Nat} {gs : List (Option Addr × Nat × Nat)} {P : List Int} {D : List Bool} {R : List (List Int)} (h : POwn w lo mid hi A n B k V q gs P D R) (b : Below w.heap.size w w') : POwn w' lo mid hi A n B k V q gs P D R := ⟨h.b.below b, h.r.on b, h.lm, h.top⟩
theorem POwn.past {w w' : World} {lo mid hi l r : Nat} {A B V : Option Addr} {n k q : Nat} {gs : List (Option Addr × Nat × Nat)} {P : List Int} {D : List Bool} {R : List (List Int)} (h : POwn w lo mid hi A n B k V q gs P D R) (ha : Apart l r w w') (hr : r ≤ lo) : POwn w' lo mid hi A n B k V q gs P D R :=
  ⟨⟨⟨h.b.ps.1, Nat.le_trans h.b.ps.2.1 ha.size, fun hn => by
      obtain ⟨ad, e, h1, h2, hc⟩ := h.b.ps.2.2 hn
      refine ⟨ad, e, h1, h2, fun j v hv => ?_⟩
      have hb := ha.block (ad.add j).block (by rw [block_of_add]; have := h.b.ps.2.1; omega) (.inr (by rw [block_of_add]; omega))
      rw [World.frozen?_of_block (w := w) hb, World.cell?_of_block (w := w) hb]
      exact hc j v hv⟩,
    ⟨h.b.ds.1, Nat.le_trans h.b.ds.2.1 ha.size, fun hn => by
      obtain ⟨ad, e, h1, h2, hc⟩ := h.b.ds.2.2 hn
      refine ⟨ad, e, h1, h2, fun j v hv => ?_⟩
      have hb := ha.block (ad.add j).block (by rw [block_of_add]; have := h.b.ds.2.1; omega) (.inr (by rw [block_of_add]; omega))
      rw [World.frozen?_of_block (w := w) hb, World.cell?_of_block (w := w) hb]
      exact hc j v hv⟩, h.b.ne⟩, h.r.past ha (Nat.le_trans hr h.lm), h.lm, h.top⟩

/-- a block of three cells -/
def Cell3 (w : World) (b : Nat) (t : TypeId) (u v x : Value) : Prop := w.heap[b]? = some (.cells #[u, v, x] t (0, 0))
theorem Cell3.lt {w : World} {b : Nat} {t : TypeId} {u v x : Value} (h : Cell3 w b t u v x) : b < w.heap.size := heapLt h
theorem Cell3.new (w : World) (t : TypeId) (u v x : Value) : Cell3 (w.alloc (.cells #[u, v, x] t)) w.heap.size t u v x := heap_alloc_new w _
theorem Cell3.on {w w' : World} {b : Nat} {t : TypeId} {u v x : Value} (h : Cell3 w b t u v x) (hb : Below w.heap.size w w') : Cell3 w' b t u v x := (hb.block b h.lt).trans h
theorem Cell3.below {w w' : World} {b B : Nat} {t : TypeId} {u v x : Value} (h : Cell3 w b t u v x) (hb : Below B w w') (hB : b < B) : Cell3 w' b t u v x := (hb.block b hB).trans h
theorem Cell3.alloc {w : World} {b : Nat} {t : TypeId} {u v x : Value} (h : Cell3 w b t u v x) (o : Obj) : Cell3 (w.alloc o) b t u v x := (Below.heap_alloc w o b h.lt).trans h
theorem Cell3.grown {w w' : World} {b : Nat} {t : TypeId} {u v x : Value} {row : Option Nat} (h : Cell3 w b t u v x) (hg : w.grownBy w' row) (hr : some b ≠ row) : Cell3 w' b t u v x := (hg.block b h.lt hr).trans h
theorem Cell3.past {w w' : World} {b lo hi : Nat} {t : TypeId} {u v x : Value} (h : Cell3 w b t u v x) (ha : Apart lo hi w w') (hb : b < lo ∨ hi ≤ b) : Cell3 w' b t u v x := (ha.block b h.lt hb).trans h
theorem Cell3.cells {w : World} {b : Nat} {t : TypeId} {u v x : Value} (h : Cell3 w b t u v x) : w.cell? ⟨b, 0, none⟩ = some u ∧ w.cell? ⟨b, 1, none⟩ = some v ∧ w.cell? ⟨b, 2, none⟩ = some x := by unfold Cell3 at h; simp [World.cell?, h]
theorem Cell3.thawed {w : World} {b : Nat} {t : TypeId} {u v x : Value} (h : Cell3 w b t u v x) (k : Nat) : w.frozen? ⟨b, k, none⟩ = false := by unfold Cell3 at h; simp [World.frozen?, h]
theorem Cell3.put0 {w : World} {b : Nat} {t : TypeId} {u v x : Value} (h : Cell3 w b t u v x) (y : Value) : Cell3 (w.setCell ⟨b, 0, none⟩ y) b t y v x := by
  unfold Cell3 at *; simp [World.setCell, Array.getElem?_modify, h]
theorem Cell3.put1 {w : World} {b : Nat} {t : TypeId} {u v x : Value} (h : Cell3 w b t u v x) (y : Value) : Cell3 (w.setCell ⟨b, 1, none⟩ y) b t u y x := by
  unfold Cell3 at *; simp [World.setCell, Array.getElem?_modify, h]
theorem Cell3.put2 {w : World} {b : Nat} {t : TypeId} {u v x : Value} (h : Cell3 w b t u v x) (y : Value) : Cell3 (w.setCell ⟨b, 2, none⟩ y) b t u v y := by
  unfold Cell3 at *; simp [World.setCell, Array.getElem?_modify, h]
theorem Cell3.other {w : World} {b : Nat} {t : TypeId} {u v x : Value} (h : Cell3 w b t u v x) {p : Addr} (hp : b ≠ p.block) (y : Value) : Cell3 (w.setCell p y) b t u v x := (Below.heap_setCell w p y b hp).trans h

theorem Apart.trans {lo hi : Nat} {w w1 w2 : World} (h : Apart lo hi w w1) (k : Apart lo hi w1 w2) : Apart lo hi w w2 :=
  ⟨k.os.trans h.os, k.tape.trans h.tape, k.output.trans h.output, Nat.le_trans h.size k.size, fun j hj hc => (k.block j (Nat.lt_of_lt_of_le hj h.size) hc).trans (h.block j hj hc)⟩
/-- lists that lie ahead are not touched -/
theorem Own.before {w w' : World} {lo mid hi n : Nat} {A : Option Addr} {xs : List Int} (h : Own w lo mid A n xs) (ha : Apart mid hi w w') : Own w' lo mid A n xs :=
  ⟨h.1, Nat.le_trans h.2.1 ha.size, fun hn => by
    obtain ⟨ad, e, h1, h2, hc⟩ := h.2.2 hn
    refine ⟨ad, e, h1, h2, fun j v hv => ?_⟩
    have hb := ha.block (ad.add j).block (by rw [block_of_add]; have := h.2.1; omega) (.inl (by rw [block_of_add]; omega))
    rw [World.frozen?_of_block (w := w) hb, World.cell?_of_block (w := w) hb]
    exact hc j v hv⟩
theorem OwnB.before {w w' : World} {lo mid hi n : Nat} {A : Option Addr} {xs : List Bool} (h : OwnB w lo mid A n xs) (ha : Apart mid hi w w') : OwnB w' lo mid A n xs :=
  ⟨h.1, Nat.le_trans h.2.1 ha.size, fun hn => by
    obtain ⟨ad, e, h1, h2, hc⟩ := h.2.2 hn
    refine ⟨ad, e, h1, h2, fun j v hv => ?_⟩
    have hb := ha.block (ad.add j).block (by rw [block_of_add]; have := h.2.1; omega) (.inl (by rw [block_of_add]; omega))
    rw [World.frozen?_of_block (w := w) hb, World.cell?_of_block (w := w) hb]
    exact hc j v hv⟩

set_option maxHeartbeats 1000000 in
theorem szPlan_any (A B V : Option Addr) (n c k d q e0 : Nat) (P : List Int) (D : List Bool) (R : List (List Int)) (w : World) (h : Pl w A n B k V q P D R) (hn : n ≤ 9223372036854775807) (hk : k ≤ 9223372036854775807) (hq : q ≤ 9223372036854775807) :
    Calls Try.prog 51 #[.agg #[.slice A n c, .slice B k d, .slice V q e0], .int .i64 1048576] w fun e w' => (∃ r, e = .returned (.int .i64 r) ∧ (0 ≤ r → n + k + q + sizeL R ≤ 1048576)) ∧ Below w.heap.size w w' := by
  have B1 := (Below.refl w.heap.size w).alloc (Nat.le_refl _) (.cells #[.slice A n c, .slice B k d, .slice V q e0] 54)
  have h0 := Lib.hid (h.on B1)
  have K0 := Lib.hid (Cell3.new w 54 (.slice A n c) (.slice B k d) (.slice V q e0))
  have BB := Lib.hid B1
  obtain ⟨p0, p1, p2⟩ := K0.out.cells
  clear B1
  go_enter Try.func51, Try.ntmps51
  go_wp2_with fail
  refine (szBuilding_fit A B n c k d _ hn hk).mono ?_
  rintro e w1 ⟨⟨r, rfl, hr⟩, b1⟩
  have HR := Lib.hid hr
  have K1 := Lib.hid (K0.out.on b1)
  have H1 := Lib.hid (h0.out.on b1)
  have C1 := Lib.hid (below_trans' BB.out b1)
  obtain ⟨q0, q1, q2⟩ := K1.out.cells
  clear hr b1 p0 p1 p2
  by_cases h0 : r < 0
  · go_wp2
    go_ret
    exact ⟨⟨_, rfl, fun h => by omega⟩, C1.out⟩
  obtain ⟨hnk, hre⟩ := HR.out (by omega)
  have HRE := Lib.hid hre
  clear hre
  go_wp2_with fail
  refine (szLists_any V q e0 R r _ H1.out.r (by omega) (by have := HRE.out; omega) hq).mono ?_
  rintro e w2 ⟨⟨s, rfl, hs⟩, rfl⟩
  have HS := Lib.hid hs
  clear hs q0 q1 q2
  by_cases h1 : s < 0
  · go_wp2
    go_ret
    exact ⟨⟨_, rfl, fun h => by omega⟩, C1.out⟩
  · go_wp2
    go_ret
    refine ⟨⟨_, rfl, fun _ => ?_⟩, C1.out⟩
    have := HRE.out
    rcases HS.out with h | h <;> omega

/-- what a call answers that gives a plan of its own -/
def GivesPl (w : World) (P : List Int) (D : List Bool) (R : List (List Int)) (e : Ending) (w' : World) : Prop :=
  ∃ A n c B k d V q e0 mid gs, e = .returned (.agg #[.slice A n c, .slice B k d, .slice V q e0]) ∧ POwn w' w.heap.size mid w'.heap.size A n B k V q gs P D R ∧ Below w.heap.size w w'

set_option maxHeartbeats 1000000 in
theorem toPlan_any (A B V : Option Addr) (n c k d q e0 : Nat) (P : List Int) (D : List Bool) (R : List (List Int)) (w : World) (h : Pl w A n B k V q P D R) (hn : n + k + q + sizeL R ≤ 1048576) :
    Calls Try.prog 53 #[.agg #[.slice A n c, .slice B k d, .slice V q e0]] w (GivesPl w P D R) := by
  have c0 := Lib.hid ((((Below.refl w.heap.size w).alloc (Nat.le_refl _) (.cells #[.slice A n c, .slice B k d, .slice V q e0] 54)).alloc (by simp) (.cells #[.slice none 0 0, .slice none 0 0, .slice none 0 0] 30)).alloc (by simp; omega) (.cells #[.slice none 0 0, .slice none 0 0, .slice none 0 0] 30))
  have h0 := Lib.hid (h.on c0.out)
  have k0 := Lib.hid (((Cell3.new w 54 (.slice A n c) (.slice B k d) (.slice V q e0)).alloc (.cells #[.slice none 0 0, .slice none 0 0, .slice none 0 0] 30)).alloc (.cells #[.slice none 0 0, .slice none 0 0, .slice none 0 0] 30))
  have k1 := Lib.hid ((Cell3.new (w.alloc (.cells #[.slice A n c, .slice B k d, .slice V q e0] 54)) 30 (.slice none 0 0) (.slice none 0 0) (.slice none 0 0)).alloc (.cells #[.slice none 0 0, .slice none 0 0, .slice none 0 0] 30))
  have k2 := Lib.hid (Cell3.new ((w.alloc (.cells #[.slice A n c, .slice B k d, .slice V q e0] 54)).alloc (.cells #[.slice none 0 0, .slice none 0 0, .slice none 0 0] 30)) 30 (.slice none 0 0) (.slice none 0 0) (.slice none 0 0))
  simp only [World.size_alloc] at k1 k2
  have hP := Lib.hid h.b.ps.len
  have hD := Lib.hid h.b.ds.len
  obtain ⟨p0, p1, p2⟩ := k0.out.cells
  go_enter Try.func53, Try.ntmps53
  go_wp2_with fail
  refine (toBuilding_any A B n c k d P D _ h0.out.b (by omega)).mono ?_
  rintro e w1 ⟨A1, n1, c1, B1, k1', d1, rfl, o1, b1⟩
  obtain rfl : n = n1 := by rw [← o1.ps.len, hP.out]
  obtain rfl : k = k1' := by rw [← o1.ds.len, hD.out]
  have O1 := Lib.hid o1
  have C1 := Lib.hid (c0.out.trans (b1.mono c0.out.size))
  have K0 := Lib.hid (k0.out.on b1)
  have K1 := Lib.hid (k1.out.on b1)
  have K2 := Lib.hid (k2.out.on b1)
  have z1 := b1.size
  simp only [World.size_alloc] at z1 O1
  clear b1 o1 c0 h0 k0 k1 k2 p0 p1 p2
  have f0 := K2.out.thawed 0
  have f1 := K2.out.thawed 1
  obtain ⟨q0, q1, q2⟩ := K0.out.cells
  obtain ⟨p0, p1, p2⟩ := K2.out.cells
  go_upto_region 3 with (fail)
  have S2 : Hid (w1.grownBy ((w1.setCell ⟨w.heap.size + 1 + 1, 0, none⟩ (.slice A1 n c1)).setCell ⟨w.heap.size + 1 + 1, 1, none⟩ (.slice B1 k d1)) (some (w.heap.size + 1 + 1))) := Lib.hid (grown_set (p := ⟨w.heap.size + 1 + 1, 1, none⟩) (grown_set (p := ⟨w.heap.size + 1 + 1, 0, none⟩) (World.grownBy.refl w1 _) rfl _) rfl _)
  have C2 := Lib.hid (below_grown C1.out S2.out (fun g e => by cases e; omega))
  have O2 := Lib.hid (O1.out.apart S2.out (fun g e => by cases e; exact .inl (by omega)))
  have H2 := Lib.hid (h.on C2.out)
  have L0 := Lib.hid (K0.out.grown S2.out (fun e => by injection e with e; omega))
  have L1 := Lib.hid (K1.out.grown S2.out (fun e => by injection e with e; omega))
  have L2 := Lib.hid ((K2.out.put0 (.slice A1 n c1)).put1 (.slice B1 k d1))
  have z2 : ((w1.setCell ⟨w.heap.size + 1 + 1, 0, none⟩ (.slice A1 n c1)).setCell ⟨w.heap.size + 1 + 1, 1, none⟩ (.slice B1 k d1)).heap.size = w1.heap.size := by simp [World.setCell]
  clear f0 f1 q0 q1 q2 p0 p1 p2 C1 O1 K0 K1 K2 S2
  generalize (w1.setCell ⟨w.heap.size + 1 + 1, 0, none⟩ (.slice A1 n c1)).setCell ⟨w.heap.size + 1 + 1, 1, none⟩ (.slice B1 k d1) = w2 at *
  obtain ⟨q0, q1, q2⟩ := L0.out.cells
  have f2 := L2.out.thawed 2
  obtain ⟨p0, p1, p2⟩ := L2.out.cells
  go_wp2_with fail
  refine (toLists_any V q e0 R _ H2.out.r (by omega)).mono ?_
  rintro e w3 ⟨V3, n3, c3, gs, rfl, r3, _, _, b3⟩
  obtain rfl : q = n3 := by rw [← r3.len, h.r.len]
  have R3 := Lib.hid r3
  have T3 := Lib.hid r3.top
  have O3 := Lib.hid (O2.out.below b3)
  have C3 := Lib.hid (C2.out.trans (b3.mono C2.out.size))
  have M1 := Lib.hid (L1.out.on b3)
  have M2 := Lib.hid (L2.out.on b3)
  have z3 := b3.size
  clear r3 b3 C2 O2 H2 L0 L1 L2 q0 q1 q2 p0 p1 p2 f2
  have f2 := M2.out.thawed 2
  have f0 := M1.out.thawed 0
  have f1 := M1.out.thawed 1
  have f1' := M1.out.thawed 2
  obtain ⟨p0, p1, p2⟩ := M1.out.cells
  obtain ⟨q0, q1, q2⟩ := M2.out.cells
  have N2 := Lib.hid (M2.out.put2 (.slice V3 q c3))
  have N1 := Lib.hid (M1.out.other (p := ⟨w.heap.size + 1 + 1, 2, none⟩) (by show w.heap.size + 1 ≠ w.heap.size + 1 + 1; omega) (.slice V3 q c3))
  have S4 : Hid (w3.grownBy (w3.setCell ⟨w.heap.size + 1 + 1, 2, none⟩ (.slice V3 q c3)) (some (w.heap.size + 1 + 1))) := Lib.hid (grown_set (p := ⟨w.heap.size + 1 + 1, 2, none⟩) (World.grownBy.refl w3 _) rfl _)
  have O4 := Lib.hid (O3.out.apart S4.out (fun g e => by cases e; exact .inl (by omega)))
  have R4 := Lib.hid (R3.out.aside S4.out (fun g e => by cases e; exact .inl (by omega)))
  have C4 := Lib.hid (below_grown C3.out S4.out (fun g e => by cases e; omega))
  have z4 : (w3.setCell ⟨w.heap.size + 1 + 1, 2, none⟩ (.slice V3 q c3)).heap.size = w3.heap.size := by simp [World.setCell]
  go_upto_region 4 with (fail)
  generalize w3.setCell ⟨w.heap.size + 1 + 1, 2, none⟩ (.slice V3 q c3) = w4 at *
  clear f2 f0 f1 f1' p0 p1 p2 q0 q1 q2 R3 O3 C3 M1 M2
  have f0 := N1.out.thawed 0
  have f1 := N1.out.thawed 1
  have f2 := N1.out.thawed 2
  obtain ⟨p0, p1, p2⟩ := N1.out.cells
  obtain ⟨q0, q1, q2⟩ := N2.out.cells
  go_wp2
  clear f0 f1 f2 p0 p1 p2 q0 q1 q2
  have RR := (((N1.out.put0 (.slice A1 n c1)).put1 (.slice B1 k d1)).put2 (.slice V3 q c3)).cells
  have S5 : w4.grownBy (((w4.setCell ⟨w.heap.size + 1, 0, none⟩ (.slice A1 n c1)).setCell ⟨w.heap.size + 1, 1, none⟩ (.slice B1 k d1)).setCell ⟨w.heap.size + 1, 2, none⟩ (.slice V3 q c3)) (some (w.heap.size + 1)) := grown_set (p := ⟨w.heap.size + 1, 2, none⟩) (grown_set (p := ⟨w.heap.size + 1, 1, none⟩) (grown_set (p := ⟨w.heap.size + 1, 0, none⟩) (World.grownBy.refl w4 _) rfl _) rfl _) rfl _
  have O5 : BOwn _ (w.heap.size + 1 + 1 + 1) w1.heap.size A1 n B1 k P D := O4.out.apart S5 (fun g e => by injection e with e; exact .inl (by omega))
  have R5 : Rag _ w2.heap.size V3 q gs R := R4.out.aside S5 (fun g e => by injection e with e; exact .inl (by omega))
  have C5 : Below w.heap.size w _ := below_grown C4.out S5 (fun g e => by injection e with e; omega)
  have z5 : (((w4.setCell ⟨w.heap.size + 1, 0, none⟩ (.slice A1 n c1)).setCell ⟨w.heap.size + 1, 1, none⟩ (.slice B1 k d1)).setCell ⟨w.heap.size + 1, 2, none⟩ (.slice V3 q c3)).heap.size = w4.heap.size := by simp [World.setCell]
  refine bodyPost_ret (v := .agg #[.slice A1 n c1, .slice B1 k d1, .slice V3 q c3]) (by simp [results, Try.results53, go_sem, RR.1, RR.2.1, RR.2.2]) rfl ⟨_, _, _, _, _, _, _, _, _, w2.heap.size, gs, rfl, ⟨O5.more (by omega) (by omega) (Nat.le_trans z3 (by rw [z5, z4]; exact Nat.le_refl _)), R5, by omega, by rw [z5, z4]; exact T3.out⟩, C5⟩

theorem eqPlan_true (A B V A' B' V' : Option Addr) (n c k d q e0 c' d' e0' : Nat) (P : List Int) (D : List Bool) (R : List (List Int)) (w : World) (h : Pl w A n B k V q P D R) (h' : Pl w A' n B' k V' q P D R) (hn : n + k + q + sizeL R ≤ 1048576) :
    Calls Try.prog 54 #[.agg #[.slice A n c, .slice B k d, .slice V q e0], .agg #[.slice A' n c', .slice B' k d', .slice V' q e0']] w fun e w' => e = .returned (.bool true) ∧ Below w.heap.size w w' := by
  have c0 := ((Below.refl w.heap.size w).alloc (Nat.le_refl _) (.cells #[.slice A n c, .slice B k d, .slice V q e0] 30)).alloc (by simp) (.cells #[.slice A' n c', .slice B' k d', .slice V' q e0'] 30)
  have h0 := Lib.hid (h.on c0)
  have h0' := Lib.hid (h'.on c0)
  have k0 := Lib.hid ((Cell3.new w 30 (.slice A n c) (.slice B k d) (.slice V q e0)).alloc (.cells #[.slice A' n c', .slice B' k d', .slice V' q e0'] 30))
  have k1 := Lib.hid (Cell3.new (w.alloc (.cells #[.slice A n c, .slice B k d, .slice V q e0] 30)) 30 (.slice A' n c') (.slice B' k d') (.slice V' q e0'))
  have C0 := Lib.hid c0
  simp only [World.size_alloc] at k1
  obtain ⟨p0, p1, p2⟩ := k0.out.cells
  obtain ⟨q0, q1, q2⟩ := k1.out.cells
  clear c0
  go_enter Try.func54, Try.ntmps54
  go_wp2_with fail
  refine (eqBuilding_true A B A' B' n c k d c' d' P D _ h0.out.b h0'.out.b (by omega) (by omega)).mono ?_
  rintro e w1 ⟨rfl, b1⟩
  have H1 := Lib.hid (h0.out.on b1)
  have H1' := Lib.hid (h0'.out.on b1)
  have C1 := Lib.hid (C0.out.trans (b1.mono C0.out.size))
  obtain ⟨r0, r1, r2⟩ := (k0.out.on b1).cells
  obtain ⟨s0, s1, s2⟩ := (k1.out.on b1).cells
  clear b1 h0 h0' k0 k1 C0 p0 p1 p2 q0 q1 q2
  go_wp2_with fail
  refine (eqSets_true V V' q e0 e0' R _ H1.out.r H1'.out.r (by omega)).mono ?_
  rintro e w2 ⟨rfl, j, rfl⟩
  have C2 := Lib.hid (below_drewN C1.out j)
  clear r0 r1 r2 s0 s1 s2
  go_wp2
  go_ret
  exact ⟨rfl, C2.out⟩

theorem markPlan_any (A B V : Option Addr) (n c k d q e0 lo mid hi : Nat) (gs : List (Option Addr × Nat × Nat)) (P : List Int) (D : List Bool) (R : List (List Int)) (z : Int) (w : World) (h : POwn w lo mid hi A n B k V q gs P D R) (hh : hi ≤ w.heap.size) (hm : mid ≤ hi) (hn : n + k + q + sizeL R ≤ 1048576) (k0 : 0 ≤ z) (k1 : z ≤ 1000000) :
    Calls Try.prog 56 #[.agg #[.slice A n c, .slice B k d, .slice V q e0], .int .i64 z] w fun e w' => e = .returned (.int .i64 (rAt (z + n + k) R q)) ∧ POwn w' lo mid hi A n B k V q gs (marks z n) (marksB (z + n) k) (marksR (z + n + k) R) ∧ Apart lo hi w w' := by
  have c0 := (Below.refl w.heap.size w).alloc (Nat.le_refl _) (.cells #[.slice A n c, .slice B k d, .slice V q e0] 30)
  have h0 := Lib.hid (h.below c0)
  have K0 := Lib.hid (Cell3.new w 30 (.slice A n c) (.slice B k d) (.slice V q e0))
  have A0 : Hid (Apart lo hi w (w.alloc (.cells #[.slice A n c, .slice B k d, .slice V q e0] 30))) := Lib.hid ((Apart.refl lo hi w).after c0)
  obtain ⟨p0, p1, p2⟩ := K0.out.cells
  clear c0
  go_enter Try.func56, Try.ntmps56
  go_wp2_with fail
  refine (markBuilding_any A B n c k d lo mid P D z _ h0.out.b (by omega) (by omega) k0 k1).mono ?_
  rintro e w2 ⟨rfl, o2, w1, r1, r2, g1, g2, l1, l2⟩
  have A1 := Lib.hid ((A0.out.grown g1 (fun g e => by have := l1 g e; omega)).grown g2 (fun g e => by have := l2 g e; omega))
  have AM : Hid (Apart lo mid (w.alloc (.cells #[.slice A n c, .slice B k d, .slice V q e0] 30)) w2) := Lib.hid (((Apart.refl lo mid _).grown g1 l1).grown g2 l2)
  have R1 := Lib.hid (h0.out.r.past AM.out (Nat.le_refl _))
  have O2 := Lib.hid o2
  have K2 := Lib.hid (K0.out.past AM.out (.inr (by omega)))
  obtain ⟨q0, q1, q2⟩ := K2.out.cells
  clear o2 g1 g2 l1 l2 A0 p0 p1 p2 AM K0
  go_wp2_with fail
  refine (markRag_any V q e0 mid gs R (z + n + k) _ R1.out (by omega) (by omega) (by omega)).mono ?_
  rintro e w3 ⟨rfl, o3, a3⟩
  have T3 := Lib.hid (a3 hi h.top)
  have O3 := Lib.hid o3
  have M3 : Hid (BOwn w3 lo mid A n B k (marks z n) (marksB (z + n) k)) := Lib.hid ⟨O2.out.ps.before T3.out, O2.out.ds.before T3.out, O2.out.ne⟩
  have A3 := Lib.hid (A1.out.trans ⟨T3.out.os, T3.out.tape, T3.out.output, T3.out.size, fun j hj hc => T3.out.block j hj (hc.imp (fun h1 => Nat.lt_of_lt_of_le h1 h.lm) id)⟩)
  clear o3 a3 q0 q1 q2
  go_wp2
  go_ret
  exact ⟨rfl, ⟨M3.out, O3.out, h.lm, h.top⟩, A3.out⟩

theorem heldPlan_any (A B V : Option Addr) (n c k d q e0 : Nat) (R : List (List Int)) (z : Int) (w : World) (h : Pl w A n B k V q (marks z n) (marksB (z + n) k) (marksR (z + n + k) R)) (hl : R.length = q) (hn : n + k + q + sizeL R ≤ 1048576) (k0 : 0 ≤ z) (k1 : z ≤ 1000000) :
    Calls Try.prog 63 #[.agg #[.slice A n c, .slice B k d, .slice V q e0], .int .i64 z] w fun e w' => e = .returned (.int .i64 (rAt (z + n + k) R q)) ∧ Below w.heap.size w w' := by
  have c0 := (Below.refl w.heap.size w).alloc (Nat.le_refl _) (.cells #[.slice A n c, .slice B k d, .slice V q e0] 30)
  have h0 := Lib.hid (h.on c0)
  have C0 := Lib.hid c0
  have K0 := Lib.hid (Cell3.new w 30 (.slice A n c) (.slice B k d) (.slice V q e0))
  obtain ⟨p0, p1, p2⟩ := K0.out.cells
  clear c0
  go_enter Try.func63, Try.ntmps63
  go_wp2_with fail
  refine (heldBuilding_any A B n c k d z _ h0.out.b (by omega) (by omega) k0 k1).mono ?_
  rintro e w1 ⟨rfl, b1⟩
  have C1 := Lib.hid (below_trans' C0.out b1)
  have H1 := Lib.hid (h0.out.on b1)
  obtain ⟨q0, q1, q2⟩ := (K0.out.on b1).cells
  have hz1 : ¬ (z + (n : Int) + (k : Int) < 0) := by omega
  obtain ⟨r0, r1⟩ := rAt_range (k := z + n + k) (yss := R) (i := q) (by omega) (by omega) (by omega) (by omega)
  have hz2 : ¬ rAt (z + n + k) R q < 0 := by omega
  clear b1 p0 p1 p2 K0 C0 h0
  go_wp2_with fail
  refine (heldSets_any V q e0 R (z + n + k) _ H1.out.r (by omega) (by omega) (by omega)).mono ?_
  rintro e w2 ⟨rfl, rfl⟩
  clear q0 q1 q2
  go_wp2
  go_ret
  exact ⟨rfl, C1.out⟩

end Go.Proofs.Ytnadcjclihflcaa
