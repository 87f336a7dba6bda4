/- The draw of a valid building: three rows that grow side by side. -/
import Derived.Test.YtnadcjclihflcaaBldK
import Derived.Test.YtnadcjclihflcaaDraw
import Derived.Deep.Cut
import Derived.Deep.DeepCutAuto
namespace Go.Proofs.Ytnadcjclihflcaa
open Go Go.RowKit

def boolsV (xs : List Bool) : List Value := xs.map Value.bool
theorem boolsV_snoc (xs : List Bool) (v : Bool) : boolsV xs ++ [.bool v] = boolsV (xs ++ [v]) := by simp [boolsV]
/-- a row in another block stays -/
theorem rowPastB {w w' : World} {base t s g n c : Nat} {xs : List Value} {row : Option Nat} (h : w.ownsRow base t s (.slice (some ⟨g, 0, none⟩) n c) n xs) (hg : w.grownBy w' row) (hne : row ≠ some g) : w'.ownsRow base t s (.slice (some ⟨g, 0, none⟩) n c) n xs := by
  refine ⟨h.1, ?_⟩
  rcases h.2 with ⟨e, _⟩ | ⟨g', cap, cur, e, h1, hh, rest⟩
  · have := congrArg Value.ownBlock e; simp [Value.ownBlock] at this
  · have e1 : g = g' := by have := congrArg Value.ownBlock e; simpa [Value.ownBlock] using this
    subst e1
    exact .inr ⟨g, cap, cur, e, h1, (hg.block g (heapLt hh) (fun e => hne e.symm)).trans hh, rest⟩
theorem rowAt {w : World} {base t s g n c : Nat} {xs : List Value} (h : w.ownsRow base t s (.slice (some ⟨g, 0, none⟩) n c) n xs) : base ≤ g ∧ g < w.heap.size := by
  rcases h.2 with ⟨e, _⟩ | ⟨g', cap, cur, e, h1, hh, rest⟩
  · have := congrArg Value.ownBlock e; simp [Value.ownBlock] at this
  · have e1 : g = g' := by have := congrArg Value.ownBlock e; simpa [Value.ownBlock] using this
    subst e1
    exact ⟨h1, heapLt hh⟩
theorem rowOne {w : World} {base : Nat} {t : TypeId} (v : Value) (hb : base ≤ w.heap.size) : (w.alloc (.cells #[v] t)).ownsRow base t 1 (.slice (some ⟨w.heap.size, 0, none⟩) 1 1) 1 [v] :=
  ⟨by simp, .inr ⟨w.heap.size, 1, #[v], rfl, hb, heap_alloc_new w _, Nat.le_refl _, by unfold maxLen; omega, by simp, by simp⟩⟩

/-- parents, doors and groups as they grow: three rows in blocks of their own -/
structure Trio (w : World) (base : Nat) (x y z : Value) (jp jd q : Nat) (P : List Int) (D : List Bool) : Prop where
  r1 : ∃ g1 c1, x = .slice (some ⟨g1, 0, none⟩) jp c1 ∧ w.ownsRow base 2 1 (.slice (some ⟨g1, 0, none⟩) jp c1) jp (listI P)
  r2 : ∃ g2 c2, y = .slice (some ⟨g2, 0, none⟩) jd c2 ∧ w.ownsRow base 4 1 (.slice (some ⟨g2, 0, none⟩) jd c2) jd (boolsV D)
  r3 : ∃ g3 c3 G, z = .slice (some ⟨g3, 0, none⟩) q c3 ∧ w.ownsRow base 2 1 (.slice (some ⟨g3, 0, none⟩) q c3) q (listI G) ∧ G.length = q ∧ ∀ v ∈ G, 0 ≤ v ∧ v ≤ 99
  n12 : x.ownBlock ≠ y.ownBlock
  n13 : x.ownBlock ≠ z.ownBlock
  n23 : y.ownBlock ≠ z.ownBlock
  lp : P.length = jp
  ld : D.length = jd
  q1 : 1 ≤ q
  up : ∀ i, 1 ≤ i → i < jp → 0 ≤ par P i ∧ par P i ≤ 99
theorem own_slice (g n c : Nat) : (Value.slice (some ⟨g, 0, none⟩) n c).ownBlock = some g := rfl
theorem Trio.apart {w w' : World} {base : Nat} {x y z : Value} {jp jd q : Nat} {P : List Int} {D : List Bool} {g : Nat} (h : Trio w base x y z jp jd q P D) (hg : w.grownBy w' (some g)) (hlt : g < base) : Trio w' base x y z jp jd q P D := by
  obtain ⟨⟨g1, c1, e1, o1⟩, ⟨g2, c2, e2, o2⟩, ⟨g3, c3, G, e3, o3, l3⟩, a, b, c, d, e, f, u⟩ := h
  exact ⟨⟨g1, c1, e1, rowPastB o1 hg (fun e => by injection e with e; have := rowAt o1; omega)⟩, ⟨g2, c2, e2, rowPastB o2 hg (fun e => by injection e with e; have := rowAt o2; omega)⟩, ⟨g3, c3, G, e3, rowPastB o3 hg (fun e => by injection e with e; have := rowAt o3; omega), l3⟩, a, b, c, d, e, f, u⟩
theorem Trio.alloc {w : World} {base : Nat} {x y z : Value} {jp jd q : Nat} {P : List Int} {D : List Bool} (h : Trio w base x y z jp jd q P D) (o : Obj) : Trio (w.alloc o) base x y z jp jd q P D := by
  obtain ⟨⟨g1, c1, e1, o1⟩, ⟨g2, c2, e2, o2⟩, ⟨g3, c3, G, e3, o3, l3⟩, a, b, c, d, e, f, u⟩ := h
  have bl := (Below.refl w.heap.size w).alloc (Nat.le_refl _) o
  exact ⟨⟨g1, c1, e1, rowBelow o1 bl⟩, ⟨g2, c2, e2, rowBelow o2 bl⟩, ⟨g3, c3, G, e3, rowBelow o3 bl, l3⟩, a, b, c, d, e, f, u⟩
theorem Trio.pushP {w w' : World} {base : Nat} {x y z : Value} {jp jd q gg cap : Nat} {P : List Int} {D : List Bool} {v : Int} (h : Trio w base x y z jp jd q P D) (ho : w'.ownsRow base 2 1 (.slice (some ⟨gg, 0, none⟩) (jp + 1) cap) (jp + 1) (listI P ++ [.int .i64 v])) (hg : w.grownBy w' x.ownBlock) (ha : x.ownBlock = some gg ∨ w.heap.size ≤ gg) (hv : 0 ≤ v ∧ v ≤ 99) : Trio w' base (.slice (some ⟨gg, 0, none⟩) (jp + 1) cap) y z (jp + 1) jd q (P ++ [v]) D := by
  obtain ⟨⟨g1, c1, e1, o1⟩, ⟨g2, c2, e2, o2⟩, ⟨g3, c3, G, e3, o3, l3⟩, a, b, c, d, e, f, u⟩ := h
  subst e1; subst e2; subst e3
  rw [own_slice] at *
  have k2 := rowAt o2
  have k3 := rowAt o3
  refine ⟨⟨gg, cap, rfl, by rw [← listI_snoc]; exact ho⟩, ⟨g2, c2, rfl, rowPastB o2 hg a⟩, ⟨g3, c3, G, rfl, rowPastB o3 hg b, l3⟩, ?_, ?_, c, by simp [d], e, f, fun i h1 hi => ?_⟩
  · rw [own_slice, own_slice]; intro e'; injection e' with e'; subst e'
    rcases ha with ha | ha
    · exact a ha
    · omega
  · rw [own_slice, own_slice]; intro e'; injection e' with e'; subst e'
    rcases ha with ha | ha
    · exact b ha
    · omega
  · unfold par
    rw [List.getD_eq_getElem?_getD]
    by_cases hj : i < jp
    · rw [List.getElem?_append_left (by omega), ← List.getD_eq_getElem?_getD]
      exact u i h1 hj
    · obtain rfl : i = jp := by omega
      rw [List.getElem?_append_right (by omega), d, Nat.sub_self]
      exact hv
theorem Trio.pushD {w w' : World} {base : Nat} {x y z : Value} {jp jd q gg cap : Nat} {P : List Int} {D : List Bool} {v : Bool} (h : Trio w base x y z jp jd q P D) (ho : w'.ownsRow base 4 1 (.slice (some ⟨gg, 0, none⟩) (jd + 1) cap) (jd + 1) (boolsV D ++ [.bool v])) (hg : w.grownBy w' y.ownBlock) (ha : y.ownBlock = some gg ∨ w.heap.size ≤ gg) : Trio w' base x (.slice (some ⟨gg, 0, none⟩) (jd + 1) cap) z jp (jd + 1) q P (D ++ [v]) := by
  obtain ⟨⟨g1, c1, e1, o1⟩, ⟨g2, c2, e2, o2⟩, ⟨g3, c3, G, e3, o3, l3⟩, a, b, c, d, e, f, u⟩ := h
  subst e1; subst e2; subst e3
  rw [own_slice] at *
  have k1 := rowAt o1
  have k3 := rowAt o3
  refine ⟨⟨g1, c1, rfl, rowPastB o1 hg (Ne.symm a)⟩, ⟨gg, cap, rfl, by rw [← boolsV_snoc]; exact ho⟩, ⟨g3, c3, G, rfl, rowPastB o3 hg c, l3⟩, ?_, b, ?_, d, by simp [e], f, u⟩
  · rw [own_slice, own_slice]; intro e'; injection e' with e'; subst e'
    rcases ha with ha | ha
    · exact a ha.symm
    · omega
  · rw [own_slice, own_slice]; intro e'; injection e' with e'; subst e'
    rcases ha with ha | ha
    · exact c ha
    · omega
theorem Trio.pushG {w w' : World} {base : Nat} {x y z : Value} {jp jd q gg cap : Nat} {P : List Int} {D : List Bool} {v : Int} {G' : List Int} (h : Trio w base x y z jp jd q P D) (ho : w'.ownsRow base 2 1 (.slice (some ⟨gg, 0, none⟩) (q + 1) cap) (q + 1) (listI G' ++ [.int .i64 v])) (hG : G'.length = q ∧ ∀ x ∈ G', 0 ≤ x ∧ x ≤ 99) (hg : w.grownBy w' z.ownBlock) (ha : z.ownBlock = some gg ∨ w.heap.size ≤ gg) (hv : 0 ≤ v ∧ v ≤ 99) : Trio w' base x y (.slice (some ⟨gg, 0, none⟩) (q + 1) cap) jp jd (q + 1) P D := by
  obtain ⟨⟨g1, c1, e1, o1⟩, ⟨g2, c2, e2, o2⟩, ⟨g3, c3, G, e3, o3, l3⟩, a, b, c, d, e, f, u⟩ := h
  subst e1; subst e2; subst e3
  rw [own_slice] at *
  have k1 := rowAt o1
  have k2 := rowAt o2
  refine ⟨⟨g1, c1, rfl, rowPastB o1 hg (Ne.symm b)⟩, ⟨g2, c2, rfl, rowPastB o2 hg (Ne.symm c)⟩, ⟨gg, cap, G' ++ [v], rfl, by rw [← listI_snoc]; exact ho, by simp [hG.1], fun x hx => (List.mem_append.1 hx).elim (fun h => hG.2 x h) (fun h => by rw [List.mem_singleton.1 h]; exact hv)⟩, a, ?_, ?_, d, e, by omega, u⟩
  · rw [own_slice, own_slice]; intro e'; injection e' with e'; subst e'
    rcases ha with ha | ha
    · exact b ha.symm
    · omega
  · rw [own_slice, own_slice]; intro e'; injection e' with e'; subst e'
    rcases ha with ha | ha
    · exact c ha.symm
    · omega

/-- what a draw of a building answers: lists of its own -/
def DrawnB (w : World) (B g : Nat) (A : Option Addr) (n c : Nat) (e : Ending) (w' : World) : Prop :=
  ∃ A1 m c1 A2 k c2 P D, e = .returned (.agg #[.slice A1 m c1, .slice A2 k c2]) ∧ BOwn w' w.heap.size w'.heap.size A1 m A2 k P D ∧ m ≤ 64 ∧ k ≤ 64 ∧ m ≤ c1 ∧ k ≤ c2 ∧ c1 ≤ 9223372036854775807 ∧ c2 ≤ 9223372036854775807 ∧ Src w' B g A n c ∧ w.grownBy w' (some g)

/-- what a draw of a valid building answers: two rows of its own -/
def DrawnV (w : World) (B g : Nat) (A : Option Addr) (n c : Nat) (e : Ending) (w' : World) : Prop :=
  ∃ (x y z : Value) (m q : Nat) (P : List Int) (D : List Bool), e = .returned (.agg #[x, y]) ∧ Trio w' (w.heap.size + 1) x y z m m q P D ∧ 2 ≤ m ∧ m ≤ 10 ∧ Src w' B g A n c ∧ w.grownBy w' (some g)

set_option maxRecDepth 100000 in
set_option maxHeartbeats 4000000 in
theorem l09Valid_any (B g : Nat) (A : Option Addr) (n c : Nat) (w : World) (h : Src w B g A n c) :
    Calls Try.prog 138 #[.pointer (some ⟨g, 0, none⟩)] w (DrawnV w B g A n c) := by
  have hg1 := h.lt
  obtain ⟨ii, hi0, hz0, hz1, hz2⟩ := info_parts Try.info2'
  have HF := Lib.hid (And.intro hi0 (And.intro hz0 (And.intro hz1 hz2)))
  clear hi0 hz0 hz1 hz2
  obtain ⟨jj, hi0, hz0, hz1, hz2⟩ := info_parts Try.info4'
  have HJ := Lib.hid (And.intro hi0 (And.intro hz0 (And.intro hz1 hz2)))
  clear hi0 hz0 hz1 hz2
  have S0 := Lib.hid (h.alloc (.cells #[.slice none 0 0, .slice none 0 0] 27))
  have K0 := Lib.hid (Cell2.new w 27 (.slice none 0 0) (.slice none 0 0))
  have G0 := Lib.hid (grown_alloc (World.grownBy.refl w (some g)) (.cells #[.slice none 0 0, .slice none 0 0] 27))
  clear h
  go_enter Try.func138, Try.ntmps138
  go_wp2_with fail
  refine (l01Next_any B g A n c _ _ S0.out (by omega)).mono ?_
  rintro e w1 ⟨x, rfl, x0, x1, h1, g1⟩
  have K1 := Lib.hid (K0.out.grown g1 (fun e => by injection e with e; omega))
  have G1 := Lib.hid (grown_trans' G0.out g1)
  have x8 : x ≤ 8 := by omega
  have s1 := g1.size
  rw [World.size_alloc] at s1
  have S1 := Lib.hid h1
  clear x1 g1 h1 S0 K0 G0
  have T3 : Hid (Trio (((w1.alloc (.cells #[.int .i64 (-1)] 2)).alloc (.cells #[.bool false] 4)).alloc (.cells #[.int .i64 0] 2)) (w.heap.size + 1) (.slice (some ⟨w1.heap.size, 0, none⟩) 1 1) (.slice (some ⟨w1.heap.size + 1, 0, none⟩) 1 1) (.slice (some ⟨w1.heap.size + 1 + 1, 0, none⟩) 1 1) 1 1 1 [-1] [false]) := Lib.hid (by
    have b1 := (Below.refl (w1.alloc (.cells #[.int .i64 (-1)] 2)).heap.size (w1.alloc (.cells #[.int .i64 (-1)] 2))).alloc (Nat.le_refl _) (.cells #[.bool false] 4)
    have b2 := (Below.refl ((w1.alloc (.cells #[.int .i64 (-1)] 2)).alloc (.cells #[.bool false] 4)).heap.size ((w1.alloc (.cells #[.int .i64 (-1)] 2)).alloc (.cells #[.bool false] 4))).alloc (Nat.le_refl _) (.cells #[.int .i64 0] 2)
    have o1 := rowOne (w := w1) (base := w.heap.size + 1) (t := 2) (.int .i64 (-1)) (by omega)
    have o2 := rowOne (w := w1.alloc (.cells #[.int .i64 (-1)] 2)) (base := w.heap.size + 1) (t := 4) (.bool false) (by simp; omega)
    have o3 := rowOne (w := (w1.alloc (.cells #[.int .i64 (-1)] 2)).alloc (.cells #[.bool false] 4)) (base := w.heap.size + 1) (t := 2) (.int .i64 0) (by simp; omega)
    simp only [World.size_alloc] at o2 o3
    refine ⟨⟨_, _, rfl, rowBelow (rowBelow o1 b1) b2⟩, ⟨_, _, rfl, rowBelow o2 b2⟩, ⟨_, _, [0], rfl, o3, rfl, by simp⟩, ?_, ?_, ?_, rfl, rfl, Nat.le_refl _, fun i h1 h2 => by omega⟩ <;> (rw [own_slice, own_slice]; intro e; injection e with e; omega))
  have G3 := Lib.hid (grown_alloc (grown_alloc (grown_alloc G1.out (.cells #[.int .i64 (-1)] 2)) (.cells #[.bool false] 4)) (.cells #[.int .i64 0] 2))
  have S3 := Lib.hid (((S1.out.alloc (.cells #[.int .i64 (-1)] 2)).alloc (.cells #[.bool false] 4)).alloc (.cells #[.int .i64 0] 2))
  have K3 := Lib.hid (((K1.out.alloc (.cells #[.int .i64 (-1)] 2)).alloc (.cells #[.bool false] 4)).alloc (.cells #[.int .i64 0] 2))
  clear G1 S1 K1
  go_wp2
  go_loopw [4, 5, 6, 7] (fun a b d i wr => ∃ (j q : Nat) (P : List Int) (D : List Bool), 1 ≤ j ∧ (j : Int) ≤ 2 + x ∧ i = .int .i64 j ∧ q ≤ j ∧ Hid (Trio wr (w.heap.size + 1) a b d j j q P D) ∧ Hid (Src wr B g A n c) ∧ Hid (Cell2 wr w.heap.size 27 (.slice none 0 0) (.slice none 0 0)) ∧ Hid (w.grownBy wr (some g))) (fun _ _ _ i _ => (2 + x - intOf i).toNat)
  case atStart => exact ⟨1, 1, _, _, Nat.le_refl _, by omega, rfl, Nat.le_refl _, T3, S3, K3, G3⟩
  case round =>
    obtain ⟨j, q, P, D, hj1, hj, rfl, hqj, HT, HS, HK, HG⟩ := hrel
    clear T3 S3 K3 G3
    obtain ⟨g1, c1, rfl, _⟩ := HT.out.r1
    obtain ⟨g2, c2, rfl, _⟩ := HT.out.r2
    obtain ⟨g3, c3, G, rfl, _, hGl⟩ := HT.out.r3
    have hq1 := HT.out.q1
    by_cases hlt : (j : Int) < 2 + x
    · go_wp2_with fail
      refine (l01Next_any B g A n c (q : Int) _ HS.out (by omega)).mono ?_
      rintro e w2 ⟨r, rfl, r0, r1, h2, gr2⟩
      have T2 := Lib.hid (HT.out.apart gr2 (by omega))
      have S2 := Lib.hid h2
      have K2 := Lib.hid (HK.out.grown gr2 (fun e => by injection e with e; omega))
      have G2 := Lib.hid (grown_trans' HG.out gr2)
      obtain ⟨R, rfl⟩ := Int.eq_ofNat_of_zero_le r0
      have hR : R < q := by omega
      clear r1 h2 gr2 HT HS HK HG hGl
      obtain ⟨_, _, G', e, o3, l3, lG⟩ := T2.out.r3
      injection e with e1 e2 e3
      injection e1 with e1
      injection e1 with e1
      subst e1; subst e3
      have hv : ∃ v, G'[R]? = some v := ⟨_, List.getElem?_eq_getElem (by omega)⟩
      obtain ⟨v, hv⟩ := hv
      have hvb := lG v (List.mem_of_getElem? hv)
      clear lG
      have hcell := o3.cells (g := g3) rfl R (.int .i64 v) (by unfold listI; rw [List.getElem?_map, hv]; rfl)
      have ea : (⟨g3, 0, none⟩ : Addr).add R = ⟨g3, R, none⟩ := by rcases R with _ | R <;> simp [Addr.add]
      rw [ea] at hcell
      have i1 : (R : Int) < (q : Int) := by omega
      obtain ⟨_, _, e, o1⟩ := T2.out.r1
      injection e with e1 e2 e3
      injection e1 with e1
      injection e1 with e1
      subst e1; subst e3
      have O1 := Lib.hid o1
      have l1 := rowAt o1
      have sz2 := G2.out.size
      clear hv ea o1 o3 l3
      go_upto_region 8 with (at_builtin; refine wpList_append_lies _ rfl _ _ 24 rfl (w.heap.size + 1) 2 ii _ 1 8 Try.underlying24 HF.out.1 HF.out.2.1 HF.out.2.2.1 HF.out.2.2.2 rfl (by omega) _ _ _ rfl (rowBelow O1.out ((Below.refl _ _).alloc (Nat.le_refl _) _)) ⟨w2.heap.size, 0, none⟩ 1 1 [.int .i64 v] rfl rfl (World.news_of_block (cs := #[.int .i64 v]) (t := 2) (fr := (0, 0)) (heap_alloc_new w2 _)) (by simp [Value.oneCell']) (by omega) (by unfold maxLen; omega) (by omega) (by simp; omega) (w2.heap.size + 1) (by simp) ?_; intro gg cap wn hown1 hgrow hat hlt3)
      have TA := Lib.hid ((T2.out.alloc (.cells #[.int .i64 v] 2)).pushP hown1 hgrow (hat.imp id (fun e => by rw [e]; simp)) hvb)
      have SA := Lib.hid ((S2.out.alloc (.cells #[.int .i64 v] 2)).apart hgrow (fun k e => by (have e2 : some g1 = some k := e); injection e2 with e2; omega))
      have KA := Lib.hid ((K2.out.alloc (.cells #[.int .i64 v] 2)).grown hgrow (fun e => by (have e2 : some w.heap.size = some g1 := e); injection e2 with e2; omega))
      have GA := Lib.hid (grown_own (grown_alloc G2.out (.cells #[.int .i64 v] 2)) hgrow (fun k e => by (have e2 : some g1 = some k := e); injection e2 with e2; omega))
      clear hown1 hgrow hat hlt3 T2 S2 K2 G2 O1 hcell
      go_cut [8] (fun y wx => ∃ bb : Bool, y = .bool bb ∧ Trio wx (w.heap.size + 1) (.slice (some ⟨gg, 0, none⟩) (j + 1) cap) (.slice (some ⟨g2, 0, none⟩) j c2) (.slice (some ⟨g3, 0, none⟩) q c3) (j + 1) j q (P ++ [v]) D ∧ Src wx B g A n c ∧ Cell2 wx w.heap.size 27 (.slice none 0 0) (.slice none 0 0) ∧ w.grownBy wx (some g))
      case first =>
        by_cases hlast : (j : Int) = 2 + x - 1
        · go_wp2_with fail
          go_meet
          exact ⟨_, rfl, TA.out, SA.out, KA.out, GA.out⟩
        · go_wp2_with fail
          refine (l01Next_any B g A n c _ _ SA.out (by omega)).mono ?_
          rintro e w4 ⟨y, rfl, y0, y1, h4, gr4⟩
          have T4 := TA.out.apart gr4 (by omega)
          have K4 := KA.out.grown gr4 (fun e => by injection e with e; omega)
          have G4 := grown_trans' GA.out gr4
          go_wp2_with fail
          go_meet
          exact ⟨_, rfl, T4, h4, K4, G4⟩
      case rest =>
        clear TA SA KA GA
        obtain ⟨bb, rfl, hT4, hS4, hK4, hG4⟩ := hcut
        obtain ⟨w4, rfl⟩ : ∃ w4, w4 = wc := ⟨_, rfl⟩
        have T4 := Lib.hid hT4
        have S4 := Lib.hid hS4
        have K4 := Lib.hid hK4
        have G4 := Lib.hid hG4
        have sz4 := hG4.size
        obtain ⟨_, _, e, o2⟩ := hT4.r2
        injection e with e1 e2 e3
        injection e1 with e1
        injection e1 with e1
        subst e1; subst e3
        have O2 := Lib.hid o2
        have l2 := rowAt o2
        clear hT4 hS4 hK4 hG4 o2
        go_upto_region 10 with (at_builtin; refine wpList_append_lies _ rfl _ _ 25 rfl (w.heap.size + 1) 4 jj _ 1 1 Try.underlying25 HJ.out.1 HJ.out.2.1 HJ.out.2.2.1 HJ.out.2.2.2 rfl (by omega) _ _ _ rfl (rowBelow O2.out ((Below.refl _ _).alloc (Nat.le_refl _) _)) ⟨w4.heap.size, 0, none⟩ 1 1 [.bool bb] rfl rfl (World.news_of_block (cs := #[.bool bb]) (t := 4) (fr := (0, 0)) (heap_alloc_new w4 _)) (by simp [Value.oneCell']) (by omega) (by unfold maxLen; omega) (by omega) (by simp; omega) (w4.heap.size + 1) (by simp) ?_; intro gd capd wn hown1 hgrow hat hlt3)
        have TB := Lib.hid ((T4.out.alloc (.cells #[.bool bb] 4)).pushD hown1 hgrow (hat.imp id (fun e => by rw [e]; simp)))
        have SB := Lib.hid ((S4.out.alloc (.cells #[.bool bb] 4)).apart hgrow (fun k e => by (have e2 : some g2 = some k := e); injection e2 with e2; omega))
        have KB := Lib.hid ((K4.out.alloc (.cells #[.bool bb] 4)).grown hgrow (fun e => by (have e2 : some w.heap.size = some g2 := e); injection e2 with e2; omega))
        have GB := Lib.hid (grown_own (grown_alloc G4.out (.cells #[.bool bb] 4)) hgrow (fun k e => by (have e2 : some g2 = some k := e); injection e2 with e2; omega))
        clear hown1 hgrow hat hlt3 T4 S4 K4 G4 O2
        obtain ⟨w5, rfl⟩ : ∃ w5, w5 = wn := ⟨_, rfl⟩
        cases bb with
        | true =>
          go_wp2
          go_roundw
          case rel => exact ⟨j + 1, q, _, _, by omega, by omega, by go_num, by omega, TB, SB, KB, GB⟩
          case measure => simp [intOf]; omega
        | false =>
          obtain ⟨_, _, G5, e, o3, l5⟩ := TB.out.r3
          injection e with e1 e2 e3
          injection e1 with e1
          injection e1 with e1
          subst e1; subst e3
          have O3 := Lib.hid o3
          have HL5 := Lib.hid l5
          have l3 := rowAt o3
          have sz5 := GB.out.size
          clear o3 l5
          go_wp2_with (at_builtin; refine wpList_append_lies _ rfl _ _ 24 rfl (w.heap.size + 1) 2 ii _ 1 8 Try.underlying24 HF.out.1 HF.out.2.1 HF.out.2.2.1 HF.out.2.2.2 rfl (by omega) _ _ _ rfl (rowBelow O3.out ((Below.refl _ _).alloc (Nat.le_refl _) _)) ⟨w5.heap.size, 0, none⟩ 1 1 [.int .i64 (j : Int)] rfl rfl (World.news_of_block (cs := #[.int .i64 (j : Int)]) (t := 2) (fr := (0, 0)) (heap_alloc_new w5 _)) (by simp [Value.oneCell']) (by omega) (by unfold maxLen; omega) (by omega) (by simp; omega) (w5.heap.size + 1) (by simp) ?_; intro ge cape wn hown1 hgrow hat hlt3)
          have TC := Lib.hid ((TB.out.alloc (.cells #[.int .i64 (j : Int)] 2)).pushG hown1 HL5.out hgrow (hat.imp id (fun e => by rw [e]; simp)) ⟨by omega, by omega⟩)
          have SC := Lib.hid ((SB.out.alloc (.cells #[.int .i64 (j : Int)] 2)).apart hgrow (fun k e => by (have e2 : some g3 = some k := e); injection e2 with e2; omega))
          have KC := Lib.hid ((KB.out.alloc (.cells #[.int .i64 (j : Int)] 2)).grown hgrow (fun e => by (have e2 : some w.heap.size = some g3 := e); injection e2 with e2; omega))
          have GC := Lib.hid (grown_own (grown_alloc GB.out (.cells #[.int .i64 (j : Int)] 2)) hgrow (fun k e => by (have e2 : some g3 = some k := e); injection e2 with e2; omega))
          clear hown1 hgrow hat hlt3 TB SB KB GB O3
          go_wp2
          go_roundw
          case rel => exact ⟨j + 1, q + 1, _, _, by omega, by omega, by go_num, by omega, TC, SC, KC, GC⟩
          case measure => simp [intOf]; omega
    · have f0 := HK.out.thawed 0
      have f1 := HK.out.thawed 1
      obtain ⟨p0, p1⟩ := HK.out.cells
      go_wp2
      clear f0 f1 p0 p1
      have R := ((HK.out.put0 (.slice (some ⟨g1, 0, none⟩) j c1)).put1 (.slice (some ⟨g2, 0, none⟩) j c2)).cells
      have s5 : wr.grownBy ((wr.setCell ⟨w.heap.size, 0, none⟩ (.slice (some ⟨g1, 0, none⟩) j c1)).setCell ⟨w.heap.size, 1, none⟩ (.slice (some ⟨g2, 0, none⟩) j c2)) (some w.heap.size) := grown_set (p := ⟨w.heap.size, 1, none⟩) (grown_set (p := ⟨w.heap.size, 0, none⟩) (World.grownBy.refl wr _) rfl _) rfl _
      refine bodyPost_ret (v := .agg #[.slice (some ⟨g1, 0, none⟩) j c1, .slice (some ⟨g2, 0, none⟩) j c2]) (by simp [results, Try.results138, go_sem, R.1, R.2]) rfl ⟨_, _, _, j, q, P, D, rfl, HT.out.apart s5 (Nat.lt_succ_self _), by omega, by omega, HS.out.apart s5 (fun k e => by injection e with e; omega), ?_⟩
      exact grown_own HG.out s5 (fun k e => by injection e with e; omega)

/-- a row of truth values as a list of the call's own -/
theorem rowBoolsAt {w : World} {base t n g cap : Nat} {xs : List Bool} (h : w.ownsRow base t 1 (.slice (some ⟨g, 0, none⟩) n cap) n (boolsV xs)) (hl : xs.length = n) : OwnB w base w.heap.size (some ⟨g, 0, none⟩) n xs ∧ n ≤ cap ∧ cap ≤ 9223372036854775807 := by
  rcases h.2 with ⟨e, _⟩ | ⟨g', cap', cur, e, hb, hg, hnc, hcm, hcs, htk⟩
  · have := congrArg Value.ownBlock e
    simp [Value.ownBlock] at this
  · have e1 : g = g' := by have := congrArg Value.ownBlock e; simpa [Value.ownBlock] using this
    have e2 : cap = cap' := congrArg capOf e
    subst e1; subst e2
    have hlt : g < w.heap.size := heapLt hg
    refine ⟨⟨hl, Nat.le_refl _, fun _ => ⟨_, rfl, hb, hlt, fun j u hu => ?_⟩⟩, hnc, by unfold maxLen at hcm; omega⟩
    have hc := h.cells (g := g) rfl j (.bool u) (by unfold boolsV; rw [List.getElem?_map, hu]; rfl)
    refine ⟨?_, hc⟩
    unfold Addr.add
    split <;> simp [World.frozen?, hg]
theorem Trio.own {w : World} {base : Nat} {x y z : Value} {m q : Nat} {P : List Int} {D : List Bool} (h : Trio w base x y z m m q P D) : ∃ g1 c1 g2 c2, x = .slice (some ⟨g1, 0, none⟩) m c1 ∧ y = .slice (some ⟨g2, 0, none⟩) m c2 ∧ BOwn w base w.heap.size (some ⟨g1, 0, none⟩) m (some ⟨g2, 0, none⟩) m P D ∧ m ≤ c1 ∧ c1 ≤ 9223372036854775807 ∧ m ≤ c2 ∧ c2 ≤ 9223372036854775807 := by
  obtain ⟨⟨g1, c1, e1, o1⟩, ⟨g2, c2, e2, o2⟩, _, a, _, _, d, e, _, _⟩ := h
  obtain ⟨k1, k2, k3⟩ := rowIntsAt (xs := P) o1 d
  obtain ⟨k4, k5, k6⟩ := rowBoolsAt (xs := D) o2 e
  refine ⟨g1, c1, g2, c2, e1, e2, ⟨k1, k4, fun a' b' _ _ ea eb => ?_⟩, k2, k3, k5, k6⟩
  injection ea with ea
  injection eb with eb
  subst ea; subst eb; subst e1; subst e2
  intro e'
  rw [own_slice, own_slice] at a
  exact a (congrArg some e')
theorem OwnB.put {w : World} {lo hi n : Nat} {ad : Addr} {xs : List Bool} {j : Nat} (v : Bool) (h : OwnB w lo hi (some ad) n xs) (hj : j < n) : OwnB (w.setCell (ad.add j) (.bool v)) lo hi (some ad) n (xs.set j v) := by
  refine ⟨by rw [List.length_set]; exact h.1, by simpa [World.setCell] using h.2.1, fun hn => ?_⟩
  obtain ⟨ad', e, h1, h2, hc⟩ := h.2.2 hn
  obtain rfl : ad = ad' := by injection e
  refine ⟨ad, rfl, h1, h2, fun i u hu => ?_⟩
  by_cases hij : j = i
  · subst hij
    have hl : j < xs.length := by have := h.1; omega
    rw [List.getElem?_set_self hl] at hu
    obtain rfl : v = u := by injection hu
    obtain ⟨_, z, e, _, _, _, hf, hcell⟩ := h.at_ hj
    injection e with e
    subst e
    exact ⟨by rw [World.frozen?_setCell]; exact hf, World.cell?_setCell_same _ _ _ hcell⟩
  · rw [List.getElem?_set_ne hij] at hu
    rw [World.frozen?_setCell, World.cell?_setCell_other _ _ _ _ (add_ne ad hij)]
    exact hc i u hu
theorem Own.take {w : World} {lo hi n k : Nat} {A : Option Addr} {xs : List Int} (h : Own w lo hi A n xs) (hk : k ≤ n) : Own w lo hi A k (xs.take k) := by
  refine ⟨by rw [List.length_take, h.1]; omega, h.2.1, fun h0 => ?_⟩
  obtain ⟨ad, e, h1, h2, hc⟩ := h.2.2 (by omega)
  refine ⟨ad, e, h1, h2, fun j v hv => hc j v ?_⟩
  rw [List.getElem?_take] at hv
  split at hv
  · exact hv
  · cases hv
theorem OwnB.take {w : World} {lo hi n k : Nat} {A : Option Addr} {xs : List Bool} (h : OwnB w lo hi A n xs) (hk : k ≤ n) : OwnB w lo hi A k (xs.take k) := by
  refine ⟨by rw [List.length_take, h.1]; omega, h.2.1, fun h0 => ?_⟩
  obtain ⟨ad, e, h1, h2, hc⟩ := h.2.2 (by omega)
  refine ⟨ad, e, h1, h2, fun j v hv => hc j v ?_⟩
  rw [List.getElem?_take] at hv
  split at hv
  · exact hv
  · cases hv

end Go.Proofs.Ytnadcjclihflcaa
