/- The draw of a valid plan. Plans that lie from a block on. -/
import Derived.Test.YtnadcjclihflcaaDrawPN
import Derived.Test.YtnadcjclihflcaaPlK
import Derived.Test.YtnadcjclihflcaaBuilt
namespace Go.Proofs.Ytnadcjclihflcaa
open Go Go.RowKit

/-- a list that lies from block lo on -/
def LoI (w : World) (lo : Nat) (A : Option Addr) (n : Nat) (xs : List Int) : Prop := Ints w w.heap.size A n xs ∧ (0 < n → ∀ ad, A = some ad → lo ≤ ad.block)
theorem LoI.above {w w' : World} {lo n : Nat} {A : Option Addr} {xs : List Int} (h : LoI w lo A n xs) (ha : Above lo w w') : LoI w' lo A n xs :=
  ⟨⟨h.1.1, fun hn => by
    obtain ⟨ad, e, hb, hc⟩ := h.1.2 hn
    exact ⟨ad, e, Nat.lt_of_lt_of_le hb ha.size, fun j v hv => (World.cell?_of_block (ha.block _ (by rw [block_of_add]; exact h.2 hn ad e) (by rw [block_of_add]; exact hb))).trans (hc j v hv)⟩⟩, h.2⟩
theorem LoI.down {w : World} {lo lo' n : Nat} {A : Option Addr} {xs : List Int} (h : LoI w lo A n xs) (hl : lo' ≤ lo) : LoI w lo' A n xs := ⟨h.1, fun hn ad e => Nat.le_trans hl (h.2 hn ad e)⟩
def LoB (w : World) (lo : Nat) (A : Option Addr) (n : Nat) (xs : List Bool) : Prop := Bools w w.heap.size A n xs ∧ (0 < n → ∀ ad, A = some ad → lo ≤ ad.block)
theorem LoB.above {w w' : World} {lo n : Nat} {A : Option Addr} {xs : List Bool} (h : LoB w lo A n xs) (ha : Above lo w w') : LoB w' lo A n xs :=
  ⟨⟨h.1.1, fun hn => by
    obtain ⟨ad, e, hb, hc⟩ := h.1.2 hn
    exact ⟨ad, e, Nat.lt_of_lt_of_le hb ha.size, fun j v hv => (World.cell?_of_block (ha.block _ (by rw [block_of_add]; exact h.2 hn ad e) (by rw [block_of_add]; exact hb))).trans (hc j v hv)⟩⟩, h.2⟩
theorem LoB.down {w : World} {lo lo' n : Nat} {A : Option Addr} {xs : List Bool} (h : LoB w lo A n xs) (hl : lo' ≤ lo) : LoB w lo' A n xs := ⟨h.1, fun hn ad e => Nat.le_trans hl (h.2 hn ad e)⟩
def LoS (w : World) (lo : Nat) (V : Option Addr) (q : Nat) (R : List (List Int)) : Prop :=
  R.length = q ∧ (0 < q → ∃ ad, V = some ad ∧ lo ≤ ad.block ∧ ad.block < w.heap.size ∧ ∀ (j : Nat) (ys : List Int), R[j]? = some ys → ∃ A r c, w.cell? (ad.add j) = some (.slice A r c) ∧ LoI w lo A r ys ∧ r ≤ c ∧ c ≤ 9223372036854775807)
theorem LoS.above {w w' : World} {lo q : Nat} {V : Option Addr} {R : List (List Int)} (h : LoS w lo V q R) (ha : Above lo w w') : LoS w' lo V q R :=
  ⟨h.1, fun hn => by
    obtain ⟨ad, e, h1, h2, hc⟩ := h.2 hn
    refine ⟨ad, e, h1, Nat.lt_of_lt_of_le h2 ha.size, fun j ys hy => ?_⟩
    obtain ⟨A, r, c, k1, k2, k3⟩ := hc j ys hy
    exact ⟨A, r, c, (World.cell?_of_block (ha.block _ (by rw [block_of_add]; exact h1) (by rw [block_of_add]; exact h2))).trans k1, k2.above ha, k3⟩⟩
theorem LoS.down {w : World} {lo lo' q : Nat} {V : Option Addr} {R : List (List Int)} (h : LoS w lo V q R) (hl : lo' ≤ lo) : LoS w lo' V q R :=
  ⟨h.1, fun hn => by
    obtain ⟨ad, e, h1, h2, hc⟩ := h.2 hn
    refine ⟨ad, e, Nat.le_trans hl h1, h2, fun j ys hy => ?_⟩
    obtain ⟨A, r, c, k1, k2, k3⟩ := hc j ys hy
    exact ⟨A, r, c, k1, k2.down hl, k3⟩⟩
theorem LoS.sets {w : World} {lo q : Nat} {V : Option Addr} {R : List (List Int)} (h : LoS w lo V q R) : Sets w w.heap.size V q R :=
  ⟨h.1, fun hn => by
    obtain ⟨ad, e, _, h2, hc⟩ := h.2 hn
    refine ⟨ad, e, h2, fun j ys hy => ?_⟩
    obtain ⟨A, r, c, k1, k2, k3⟩ := hc j ys hy
    exact ⟨A, r, c, k1, k2.1, k3⟩⟩
/-- a plan that lies from block lo on -/
structure PlF (w : World) (lo : Nat) (A : Option Addr) (n : Nat) (B : Option Addr) (k : Nat) (V : Option Addr) (q : Nat) (P : List Int) (D : List Bool) (R : List (List Int)) : Prop where
  ps : LoI w lo A n P
  ds : LoB w lo B k D
  r : LoS w lo V q R
theorem PlF.pl {w : World} {lo n k q : Nat} {A B V : Option Addr} {P : List Int} {D : List Bool} {R : List (List Int)} (h : PlF w lo A n B k V q P D R) : Pl w A n B k V q P D R := ⟨⟨h.ps.1, h.ds.1⟩, h.r.sets⟩
theorem PlF.above {w w' : World} {lo n k q : Nat} {A B V : Option Addr} {P : List Int} {D : List Bool} {R : List (List Int)} (h : PlF w lo A n B k V q P D R) (ha : Above lo w w') : PlF w' lo A n B k V q P D R := ⟨h.ps.above ha, h.ds.above ha, h.r.above ha⟩
theorem PlF.down {w : World} {lo lo' n k q : Nat} {A B V : Option Addr} {P : List Int} {D : List Bool} {R : List (List Int)} (h : PlF w lo A n B k V q P D R) (hl : lo' ≤ lo) : PlF w lo' A n B k V q P D R := ⟨h.ps.down hl, h.ds.down hl, h.r.down hl⟩
theorem Own.lo {w : World} {lo hi n : Nat} {A : Option Addr} {xs : List Int} (h : Own w lo hi A n xs) : LoI w lo A n xs := ⟨h.ints, fun hn ad e => by
  obtain ⟨ad', e', h1, _⟩ := h.2.2 hn
  rw [e] at e'; injection e' with e'; subst e'; exact h1⟩
theorem OwnB.lo {w : World} {lo hi n : Nat} {A : Option Addr} {xs : List Bool} (h : OwnB w lo hi A n xs) : LoB w lo A n xs := ⟨h.bools, fun hn ad e => by
  obtain ⟨ad', e', h1, _⟩ := h.2.2 hn
  rw [e] at e'; injection e' with e'; subst e'; exact h1⟩

/-- lists in a row that grows, all of them from a block on -/
structure Kods (w : World) (lo : Nat) (u : Value) (n : Nat) (vals : List Value) (yss : List (List Int)) : Prop where
  st : Stack w lo u n vals yss
  up : ∀ x ∈ vals, ∀ (ad : Addr) (q c : Nat), x = .slice (some ad) q c → 0 < q → lo ≤ ad.block
theorem Kods.apart {w w' : World} {lo g n : Nat} {u : Value} {vals : List Value} {yss : List (List Int)} (h : Kods w lo u n vals yss) (hg : w.grownBy w' (some g)) (hlt : g < lo) : Kods w' lo u n vals yss := by
  refine ⟨⟨rowPast h.st.row hg (fun k e e2 => ?_), h.st.len, fun j x ys hj hy => ?_⟩, h.up⟩
  · injection e2 with e2
    have := rowBase h.st.row k e
    omega
  · obtain ⟨A, q, c, rfl, h1, h2, h3, h4⟩ := h.st.inner j x ys hj hy
    refine ⟨A, q, c, rfl, h1.past hg (fun hq ad e e2 => ?_), h2, h3, h4⟩
    injection e2 with e2
    subst e
    have := h.up _ (List.mem_of_getElem? hj) ad q c rfl hq
    omega
theorem Kods.below {w w' : World} {lo n : Nat} {u : Value} {vals : List Value} {yss : List (List Int)} (h : Kods w lo u n vals yss) (hb : Below w.heap.size w w') : Kods w' lo u n vals yss := ⟨h.st.on hb, h.up⟩
theorem Kods.none {w : World} {lo : Nat} {v : Value} (h : w.ownsRow lo 24 1 v 0 []) : Kods w lo v 0 [] [] := ⟨Stack.none_ h, fun x hx => by simp at hx⟩
theorem Kods.top {w : World} {lo n : Nat} {u : Value} {vals : List Value} {yss : List (List Int)} (h : Kods w lo u n vals yss) : ∀ b, u.ownBlock = some b → lo ≤ b ∧ b < w.heap.size := fun b e => ⟨rowBase h.st.row b e, by
  rcases h.st.row.2 with ⟨e1, _⟩ | ⟨g', cap', cur, e1, _, hg', _⟩
  · rw [e1] at e; cases e
  · have h1 := heapLt hg'
    rw [e1] at e
    have : g' = b := by simpa [Value.ownBlock] using e
    omega⟩
/-- a list more, which lies from lo on, in no block of the row -/
theorem Kods.push {w w' : World} {lo n g cap q c : Nat} {u : Value} {vals : List Value} {yss : List (List Int)} {A : Option Addr} {ys : List Int} {o : Obj} (h : Kods w lo u n vals yss)
    (hi : LoI w lo A q ys) (hv : 0 < q → ∀ ad, A = some ad → u.ownBlock ≠ some ad.block) (hc : q ≤ c) (hcm : c ≤ 9223372036854775807)
    (hrow : w'.ownsRow lo 24 1 (.slice (some ⟨g, 0, Option.none⟩) (n + 1) cap) (n + 1) (vals ++ [.slice A q c])) (hg : (w.alloc o).grownBy w' u.ownBlock) (hat : u.ownBlock = some g ∨ w.heap.size ≤ g) :
    Kods w' lo (.slice (some ⟨g, 0, Option.none⟩) (n + 1) cap) (n + 1) (vals ++ [.slice A q c]) (yss ++ [ys]) :=
  ⟨h.st.push hi.1 hc hcm hv hrow hg hat, fun x hx ad q' c' e hq => by
    rw [List.mem_append, List.mem_singleton] at hx
    rcases hx with hx | rfl
    · exact h.up x hx ad q' c' e hq
    · obtain ⟨e1, e2, _⟩ := Value.slice.inj e
      subst e2
      exact hi.2 hq ad e1⟩

/-- what is kept while rights are drawn: the building, the result's box, the building's box, the source -/
structure PvK (w wx : World) (lo b3 B g : Nat) (A : Option Addr) (n c : Nat) (A1 : Option Addr) (m c1 : Nat) (A2 : Option Addr) (c2 : Nat) (P : List Int) (D : List Bool) : Prop where
  own : BOwn wx (w.heap.size + 1) lo A1 m A2 m P D
  r : Cell3 wx w.heap.size 30 (.slice none 0 0) (.slice none 0 0) (.slice none 0 0)
  q : Cell2 wx b3 27 (.slice A1 m c1) (.slice A2 m c2)
  h : Src wx B g A n c
  gr : w.grownBy wx (some g)
theorem PvK.on {w wx wy : World} {lo b3 B g : Nat} {A : Option Addr} {n c : Nat} {A1 : Option Addr} {m c1 : Nat} {A2 : Option Addr} {c2 : Nat} {P : List Int} {D : List Bool} {row : Option Nat} (d : PvK w wx lo b3 B g A n c A1 m c1 A2 c2 P D) (hg : wx.grownBy wy row) (hs : Src wy B g A n c) (hr : ∀ z, row = some z → z = g ∨ lo ≤ z) (h1 : g < w.heap.size) (h3 : w.heap.size < b3) (h4 : b3 < lo) : PvK w wy lo b3 B g A n c A1 m c1 A2 c2 P D :=
  ⟨d.own.apart hg (fun z e => by rcases hr z e with h | h <;> omega), d.r.grown hg (fun e => by rcases hr _ e.symm with h | h <;> omega), d.q.grown hg (fun e => by rcases hr _ e.symm with h | h <;> omega), hs, by
    rcases row with _ | z
    · exact grown_own d.gr hg (fun q e => by cases e)
    · rcases hr z rfl with rfl | hz
      · exact grown_trans' d.gr hg
      · exact grown_own d.gr hg (fun q e => by injection e with e; omega)⟩

/-- what the draw of a valid plan answers -/
def DrawnPV (w : World) (B g : Nat) (A : Option Addr) (n c : Nat) (e : Ending) (w' : World) : Prop :=
  ∃ A1 m c1 A2 c2 u q vals P D R lo, e = .returned (.agg #[.slice A1 m c1, .slice A2 m c2, u]) ∧ BOwn w' (w.heap.size + 1) lo A1 m A2 m P D ∧ Kods w' lo u q vals R ∧ w.heap.size + 1 ≤ lo ∧ 2 ≤ m ∧ m ≤ 10 ∧ m ≤ c1 ∧ m ≤ c2 ∧ c1 ≤ 9223372036854775807 ∧ c2 ≤ 9223372036854775807 ∧ 1 ≤ q ∧ q ≤ 4 ∧ (∀ ys ∈ R, ys.length ≤ 64) ∧ Src w' B g A n c ∧ w.grownBy w' (some g)

set_option maxRecDepth 100000 in
set_option maxHeartbeats 4000000 in
theorem l10Valid_any (B g : Nat) (A : Option Addr) (n c : Nat) (w : World) (h : Src w B g A n c) :
    Calls Try.prog 129 #[.pointer (some ⟨g, 0, none⟩)] w (DrawnPV w B g A n c) := by
  have hg1 := h.lt
  obtain ⟨jj, hj0, hy0, hy1, hy2⟩ := info_parts Try.info24'
  have HG := Lib.hid (And.intro hj0 (And.intro hy0 (And.intro hy1 hy2)))
  clear hj0 hy0 hy1 hy2
  have S0 := Lib.hid (h.alloc (.cells #[.slice none 0 0, .slice none 0 0, .slice none 0 0] 30))
  have K0 := Lib.hid (Cell3.new w 30 (.slice none 0 0) (.slice none 0 0) (.slice none 0 0))
  have G0 := Lib.hid (grown_alloc (World.grownBy.refl w (some g)) (.cells #[.slice none 0 0, .slice none 0 0, .slice none 0 0] 30))
  clear h
  go_enter Try.func129, Try.ntmps129
  go_wp2_with fail
  refine (l09Valid_any B g A n c _ S0.out).mono ?_
  rintro e w1 ⟨x, y, z, m, q0, P, D, rfl, hT, m2, m10, h1, g1⟩
  have sz := g1.size
  rw [World.size_alloc] at hT sz
  obtain ⟨b1, c1, b2, c2, rfl, rfl, hO, n1, n2, n3, n4⟩ := hT.own
  have bA := (Below.refl w1.heap.size w1).alloc (Nat.le_refl _) (.cells #[.slice (some ⟨b1, 0, none⟩) m c1, .slice (some ⟨b2, 0, none⟩) m c2] 27)
  have KK0 : PvK w (w1.alloc (.cells #[.slice (some ⟨b1, 0, none⟩) m c1, .slice (some ⟨b2, 0, none⟩) m c2] 27)) (w1.heap.size + 1) w1.heap.size B g A n c (some ⟨b1, 0, none⟩) m c1 (some ⟨b2, 0, none⟩) c2 P D := ⟨(hO.below bA).more (by omega) (by omega) (by simp), (K0.out.grown g1 (fun e => by injection e with e; omega)).alloc _, Cell2.new w1 _ _ _, h1.alloc _, grown_alloc (grown_trans' G0.out g1) _⟩
  have KK := Lib.hid (KK0.on (grown_alloc (World.grownBy.refl _ none) (.cells #[] 24)) (KK0.h.alloc _) (fun z e => by cases e) hg1 (by omega) (by omega))
  have Q0 := rowNil (w := w1.alloc (.cells #[.slice (some ⟨b1, 0, none⟩) m c1, .slice (some ⟨b2, 0, none⟩) m c2] 27)) (t := 24) (s := 1) (base := w1.heap.size + 1) (by simp)
  rw [World.size_alloc] at Q0
  have C0 := Lib.hid (Kods.none Q0)
  have hz1 : w.heap.size + 1 ≤ w1.heap.size := sz
  clear hT hO bA KK0 Q0 h1 g1 K0 G0 S0
  obtain ⟨p0, p1⟩ := KK.out.q.cells
  go_wp2_with fail
  refine (l01Next_any B g A n c _ _ KK.out.h (by omega)).mono ?_
  rintro e w3 ⟨v, rfl, v0, v1, h3, g3⟩
  have K3 := Lib.hid (KK.out.on g3 h3 (fun z e => by injection e with e; omega) hg1 (by omega) (by omega))
  have C3 := Lib.hid (C0.out.apart g3 (by omega))
  have z3 := g3.size
  have hz3 : w1.heap.size + 1 < w3.heap.size := by simp at z3; omega
  obtain ⟨N, hN, hN4⟩ : ∃ N : Nat, 1 + v = (N : Int) ∧ N ≤ 4 ∧ 1 ≤ N := ⟨(1 + v).toNat, by omega, by omega, by omega⟩
  have hws : IntKind.i64.wrap (1 + v) = (N : Int) := by rw [hN, IntKind.wrap_i64]; omega
  have HNN := Lib.hid hN
  clear h3 g3 KK C0 v1 p0 p1 z3 hN
  go_wp2
  go_loopw [4, 5] (fun y i wr => ∃ (j : Nat) (z : Value) (vals : List Value) (yss : List (List Int)), z = y ∧ j ≤ N ∧ i = .int .i64 ((N : Int) - j) ∧ Hid (Kods wr (w1.heap.size + 1) z j vals yss) ∧ Hid (∀ ys ∈ yss, ys.length ≤ 64) ∧ Hid (PvK w wr (w1.heap.size + 1) w1.heap.size B g A n c (some ⟨b1, 0, none⟩) m c1 (some ⟨b2, 0, none⟩) c2 P D) ∧ w1.heap.size + 1 < wr.heap.size) (fun _ i _ => (intOf i).toNat)
  case atStart => exact ⟨0, _, [], [], rfl, Nat.zero_le _, by go_num, C3, Lib.hid (fun ys hy => by simp at hy), K3, hz3⟩
  case round =>
    obtain ⟨j, z, vals, yss, rfl, hj, rfl, HC, HS, HK, hz⟩ := hrel
    clear C3 K3 hz3
    obtain ⟨p0, p1⟩ := HK.out.q.cells
    by_cases hlt : j < N
    · go_wp2_with fail
      refine (l10DrawNodes_any B g A n c (some ⟨b1, 0, none⟩) m c1 (some ⟨b2, 0, none⟩) m c2 _ HK.out.h (by omega)).mono ?_
      rintro e w6 ⟨A', r, c', xs, rfl, ho, hr64, hrc, hcm, h6, g6⟩
      have K6 := Lib.hid (HK.out.on g6 h6 (fun z e => by injection e with e; omega) hg1 (by omega) (by omega))
      have C6 := Lib.hid (HC.out.apart g6 (by omega))
      have hz6 := g6.size
      have hT := HC.out.top
      have LI : Hid (LoI w6 (w1.heap.size + 1) A' r xs) := Lib.hid (ho.lo.down (by omega))
      have HV : Hid (0 < r → ∀ ad, A' = some ad → z.ownBlock ≠ some ad.block) := Lib.hid (fun hq ad e e2 => by
        obtain ⟨ad', e', k1, _⟩ := ho.2.2 hq
        rw [e] at e'; injection e' with e'; subst e'
        have := (hT _ e2).2
        omega)
      have HL : Hid (xs.length = r) := Lib.hid ho.len
      clear ho h6 g6 hT HC HK p0 p1
      go_wp2_with (at_builtin; refine wpList_append_lies _ rfl _ _ 28 rfl (w1.heap.size + 1) 24 jj _ 1 24 Try.underlying28 HG.out.1 HG.out.2.1 HG.out.2.2.1 HG.out.2.2.2 rfl (by omega) _ j _ rfl (C6.out.st.row.alloc _) ⟨w6.heap.size, 0, none⟩ 1 1 [.slice A' r c'] rfl rfl (World.news_of_block (cs := #[.slice A' r c']) (t := 24) (fr := (0, 0)) (heap_alloc_new w6 _)) (by simp [Value.oneCell']) (by omega) (by unfold maxLen; omega) (by omega) (by simp; omega) (w6.heap.size + 1) (by simp) ?_; intro gg cap w7 hown1 hgrow hat hlt3)
      have C7 := Lib.hid (C6.out.push LI.out HV.out hrc hcm hown1 hgrow (hat.imp id (fun e => by rw [e]; omega)))
      have S7 := (K6.out.h.alloc (.cells #[.slice A' r c'] 24)).apart hgrow (fun q e => by have := (C6.out.top q e).1; omega)
      have KA := K6.out.on (grown_alloc (World.grownBy.refl _ none) (.cells #[.slice A' r c'] 24)) (K6.out.h.alloc _) (fun z e => by cases e) hg1 (by omega) (by omega)
      have K7 := Lib.hid (KA.on hgrow S7 (fun q e => .inr (C6.out.top q e).1) hg1 (by omega) (by omega))
      have H7 : Hid (∀ ys ∈ yss ++ [xs], ys.length ≤ 64) := Lib.hid (fun ys hy => by
        rw [List.mem_append, List.mem_singleton] at hy
        rcases hy with hy | rfl
        · exact HS.out ys hy
        · rw [HL.out]; exact hr64)
      have hz7 := hgrow.size
      rw [World.size_alloc] at hz7
      have hz8 : w1.heap.size + 1 < w7.heap.size := by omega
      clear hown1 hgrow hat hlt3 C6 K6 KA S7
      go_wp2
      go_roundw
      case rel => exact ⟨j + 1, _, _, _, rfl, by omega, by go_num, C7, H7, K7, hz8⟩
      case measure => simp [intOf]; omega
    · obtain rfl : j = N := by omega
      have f0 := HK.out.r.thawed 0
      have f1 := HK.out.r.thawed 1
      have f2 := HK.out.r.thawed 2
      obtain ⟨r0, r1, r2⟩ := HK.out.r.cells
      obtain ⟨V, cv, ev, _, _⟩ := HC.out.st.sets
      subst ev
      go_wp2
      clear f0 f1 f2 r0 r1 r2 p0 p1
      have RR := (((HK.out.r.put0 (.slice (some ⟨b1, 0, none⟩) m c1)).put1 (.slice (some ⟨b2, 0, none⟩) m c2)).put2 (.slice V j cv)).cells
      have S5 : wr.grownBy (((wr.setCell ⟨w.heap.size, 0, none⟩ (.slice (some ⟨b1, 0, none⟩) m c1)).setCell ⟨w.heap.size, 1, none⟩ (.slice (some ⟨b2, 0, none⟩) m c2)).setCell ⟨w.heap.size, 2, none⟩ (.slice V j cv)) (some w.heap.size) := grown_set (p := ⟨w.heap.size, 2, none⟩) (grown_set (p := ⟨w.heap.size, 1, none⟩) (grown_set (p := ⟨w.heap.size, 0, none⟩) (World.grownBy.refl wr _) rfl _) rfl _) rfl _
      have O5 := HK.out.own.apart S5 (fun q e => by injection e with e; omega)
      have C5 := HC.out.apart S5 (by omega)
      have H5 := HK.out.h.apart S5 (fun q e => by injection e with e; omega)
      have G5 := grown_own HK.out.gr S5 (fun q e => by injection e with e; omega)
      refine bodyPost_ret (v := .agg #[.slice (some ⟨b1, 0, none⟩) m c1, .slice (some ⟨b2, 0, none⟩) m c2, .slice V j cv]) (by simp [results, Try.results129, go_sem, RR.1, RR.2.1, RR.2.2]) rfl ⟨_, m, _, _, _, _, j, _, P, D, yss, w1.heap.size + 1, rfl, O5, C5, by omega, m2, m10, n1, n3, n2, n4, by omega, by omega, HS.out, H5, G5⟩

end Go.Proofs.Ytnadcjclihflcaa
