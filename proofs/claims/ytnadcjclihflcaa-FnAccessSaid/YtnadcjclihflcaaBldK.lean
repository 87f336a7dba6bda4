/- Buildings in memory: words, the laws' functions on them, and IsBuilding of the program and of the model. -/
import Derived.Test.YtnadcjclihflcaaBools
import Derived.Deep.RegionHeld3
import Derived.Deep.Cut
namespace Go.Proofs.Ytnadcjclihflcaa
open Go.RowKit

/-- two slices read as a building -/
structure Bld (w : World) (A : Option Addr) (n : Nat) (B : Option Addr) (k : Nat) (P : List Int) (D : List Bool) : Prop where
  ps : Ints w w.heap.size A n P
  ds : Bools w w.heap.size B k D
theorem Bld.on {w w' : World} {A B : Option Addr} {n k : Nat} {P : List Int} {D : List Bool} (h : Bld w A n B k P D) (b : Below w.heap.size w w') : Bld w' A n B k P D := ⟨h.ps.on b, h.ds.on b⟩
theorem Bld.alloc {w : World} {A B : Option Addr} {n k : Nat} {P : List Int} {D : List Bool} (h : Bld w A n B k P D) (o : Obj) : Bld (w.alloc o) A n B k P D := h.on ((Below.refl _ _).alloc (Nat.le_refl _) o)
theorem Bld.drewN {w : World} {A B : Option Addr} {n k : Nat} {P : List Int} {D : List Bool} (h : Bld w A n B k P D) (j : Nat) : Bld (w.drewN j) A n B k P D := h.on (below_drewN (Below.refl _ _) j)
theorem Bld.grown {w0 w w' : World} {A B : Option Addr} {n k : Nat} {P : List Int} {D : List Bool} {row : Option Nat} (h : Bld w0 A n B k P D) (hb : Below w0.heap.size w0 w) (hg : w.grownBy w' row) (hr : ∀ g, row = some g → w0.heap.size ≤ g) : Bld w' A n B k P D :=
  h.on (below_grown hb hg hr)

/-- .. and may be written; their blocks lie from lo on, below hi, and are two -/
structure BOwn (w : World) (lo hi : Nat) (A : Option Addr) (n : Nat) (B : Option Addr) (k : Nat) (P : List Int) (D : List Bool) : Prop where
  ps : Own w lo hi A n P
  ds : OwnB w lo hi B k D
  ne : ∀ a b, 0 < n → 0 < k → A = some a → B = some b → a.block ≠ b.block
theorem BOwn.bld {w : World} {lo hi : Nat} {A B : Option Addr} {n k : Nat} {P : List Int} {D : List Bool} (h : BOwn w lo hi A n B k P D) : Bld w A n B k P D := ⟨h.ps.ints, h.ds.bools⟩
theorem BOwn.below {w w' : World} {lo hi : Nat} {A B : Option Addr} {n k : Nat} {P : List Int} {D : List Bool} (h : BOwn w lo hi A n B k P D) (b : Below w.heap.size w w') : BOwn w' lo hi A n B k P D := ⟨h.ps.below b, h.ds.below b, h.ne⟩
theorem BOwn.apart {w w' : World} {lo hi : Nat} {A B : Option Addr} {n k : Nat} {P : List Int} {D : List Bool} {row : Option Nat} (h : BOwn w lo hi A n B k P D) (hg : w.grownBy w' row) (hr : ∀ g, row = some g → g < lo ∨ hi ≤ g) : BOwn w' lo hi A n B k P D := ⟨h.ps.apart hg hr, h.ds.apart hg hr, h.ne⟩
theorem BOwn.more {w : World} {lo hi lo' hi' : Nat} {A B : Option Addr} {n k : Nat} {P : List Int} {D : List Bool} (h : BOwn w lo hi A n B k P D) (h1 : lo' ≤ lo) (h2 : hi ≤ hi') (h3 : hi' ≤ w.heap.size) : BOwn w lo' hi' A n B k P D := ⟨h.ps.more h1 h2 h3, h.ds.more h1 h2 h3, h.ne⟩
/-- a list of one's own lies in one block -/
theorem Own.tight {w : World} {lo hi : Nat} {A : Option Addr} {n : Nat} {xs : List Int} (h : Own w lo hi A n xs) : ∃ l r, Own w l r A n xs ∧ (∀ g, l ≤ g → g < r → lo ≤ g ∧ g < hi ∧ 0 < n ∧ ∃ a, A = some a ∧ a.block = g) ∧ r ≤ w.heap.size := by
  rcases Nat.eq_zero_or_pos n with rfl | h0
  · obtain rfl := List.eq_nil_of_length_eq_zero h.len
    exact ⟨0, 0, Own.nil A (Nat.zero_le _), fun g _ h => by omega, Nat.zero_le _⟩
  · obtain ⟨ad, e, h1, h2, hc⟩ := h.2.2 h0
    have hs := h.size
    exact ⟨ad.block, ad.block + 1, ⟨h.1, by omega, fun _ => ⟨ad, e, Nat.le_refl _, Nat.lt_succ_self _, hc⟩⟩, fun g g1 g2 => by (obtain rfl : g = ad.block := by omega); exact ⟨h1, h2, h0, ad, e, rfl⟩, by omega⟩
theorem OwnB.tight {w : World} {lo hi : Nat} {A : Option Addr} {n : Nat} {xs : List Bool} (h : OwnB w lo hi A n xs) : ∃ l r, OwnB w l r A n xs ∧ (∀ g, l ≤ g → g < r → lo ≤ g ∧ g < hi ∧ 0 < n ∧ ∃ a, A = some a ∧ a.block = g) ∧ r ≤ w.heap.size := by
  rcases Nat.eq_zero_or_pos n with rfl | h0
  · obtain rfl := List.eq_nil_of_length_eq_zero h.len
    exact ⟨0, 0, OwnB.nil A (Nat.zero_le _), fun g _ h => by omega, Nat.zero_le _⟩
  · obtain ⟨ad, e, h1, h2, hc⟩ := h.2.2 h0
    have hs := h.size
    exact ⟨ad.block, ad.block + 1, ⟨h.1, by omega, fun _ => ⟨ad, e, Nat.le_refl _, Nat.lt_succ_self _, hc⟩⟩, fun g g1 g2 => by (obtain rfl : g = ad.block := by omega); exact ⟨h1, h2, h0, ad, e, rfl⟩, by omega⟩
/-- .. so it abides what another block suffers -/
theorem OwnB.past {w w' : World} {lo hi : Nat} {A : Option Addr} {n : Nat} {xs : List Bool} {row : Option Nat} (h : OwnB w lo hi A n xs) (hg : w.grownBy w' row) (hr : ∀ g a, row = some g → 0 < n → A = some a → a.block ≠ g) : OwnB w' lo hi A n xs :=
  ⟨h.1, Nat.le_trans h.2.1 hg.size, fun hn => by
    obtain ⟨ad, e, h1, h2, hc⟩ := h.2.2 hn
    refine ⟨ad, e, h1, h2, fun j v hv => ?_⟩
    have hlt : (ad.add j).block < w.heap.size := by rw [block_of_add]; have := h.2.1; omega
    have hb := hg.block (ad.add j).block hlt (fun e' => by rw [block_of_add] at e'; exact hr _ ad e'.symm hn e rfl)
    rw [World.frozen?_of_block (w := w) hb, World.cell?_of_block (w := w) hb]
    exact hc j v hv⟩
theorem Own.past {w w' : World} {lo hi : Nat} {A : Option Addr} {n : Nat} {xs : List Int} {row : Option Nat} (h : Own w lo hi A n xs) (hg : w.grownBy w' row) (hr : ∀ g a, row = some g → 0 < n → A = some a → a.block ≠ g) : Own w' lo hi A n xs :=
  ⟨h.1, Nat.le_trans h.2.1 hg.size, fun hn => by
    obtain ⟨ad, e, h1, h2, hc⟩ := h.2.2 hn
    refine ⟨ad, e, h1, h2, fun j v hv => ?_⟩
    have hlt : (ad.add j).block < w.heap.size := by rw [block_of_add]; have := h.2.1; omega
    have hb := hg.block (ad.add j).block hlt (fun e' => by rw [block_of_add] at e'; exact hr _ ad e'.symm hn e rfl)
    rw [World.frozen?_of_block (w := w) hb, World.cell?_of_block (w := w) hb]
    exact hc j v hv⟩

theorem szBuilding_fit (A B : Option Addr) (n c k d : Nat) (w : World) (hn : n ≤ 9223372036854775807) (hk : k ≤ 9223372036854775807) :
    Calls Try.prog 64 #[.agg #[.slice A n c, .slice B k d], .int .i64 1048576] w fun e w' => (∃ r, e = .returned (.int .i64 r) ∧ (0 ≤ r → n + k ≤ 1048576 ∧ r = 1048576 - (n : Int) - (k : Int))) ∧ Below w.heap.size w w' := by
  have B1 := (Below.refl w.heap.size w).alloc (Nat.le_refl _) (.cells #[.slice A n c, .slice B k d] 52)
  have BB := Lib.hid B1
  obtain ⟨x, hx⟩ : ∃ x, x = (if (1048576 : Int) < n then -1 else 1048576 - (n : Int)) := ⟨_, rfl⟩
  clear B1
  go_enter Try.func64, Try.ntmps64
  go_wp2_with fail
  refine (szInts_any A n c 1048576 _ (by omega) (by omega) hn).mono ?_
  rw [← hx]
  rintro e w1 ⟨rfl, rfl⟩
  by_cases h : (1048576 : Int) < n
  · rw [if_pos h] at hx
    subst hx
    clear h
    go_wp2
    go_ret
    exact ⟨⟨_, rfl, fun h => by omega⟩, BB.out⟩
  · rw [if_neg h] at hx
    obtain ⟨y, hy⟩ : ∃ y, y = (if x < (k : Int) then -1 else x - (k : Int)) := ⟨_, rfl⟩
    have x0 : 0 ≤ x := by omega
    have x1 : x ≤ 1048576 := by omega
    have HX := Lib.hid hx
    have HH := Lib.hid h
    clear hx h
    go_wp2_with fail
    refine (szBools_any B k d x _ x0 x1 hk).mono ?_
    rw [← hy]
    rintro e w2 ⟨rfl, rfl⟩
    by_cases h2 : x < (k : Int)
    · rw [if_pos h2] at hy
      subst hy
      clear h2
      go_wp2
      go_ret
      exact ⟨⟨_, rfl, fun h => by omega⟩, BB.out⟩
    · rw [if_neg h2] at hy
      have hxk : (k : Int) ≤ x := by omega
      have HX2 := Lib.hid hxk
      have y0 : 0 ≤ y := by omega
      have HY := Lib.hid hy
      clear hy h2 hxk
      go_wp2
      go_ret
      exact ⟨⟨_, rfl, fun _ => by have := HX.out; have := HH.out; have := HX2.out; have := HY.out; omega⟩, BB.out⟩

theorem szBuilding_any (A B : Option Addr) (n c k d : Nat) (w : World) (hn : n ≤ 9223372036854775807) (hk : k ≤ 9223372036854775807) :
    Calls Try.prog 64 #[.agg #[.slice A n c, .slice B k d], .int .i64 1048576] w fun e w' => (∃ r, e = .returned (.int .i64 r) ∧ (0 ≤ r → n + k ≤ 1048576)) ∧ Below w.heap.size w w' :=
  (szBuilding_fit A B n c k d w hn hk).mono fun _ _ ⟨⟨r, h1, h2⟩, hb⟩ => ⟨⟨r, h1, fun h => (h2 h).1⟩, hb⟩

/-- what a call answers that gives a building of its own -/
def GivesBld (w : World) (P : List Int) (D : List Bool) (e : Ending) (w' : World) : Prop :=
  ∃ A n c B k d, e = .returned (.agg #[.slice A n c, .slice B k d]) ∧ BOwn w' w.heap.size w'.heap.size A n B k P D ∧ Below w.heap.size w w'

theorem toBuilding_any (A B : Option Addr) (n c k d : Nat) (P : List Int) (D : List Bool) (w : World) (h : Bld w A n B k P D) (hn : n + k ≤ 1048576) :
    Calls Try.prog 65 #[.agg #[.slice A n c, .slice B k d]] w (GivesBld w P D) := by
  have c0 := Lib.hid ((((Below.refl w.heap.size w).alloc (Nat.le_refl _) (.cells #[.slice A n c, .slice B k d] 52)).alloc (by simp) (.cells #[.slice none 0 0, .slice none 0 0] 27)).alloc (by simp; omega) (.cells #[.slice none 0 0, .slice none 0 0] 27))
  have h0 := Lib.hid (h.on c0.out)
  have k0 := Lib.hid (((Cell2.new w 52 (.slice A n c) (.slice B k d)).alloc (.cells #[.slice none 0 0, .slice none 0 0] 27)).alloc (.cells #[.slice none 0 0, .slice none 0 0] 27))
  have k1 := Lib.hid ((Cell2.new (w.alloc (.cells #[.slice A n c, .slice B k d] 52)) 27 (.slice none 0 0) (.slice none 0 0)).alloc (.cells #[.slice none 0 0, .slice none 0 0] 27))
  have k2 := Lib.hid (Cell2.new ((w.alloc (.cells #[.slice A n c, .slice B k d] 52)).alloc (.cells #[.slice none 0 0, .slice none 0 0] 27)) 27 (.slice none 0 0) (.slice none 0 0))
  simp only [World.size_alloc] at k1 k2
  have hA := Lib.hid h.ps.len
  have hB := Lib.hid h.ds.len
  go_enter Try.func65, Try.ntmps65
  go_wp2_with fail
  refine (toInt64S_any A n c P _ h0.out.ps (by omega)).mono ?_
  rintro e w1 ⟨g1, rfl, hg1, r1, b1⟩
  have O1 := Lib.hid (Own.of_row r1 hA.out hg1)
  have H1 := Lib.hid (h0.out.on b1)
  have C1 := Lib.hid (c0.out.trans (b1.mono c0.out.size))
  have K0 := Lib.hid (k0.out.on b1)
  have K1 := Lib.hid (k1.out.on b1)
  have K2 := Lib.hid (k2.out.on b1)
  have z1 := b1.size
  simp only [World.size_alloc] at hg1 z1
  clear r1 b1 c0 h0 k0 k1 k2
  have f2 := K2.out.thawed 0
  obtain ⟨q0, q1⟩ := K0.out.cells
  obtain ⟨p0, p1⟩ := K2.out.cells
  go_upto_region 3 with (fail)
  have C2 := Lib.hid (C1.out.setCell (p := ⟨w.heap.size + 1 + 1, 0, none⟩) (by show w.heap.size ≤ w.heap.size + 1 + 1; omega) (.slice (some ⟨g1, 0, none⟩) n n))
  have G2 : Hid (w1.grownBy (w1.setCell ⟨w.heap.size + 1 + 1, 0, none⟩ (.slice (some ⟨g1, 0, none⟩) n n)) (some (w.heap.size + 1 + 1))) := Lib.hid (grown_set (p := ⟨w.heap.size + 1 + 1, 0, none⟩) (World.grownBy.refl w1 _) rfl _)
  have O2 := Lib.hid (O1.out.apart G2.out (fun g e => by cases e; exact .inl (by simp)))
  have H2 := Lib.hid (h.on C2.out)
  have L0 := Lib.hid (K0.out.other (p := ⟨w.heap.size + 1 + 1, 0, none⟩) (by show w.heap.size ≠ w.heap.size + 1 + 1; omega) (.slice (some ⟨g1, 0, none⟩) n n))
  have L1 := Lib.hid (K1.out.other (p := ⟨w.heap.size + 1 + 1, 0, none⟩) (by show w.heap.size + 1 ≠ w.heap.size + 1 + 1; omega) (.slice (some ⟨g1, 0, none⟩) n n))
  have L2 := Lib.hid (K2.out.put0 (.slice (some ⟨g1, 0, none⟩) n n))
  have z2 : (w1.setCell ⟨w.heap.size + 1 + 1, 0, none⟩ (.slice (some ⟨g1, 0, none⟩) n n)).heap.size = w1.heap.size := by simp [World.setCell]
  clear f2 q0 q1 p0 p1 C1 O1 H1 K0 K1 K2 G2
  generalize w1.setCell ⟨w.heap.size + 1 + 1, 0, none⟩ (.slice (some ⟨g1, 0, none⟩) n n) = w2 at *
  obtain ⟨q0, q1⟩ := L0.out.cells
  go_wp2_with fail
  refine (toBoolS_any B k d D _ H2.out.ds (by omega)).mono ?_
  rintro e w3 ⟨g3, rfl, hg3, r3, b3⟩
  have O3 := Lib.hid (OwnB.of_row r3 hB.out hg3)
  have P3 := Lib.hid (O2.out.below b3)
  have C3 := Lib.hid (C2.out.trans (b3.mono C2.out.size))
  have M1 := Lib.hid (L1.out.on b3)
  have M2 := Lib.hid (L2.out.on b3)
  have z3 := b3.size
  have n13 : g1 ≠ g3 ∨ n = 0 := by
    rcases Nat.eq_zero_or_pos n with h0 | h0
    · exact .inr h0
    · obtain ⟨ad, e, _, hlt, _⟩ := O2.out.2.2 h0
      left
      injection e with e
      subst e
      have hlt' : g1 < w1.heap.size := hlt
      omega
  have HN := Lib.hid n13
  clear r3 b3 C2 O2 H2 L0 L1 L2 q0 q1 n13
  have f1 := M1.out.thawed 0
  have f1' := M1.out.thawed 1
  have f2 := M2.out.thawed 1
  obtain ⟨p0, p1⟩ := M1.out.cells
  obtain ⟨q0, q1⟩ := M2.out.cells
  go_wp2
  clear f1 f1' f2 p0 p1 q0 q1
  have R1 := (((M1.out.other (p := ⟨w.heap.size + 1 + 1, 1, none⟩) (by show w.heap.size + 1 ≠ w.heap.size + 1 + 1; omega) (.slice (some ⟨g3, 0, none⟩) k k)).put0 (.slice (some ⟨g1, 0, none⟩) n n)).put1 (.slice (some ⟨g3, 0, none⟩) k k)).cells
  have C4 := ((C3.out.setCell (p := ⟨w.heap.size + 1 + 1, 1, none⟩) (by show w.heap.size ≤ w.heap.size + 1 + 1; omega) (.slice (some ⟨g3, 0, none⟩) k k)).setCell (p := ⟨w.heap.size + 1, 0, none⟩) (by show w.heap.size ≤ w.heap.size + 1; omega) (.slice (some ⟨g1, 0, none⟩) n n)).setCell (p := ⟨w.heap.size + 1, 1, none⟩) (by show w.heap.size ≤ w.heap.size + 1; omega) (.slice (some ⟨g3, 0, none⟩) k k)
  have S4 : w3.grownBy (w3.setCell ⟨w.heap.size + 1 + 1, 1, none⟩ (.slice (some ⟨g3, 0, none⟩) k k)) (some (w.heap.size + 1 + 1)) := grown_set (p := ⟨w.heap.size + 1 + 1, 1, none⟩) (World.grownBy.refl w3 _) rfl _
  have O4 := O3.out.apart S4 (fun g e => by cases e; exact .inl (by omega))
  have P4 := P3.out.apart S4 (fun g e => by cases e; exact .inl (by simp))
  generalize w3.setCell ⟨w.heap.size + 1 + 1, 1, none⟩ (.slice (some ⟨g3, 0, none⟩) k k) = w4 at *
  have S5 : w4.grownBy ((w4.setCell ⟨w.heap.size + 1, 0, none⟩ (.slice (some ⟨g1, 0, none⟩) n n)).setCell ⟨w.heap.size + 1, 1, none⟩ (.slice (some ⟨g3, 0, none⟩) k k)) (some (w.heap.size + 1)) := grown_set (p := ⟨w.heap.size + 1, 1, none⟩) (grown_set (p := ⟨w.heap.size + 1, 0, none⟩) (World.grownBy.refl w4 _) rfl _) rfl _
  have O5 := O4.apart S5 (fun g e => by cases e; exact .inl (by omega))
  have P5 := P4.apart S5 (fun g e => by cases e; exact .inl (by simp))
  have hz5 := O5.size
  have hz6 := P5.size
  refine bodyPost_ret (v := .agg #[.slice (some ⟨g1, 0, none⟩) n n, .slice (some ⟨g3, 0, none⟩) k k]) (by simp [results, Try.results65, go_sem, R1.1, R1.2]) rfl ⟨_, _, _, _, _, _, rfl, ⟨P5.more (by simp; omega) hz6 (Nat.le_refl _), O5.more (by omega) hz5 (Nat.le_refl _), ?_⟩, C4⟩
  intro a b hn0 _ ea eb
  injection ea with ea
  injection eb with eb
  subst ea; subst eb
  rcases HN.out with h | h
  · exact h
  · omega

end Go.Proofs.Ytnadcjclihflcaa
