/- A text is damaged, sometimes: what the draw answers. -/
import Derived.Test.YtgbicepneonkfaaDoorDrawProd
import Derived.Test.YtgbicepneonkfaaDoorRow
import Derived.Deep.RegionWith
namespace Go.Proofs.YtgbicepneonkfaaDoor
open Go.RowKit

/-- what a draw of a text answers -/
def DrawnText (w : World) (B g : Nat) (A : Option Addr) (n c m : Nat) (e : Ending) (w' : World) : Prop :=
  ∃ t : ByteArray, e = .returned (.string t) ∧ t.size ≤ m ∧ Src w' B g A n c ∧ w.grownBy w' (some g)

def signs : Array Value := #[.string ⟨#[48]⟩, .string ⟨#[35]⟩, .string ⟨#[46]⟩, .string ⟨#[47]⟩, .string ⟨#[32]⟩, .string ⟨#[97]⟩, .string ⟨#[45]⟩, .string ⟨#[10]⟩]
theorem signs_at {k : Nat} (h : k < 8) : ∃ b : UInt8, signs[k]? = some (.string ⟨#[b]⟩) := by
  match k, h with
  | 0, _ => exact ⟨_, rfl⟩
  | 1, _ => exact ⟨_, rfl⟩
  | 2, _ => exact ⟨_, rfl⟩
  | 3, _ => exact ⟨_, rfl⟩
  | 4, _ => exact ⟨_, rfl⟩
  | 5, _ => exact ⟨_, rfl⟩
  | 6, _ => exact ⟨_, rfl⟩
  | 7, _ => exact ⟨_, rfl⟩

theorem lit_cell (W : World) {j : Nat} {v : Value} (t : TypeId) (hb : signs[j]? = some v) : (W.alloc (.cells signs t)).cell? ⟨W.heap.size, j, none⟩ = some v := by
  rw [World.cell?_alloc_at _ _ _ _ rfl]; exact hb
theorem Src.drew {w : World} {B g n c : Nat} {A : Option Addr} (h : Src w B g A n c) : Src w.drew B g A n c := h
theorem grown_drew {a w : World} {row : Option Nat} (h : a.grownBy w row) : a.grownBy w.drew row := ⟨h.os, h.tape, h.output, h.size, h.block⟩

/-- a sign is drawn: its cell is read from the literal, which is made before the draw, or behind it -/
def SignAfter (w : World) (B g : Nat) (A : Option Addr) (n c : Nat) (e : Ending) (w' : World) : Prop :=
  ∃ (j : Nat) (b : UInt8), e = .returned (.int .i64 j) ∧ (0 : Int) ≤ (j : Int) ∧ (j : Int) < 8 ∧ w'.cell? ⟨w.heap.size, j, none⟩ = some (.string ⟨#[b]⟩) ∧ Src w' B g A n c ∧ w.grownBy w' (some g)
theorem sign_after (B g : Nat) (A : Option Addr) (n c : Nat) (w : World) (h : Src w B g A n c) :
    Calls Tryd.prog 40 #[.pointer (some ⟨g, 0, none⟩), .int .i64 8] (w.alloc (.cells #[.string ⟨#[48]⟩, .string ⟨#[35]⟩, .string ⟨#[46]⟩, .string ⟨#[47]⟩, .string ⟨#[32]⟩, .string ⟨#[97]⟩, .string ⟨#[45]⟩, .string ⟨#[10]⟩] 9)).drew (SignAfter w B g A n c) := by
  refine (l01Next_any B g A n c _ _ ((h.alloc (.cells signs 9)).drew) (by omega)).mono ?_
  rintro e w3 ⟨r, rfl, r0, r1, h3, g3⟩
  obtain ⟨j, rfl⟩ := Int.eq_ofNat_of_zero_le r0
  obtain ⟨b, hb⟩ := signs_at (show j < 8 by omega)
  have hl := h.lt
  refine ⟨j, b, rfl, r0, by omega, ?_, h3, ?_⟩
  · exact g3.cell (a := ⟨w.heap.size, j, none⟩) (lit_cell w _ hb) (by simp; omega)
  · exact grown_trans' (grown_drew (grown_alloc (World.grownBy.refl w (some g)) (.cells signs 9))) g3
def SignBefore (w : World) (B g : Nat) (A : Option Addr) (n c : Nat) (e : Ending) (w' : World) : Prop :=
  ∃ (j : Nat) (b : UInt8), e = .returned (.int .i64 j) ∧ (0 : Int) ≤ (j : Int) ∧ (j : Int) < 8 ∧ (w'.alloc (.cells #[.string ⟨#[48]⟩, .string ⟨#[35]⟩, .string ⟨#[46]⟩, .string ⟨#[47]⟩, .string ⟨#[32]⟩, .string ⟨#[97]⟩, .string ⟨#[45]⟩, .string ⟨#[10]⟩] 9)).cell? ⟨w'.heap.size, j, none⟩ = some (.string ⟨#[b]⟩) ∧ Src w' B g A n c ∧ w.grownBy w' (some g)
theorem sign_before (B g : Nat) (A : Option Addr) (n c : Nat) (w : World) (h : Src w B g A n c) :
    Calls Tryd.prog 40 #[.pointer (some ⟨g, 0, none⟩), .int .i64 8] w.drew (SignBefore w B g A n c) := by
  refine (l01Next_any B g A n c _ _ h.drew (by omega)).mono ?_
  rintro e w3 ⟨r, rfl, r0, r1, h3, g3⟩
  obtain ⟨j, rfl⟩ := Int.eq_ofNat_of_zero_le r0
  obtain ⟨b, hb⟩ := signs_at (show j < 8 by omega)
  exact ⟨j, b, rfl, r0, by omega, lit_cell w3 _ hb, h3, grown_trans' (grown_drew (World.grownBy.refl w (some g))) g3⟩

theorem sign_size {s : ByteArray} {k : Nat} {b : UInt8} (hk : k ≤ s.size) : (s.extract 0 k ++ (⟨#[b]⟩ : ByteArray) ++ s.extract k s.size).size ≤ s.size + 1 := by
  rw [size_add, size_add, ByteArray.size_extract, ByteArray.size_extract]
  have : (⟨#[b]⟩ : ByteArray).size = 1 := rfl
  omega

set_option maxHeartbeats 2000000 in
theorem damage_any (B g : Nat) (A : Option Addr) (n c : Nat) (s : ByteArray) (w : World) (h : Src w B g A n c) (hs : s.size ≤ 1000000) :
    Calls Tryd.prog 41 #[.pointer (some ⟨g, 0, none⟩), .string s] w (DrawnText w B g A n c (s.size + 1)) := by
  go_enter Tryd.func41, Tryd.ntmps41
  go_wp2_with fail
  refine (l01Next_any B g A n c _ _ h (by omega)).mono ?_
  rintro e w1 ⟨x, rfl, x0, x1, h1, g1⟩
  obtain ⟨k, rfl⟩ := Int.eq_ofNat_of_zero_le x0
  have hk : k ≤ s.size := by omega
  clear x0 x1
  go_wp2_with fail
  refine (l01Next_any B g A n c _ _ h1 (by omega)).mono ?_
  rintro e w2 ⟨q, rfl, q0, q1, h2, g2⟩
  have G2 := grown_trans' g1 g2
  clear h1 g1 g2
  by_cases hq0 : q = 0
  · subst hq0
    go_wp2
    go_ret
    exact ⟨_, rfl, by simp; omega, h2, G2⟩
  by_cases hq1 : q = 1
  · subst hq1
    clear hq0
    go_wp2_with fail
    have HS := Lib.hid h2
    have hlt := h2.lt
    clear h2
    go_region_with (first
      | (go_at_call 40; (with_reducible refine (sign_after B g A n c w2 HS.out).mono ?_); rintro e w3 ⟨j, b, rfl, j0, j1, hc, h3, g3⟩)
      | (go_at_call 40; (with_reducible refine (sign_before B g A n c w2 HS.out).mono ?_); rintro e w3 ⟨j, b, rfl, j0, j1, hc, h3, g3⟩))
    all_goals
      go_wp2
      go_ret
      refine ⟨_, rfl, ?_, ?_, ?_⟩
      · exact sign_size hk
      · first | exact h3 | exact h3.alloc _
      · first | exact grown_trans' G2 g3 | exact grown_alloc (grown_trans' G2 g3) _
  by_cases hq2 : q = 2
  · subst hq2
    clear hq0 hq1
    by_cases hlt : k < s.size
    · go_wp2
      go_quiet (fail)
      go_wp2
      go_ret
      exact ⟨_, rfl, by simp; omega, h2, grown_drewN G2 _⟩
    · go_wp2
      go_ret
      exact ⟨s, rfl, by omega, h2, G2⟩
  have k0 : (q == 0) = false := by simpa using hq0
  have k1 : (q == 1) = false := by simpa using hq1
  have k2 : (q == 2) = false := by simpa using hq2
  clear hq0 hq1 hq2
  go_wp2
  go_ret
  exact ⟨s, rfl, by omega, h2, G2⟩

end Go.Proofs.YtgbicepneonkfaaDoor
