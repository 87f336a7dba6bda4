/- l02First of the model: its contract. -/
import Derived.Test.YtlgaocjcfdfhmaaSBeg
import Derived.Test.YtlgaocjcfdfhmaaNext
import Derived.Laws.AppendOwnNone
import Derived.Deep.RegionHeld3
namespace Go.Proofs.Ytlgaocjcfdfhmaa
open Go.RowKit

/-- a row of its own that reads as a list -/
def OwnRow (w : World) (n : Nat) (xs : List Int) (e : Ending) (w' : World) : Prop := ∃ v, e = .returned v ∧ w'.ownsRow w.heap.size 2 1 v n (intsV xs) ∧ Below w.heap.size w w'

set_option maxHeartbeats 1000000 in
theorem l01Own_nil (w : World) : Calls Try.prog 60 #[.slice none 0 0] w (OwnRow w 0 []) := by
  obtain ⟨i0, hi, hz0, hz1, hz2⟩ := info_parts Try.info2'
  have HI := Lib.hid (And.intro hi (And.intro hz0 (And.intro hz1 hz2)))
  clear hi hz0 hz1 hz2
  have HO := Lib.hid (rowNil (w := w) (t := 2) (s := 1) (Nat.le_refl w.heap.size))
  go_enter Try.func60, Try.ntmps60
  go_wp2_with (at_builtin; refine wpList_append_own_none _ rfl _ _ 26 rfl w.heap.size 2 i0 1 Try.underlying26 HI.out.1 _ 0 _ rfl HO.out rfl ?_)
  go_ret
  exact ⟨_, rfl, HO.out, (Below.refl _ _).alloc (Nat.le_refl _) _⟩

set_option maxHeartbeats 1000000 in
theorem l01Own_some (ad : Addr) (n c : Nat) (xs : List Int) (w : World) (h : Ints w w.heap.size (some ad) n xs) (hn : n ≤ 1048576) :
    Calls Try.prog 60 #[.slice (some ad) n c] w (OwnRow w n xs) := by
  obtain ⟨i0, hi, hz0, hz1, hz2⟩ := info_parts Try.info2'
  have HI := Lib.hid (And.intro hi (And.intro hz0 (And.intro hz1 hz2)))
  clear hi hz0 hz1 hz2
  have HL := Lib.hid h.len
  have hb0 := (Below.refl w.heap.size w).alloc (Nat.le_refl _) (.cells #[] 2)
  have HN : Hid (∀ j u, (intsV xs)[j]? = some u → (w.alloc (.cells #[] 2)).cell? (ad.add j) = some u) := by
    rcases Nat.eq_zero_or_pos n with h0 | h0
    · refine Lib.hid (fun j u hu => ?_)
      have : xs = [] := List.eq_nil_of_length_eq_zero (by rw [h.len, h0])
      subst this
      simp [intsV] at hu
    · exact Lib.hid (ints_news (h.below hb0) h0)
  have HB := Lib.hid hb0
  clear hb0
  have HO := Lib.hid (rowNil (w := w) (t := 2) (s := 1) (Nat.le_refl w.heap.size))
  go_enter Try.func60, Try.ntmps60
  go_wp2_with (at_builtin; refine wpList_append_own_at _ rfl _ _ 26 rfl w.heap.size 2 i0 _ 1 8 Try.underlying26 HI.out.1 HI.out.2.1 HI.out.2.2.1 HI.out.2.2.2 rfl (by omega) _ 0 _ rfl HO.out ad n c (intsV xs) rfl (by rw [intsV_len, HL.out]; omega) HN.out (intsV_one _) (by unfold maxLen; omega) (by omega) (by simp) ?_; intro v5 w5 hown1 hgrow _ _)
  rw [show 0 + n = n by omega, List.nil_append] at hown1
  have R5 := Lib.hid hown1
  have B5 := Lib.hid (HB.out.grown hgrow (by simp) (fun q e => by have := rowBase HO.out q e; omega))
  clear hown1 hgrow
  go_wp2
  go_ret
  exact ⟨v5, rfl, R5.out, B5.out⟩

theorem l01Own_any (A : Option Addr) (n c : Nat) (xs : List Int) (w : World) (h : Ints w w.heap.size A n xs) (hn : n ≤ 1048576) (hA : A = none → n = 0 ∧ c = 0) :
    Calls Try.prog 60 #[.slice A n c] w (OwnRow w n xs) := by
  rcases A with _ | ad
  · obtain ⟨rfl, rfl⟩ := hA rfl
    have : xs = [] := List.eq_nil_of_length_eq_zero h.len
    subst this
    exact l01Own_nil w
  · exact l01Own_some ad n c xs w h hn

end Go.Proofs.Ytlgaocjcfdfhmaa
