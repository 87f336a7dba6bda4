/- Lists of integers that a call has made: words, and the contracts of the marking functions. -/
import Derived.Test.YtpabccgndhmcdaaInts
namespace Go.Proofs.Ytpabccgndhmcdaa
open Go.RowKit

/-- The slice value '.slice A n c' reads as xs; its block lies from lo on, below hi, and its cells can be written. -/
def Own (w : World) (lo hi : Nat) (A : Option Addr) (n : Nat) (xs : List Int) : Prop :=
  xs.length = n ∧ hi ≤ w.heap.size ∧ (0 < n → ∃ ad, A = some ad ∧ lo ≤ ad.block ∧ ad.block < hi ∧ ∀ (j : Nat) (v : Int), xs[j]? = some v → w.frozen? (ad.add j) = false ∧ w.cell? (ad.add j) = some (.int .i64 v))

theorem Own.len {w : World} {lo hi n : Nat} {A : Option Addr} {xs : List Int} (h : Own w lo hi A n xs) : xs.length = n := h.1
theorem Own.size {w : World} {lo hi n : Nat} {A : Option Addr} {xs : List Int} (h : Own w lo hi A n xs) : hi ≤ w.heap.size := h.2.1
theorem Own.ints {w : World} {lo hi n : Nat} {A : Option Addr} {xs : List Int} (h : Own w lo hi A n xs) : Ints w w.heap.size A n xs :=
  ⟨h.1, fun hn => by
    obtain ⟨ad, e, _, hb, hc⟩ := h.2.2 hn
    exact ⟨ad, e, by have := h.2.1; omega, fun j v hv => (hc j v hv).2⟩⟩
theorem Own.at_ {w : World} {lo hi n : Nat} {A : Option Addr} {xs : List Int} {k : Nat} (h : Own w lo hi A n xs) (hk : k < n) :
    ∃ ad v, A = some ad ∧ lo ≤ ad.block ∧ ad.block < hi ∧ xs[k]? = some v ∧ w.frozen? (ad.add k) = false ∧ w.cell? (ad.add k) = some (.int .i64 v) := by
  obtain ⟨ad, e, h1, h2, hc⟩ := h.2.2 (by omega)
  have hl : k < xs.length := by have := h.1; omega
  have hx : xs[k]? = some xs[k] := List.getElem?_eq_getElem hl
  exact ⟨ad, xs[k], e, h1, h2, hx, (hc k _ hx).1, (hc k _ hx).2⟩
theorem Own.nil {w : World} {lo hi : Nat} (A : Option Addr) (h : hi ≤ w.heap.size) : Own w lo hi A 0 [] := ⟨rfl, h, fun h => absurd h (by omega)⟩
theorem Own.below {w w' : World} {lo hi n : Nat} {A : Option Addr} {xs : List Int} (h : Own w lo hi A n xs) (hb : Below w.heap.size w w') : Own w' lo hi A n xs :=
  ⟨h.1, Nat.le_trans h.2.1 hb.size, fun hn => by
    obtain ⟨ad, e, h1, h2, hc⟩ := h.2.2 hn
    refine ⟨ad, e, h1, h2, fun j v hv => ?_⟩
    have hlt : (ad.add j).block < w.heap.size := by rw [block_of_add]; have := h.2.1; omega
    rw [hb.frozen hlt, hb.cell hlt]
    exact hc j v hv⟩
theorem Own.apart {w w' : World} {lo hi n : Nat} {A : Option Addr} {xs : List Int} {row : Option Nat} (h : Own w lo hi A n xs) (hg : w.grownBy w' row) (hr : ∀ g, row = some g → g < lo ∨ hi ≤ g) : Own w' lo hi A n xs :=
  ⟨h.1, Nat.le_trans h.2.1 hg.size, fun hn => by
    obtain ⟨ad, e, h1, h2, hc⟩ := h.2.2 hn
    refine ⟨ad, e, h1, h2, fun j v hv => ?_⟩
    have hlt : (ad.add j).block < w.heap.size := by rw [block_of_add]; have := h.2.1; omega
    have hb := hg.block (ad.add j).block hlt (fun e => by rw [block_of_add] at e; have := hr _ e.symm; omega)
    rw [World.frozen?_of_block (w := w) hb, World.cell?_of_block (w := w) hb]
    exact hc j v hv⟩
theorem Own.more {w : World} {lo hi lo' hi' n : Nat} {A : Option Addr} {xs : List Int} (h : Own w lo hi A n xs) (h1 : lo' ≤ lo) (h2 : hi ≤ hi') (h3 : hi' ≤ w.heap.size) : Own w lo' hi' A n xs :=
  ⟨h.1, h3, fun hn => by
    obtain ⟨ad, e, a1, a2, hc⟩ := h.2.2 hn
    exact ⟨ad, e, by omega, by omega, hc⟩⟩
theorem Own.of_row {w : World} {g n lo : Nat} {t : TypeId} {xs : List Int} (h : w.rowIs g t n (fun j => .int .i64 (xs.getD j 0))) (hl : xs.length = n) (hg : lo ≤ g) : Own w lo w.heap.size (some ⟨g, 0, none⟩) n xs := by
  refine ⟨hl, Nat.le_refl _, fun _ => ⟨_, rfl, hg, h.lt, fun j v hv => ?_⟩⟩
  have hj : j < n := by
    rcases Nat.lt_or_ge j n with hlt | hge
    · exact hlt
    · rw [List.getElem?_eq_none (by omega)] at hv; cases hv
  have e : (⟨g, 0, none⟩ : Addr).add j = ⟨g, j, none⟩ := by
    unfold Addr.add
    split
    · next h0 => subst h0; rfl
    · simp
  rw [e]
  have := h.cell hj
  simp only [List.getD_eq_getElem?_getD, hv, Option.getD_some] at this
  exact ⟨h.frozen j, this⟩
theorem below_grown {W w w' : World} {row : Option Nat} (h : Below W.heap.size W w) (hg : w.grownBy w' row) (hr : ∀ g, row = some g → W.heap.size ≤ g) : Below W.heap.size W w' :=
  h.grown hg h.size hr

theorem add_ne (a : Addr) {i j : Nat} (h : i ≠ j) : a.add i ≠ a.add j := by
  intro e
  have h2 := congrArg Addr.off e
  unfold Addr.add at h2
  by_cases hi : i = 0 <;> by_cases hj : j = 0 <;> simp [hi, hj] at h2 <;> omega

def marks (k : Int) (n : Nat) : List Int := (List.range n).map (fun (j : Nat) => k + (j : Int))
theorem marks_len (k : Int) (n : Nat) : (marks k n).length = n := by simp [marks]
theorem marks_at {k v : Int} {n j : Nat} (h : (marks k n)[j]? = some v) : v = k + j := by
  unfold marks at h
  rw [List.getElem?_map] at h
  rcases hj : (List.range n)[j]? with _ | u
  · rw [hj] at h; cases h
  · rw [hj] at h
    obtain ⟨hl, e⟩ := List.getElem?_eq_some_iff.1 hj
    rw [List.getElem_range] at e
    subst e
    simp at h; omega
/-- the list after the first j marks -/
def marked (xs : List Int) (k : Int) (j : Nat) : List Int := marks k j ++ xs.drop j
theorem marked_len {xs : List Int} {n : Nat} (k : Int) {j : Nat} (h : xs.length = n) (hj : j ≤ n) : (marked xs k j).length = n := by
  unfold marked; rw [List.length_append, marks_len, List.length_drop]; omega
theorem marked_end {xs : List Int} {n j : Nat} {k : Int} (h : xs.length = n) (hj : ¬ j < n) (hj' : j ≤ n) : marked xs k j = marks k n := by
  obtain rfl : j = n := by omega
  unfold marked; rw [List.drop_of_length_le (by omega), List.append_nil]
theorem marked_set {xs : List Int} {j : Nat} (k : Int) (hj : j < xs.length) (i : Nat) (v : Int) (h : (marked xs k (j + 1))[i]? = some v) : (i = j ∧ v = k + j) ∨ (i ≠ j ∧ (marked xs k j)[i]? = some v) := by
  unfold marked at *
  by_cases h1 : i < j
  · right
    refine ⟨by omega, ?_⟩
    rw [List.getElem?_append_left (by rw [marks_len]; omega)] at h ⊢
    unfold marks at *
    rw [List.getElem?_map, List.getElem?_range (by omega)] at h ⊢
    exact h
  · by_cases h2 : i = j
    · left
      subst h2
      rw [List.getElem?_append_left (by rw [marks_len]; omega)] at h
      exact ⟨rfl, marks_at h⟩
    · right
      refine ⟨h2, ?_⟩
      rw [List.getElem?_append_right (by rw [marks_len]; omega), marks_len, List.getElem?_drop] at h ⊢
      rw [← h]
      congr 1
      omega

theorem Own.mark {w : World} {lo hi n : Nat} {ad : Addr} {xs : List Int} {j : Nat} (k : Int) (h : Own w lo hi (some ad) n (marked xs k j)) (hl : xs.length = n) (hj : j < n) :
    Own (w.setCell (ad.add j) (.int .i64 (k + j))) lo hi (some ad) n (marked xs k (j + 1)) := by
  refine ⟨marked_len k hl (by omega), by simpa [World.setCell] using h.2.1, fun hn => ?_⟩
  obtain ⟨ad', e, h1, h2, hc⟩ := h.2.2 hn
  obtain rfl : ad = ad' := by injection e
  refine ⟨ad, rfl, h1, h2, fun i v hv => ?_⟩
  rcases marked_set k (by omega) i v hv with ⟨rfl, rfl⟩ | ⟨hne, hv'⟩
  · obtain ⟨_, u, e, _, _, _, hf, hcell⟩ := h.at_ hj
    injection e with e
    subst e
    exact ⟨by rw [World.frozen?_setCell]; exact hf, World.cell?_setCell_same _ _ _ hcell⟩
  · rw [World.frozen?_setCell, World.cell?_setCell_other _ _ _ _ (add_ne ad (Ne.symm hne))]
    exact hc i v hv'

theorem grown_set {a w : World} {g : Nat} (h : a.grownBy w (some g)) {p : Addr} (hp : p.block = g) (u : Value) : a.grownBy (w.setCell p u) (some g) :=
  ⟨h.os, h.tape, h.output, by simpa [World.setCell] using h.size, fun i hi hne => (Below.heap_setCell w p u i (by rintro rfl; exact hne (by rw [hp]))).trans (h.block i hi hne)⟩
theorem grown_any {a w : World} {row : Option Nat} (h : a.grownBy w none) : a.grownBy w row :=
  ⟨h.os, h.tape, h.output, h.size, fun i hi _ => h.block i hi (by simp)⟩

theorem markInts_any (A : Option Addr) (n c : Nat) (xs : List Int) (k : Int) (lo hi : Nat) (w : World) (h : Own w lo hi A n xs) (hn : n ≤ 1048576) (k0 : 0 ≤ k) (k1 : k ≤ 1000000000000) :
    Calls Try.prog 43 #[.slice A n c, .int .i64 k] w fun e w' => e = .returned (.int .i64 (k + n)) ∧ Own w' lo hi A n (marks k n) ∧ ∃ row : Option Nat, w.grownBy w' row ∧ (∀ g, row = some g → lo ≤ g ∧ g < hi) := by
  have HL := Lib.hid h.len
  have HO := Lib.hid (show Own w lo hi A n (marked xs k 0) by unfold marked marks; simpa using h)
  have hs := h.size
  go_enter Try.func43, Try.ntmps43
  go_wp2
  go_loopw [1, 5] (fun v i wr => ∃ j : Nat, j ≤ n ∧ i = .int .i64 j ∧ v = .int .i64 (k + j) ∧ Own wr lo hi A n (marked xs k j) ∧ ∃ row : Option Nat, w.grownBy wr row ∧ (∀ g, row = some g → (lo ≤ g ∧ g < hi) ∧ ∃ ad, A = some ad ∧ ad.block = g)) (fun _ i _ => n - (intOf i).toNat)
  case atStart => exact ⟨0, Nat.zero_le _, rfl, by go_num, HO.out, none, World.grownBy.refl _ _, fun g e => by cases e⟩
  case round =>
    obtain ⟨j, hj, rfl, rfl, ho, row, hg, hr⟩ := hrel
    by_cases hlt : j < n
    · obtain ⟨ad, v, rfl, h1, h2, hv, hf, hc⟩ := ho.at_ hlt
      have HM := Lib.hid (Own.mark k ho HL.out hlt)
      have HG : Hid (∃ row : Option Nat, w.grownBy (wr.setCell (ad.add j) (.int .i64 (k + j))) row ∧ (∀ g, row = some g → (lo ≤ g ∧ g < hi) ∧ ∃ a, some ad = some a ∧ a.block = g)) := by
        refine ⟨some ad.block, ?_, fun g e => by cases e; exact ⟨⟨h1, h2⟩, ad, rfl, rfl⟩⟩
        refine grown_set ?_ (block_of_add ad j) _
        rcases row with _ | g
        · exact grown_any hg
        · obtain ⟨_, a, e1, e2⟩ := hr g rfl
          injection e1 with e1
          subst e1; subst e2
          exact hg
      clear hv ho hg hr
      go_wp2
      go_roundw
      case rel => exact ⟨j + 1, by omega, by go_num, by go_num, HM.out, HG.out⟩
      case measure => simp [intOf]; omega
    · have HE := Lib.hid (marked_end (k := k) HL.out hlt hj)
      have hjn : j = n := by omega
      have HJ := Lib.hid hjn
      clear hjn
      go_wp2
      go_ret
      refine ⟨ret_int (by rw [HJ.out]), by rw [← HE.out]; exact ho, row, hg, fun g e => (hr g e).1⟩

theorem heldInts_any (A : Option Addr) (n c : Nat) (k : Int) (w : World) (h : Ints w w.heap.size A n (marks k n)) (hn : n ≤ 1048576) (k0 : 0 ≤ k) (k1 : k ≤ 1000000000000) :
    Calls Try.prog 44 #[.slice A n c, .int .i64 k] w fun e w' => e = .returned (.int .i64 (k + n)) ∧ w = w' := by
  go_enter Try.func44, Try.ntmps44
  go_wp2
  go_loop [1, 5] (fun v i => ∃ j : Nat, j ≤ n ∧ i = .int .i64 j ∧ v = .int .i64 (k + j)) (fun _ i => n - (intOf i).toNat)
  case atStart => exact ⟨0, Nat.zero_le _, rfl, by go_num⟩
  case round =>
    obtain ⟨j, hj, rfl, rfl⟩ := hrel
    by_cases hlt : j < n
    · obtain ⟨ad, v, rfl, hab, hv, hc⟩ := h.at_ hlt
      obtain rfl := marks_at hv
      clear hv
      go_wp2
      go_round
      case rel => exact ⟨j + 1, by omega, by go_num, by go_num⟩
      case measure => simp [intOf]; omega
    · have hjn : j = n := by omega
      have HJ := Lib.hid hjn
      clear hjn
      go_wp2
      go_ret
      exact ⟨ret_int (by rw [HJ.out]), rfl⟩

theorem ret_si {A : Option Addr} {n c : Nat} {a b : Int} (h : a = b) : Ending.returned (.tuple #[.slice A n c, .int .i64 a]) = .returned (.tuple #[.slice A n c, .int .i64 b]) := by rw [h]
/-- what a call answers that gives a list of its own and a code -/
def GivesInts (w : World) (code : Int) (xs : List Int) (e : Ending) (w' : World) : Prop :=
  ∃ A n c, e = .returned (.tuple #[.slice A n c, .int .i64 code]) ∧ Own w' w.heap.size w'.heap.size A n xs ∧ n ≤ 1048576 ∧ Below w.heap.size w w'

end Go.Proofs.Ytpabccgndhmcdaa
