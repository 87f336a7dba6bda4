/- Lists of truth values in memory: words, and the laws' functions on them. Boxes of two cells. The laws' functions on buildings. -/
import Derived.Test.YtnadcjclihflcaaSets
import Derived.Test.YtnadcjclihflcaaBldM
namespace Go.Proofs.Ytnadcjclihflcaa
open Go.RowKit

/-- The slice value '.slice A n c' reads as the list xs of truth values, below block B. -/
def Bools (w : World) (B : Nat) (A : Option Addr) (n : Nat) (xs : List Bool) : Prop :=
  xs.length = n ∧ (0 < n → ∃ ad, A = some ad ∧ ad.block < B ∧ ∀ (j : Nat) (v : Bool), xs[j]? = some v → w.cell? (ad.add j) = some (.bool v))

theorem Bools.len {w : World} {B n : Nat} {A : Option Addr} {xs : List Bool} (h : Bools w B A n xs) : xs.length = n := h.1
theorem Bools.at_ {w : World} {B n : Nat} {A : Option Addr} {xs : List Bool} {k : Nat} (h : Bools w B A n xs) (hk : k < n) :
    ∃ ad v, A = some ad ∧ ad.block < B ∧ xs[k]? = some v ∧ w.cell? (ad.add k) = some (.bool v) := by
  obtain ⟨ad, e, hb, hc⟩ := h.2 (by omega)
  have hl : k < xs.length := by have := h.1; omega
  exact ⟨ad, xs[k], e, hb, List.getElem?_eq_getElem hl, hc k _ (List.getElem?_eq_getElem hl)⟩
theorem Bools.keep {w w' : World} {B n : Nat} {A : Option Addr} {xs : List Bool} (h : Bools w B A n xs) (hk : ∀ p : Addr, p.block < B → w'.cell? p = w.cell? p) : Bools w' B A n xs :=
  ⟨h.1, fun hn => by
    obtain ⟨ad, e, hb, hc⟩ := h.2 hn
    exact ⟨ad, e, hb, fun j u hu => (hk _ (by rw [block_of_add]; exact hb)).trans (hc j u hu)⟩⟩
theorem Bools.more {w : World} {B B' n : Nat} {A : Option Addr} {xs : List Bool} (h : Bools w B A n xs) (hB : B ≤ B') : Bools w B' A n xs :=
  ⟨h.1, fun hn => by
    obtain ⟨ad, e, hb, hc⟩ := h.2 hn
    exact ⟨ad, e, by omega, hc⟩⟩
theorem Bools.below {w w' : World} {B n : Nat} {A : Option Addr} {xs : List Bool} (h : Bools w B A n xs) (hb : Below B w w') : Bools w' B A n xs := h.keep fun _ hp => hb.cell hp
/-- over the worlds' own sizes: kept and widened -/
theorem Bools.on {w w' : World} {n : Nat} {A : Option Addr} {xs : List Bool} (h : Bools w w.heap.size A n xs) (hb : Below w.heap.size w w') : Bools w' w'.heap.size A n xs :=
  (h.below hb).more hb.size
theorem Bools.of_row {w : World} {g n : Nat} {t : TypeId} {xs : List Bool} (h : w.rowIs g t n (fun j => .bool (xs.getD j false))) (hl : xs.length = n) : Bools w w.heap.size (some ⟨g, 0, none⟩) n xs := by
  refine ⟨hl, fun _ => ⟨_, rfl, h.lt, fun j v hv => ?_⟩⟩
  have hj : j < n := by
    rcases Nat.lt_or_ge j n with hlt | hge
    · exact hlt
    · rw [List.getElem?_eq_none (by omega)] at hv; cases hv
  have := h.cell hj
  simp only [List.getD_eq_getElem?_getD, hv, Option.getD_some] at this
  unfold Addr.add
  split
  · next h0 => subst h0; simpa using this
  · simpa using this

/-- The slice value '.slice A n c' reads as xs; its block lies from lo on, below hi, and its cells can be written. -/
def OwnB (w : World) (lo hi : Nat) (A : Option Addr) (n : Nat) (xs : List Bool) : Prop :=
  xs.length = n ∧ hi ≤ w.heap.size ∧ (0 < n → ∃ ad, A = some ad ∧ lo ≤ ad.block ∧ ad.block < hi ∧ ∀ (j : Nat) (v : Bool), xs[j]? = some v → w.frozen? (ad.add j) = false ∧ w.cell? (ad.add j) = some (.bool v))

theorem OwnB.len {w : World} {lo hi n : Nat} {A : Option Addr} {xs : List Bool} (h : OwnB w lo hi A n xs) : xs.length = n := h.1
theorem OwnB.size {w : World} {lo hi n : Nat} {A : Option Addr} {xs : List Bool} (h : OwnB w lo hi A n xs) : hi ≤ w.heap.size := h.2.1
theorem OwnB.bools {w : World} {lo hi n : Nat} {A : Option Addr} {xs : List Bool} (h : OwnB w lo hi A n xs) : Bools w w.heap.size A n xs :=
  ⟨h.1, fun hn => by
    obtain ⟨ad, e, _, hb, hc⟩ := h.2.2 hn
    exact ⟨ad, e, by have := h.2.1; omega, fun j v hv => (hc j v hv).2⟩⟩
theorem OwnB.at_ {w : World} {lo hi n : Nat} {A : Option Addr} {xs : List Bool} {k : Nat} (h : OwnB w lo hi A n xs) (hk : k < n) :
    ∃ ad v, A = some ad ∧ lo ≤ ad.block ∧ ad.block < hi ∧ xs[k]? = some v ∧ w.frozen? (ad.add k) = false ∧ w.cell? (ad.add k) = some (.bool v) := by
  obtain ⟨ad, e, h1, h2, hc⟩ := h.2.2 (by omega)
  have hl : k < xs.length := by have := h.1; omega
  have hx : xs[k]? = some xs[k] := List.getElem?_eq_getElem hl
  exact ⟨ad, xs[k], e, h1, h2, hx, (hc k _ hx).1, (hc k _ hx).2⟩
theorem OwnB.nil {w : World} {lo hi : Nat} (A : Option Addr) (h : hi ≤ w.heap.size) : OwnB w lo hi A 0 [] := ⟨rfl, h, fun h => absurd h (by omega)⟩
theorem OwnB.below {w w' : World} {lo hi n : Nat} {A : Option Addr} {xs : List Bool} (h : OwnB w lo hi A n xs) (hb : Below w.heap.size w w') : OwnB w' lo hi A n xs :=
  ⟨h.1, Nat.le_trans h.2.1 hb.size, fun hn => by
    obtain ⟨ad, e, h1, h2, hc⟩ := h.2.2 hn
    refine ⟨ad, e, h1, h2, fun j v hv => ?_⟩
    have hlt : (ad.add j).block < w.heap.size := by rw [block_of_add]; have := h.2.1; omega
    rw [hb.frozen hlt, hb.cell hlt]
    exact hc j v hv⟩
theorem OwnB.apart {w w' : World} {lo hi n : Nat} {A : Option Addr} {xs : List Bool} {row : Option Nat} (h : OwnB w lo hi A n xs) (hg : w.grownBy w' row) (hr : ∀ g, row = some g → g < lo ∨ hi ≤ g) : OwnB w' lo hi A n xs :=
  ⟨h.1, Nat.le_trans h.2.1 hg.size, fun hn => by
    obtain ⟨ad, e, h1, h2, hc⟩ := h.2.2 hn
    refine ⟨ad, e, h1, h2, fun j v hv => ?_⟩
    have hlt : (ad.add j).block < w.heap.size := by rw [block_of_add]; have := h.2.1; omega
    have hb := hg.block (ad.add j).block hlt (fun e => by rw [block_of_add] at e; have := hr _ e.symm; omega)
    rw [World.frozen?_of_block (w := w) hb, World.cell?_of_block (w := w) hb]
    exact hc j v hv⟩
theorem OwnB.more {w : World} {lo hi lo' hi' n : Nat} {A : Option Addr} {xs : List Bool} (h : OwnB w lo hi A n xs) (h1 : lo' ≤ lo) (h2 : hi ≤ hi') (h3 : hi' ≤ w.heap.size) : OwnB w lo' hi' A n xs :=
  ⟨h.1, h3, fun hn => by
    obtain ⟨ad, e, a1, a2, hc⟩ := h.2.2 hn
    exact ⟨ad, e, by omega, by omega, hc⟩⟩
theorem OwnB.of_row {w : World} {g n lo : Nat} {t : TypeId} {xs : List Bool} (h : w.rowIs g t n (fun j => .bool (xs.getD j false))) (hl : xs.length = n) (hg : lo ≤ g) : OwnB w lo w.heap.size (some ⟨g, 0, none⟩) n xs := by
  refine ⟨hl, Nat.le_refl _, fun _ => ⟨_, rfl, hg, h.lt, fun j v hv => ?_⟩⟩
  have hj : j < n := by
    rcases Nat.lt_or_ge j n with hlt | hge
    · exact hlt
    · rw [List.getElem?_eq_none (by omega)] at hv; cases hv
  have e : (⟨g, 0, none⟩ : Addr).add j = ⟨g, j, none⟩ := by
    unfold Addr.add
    split
    · next h0 => subst h0; rfl
    · simp
  rw [e]
  have := h.cell hj
  simp only [List.getD_eq_getElem?_getD, hv, Option.getD_some] at this
  exact ⟨h.frozen j, this⟩
/-- a block of two cells -/
def Cell2 (w : World) (b : Nat) (t : TypeId) (u v : Value) : Prop := w.heap[b]? = some (.cells #[u, v] t (0, 0))
theorem Cell2.lt {w : World} {b : Nat} {t : TypeId} {u v : Value} (h : Cell2 w b t u v) : b < w.heap.size := heapLt h
theorem Cell2.new (w : World) (t : TypeId) (u v : Value) : Cell2 (w.alloc (.cells #[u, v] t)) w.heap.size t u v := heap_alloc_new w _
theorem Cell2.on {w w' : World} {b : Nat} {t : TypeId} {u v : Value} (h : Cell2 w b t u v) (hb : Below w.heap.size w w') : Cell2 w' b t u v := (hb.block b h.lt).trans h
theorem Cell2.below {w w' : World} {b B : Nat} {t : TypeId} {u v : Value} (h : Cell2 w b t u v) (hb : Below B w w') (hB : b < B) : Cell2 w' b t u v := (hb.block b hB).trans h
theorem Cell2.alloc {w : World} {b : Nat} {t : TypeId} {u v : Value} (h : Cell2 w b t u v) (o : Obj) : Cell2 (w.alloc o) b t u v := (Below.heap_alloc w o b h.lt).trans h
theorem Cell2.grown {w w' : World} {b : Nat} {t : TypeId} {u v : Value} {row : Option Nat} (h : Cell2 w b t u v) (hg : w.grownBy w' row) (hr : some b ≠ row) : Cell2 w' b t u v := (hg.block b h.lt hr).trans h
theorem Cell2.cells {w : World} {b : Nat} {t : TypeId} {u v : Value} (h : Cell2 w b t u v) : w.cell? ⟨b, 0, none⟩ = some u ∧ w.cell? ⟨b, 1, none⟩ = some v := by unfold Cell2 at h; simp [World.cell?, h]
theorem Cell2.thawed {w : World} {b : Nat} {t : TypeId} {u v : Value} (h : Cell2 w b t u v) (k : Nat) : w.frozen? ⟨b, k, none⟩ = false := by unfold Cell2 at h; simp [World.frozen?, h]
theorem Cell2.put0 {w : World} {b : Nat} {t : TypeId} {u v : Value} (h : Cell2 w b t u v) (x : Value) : Cell2 (w.setCell ⟨b, 0, none⟩ x) b t x v := by
  unfold Cell2 at *; simp [World.setCell, Array.getElem?_modify, h]
theorem Cell2.put1 {w : World} {b : Nat} {t : TypeId} {u v : Value} (h : Cell2 w b t u v) (x : Value) : Cell2 (w.setCell ⟨b, 1, none⟩ x) b t u x := by
  unfold Cell2 at *; simp [World.setCell, Array.getElem?_modify, h]
theorem Cell2.other {w : World} {b : Nat} {t : TypeId} {u v : Value} (h : Cell2 w b t u v) {p : Addr} (hp : b ≠ p.block) (x : Value) : Cell2 (w.setCell p x) b t u v := (Below.heap_setCell w p x b hp).trans h

/-- the copy that 'toBoolS' makes after k rounds -/
def copiedB (xs : List Bool) (k : Nat) (j : Nat) : Value := .bool (if j < k then xs.getD j false else false)
theorem copiedB_set {xs : List Bool} {k : Nat} {v : Bool} (hv : xs[k]? = some v) (j : Nat) : (if j = k then Value.bool v else copiedB xs k j) = copiedB xs (k + 1) j := by
  unfold copiedB
  by_cases h : j = k
  · subst h
    rw [if_pos rfl, if_pos (by omega), List.getD_eq_getElem?_getD, hv]; rfl
  · rw [if_neg h]
    by_cases h2 : j < k
    · rw [if_pos h2, if_pos (by omega)]
    · rw [if_neg h2, if_neg (by omega)]
theorem Try.info4' : (Try.prog.info? 4).map (fun i => (i.zero, i.size, i.bytes)) = some (some (.bool false), 1, 1) := by kernel_rfl

theorem toBoolS_any (A : Option Addr) (n c : Nat) (xs : List Bool) (w : World) (h : Bools w w.heap.size A n xs) (hn : n ≤ 1048576) :
    Calls Try.prog 118 #[.slice A n c] w fun e w' => ∃ g, e = .returned (.slice (some ⟨g, 0, none⟩) n n) ∧ w.heap.size ≤ g ∧ w'.rowIs g 4 n (fun j => .bool (xs.getD j false)) ∧ Below w.heap.size w w' := by
  have hl := h.len
  have HL := Lib.hid hl
  clear hl
  have hmk := run_make_row' (P := Try.prog) 25 4 (.bool false) 1 Try.underlying25 Try.info4' rfl .i64 .i64 n (by omega) (by omega)
  go_enter Try.func118, Try.ntmps118
  go_wp2
  clear hmk
  go_loopw [4] (fun i wr => ∃ k : Nat, k ≤ n ∧ i = .int .i64 k ∧ wr.rowIs w.heap.size 4 n (copiedB xs k) ∧ Below w.heap.size w wr) (fun i _ => n - (intOf i).toNat)
  case atStart =>
    refine ⟨0, Nat.zero_le _, rfl, (World.rowIs_made w (.bool false) n 4).congr (fun i _ => by simp [copiedB]), (Below.refl _ _).alloc (Nat.le_refl _) _⟩
  case round =>
    obtain ⟨k, hk, rfl, hrow, hb⟩ := hrel
    by_cases hlt : k < n
    · obtain ⟨ad, v, rfl, hab, hv, hc⟩ := (h.below hb).at_ hlt
      have hst := hrow.cell hlt
      have hfz := hrow.frozen k
      have HV := Lib.hid hv
      clear hv
      have HR := Lib.hid hrow
      clear hrow
      go_wp2
      go_roundw
      case rel => exact ⟨k + 1, by omega, by go_num, (HR.out.set k (.bool v)).congr (fun j _ => copiedB_set HV.out j), hb.setCell (by simp) _⟩
      case measure => simp [intOf]; omega
    · go_wp2
      go_ret
      refine ⟨w.heap.size, rfl, Nat.le_refl _, hrow.congr (fun j hj => ?_), hb⟩
      unfold copiedB
      rw [if_pos (by omega)]

theorem eqBools_true (A A' : Option Addr) (n c c' : Nat) (xs : List Bool) (w : World) (h : Bools w w.heap.size A n xs) (h' : Bools w w.heap.size A' n xs) (hn : n ≤ 1048576) :
    Calls Try.prog 119 #[.slice A n c, .slice A' n c'] w fun e w' => e = .returned (.bool true) ∧ Below w.heap.size w w' := by
  go_enter Try.func119, Try.ntmps119
  go_wp2
  go_loopw [5] (fun i wr => ∃ k : Nat, k ≤ n ∧ i = .int .i64 k ∧ Below w.heap.size w wr) (fun i _ => n - (intOf i).toNat)
  case atStart => exact ⟨0, Nat.zero_le _, rfl, Below.refl _ _⟩
  case round =>
    obtain ⟨k, hk, rfl, hb⟩ := hrel
    by_cases hlt : k < n
    · obtain ⟨ad, v, rfl, hab, hv, hc⟩ := (h.below hb).at_ hlt
      obtain ⟨ad', v', rfl, hab', hv', hc'⟩ := (h'.below hb).at_ hlt
      obtain rfl : v = v' := by rw [hv] at hv'; injection hv'
      clear hv hv'
      have hnn : (v != v) = false := by simp
      go_wp2
      go_quiet (fail)
      go_wp2
      go_roundw
      case rel => exact ⟨k + 1, by omega, by go_num, below_drewN hb _⟩
      case measure => simp [intOf]; omega
    · go_wp2
      go_ret
      exact ⟨rfl, hb⟩

theorem szBools_any (A : Option Addr) (n c : Nat) (left : Int) (w : World) (l0 : 0 ≤ left) (l1 : left ≤ 1048576) (hn : n ≤ 9223372036854775807) :
    Calls Try.prog 117 #[.slice A n c, .int .i64 left] w fun e w' => e = .returned (.int .i64 (if left < n then -1 else left - n)) ∧ w = w' := by
  by_cases h : left < n
  · go_enter Try.func117, Try.ntmps117
    go_wp2
    go_ret
    exact ⟨rfl, rfl⟩
  · go_enter Try.func117, Try.ntmps117
    go_wp2
    go_ret
    exact ⟨rfl, rfl⟩

def tri (k : Int) : Bool := k % 3 == 0
def marksB (k : Int) (n : Nat) : List Bool := (List.range n).map (fun (j : Nat) => tri (k + (j : Int)))
theorem marksB_len (k : Int) (n : Nat) : (marksB k n).length = n := by simp [marksB]
theorem marksB_at {k : Int} {v : Bool} {n j : Nat} (h : (marksB k n)[j]? = some v) : v = tri (k + j) := by
  unfold marksB at h
  rw [List.getElem?_map] at h
  rcases hj : (List.range n)[j]? with _ | u
  · rw [hj] at h; cases h
  · rw [hj] at h
    obtain ⟨hl, e⟩ := List.getElem?_eq_some_iff.1 hj
    rw [List.getElem_range] at e
    subst e
    exact (Option.some.inj h).symm
def markedB (xs : List Bool) (k : Int) (j : Nat) : List Bool := marksB k j ++ xs.drop j
theorem markedB_len {xs : List Bool} {n : Nat} (k : Int) {j : Nat} (h : xs.length = n) (hj : j ≤ n) : (markedB xs k j).length = n := by
  unfold markedB; rw [List.length_append, marksB_len, List.length_drop]; omega
theorem markedB_end {xs : List Bool} {n j : Nat} {k : Int} (h : xs.length = n) (hj : ¬ j < n) (hj' : j ≤ n) : markedB xs k j = marksB k n := by
  obtain rfl : j = n := by omega
  unfold markedB; rw [List.drop_of_length_le (by omega), List.append_nil]
theorem markedB_set {xs : List Bool} {j : Nat} (k : Int) (hj : j < xs.length) (i : Nat) (v : Bool) (h : (markedB xs k (j + 1))[i]? = some v) : (i = j ∧ v = tri (k + j)) ∨ (i ≠ j ∧ (markedB xs k j)[i]? = some v) := by
  unfold markedB at *
  by_cases h1 : i < j
  · right
    refine ⟨by omega, ?_⟩
    rw [List.getElem?_append_left (by rw [marksB_len]; omega)] at h ⊢
    unfold marksB at *
    rw [List.getElem?_map, List.getElem?_range (by omega)] at h ⊢
    exact h
  · by_cases h2 : i = j
    · left
      subst h2
      rw [List.getElem?_append_left (by rw [marksB_len]; omega)] at h
      exact ⟨rfl, marksB_at h⟩
    · right
      refine ⟨h2, ?_⟩
      rw [List.getElem?_append_right (by rw [marksB_len]; omega), marksB_len, List.getElem?_drop] at h ⊢
      rw [← h]
      congr 1
      omega
theorem OwnB.mark {w : World} {lo hi n : Nat} {ad : Addr} {xs : List Bool} {j : Nat} (k : Int) (h : OwnB w lo hi (some ad) n (markedB xs k j)) (hl : xs.length = n) (hj : j < n) :
    OwnB (w.setCell (ad.add j) (.bool (tri (k + j)))) lo hi (some ad) n (markedB xs k (j + 1)) := by
  refine ⟨markedB_len k hl (by omega), by simpa [World.setCell] using h.2.1, fun hn => ?_⟩
  obtain ⟨ad', e, h1, h2, hc⟩ := h.2.2 hn
  obtain rfl : ad = ad' := by injection e
  refine ⟨ad, rfl, h1, h2, fun i v hv => ?_⟩
  rcases markedB_set k (by omega) i v hv with ⟨rfl, rfl⟩ | ⟨hne, hv'⟩
  · obtain ⟨_, u, e, _, _, _, hf, hcell⟩ := h.at_ hj
    injection e with e
    subst e
    exact ⟨by rw [World.frozen?_setCell]; exact hf, World.cell?_setCell_same _ _ _ hcell⟩
  · rw [World.frozen?_setCell, World.cell?_setCell_other _ _ _ _ (add_ne ad (Ne.symm hne))]
    exact hc i v hv'

theorem markBools_any (A : Option Addr) (n c : Nat) (xs : List Bool) (k : Int) (lo hi : Nat) (w : World) (h : OwnB w lo hi A n xs) (hn : n ≤ 1048576) (k0 : 0 ≤ k) (k1 : k ≤ 1000000000000) :
    Calls Try.prog 120 #[.slice A n c, .int .i64 k] w fun e w' => e = .returned (.int .i64 (k + n)) ∧ OwnB w' lo hi A n (marksB k n) ∧ ∃ row : Option Nat, w.grownBy w' row ∧ (∀ g, row = some g → lo ≤ g ∧ g < hi) := by
  have HL := Lib.hid h.len
  have HO := Lib.hid (show OwnB w lo hi A n (markedB xs k 0) by unfold markedB marksB; simpa using h)
  have hs := h.size
  go_enter Try.func120, Try.ntmps120
  go_wp2
  go_loopw [1, 5] (fun v i wr => ∃ j : Nat, j ≤ n ∧ i = .int .i64 j ∧ v = .int .i64 (k + j) ∧ OwnB wr lo hi A n (markedB xs k j) ∧ ∃ row : Option Nat, w.grownBy wr row ∧ (∀ g, row = some g → (lo ≤ g ∧ g < hi) ∧ ∃ ad, A = some ad ∧ ad.block = g)) (fun _ i _ => n - (intOf i).toNat)
  case atStart => exact ⟨0, Nat.zero_le _, rfl, by go_num, HO.out, none, World.grownBy.refl _ _, fun g e => by cases e⟩
  case round =>
    obtain ⟨j, hj, rfl, rfl, ho, row, hg, hr⟩ := hrel
    by_cases hlt : j < n
    · obtain ⟨ad, v, rfl, h1, h2, hv, hf, hc⟩ := ho.at_ hlt
      have HM := Lib.hid (OwnB.mark k ho HL.out hlt)
      have HG : Hid (∃ row : Option Nat, w.grownBy (wr.setCell (ad.add j) (.bool (tri (k + j)))) row ∧ (∀ g, row = some g → (lo ≤ g ∧ g < hi) ∧ ∃ a, some ad = some a ∧ a.block = g)) := by
        refine ⟨some ad.block, ?_, fun g e => by cases e; exact ⟨⟨h1, h2⟩, ad, rfl, rfl⟩⟩
        refine grown_set ?_ (block_of_add ad j) _
        rcases row with _ | g
        · exact grown_any hg
        · obtain ⟨_, a, e1, e2⟩ := hr g rfl
          injection e1 with e1
          subst e1; subst e2
          exact hg
      have s1 : (k + (j : Int)).tmod 3 = (k + (j : Int)) % 3 := Int.tmod_eq_emod_of_nonneg (by omega)
      have s2 : IntKind.i64.wrap ((k + (j : Int)) % 3) = (k + (j : Int)) % 3 := by rw [IntKind.wrap_i64]; omega
      have s3 : ((k + (j : Int)) % 3 == 0) = tri (k + (j : Int)) := rfl
      clear hv ho hg hr
      go_wp2
      go_roundw
      case rel => exact ⟨j + 1, by omega, by go_num, by go_num, HM.out, HG.out⟩
      case measure => simp [intOf]; omega
    · have HE := Lib.hid (markedB_end (k := k) HL.out hlt hj)
      have hjn : j = n := by omega
      have HJ := Lib.hid hjn
      clear hjn
      go_wp2
      go_ret
      refine ⟨ret_int (by rw [HJ.out]), by rw [← HE.out]; exact ho, row, hg, fun g e => (hr g e).1⟩

theorem heldBools_any (A : Option Addr) (n c : Nat) (k : Int) (w : World) (h : Bools w w.heap.size A n (marksB k n)) (hn : n ≤ 1048576) (k0 : 0 ≤ k) (k1 : k ≤ 1000000000000) :
    Calls Try.prog 137 #[.slice A n c, .int .i64 k] w fun e w' => e = .returned (.int .i64 (k + n)) ∧ Below w.heap.size w w' := by
  go_enter Try.func137, Try.ntmps137
  go_wp2
  go_loopw [1, 5] (fun v i wr => ∃ j : Nat, j ≤ n ∧ i = .int .i64 j ∧ v = .int .i64 (k + j) ∧ Below w.heap.size w wr) (fun _ i _ => n - (intOf i).toNat)
  case atStart => exact ⟨0, Nat.zero_le _, rfl, by go_num, Below.refl _ _⟩
  case round =>
    obtain ⟨j, hj, rfl, rfl, hb⟩ := hrel
    by_cases hlt : j < n
    · obtain ⟨ad, v, rfl, hab, hv, hc⟩ := (h.below hb).at_ hlt
      obtain rfl := marksB_at hv
      clear hv
      have s1 : (k + (j : Int)).tmod 3 = (k + (j : Int)) % 3 := Int.tmod_eq_emod_of_nonneg (by omega)
      have s2 : IntKind.i64.wrap ((k + (j : Int)) % 3) = (k + (j : Int)) % 3 := by rw [IntKind.wrap_i64]; omega
      have s3 : ((k + (j : Int)) % 3 == 0) = tri (k + (j : Int)) := rfl
      have s4 : (tri (k + (j : Int)) != tri (k + (j : Int))) = false := by simp
      go_wp2
      go_roundw
      case rel => exact ⟨j + 1, by omega, by go_num, by go_num, hb⟩
      case measure => simp [intOf]; omega
    · have hjn : j = n := by omega
      have HJ := Lib.hid hjn
      clear hjn
      go_wp2
      go_ret
      exact ⟨ret_int (by rw [HJ.out]), hb⟩

end Go.Proofs.Ytnadcjclihflcaa
