/- The program's choice of keyways: choiceOf, isMetBy. -/
import Derived.Test.YtiijkcebloefbaaDoorExactS
import Derived.Test.YtiijkcebloefbaaDoorYield
import Derived.RegionTactic
import Derived.BigRegion
namespace Go.Proofs.YtiijkcebloefbaaDoor
open Go Go.RowKit

/-- which indices are wanted -/
def fOf (ys : List Int) (j : Nat) : Bool := ys.any (fun v => decide (v = (j : Int)))
def fAt (ys : List Int) (k : Nat) : Nat → Bool := fOf (ys.take k)
theorem fAt_zero (ys : List Int) : fAt ys 0 = fun _ => false := by funext j; simp [fAt, fOf]
theorem fAt_end {ys : List Int} {k : Nat} (h : ys.length ≤ k) : fAt ys k = fOf ys := by unfold fAt; rw [List.take_of_length_le h]
def putB (f : Nat → Bool) (i : Nat) : Nat → Bool := fun j => if j = i then true else f j
theorem fAt_step {ys : List Int} {k i : Nat} (hv : ys[k]? = some (i : Int)) : fAt ys (k + 1) = putB (fAt ys k) i := by
  obtain ⟨hk, he⟩ := List.getElem?_eq_some_iff.1 hv
  funext j
  unfold fAt fOf putB
  rw [List.take_succ_eq_append_getElem hk, List.any_append, he]
  by_cases h : j = i
  · subst h; simp
  · rw [if_neg h]
    have : ¬ (i : Int) = (j : Int) := by omega
    simp [this]

/-- a block that holds a choice -/
def WBox (w : World) (b : Nat) (t : TypeId) (A : Option Addr) (n c : Nat) (f : Nat → Bool) : Prop := w.heap[b]? = some (.cells #[.slice A n c, .bool (f 0), .bool (f 1), .bool (f 2), .bool (f 3), .bool (f 4), .bool (f 5), .bool (f 6), .bool (f 7)] t (0, 0))
theorem WBox.lt {w : World} {b n c : Nat} {t : TypeId} {A : Option Addr} {f : Nat → Bool} (h : WBox w b t A n c f) : b < w.heap.size := heapLt h
theorem WBox.new (w : World) (t : TypeId) (A : Option Addr) (n c : Nat) (f : Nat → Bool) : WBox (w.alloc (.cells #[.slice A n c, .bool (f 0), .bool (f 1), .bool (f 2), .bool (f 3), .bool (f 4), .bool (f 5), .bool (f 6), .bool (f 7)] t)) w.heap.size t A n c f := heap_alloc_new w _
theorem WBox.zero (W : World) {b : Nat} (t : TypeId) (A : Option Addr) (n c : Nat) (h : W.heap.size = b) : WBox (W.alloc (.cells #[.slice A n c, .bool false, .bool false, .bool false, .bool false, .bool false, .bool false, .bool false, .bool false] t)) b t A n c (fun _ => false) := by
  subst h; exact heap_alloc_new W _
theorem WBox.below {w w' : World} {b B n c : Nat} {t : TypeId} {A : Option Addr} {f : Nat → Bool} (h : WBox w b t A n c f) (hb : Below B w w') (hB : b < B) : WBox w' b t A n c f := (hb.block b hB).trans h
theorem WBox.on {w w' : World} {b n c : Nat} {t : TypeId} {A : Option Addr} {f : Nat → Bool} (h : WBox w b t A n c f) (hb : Below w.heap.size w w') : WBox w' b t A n c f := h.below hb h.lt
theorem WBox.above {w w' : World} {b B n c : Nat} {t : TypeId} {A : Option Addr} {f : Nat → Bool} (h : WBox w b t A n c f) (hb : Above B w w') (hB : B ≤ b) : WBox w' b t A n c f := (hb.block b hB h.lt).trans h
theorem WBox.drewN {w : World} {b n c : Nat} {t : TypeId} {A : Option Addr} {f : Nat → Bool} (h : WBox w b t A n c f) (k : Nat) : WBox (w.drewN k) b t A n c f := h
theorem WBox.alloc {w : World} {b n c : Nat} {t : TypeId} {A : Option Addr} {f : Nat → Bool} (h : WBox w b t A n c f) (o : Obj) : WBox (w.alloc o) b t A n c f := (Below.heap_alloc w o b h.lt).trans h
theorem WBox.grown {w w' : World} {b n c : Nat} {t : TypeId} {A : Option Addr} {f : Nat → Bool} {row : Option Nat} (h : WBox w b t A n c f) (hg : w.grownBy w' row) (hr : some b ≠ row) : WBox w' b t A n c f := (hg.block b h.lt hr).trans h
theorem WBox.cells {w : World} {b n c : Nat} {t : TypeId} {A : Option Addr} {f : Nat → Bool} (h : WBox w b t A n c f) : w.cell? ⟨b, 0, none⟩ = some (.slice A n c) ∧ w.cell? ⟨b, 1, none⟩ = some (.bool (f 0)) ∧ w.cell? ⟨b, 2, none⟩ = some (.bool (f 1)) ∧ w.cell? ⟨b, 3, none⟩ = some (.bool (f 2)) ∧ w.cell? ⟨b, 4, none⟩ = some (.bool (f 3)) ∧
    w.cell? ⟨b, 5, none⟩ = some (.bool (f 4)) ∧ w.cell? ⟨b, 6, none⟩ = some (.bool (f 5)) ∧ w.cell? ⟨b, 7, none⟩ = some (.bool (f 6)) ∧ w.cell? ⟨b, 8, none⟩ = some (.bool (f 7)) := by
  unfold WBox at h
  refine ⟨?_, ?_, ?_, ?_, ?_, ?_, ?_, ?_, ?_⟩ <;> simp [World.cell?, h]
theorem WBox.bit {w : World} {b n c : Nat} {t : TypeId} {A : Option Addr} {f : Nat → Bool} (h : WBox w b t A n c f) {i : Nat} (hi : i < 8) : w.cell? ⟨b, 1 + i, none⟩ = some (.bool (f i)) := by
  obtain ⟨_, h0, h1, h2, h3, h4, h5, h6, h7⟩ := h.cells
  match i, hi with
  | 0, _ => exact h0
  | 1, _ => exact h1
  | 2, _ => exact h2
  | 3, _ => exact h3
  | 4, _ => exact h4
  | 5, _ => exact h5
  | 6, _ => exact h6
  | 7, _ => exact h7
theorem WBox.thawed {w : World} {b n c : Nat} {t : TypeId} {A : Option Addr} {f : Nat → Bool} (h : WBox w b t A n c f) (i : Nat) : w.frozen? ⟨b, i, none⟩ = false := by
  unfold WBox at h
  simp [World.frozen?, h]
theorem WBox.put {w : World} {b n c : Nat} {t : TypeId} {A : Option Addr} {f : Nat → Bool} (h : WBox w b t A n c f) {i : Nat} (hi : i < 8) : WBox (w.setCell ⟨b, 1 + i, none⟩ (.bool true)) b t A n c (putB f i) := by
  unfold WBox at *
  match i, hi with
  | 0, _ => simp [World.setCell, putB, Array.getElem?_modify, h]
  | 1, _ => simp [World.setCell, putB, Array.getElem?_modify, h]
  | 2, _ => simp [World.setCell, putB, Array.getElem?_modify, h]
  | 3, _ => simp [World.setCell, putB, Array.getElem?_modify, h]
  | 4, _ => simp [World.setCell, putB, Array.getElem?_modify, h]
  | 5, _ => simp [World.setCell, putB, Array.getElem?_modify, h]
  | 6, _ => simp [World.setCell, putB, Array.getElem?_modify, h]
  | 7, _ => simp [World.setCell, putB, Array.getElem?_modify, h]
theorem cellsSet {W : World} {b : Nat} {cs : Array Value} {t : TypeId} (h : W.heap[b]? = some (.cells cs t (0, 0))) (i : Nat) (v : Value) : (W.setCell ⟨b, i, none⟩ v).heap[b]? = some (.cells (cs.setIfInBounds i v) t (0, 0)) := by
  simp [World.setCell, Array.getElem?_modify, h]
/-- the nine cells of a choice written, one after the other -/
def put9 (W : World) (b : Nat) (A : Option Addr) (n c : Nat) (f : Nat → Bool) : World :=
  ((((((((W.setCell ⟨b, 0, none⟩ (.slice A n c)).setCell ⟨b, 1, none⟩ (.bool (f 0))).setCell ⟨b, 2, none⟩ (.bool (f 1))).setCell ⟨b, 3, none⟩ (.bool (f 2))).setCell ⟨b, 4, none⟩ (.bool (f 3))).setCell ⟨b, 5, none⟩ (.bool (f 4))).setCell ⟨b, 6, none⟩ (.bool (f 5))).setCell ⟨b, 7, none⟩ (.bool (f 6))).setCell ⟨b, 8, none⟩ (.bool (f 7))
theorem WBox.put9 {W : World} {b n0 c0 n c : Nat} {t : TypeId} {A0 A : Option Addr} {f0 f : Nat → Bool} (h : WBox W b t A0 n0 c0 f0) : WBox (put9 W b A n c f) b t A n c f := by
  have h1 := cellsSet h 0 (.slice A n c)
  have h2 := cellsSet h1 1 (.bool (f 0))
  have h3 := cellsSet h2 2 (.bool (f 1))
  have h4 := cellsSet h3 3 (.bool (f 2))
  have h5 := cellsSet h4 4 (.bool (f 3))
  have h6 := cellsSet h5 5 (.bool (f 4))
  have h7 := cellsSet h6 6 (.bool (f 5))
  have h8 := cellsSet h7 7 (.bool (f 6))
  have h9 := cellsSet h8 8 (.bool (f 7))
  simp only [List.setIfInBounds_toArray, List.set_cons_zero, List.set_cons_succ] at h9
  exact h9
theorem below_put9 {A0 W : World} {B b : Nat} (h : Below B A0 W) (hb : B ≤ b) (A : Option Addr) (n c : Nat) (f : Nat → Bool) : Below B A0 (put9 W b A n c f) := by
  unfold put9
  exact ((((((((h.setCell (p := ⟨b, 0, none⟩) hb _).setCell (p := ⟨b, 1, none⟩) hb _).setCell (p := ⟨b, 2, none⟩) hb _).setCell (p := ⟨b, 3, none⟩) hb _).setCell (p := ⟨b, 4, none⟩) hb _).setCell (p := ⟨b, 5, none⟩) hb _).setCell (p := ⟨b, 6, none⟩) hb _).setCell (p := ⟨b, 7, none⟩) hb _).setCell (p := ⟨b, 8, none⟩) hb _
theorem row_put9 {W : World} {b g n0 : Nat} {t : TypeId} {F : Nat → Value} (h : W.rowIs g t n0 F) (hg : g ≠ b) (A : Option Addr) (n c : Nat) (f : Nat → Bool) : (put9 W b A n c f).rowIs g t n0 F := by
  have go : ∀ (W : World) (i : Nat) (v : Value), W.rowIs g t n0 F → (W.setCell ⟨b, i, none⟩ v).rowIs g t n0 F := fun W i v hr => hr.of_block (Below.heap_setCell W ⟨b, i, none⟩ v g hg)
  unfold put9
  exact go _ _ _ (go _ _ _ (go _ _ _ (go _ _ _ (go _ _ _ (go _ _ _ (go _ _ _ (go _ _ _ (go _ _ _ h))))))))
theorem WBox.thaws {w : World} {b n c : Nat} {t : TypeId} {A : Option Addr} {f : Nat → Bool} (h : WBox w b t A n c f) : w.frozen? ⟨b, 0, none⟩ = false ∧ w.frozen? ⟨b, 1, none⟩ = false ∧ w.frozen? ⟨b, 2, none⟩ = false ∧ w.frozen? ⟨b, 3, none⟩ = false ∧ w.frozen? ⟨b, 4, none⟩ = false ∧ w.frozen? ⟨b, 5, none⟩ = false ∧ w.frozen? ⟨b, 6, none⟩ = false ∧ w.frozen? ⟨b, 7, none⟩ = false ∧ w.frozen? ⟨b, 8, none⟩ = false :=
  ⟨h.thawed 0, h.thawed 1, h.thawed 2, h.thawed 3, h.thawed 4, h.thawed 5, h.thawed 6, h.thawed 7, h.thawed 8⟩

/-- the keyways as numbers of 16 bits, in block g -/
def Ways16 (w : World) (g n : Nat) (xs : List Int) : Prop := w.rowIs g 52 n (fun j => .int .u16 (xs.getD j 0))
theorem Ways16.lt {w : World} {g n : Nat} {xs : List Int} (h : Ways16 w g n xs) : g < w.heap.size := World.rowIs.lt h
theorem Ways16.on {w w' : World} {g n : Nat} {xs : List Int} (h : Ways16 w g n xs) (hb : Below w.heap.size w w') : Ways16 w' g n xs := World.rowIs.of_block h (hb.block g h.lt)
theorem Ways16.below {w w' : World} {g n B : Nat} {xs : List Int} (h : Ways16 w g n xs) (hb : Below B w w') (hB : g < B) : Ways16 w' g n xs := World.rowIs.of_block h (hb.block g hB)
theorem Ways16.alloc {w : World} {g n : Nat} {xs : List Int} (h : Ways16 w g n xs) (o : Obj) : Ways16 (w.alloc o) g n xs := World.rowIs.of_block h (Below.heap_alloc w o g h.lt)
/-- the row after k keyways -/
def way16 (xs : List Int) (k j : Nat) : Value := .int .u16 (if j < k then xs.getD j 0 else 0)
theorem way16_set {xs : List Int} {k : Nat} {v : Int} (hv : xs[k]? = some v) (j : Nat) : (if j = k then Value.int .u16 v else way16 xs k j) = way16 xs (k + 1) j := by
  unfold way16
  by_cases h : j = k
  · subst h
    rw [if_pos rfl, if_pos (by omega), List.getD_eq_getElem?_getD, hv]; rfl
  · rw [if_neg h]
    by_cases h2 : j < k
    · rw [if_pos h2, if_pos (by omega)]
    · rw [if_neg h2, if_neg (by omega)]
theorem Tryd.info52' : (Tryd.prog.info? 52).map (fun i => (i.zero, i.size, i.bytes)) = some (some (.int .u16 0), 1, 2) := by kernel_rfl

/-- what choiceOf answers -/
def Chosen (w : World) (n : Nat) (xs ys : List Int) (e : Ending) (w' : World) : Prop :=
  ∃ g, e = .returned (.tuple #[.agg #[.slice (some ⟨g, 0, none⟩) n n, .bool (fOf ys 0), .bool (fOf ys 1), .bool (fOf ys 2), .bool (fOf ys 3), .bool (fOf ys 4), .bool (fOf ys 5), .bool (fOf ys 6), .bool (fOf ys 7)], .bool true]) ∧ w.heap.size ≤ g ∧ Ways16 w' g n xs ∧ Below w.heap.size w w'
def NotChosen (w : World) (e : Ending) (w' : World) : Prop :=
  e = .returned (.tuple #[.agg #[.slice none 0 0, .bool false, .bool false, .bool false, .bool false, .bool false, .bool false, .bool false, .bool false], .bool false]) ∧ Below w.heap.size w w'

set_option maxRecDepth 100000 in
set_option maxHeartbeats 4000000 in
theorem choiceOf_no (A : Option Addr) (n c : Nat) (xs : List Int) (A' : Option Addr) (n' c' : Nat) (ys : List Int) (w : World) (h : Ints w w.heap.size A n xs) (hn : n ≤ 1048576) (h' : Ints w w.heap.size A' n' ys) (hn' : n' ≤ 1048576) (hx : exOk xs ys = false) :
    Calls Tryd.prog 24 #[.slice A n c, .slice A' n' c'] w (NotChosen w) := by
  have HL := Lib.hid h.len
  have hz := WBox.zero w 47 none 0 0 rfl
  have b0 := (Below.refl w.heap.size w).alloc (Nat.le_refl _) (.cells #[.slice none 0 0, .bool false, .bool false, .bool false, .bool false, .bool false, .bool false, .bool false, .bool false] 47)
  obtain ⟨f0, f1, f2, f3, f4, f5, f6, f7, f8⟩ := hz.thaws
  obtain ⟨d0, d1, d2, d3, d4, d5, d6, d7, d8⟩ := hz.cells
  have h1 := h.on b0
  have h1' := h'.on b0
  have HB0 := Lib.hid b0
  clear hz b0
  rcases hq : waysB xs with _ | _
  · go_enter Tryd.func24, Tryd.ntmps24
    go_wp2_with (go_at_call 28; refine (areWays_any _ _ _ xs _ h1 hn).mono ?_; rintro e w' ⟨rfl, rfl⟩)
    exact bodyPost_ret (v := .tuple #[.agg #[.slice none 0 0, .bool false, .bool false, .bool false, .bool false, .bool false, .bool false, .bool false, .bool false], .bool false]) (by simp [results, Tryd.results24, go_sem, d0, d1, d2, d3, d4, d5, d6, d7, d8]) rfl ⟨rfl, HB0.out⟩
  · have hr : riseB (n : Int) ys = false := by
      unfold exOk at hx
      rw [HL.out, hq] at hx
      simpa using hx
    go_enter Tryd.func24, Tryd.ntmps24
    go_wp2_with (first | (go_at_call 28; refine (areWays_any _ _ _ xs _ h1 hn).mono ?_; rintro e w' ⟨rfl, rfl⟩) | (go_at_call 34; refine (isRising_any _ _ _ ys _ _ h1' hn').mono ?_; rw [hr]; rintro e w' ⟨rfl, rfl⟩))
    exact bodyPost_ret (v := .tuple #[.agg #[.slice none 0 0, .bool false, .bool false, .bool false, .bool false, .bool false, .bool false, .bool false, .bool false], .bool false]) (by simp [results, Tryd.results24, go_sem, d0, d1, d2, d3, d4, d5, d6, d7, d8]) rfl ⟨rfl, HB0.out⟩

end Go.Proofs.YtiijkcebloefbaaDoor
