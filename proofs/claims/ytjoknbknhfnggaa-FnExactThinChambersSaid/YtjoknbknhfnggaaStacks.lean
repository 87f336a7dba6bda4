/- The stacks of the program: slices of one list that grows. -/
import Derived.Test.YtjoknbknhfnggaaAppK
import Derived.Test.YtjoknbknhfnggaaSets
namespace Go.Proofs.Ytjoknbknhfnggaa
open Go Go.RowKit

/-- the stack of a set, from a depth on -/
def stkF (D below : Int) : List Int → List Int
  | [] => [D - 1 - below]
  | y :: r => (y - below) :: stkF D y r
def stk (D : Int) (ys : List Int) : List Int := stkF D 0 ys
theorem stkF_len (D : Int) : ∀ (below : Int) (ys : List Int), (stkF D below ys).length = ys.length + 1
  | _, [] => rfl
  | below, y :: r => by unfold stkF; rw [List.length_cons, stkF_len D y r]; rfl
theorem stk_len (D : Int) (ys : List Int) : (stk D ys).length = ys.length + 1 := stkF_len D 0 ys

/-- the value of a stack -/
def stV (gs : List (Nat × Nat)) (zss : List (List Int)) (j : Nat) : Value :=
  match gs[j]?, zss[j]? with
  | some p, some zs => .slice (some ⟨p.1, p.2, none⟩) zs.length zs.length
  | _, _ => .slice none 0 0
/-- the first k stacks lie in the row g0, and their pins from block lo on, behind no pin of the list that still grows -/
structure Stacked (w : World) (lo g0 n k : Nat) (gs : List (Nat × Nat)) (zss : List (List Int)) (pv : Value) (q : Nat) : Prop where
  len : gs.length = k
  row : w.rowIs g0 39 n (stV gs zss)
  each : ∀ (j b o : Nat) (zs : List Int), gs[j]? = some (b, o) → zss[j]? = some zs → lo ≤ b ∧ b < w.heap.size ∧ (pv.ownBlock = some b → o + zs.length ≤ q) ∧ ∀ (i : Nat) (v : Int), zs[i]? = some v → w.cell? ⟨b, o + i, none⟩ = some (.int .i64 v)
theorem Stacked.on {w w' : World} {lo g0 n k q : Nat} {gs : List (Nat × Nat)} {zss : List (List Int)} {pv : Value} (h : Stacked w lo g0 n k gs zss pv q) (hb : Below w.heap.size w w') : Stacked w' lo g0 n k gs zss pv q :=
  ⟨h.len, World.rowIs.of_block h.row (hb.block g0 h.row.lt), fun j b o zs hg hz => by
    obtain ⟨h1, h2, h3, h4⟩ := h.each j b o zs hg hz
    exact ⟨h1, Nat.lt_of_lt_of_le h2 hb.size, h3, fun i v hv => (hb.cell (p := ⟨b, o + i, none⟩) h2).trans (h4 i v hv)⟩⟩
theorem Stacked.start {w : World} {lo n : Nat} {zss : List (List Int)} {pv : Value} : Stacked (w.alloc (.cells (madeCells #[.slice none 0 0] n) 39)) lo w.heap.size n 0 [] zss pv 0 :=
  ⟨rfl, (World.rowIs_made w (.slice none 0 0) n 39).congr (fun i _ => by simp [stV]), fun j b o zs hg => by simp at hg⟩
/-- the list of pins has grown -/
theorem Stacked.grow {w w' : World} {lo g0 n k q g cap : Nat} {gs : List (Nat × Nat)} {zss : List (List Int)} {pv : Value} {xs : List Int} {x : Int} (h : Stacked w lo g0 n k gs zss pv q) (hlo : g0 < lo)
    (h1 : w.ownsRow lo 2 1 pv q (intsV xs)) (hl : xs.length = q) (h2 : w'.ownsRow lo 2 1 (.slice (some ⟨g, 0, none⟩) (q + 1) cap) (q + 1) (intsV (xs ++ [x])))
    (h3 : w.grownBy w' pv.ownBlock) (h4 : pv.ownBlock = some g ∨ g = w.heap.size) (h6 : ∀ k, pv.ownBlock = some k → k ≠ g → w'.heap[k]? = w.heap[k]?) : Stacked w' lo g0 n k gs zss (.slice (some ⟨g, 0, none⟩) (q + 1) cap) (q + 1) := by
  refine ⟨h.len, World.rowIs.of_block h.row (h3.block g0 h.row.lt (fun e => by have := rowBase h1 g0 e.symm; omega)), fun j b o zs hg hz => ?_⟩
  obtain ⟨a1, a2, a3, a4⟩ := h.each j b o zs hg hz
  refine ⟨a1, Nat.lt_of_lt_of_le a2 h3.size, fun e => ?_, fun i v hv => ?_⟩
  · have e2 : g = b := by simpa [Value.ownBlock] using e
    subst e2
    rcases h4 with h4 | h4
    · have := a3 h4; omega
    · omega
  · have hi : i < zs.length := (List.getElem?_eq_some_iff.1 hv).1
    rw [cell_kept1 h1 hl h2 h3 h6 a2 (fun e => by have := a3 e; omega)]
    exact a4 i v hv
theorem add_at (b i : Nat) : (⟨b, 0, none⟩ : Addr).add i = ⟨b, i, none⟩ := by
  unfold Addr.add
  split
  · next h0 => subst h0; rfl
  · simp
/-- a stack has come -/
theorem Stacked.push {w : World} {lo g0 n k q0 g cap : Nat} {gs : List (Nat × Nat)} {zss : List (List Int)} {xs zs : List Int} (h : Stacked w lo g0 n k gs zss (.slice (some ⟨g, 0, none⟩) (q0 + zs.length) cap) (q0 + zs.length)) (hlo : g0 < lo)
    (h1 : w.ownsRow lo 2 1 (.slice (some ⟨g, 0, none⟩) (q0 + zs.length) cap) (q0 + zs.length) (intsV (xs ++ zs))) (hl : xs.length = q0) (hz : zss[k]? = some zs) (hp : 0 < zs.length) :
    Stacked (w.setCell ⟨g0, k, none⟩ (.slice (some ⟨g, q0, none⟩) zs.length zs.length)) lo g0 n (k + 1) (gs ++ [(g, q0)]) zss (.slice (some ⟨g, 0, none⟩) (q0 + zs.length) cap) (q0 + zs.length) := by
  have hlen := h.len
  have hgb := rowBase h1 g rfl
  have hother : ∀ (b o : Nat), lo ≤ b → (w.setCell ⟨g0, k, none⟩ (.slice (some ⟨g, q0, none⟩) zs.length zs.length)).cell? ⟨b, o, none⟩ = w.cell? ⟨b, o, none⟩ := fun b o hb =>
    World.cell?_setCell_other _ _ _ _ (fun e => by have := congrArg Addr.block e; simp at this; omega)
  refine ⟨by rw [List.length_append, hlen]; rfl, (h.row.set k _).congr (fun j _ => ?_), fun j b o zs' hg hz' => ?_⟩
  · by_cases hj : j = k
    · subst hj
      rw [if_pos rfl]
      unfold stV
      rw [List.getElem?_append_right (by omega), hlen, Nat.sub_self, hz]
      rfl
    · rw [if_neg hj]
      unfold stV
      rcases Nat.lt_or_ge j k with h' | h'
      · rw [List.getElem?_append_left (by omega)]
      · have n1 : gs[j]? = none := List.getElem?_eq_none (by rw [hlen]; omega)
        have n2 : (gs ++ [(g, q0)])[j]? = none := List.getElem?_eq_none (by rw [List.length_append, hlen]; simp; omega)
        rw [n1, n2]
  · have hsz : (w.setCell ⟨g0, k, none⟩ (.slice (some ⟨g, q0, none⟩) zs.length zs.length)).heap.size = w.heap.size := by simp [World.setCell]
    rcases Nat.lt_or_ge j k with h' | h'
    · rw [List.getElem?_append_left (by omega)] at hg
      obtain ⟨a1, a2, a3, a4⟩ := h.each j b o zs' hg hz'
      exact ⟨a1, by rw [hsz]; exact a2, a3, fun i v hv => (hother b _ a1).trans (a4 i v hv)⟩
    · have hj : j = k := by
        have := (List.getElem?_eq_some_iff.1 hg).1
        rw [List.length_append, hlen] at this
        simp at this; omega
      subst hj
      rw [List.getElem?_append_right (by omega), hlen, Nat.sub_self] at hg
      have hg' : (g, q0) = (b, o) := by simpa using hg
      injection hg' with e1 e2
      subst e1; subst e2
      rw [hz] at hz'
      injection hz' with e3
      subst e3
      refine ⟨hgb, ?_, fun _ => Nat.le_refl _, fun i v hv => ?_⟩
      · rw [hsz]
        obtain ⟨g', cap', he, _, hlt⟩ := h1.form (by omega)
        have : g = g' := by have := congrArg Value.ownBlock he; simpa [Value.ownBlock] using this
        omega
      · rw [hother g _ hgb]
        have hi : i < zs.length := (List.getElem?_eq_some_iff.1 hv).1
        have := h1.cells (g := g) rfl (q0 + i) (.int .i64 v) (by
          unfold intsV
          rw [List.getElem?_map, List.getElem?_append_right (by omega), hl, show q0 + i - q0 = i by omega, hv]; rfl)
        rwa [add_at] at this
/-- all stacks, as lists that may be read -/
theorem Stacked.sets {w : World} {lo g0 n q : Nat} {gs : List (Nat × Nat)} {zss : List (List Int)} {pv : Value} (h : Stacked w lo g0 n n gs zss pv q) (hl : zss.length = n) (hbig : ∀ zs ∈ zss, zs.length ≤ 9223372036854775807) : Sets w w.heap.size (some ⟨g0, 0, none⟩) n zss := by
  refine ⟨hl, fun _ => ⟨_, rfl, h.row.lt, fun j zs hz => ?_⟩⟩
  have hj : j < n := by have := (List.getElem?_eq_some_iff.1 hz).1; omega
  obtain ⟨p, hg⟩ : ∃ p, gs[j]? = some p := ⟨_, List.getElem?_eq_getElem (by rw [h.len]; exact hj)⟩
  obtain ⟨b, o⟩ := p
  obtain ⟨_, h2, _, h4⟩ := h.each j b o zs hg hz
  refine ⟨some ⟨b, o, none⟩, zs.length, zs.length, ?_, ⟨rfl, fun _ => ⟨_, rfl, h2, fun i v hv => ?_⟩⟩, Nat.le_refl _, hbig zs (List.mem_of_getElem? hz)⟩
  · rw [add_at, h.row.cell hj]
    unfold stV
    rw [hg, hz]
  · rw [Addr.add_lit]
    exact h4 i v hv

/-- what stacks answers -/
def GivesStacks (w : World) (n : Nat) (zss : List (List Int)) (e : Ending) (w' : World) : Prop :=
  ∃ (g0 : Nat) (gs : List (Nat × Nat)) (pv : Value) (q : Nat), e = .returned (.slice (some ⟨g0, 0, none⟩) n n) ∧ w.heap.size ≤ g0 ∧ Stacked w' (g0 + 1) g0 n n gs zss pv q ∧ Below w.heap.size w w'

end Go.Proofs.Ytjoknbknhfnggaa
