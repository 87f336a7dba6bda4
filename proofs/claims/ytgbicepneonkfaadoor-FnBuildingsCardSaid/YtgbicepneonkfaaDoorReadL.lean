/- The model's l01Read and ReadList: their contracts. -/
import Derived.Test.YtgbicepneonkfaaDoorSplit2
namespace Go.Proofs.YtgbicepneonkfaaDoor
open Go.RowKit

def cellsI (xs : List Int) : List Value := xs.map (Value.int .i64)
theorem cellsI_snoc (xs : List Int) (v : Int) : cellsI xs ++ [.int .i64 v] = cellsI (xs ++ [v]) := by simp [cellsI]
theorem own_of_rows {w : World} {base t n : Nat} {v : Value} {xs : List Int} (h : w.ownsRow base t 1 v n (cellsI xs)) (hl : xs.length = n) : ∃ A c, v = .slice A n c ∧ Own w base w.heap.size A n xs := by
  rcases h.2 with ⟨rfl, rfl⟩ | ⟨g, cap, cur, rfl, hb, hg, hnc, hcm, hcs, htk⟩
  · obtain rfl := List.eq_nil_of_length_eq_zero hl
    exact ⟨none, 0, rfl, Own.nil _ (Nat.le_refl _)⟩
  · have hlt : g < w.heap.size := by
      rcases Nat.lt_or_ge g w.heap.size with h1 | h1
      · exact h1
      · rw [Array.getElem?_eq_none h1] at hg; cases hg
    refine ⟨_, _, rfl, hl, Nat.le_refl _, fun _ => ⟨_, rfl, hb, hlt, fun j u hu => ?_⟩⟩
    have hc := h.cells (g := g) rfl j (.int .i64 u) (by unfold cellsI; rw [List.getElem?_map, hu]; rfl)
    refine ⟨?_, hc⟩
    unfold Addr.add
    split <;> simp [World.frozen?, hg]

def rdAll (ws : List (List UInt8)) : Bool := ws.all rdB
def vals (ws : List (List UInt8)) : List Int := ws.map (fun w => (valD w : Int))
theorem rdAll_no {ws : List (List UInt8)} {k : Nat} {x : List UInt8} (hx : ws[k]? = some x) (h : rdB x = false) : rdAll ws = false := by
  unfold rdAll
  rw [List.all_eq_false]
  exact ⟨x, List.mem_of_getElem? hx, by simp [h]⟩
theorem rdAll_step {ws : List (List UInt8)} {k : Nat} {x : List UInt8} (hx : ws[k]? = some x) (hk : rdAll (ws.take k) = true) (h : rdB x = true) : rdAll (ws.take (k + 1)) = true := by
  obtain ⟨hl, rfl⟩ := List.getElem?_eq_some_iff.1 hx
  unfold rdAll at *
  rw [List.take_succ_eq_append_getElem hl, List.all_append, hk]
  simp [h]
theorem vals_step {ws : List (List UInt8)} {k : Nat} {x : List UInt8} (hx : ws[k]? = some x) : vals (ws.take (k + 1)) = vals (ws.take k) ++ [(valD x : Int)] := by
  obtain ⟨hl, rfl⟩ := List.getElem?_eq_some_iff.1 hx
  unfold vals
  rw [List.take_succ_eq_append_getElem hl, List.map_append]
  rfl
theorem rd_val {l : List UInt8} (h : rdB l = true) : valOut l = valD l := by
  unfold rdB at h
  simp at h
  simp [valOut, h.1]

def readOk (l : List UInt8) : Bool := decide (l = [45]) || rdAll (cutL 44 l)
def readV (l : List UInt8) : List Int := if l = [45] then [] else if rdAll (cutL 44 l) then vals (cutL 44 l) else []
theorem read_dash {l : List UInt8} (h : l = [45]) : readV l = [] ∧ readOk l = true := by simp [readV, readOk, h]
theorem read_no {l : List UInt8} (h : l ≠ [45]) (h2 : rdAll (cutL 44 l) = false) : readV l = [] ∧ readOk l = false := by simp [readV, readOk, h, h2]
theorem read_yes {l : List UInt8} (h : l ≠ [45]) (h2 : rdAll (cutL 44 l) = true) : readV l = vals (cutL 44 l) ∧ readOk l = true := by simp [readV, readOk, h, h2]

/-- what a call answers that gives a list of its own and a yes or no -/
def GivesIntsOk (w : World) (ok : Bool) (xs : List Int) (e : Ending) (w' : World) : Prop :=
  ∃ A n c, e = .returned (.tuple #[.slice A n c, .bool ok]) ∧ Own w' w.heap.size w'.heap.size A n xs ∧ n ≤ 1048577 ∧ Below w.heap.size w w'
theorem ret_sb {A : Option Addr} {n c : Nat} {a b : Bool} (h : a = b) : Ending.returned (.tuple #[.slice A n c, .bool a]) = .returned (.tuple #[.slice A n c, .bool b]) := by rw [h]

theorem own_below {w w2 : World} {base t n : Nat} {v : Value} {xs : List Value} (h : w.ownsRow base t 1 v n xs) (hb : Below w.heap.size w w2) : w2.ownsRow base t 1 v n xs := by
  refine ⟨h.1, ?_⟩
  rcases h.2 with h0 | ⟨g, cap, cur, e, h1, hg, rest⟩
  · exact .inl h0
  · have hlt : g < w.heap.size := by
      rcases Nat.lt_or_ge g w.heap.size with h2 | h2
      · exact h2
      · rw [Array.getElem?_eq_none h2] at hg; cases hg
    exact .inr ⟨g, cap, cur, e, h1, (hb.block g hlt).trans hg, rest⟩
theorem str_cell {w : World} {base t n k : Nat} {v : Value} {ps : List ByteArray} (h : w.ownsRow base t 1 v n (strs ps)) (hl : ps.length = n) (hk : k < n) :
    ∃ g cap p, v = .slice (some ⟨g, 0, none⟩) n cap ∧ base ≤ g ∧ g < w.heap.size ∧ ps[k]? = some p ∧ w.cell? ⟨g, k, none⟩ = some (.string p) := by
  obtain ⟨g, cap, hv, hb, hlt⟩ := h.form (by omega)
  have hx : ps[k]? = some ps[k] := List.getElem?_eq_getElem (by omega)
  refine ⟨g, cap, ps[k], hv, hb, hlt, hx, ?_⟩
  have hc := h.cells (g := g) (by rw [hv]; rfl) k (.string ps[k]) (by unfold strs; rw [List.getElem?_map, hx]; rfl)
  unfold Addr.add at hc
  split at hc
  · next h0 => subst h0; exact hc
  · simpa using hc

theorem l01Split_comma (s : ByteArray) (w : World) (hs : s.size ≤ 1048576) :
    Calls Tryd.prog 44 #[.string s, .int .u8 44] w (GivesStrs w (cutL 44 s.data.toList)) := l01Split_any s 44 w hs
theorem bytes_at {ps : List ByteArray} {ls : List (List UInt8)} {k : Nat} {p : ByteArray} (h : bytesOf ps = ls) (hp : ps[k]? = some p) : ls[k]? = some p.data.toList := by
  rw [← h]; unfold bytesOf; rw [List.getElem?_map, hp]; rfl

def okL (l : List UInt8) : Bool := readOk l && withB 0 1000000000000 (readV l)
def outL (l : List UInt8) : List Int := if okL l then readV l else []
def codeL (l : List UInt8) : Int := if okL l then 0 else 6
theorem okL_no {l : List UInt8} (h : readOk l = false ∨ withB 0 1000000000000 (readV l) = false) : outL l = [] ∧ codeL l = 6 := by
  have : okL l = false := by unfold okL; rcases h with h | h <;> simp [h]
  simp [outL, codeL, this]
theorem okL_yes {l : List UInt8} (h : readOk l = true) (h2 : withB 0 1000000000000 (readV l) = true) : outL l = readV l ∧ codeL l = 0 := by
  have : okL l = true := by unfold okL; simp [h, h2]
  simp [outL, codeL, this]

end Go.Proofs.YtgbicepneonkfaaDoor
