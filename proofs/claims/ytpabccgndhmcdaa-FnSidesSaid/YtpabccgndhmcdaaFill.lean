/- fillKey of the program. -/
import Derived.Test.YtpabccgndhmcdaaMay
import Derived.Test.YtpabccgndhmcdaaRow
import Derived.Deep.RegionHeld3
namespace Go.Proofs.Ytpabccgndhmcdaa
open Go.RowKit

theorem grown_below {a w w' : World} {row : Option Nat} (h : a.grownBy w row) (hb : Below w.heap.size w w') : a.grownBy w' row :=
  ⟨hb.os.trans h.os, hb.tape.trans h.tape, hb.output.trans h.output, Nat.le_trans h.size hb.size, fun i hi hn => (hb.block i (Nat.lt_of_lt_of_le hi h.size)).trans (h.block i hi hn)⟩
theorem grown_then {a b c : World} {row : Option Nat} (h : a.grownBy b row) (k : b.grownBy c row) : a.grownBy c row :=
  ⟨k.os.trans h.os, k.tape.trans h.tape, k.output.trans h.output, Nat.le_trans h.size k.size, fun i hi hn => (k.block i (Nat.lt_of_lt_of_le hi h.size) hn).trans (h.block i hi hn)⟩
theorem grown_dn {a w : World} {row : Option Nat} (h : a.grownBy w row) (n : Nat) : a.grownBy (w.drewN n) row := ⟨h.os, h.tape, h.output, h.size, h.block⟩
theorem Own.dn {w : World} {lo hi n : Nat} {A : Option Addr} {xs : List Int} (h : Own w lo hi A n xs) (k : Nat) : Own (w.drewN k) lo hi A n xs := h
theorem Own.put {w : World} {lo hi n : Nat} {ad : Addr} {xs : List Int} {j : Nat} (v : Int) (h : Own w lo hi (some ad) n xs) (hj : j < n) : Own (w.setCell (ad.add j) (.int .i64 v)) lo hi (some ad) n (xs.set j v) := by
  refine ⟨by rw [List.length_set, h.len], by simpa [World.setCell] using h.2.1, fun hn => ?_⟩
  obtain ⟨ad', e, h1, h2, hc⟩ := h.2.2 hn
  obtain rfl : ad = ad' := by injection e
  refine ⟨ad, rfl, h1, h2, fun i u hu => ?_⟩
  by_cases e : i = j
  · subst e
    obtain ⟨_, v', e', _, _, _, hf, hcell⟩ := h.at_ hj
    injection e' with e'
    subst e'
    rw [List.getElem?_set_self (by rw [h.len]; exact hj)] at hu
    obtain rfl : v = u := by injection hu
    exact ⟨by rw [World.frozen?_setCell]; exact hf, World.cell?_setCell_same _ _ _ hcell⟩
  · rw [List.getElem?_set_ne (Ne.symm e)] at hu
    rw [World.frozen?_setCell, World.cell?_setCell_other _ _ _ _ (add_ne ad (Ne.symm e))]
    exact hc i u hu
theorem take_set {xs : List Int} {j : Nat} {v : Int} (hj : j < xs.length) : (xs.set j v).take (j + 1) = xs.take j ++ [v] := by
  rw [List.take_succ_eq_append_getElem (by rw [List.length_set]; exact hj), List.getElem_set_self, List.take_set_of_le (Nat.le_refl _)]
theorem take_set' {xs : List Int} {j : Nat} {v : Int} : (xs.set j v).take j = xs.take j := List.take_set_of_le (Nat.le_refl _)

/-- what fillKey answers: T are the keys that it looks for the first of -/
def Filled (w : World) (lo hi : Nat) (ad : Addr) (n ch : Nat) (ys : List Int) (T : List (List Int)) (e : Ending) (w' : World) : Prop :=
  ∃ (ok : Bool) (zs : List Int), e = .returned (.bool ok) ∧ Own w' lo hi (some ad) n zs ∧ w.grownBy w' (some ad.block) ∧ zs.take ch = ys.take ch ∧ ((ok = true ∧ T.head? = some zs) ∨ (ok = false ∧ T = []))
theorem depth_snoc {m : Mk} {xs : List Int} {d : Nat} (h : allIn 0 (m.D - 1) xs = true) (hd : (d : Int) < m.D) : allIn 0 (m.D - 1) (xs ++ [(d : Int)]) = true := by
  unfold allIn at *
  rw [List.all_append, h]
  simp [inB]; omega

end Go.Proofs.Ytpabccgndhmcdaa
