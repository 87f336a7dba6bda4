/- FirstKeys of the program. -/
import Derived.Test.YtpabccgndhmcdaaPile
namespace Go.Proofs.Ytpabccgndhmcdaa
open Go.RowKit

def fkL (m : Mk) (n : Int) : List (List Int) := if m.ok && inB n 0 300 then (allKeys m).take n.toNat else []
def fkE (m : Mk) (n : Int) : Int := if m.ok then (if inB n 0 300 then 0 else 2) else 1
theorem fk_bad {m : Mk} {n : Int} (h : m.ok = false) : fkL m n = [] ∧ fkE m n = 1 := by simp [fkL, fkE, h]
theorem fk_no {m : Mk} {n : Int} (h : m.ok = true) (h2 : inB n 0 300 = false) : fkL m n = [] ∧ fkE m n = 2 := by simp [fkL, fkE, h, h2]
theorem fk_yes {m : Mk} {n : Int} (h : m.ok = true) (h2 : inB n 0 300 = true) : fkL m n = (allKeys m).take n.toNat ∧ fkE m n = 0 := by simp [fkL, fkE, h, h2]
def codeI (more : Bool) : Int := if more then 0 else 4
def lenOf : Value → Nat
  | .slice _ n _ => n
  | _ => 0

/-- the key at hand, and those that follow it: none is left, or the value kv is the first of R, a list of its own apart from the pile v -/
def AtHand (w : World) (lo p : Nat) (v : Value) (gs : List (Addr × Nat)) (kv : Value) (more : Bool) (R : List (List Int)) : Prop :=
  (R = [] ∧ more = false) ∨ ∃ a c y R', R = y :: R' ∧ more = true ∧ kv = .slice (some a) p c ∧ Self w a p y ∧ lo ≤ a.block ∧ p ≤ c ∧ c ≤ 9223372036854775807 ∧ v.ownBlock ≠ some a.block ∧ ∀ b ∈ gs, b.1.block ≠ a.block
theorem AtHand.next {w w' : World} {lo p n : Nat} {v : Value} {gs : List (Addr × Nat)} {yss : List (List Int)} {A : Option Addr} {c q : Nat} {y : List Int} {R : List (List Int)} (hp : 0 < p) (hpile : Pile w lo v n p gs yss) (hlo : lo ≤ w.heap.size)
    (ho : Own w' w.heap.size w'.heap.size A q y) (hy : y.length = p) (hc : q ≤ c) (hcm : c ≤ 9223372036854775807) : AtHand w' lo p v gs (.slice A q c) true (y :: R) := by
  obtain rfl : q = p := by rw [← ho.len, hy]
  obtain ⟨a, _, rfl, _⟩ := ho.at_ hp
  obtain ⟨h1, h2, h3⟩ := ho.self hp
  refine .inr ⟨a, c, y, R, rfl, rfl, rfl, h1, by omega, hc, hcm, ?_, ?_⟩
  · intro e
    rcases hpile.row.2 with ⟨rfl, _⟩ | ⟨g, cap, cur, rfl, _, hg, _⟩
    · cases e
    · have := heapLt hg
      have e' : g = a.block := by simpa [Value.ownBlock] using e
      omega
  · intro b hb e
    obtain ⟨j, hj⟩ := List.getElem?_of_mem hb
    have hjn : j < n := by rw [← hpile.glen]; exact (List.getElem?_eq_some_iff.1 hj).1
    obtain ⟨h4, _⟩ := hpile.inner j b yss[j]! hj (by rw [List.getElem!_eq_getElem?_getD, List.getElem?_eq_getElem (by rw [hpile.len]; exact hjn)]; rfl)
    have := h4.lt
    omega

end Go.Proofs.Ytpabccgndhmcdaa
