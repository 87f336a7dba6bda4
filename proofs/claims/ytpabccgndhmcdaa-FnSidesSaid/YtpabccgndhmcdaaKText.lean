/- KeyText of the program. -/
import Derived.Test.YtpabccgndhmcdaaSFault
import Derived.Test.YtpabccgndhmcdaaRow
import Derived.Test.YtpabccgndhmcdaaText
namespace Go.Proofs.Ytpabccgndhmcdaa
open Go.RowKit

/-- the text of cuts -/
def textK (xs : List Int) : List UInt8 := xs.map (fun v => dig8 v.toNat)
def ktT (m : Mk) (xs : List Int) : List UInt8 := if isKeyB m xs then textK xs else []
def ktE (m : Mk) (xs : List Int) : Int := if m.ok then (if isKeyB m xs then 0 else 2) else 1
theorem kt_bad {m : Mk} {xs : List Int} (h : m.ok = false) : ktT m xs = [] ∧ ktE m xs = 1 := by simp [ktT, ktE, isKeyB, h]
theorem kt_no {m : Mk} {xs : List Int} (h : m.ok = true) (h2 : isKeyB m xs = false) : ktT m xs = [] ∧ ktE m xs = 2 := by simp [ktT, ktE, h, h2]
theorem kt_yes {m : Mk} {xs : List Int} (h : m.ok = true) (h2 : isKeyB m xs = true) : ktT m xs = textK xs ∧ ktE m xs = 0 := by simp [ktT, ktE, h, h2]
theorem key_facts {m : Mk} {xs : List Int} (h : isKeyB m xs = true) : m.ok = true ∧ (xs.length : Int) = m.C ∧ allIn 0 (m.D - 1) xs = true ∧ stepsB m.S xs = true ∧ runsB m.M xs = true ∧ m.L ≤ (kinds xs : Int) := by
  unfold isKeyB at h
  rw [Bool.and_eq_true] at h
  refine ⟨h.1, ?_⟩
  have hf : faultV m xs = 0 := by simpa using h.2
  unfold faultV at hf
  by_cases h1 : (xs.length : Int) = m.C
  · rw [if_neg (by simp [h1])] at hf
    rcases h2 : allIn 0 (m.D - 1) xs with _ | _
    · rw [if_pos h2] at hf; cases hf
    · rw [if_neg (by simp [h2])] at hf
      rcases h3 : stepsB m.S xs with _ | _
      · rw [if_pos h3] at hf; cases hf
      · rw [if_neg (by simp [h3])] at hf
        rcases h4 : runsB m.M xs with _ | _
        · rw [if_pos h4] at hf; cases hf
        · rw [if_neg (by simp [h4])] at hf
          by_cases h5 : (kinds xs : Int) < m.L
          · rw [if_pos h5] at hf; cases hf
          · exact ⟨h1, rfl, rfl, rfl, by omega⟩
  · rw [if_pos h1] at hf; cases hf
theorem text_len (xs : List Int) : (textK xs).length = xs.length := by simp [textK]
theorem text_at {xs : List Int} {j : Nat} (hd : allIn 0 7 xs = true) (hj : j < (textK xs).length) : (((textK xs)[j]'hj).toNat : Int) = 48 + xs.getD j 0 := by
  have hj' : j < xs.length := by simpa [textK] using hj
  have hv : xs[j]? = some xs[j] := List.getElem?_eq_getElem hj'
  obtain ⟨a, b⟩ := allIn_at hd hv
  show (((xs.map (fun v => dig8 v.toNat))[j]'(by simpa using hj')).toNat : Int) = _
  rw [List.getElem_map, dig8_nat (by omega), getD_at hv]
  omega
theorem allIn_wide {lo hi lo' hi' : Int} {xs : List Int} (h : allIn lo hi xs = true) (h1 : lo' ≤ lo) (h2 : hi ≤ hi') : allIn lo' hi' xs = true := by
  unfold allIn at *
  rw [List.all_eq_true] at *
  intro v hv
  have := inB_true.1 (h v hv)
  exact inB_true.2 (by omega)

/-- what a call answers that gives a text and a code -/
def GivesTextE (w : World) (l : List UInt8) (code : Int) (e : Ending) (w' : World) : Prop := ∃ t : ByteArray, e = .returned (.tuple #[.string t, .int .i64 code]) ∧ Txt t l ∧ t.size ≤ 1048576 ∧ Below w.heap.size w w'
theorem ret_te {t : ByteArray} {a b : Int} (h : a = b) : Ending.returned (.tuple #[.string t, .int .i64 a]) = .returned (.tuple #[.string t, .int .i64 b]) := by rw [h]
/-- the row of a text after k signs -/
def signRow (xs : List Int) (k : Nat) (j : Nat) : Value := .int .u8 (if j < k then 48 + xs.getD j 0 else 0)
theorem signRow_set {xs : List Int} {k : Nat} {v : Int} (hv : xs[k]? = some v) (j : Nat) : (if j = k then Value.int .u8 (48 + v) else signRow xs k j) = signRow xs (k + 1) j := by
  unfold signRow
  by_cases h : j = k
  · subst h
    rw [if_pos rfl, if_pos (by omega), getD_at hv]
  · rw [if_neg h]
    by_cases h2 : j < k
    · rw [if_pos h2, if_pos (by omega)]
    · rw [if_neg h2, if_neg (by omega)]
theorem text_run {W : World} {g : Nat} {xs : List Int} {n cap : Nat} (hl : xs.length = n) (hd : allIn 0 7 xs = true) (hc : ∀ j, j < n → W.cell? ⟨g, j, none⟩ = some (.int .u8 (48 + xs.getD j 0))) :
    ∃ t : ByteArray, Txt t (textK xs) ∧ t.size = n ∧ (convert 22 9 (.slice (some ⟨g, 0, none⟩) n cap)).run Try.prog W = .ok (.string t) W := by
  refine ⟨⟨(textK xs).toArray⟩, rfl, ?_, ?_⟩
  · show (textK xs).toArray.size = n
    simp [text_len, hl]
  · have e : n = (textK xs).length := by rw [text_len, hl]
    rw [e]
    refine run_convert_bytes_back W _ _ 5 ⟨g, 0, none⟩ cap (textK xs) Try.underlying22 Try.underlying5 Try.underlying9 ?_
    intro j hj
    rw [text_at hd hj]
    have := hc j (by rw [text_len, hl] at hj; exact hj)
    unfold Addr.add
    split
    · next h0 => subst h0; exact this
    · simpa using this

end Go.Proofs.Ytpabccgndhmcdaa
