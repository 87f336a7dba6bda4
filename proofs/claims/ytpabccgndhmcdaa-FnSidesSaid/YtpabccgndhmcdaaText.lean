/- Numbers as texts: the model's decimal numerals and texts of lists. -/
import Derived.Test.YtpabccgndhmcdaaList
import Derived.Test.YtpabccgndhmcdaaOwn
import Derived.Lib.ItoaNum
import Derived.Lib.Join
import Derived.Laws.IdiomStrings
import Derived.Laws.Concat
import Derived.Deep.RegionHeld3
namespace Go.Proofs.Ytpabccgndhmcdaa
open Go.RowKit

theorem bcell {W w1 : World} {B : Nat} (hb : Below B W w1) : (∀ b o, b < B → w1.cell? ⟨b, o, none⟩ = W.cell? ⟨b, o, none⟩) ∧ (∀ b o, b < B → w1.frozen? ⟨b, o, none⟩ = W.frozen? ⟨b, o, none⟩) :=
  ⟨fun b o h => hb.cell (p := ⟨b, o, none⟩) h, fun b o h => hb.frozen (p := ⟨b, o, none⟩) h⟩

/-- the text t is the bytes l, at most m of them -/
def Txt (t : ByteArray) (l : List UInt8) : Prop := t.data.toList = l
/-- what a call answers that gives a text -/
def GivesText (w : World) (l : List UInt8) (m : Nat) (e : Ending) (w' : World) : Prop := ∃ t : ByteArray, e = .returned (.string t) ∧ Txt t l ∧ t.size ≤ m ∧ Below w.heap.size w w'
theorem size_of {t : ByteArray} {l : List UInt8} (h : t.data.toList = l) : t.size = l.length := by
  rw [← h, Array.length_toList]; rfl
theorem text_eq {s t : ByteArray} (h : s.data.toList = t.data.toList) : s = t := by
  cases s; cases t
  congr 1
  exact Array.ext' h
theorem size_add (s t : ByteArray) : (s ++ t).size = s.size + t.size := ByteArray.size_append
theorem text_add (s t : ByteArray) : (s ++ t).data.toList = s.data.toList ++ t.data.toList := by simp [ByteArray.data_append]

def dig8 (d : Nat) : UInt8 := UInt8.ofNat (48 + d)
def one8 (d : Nat) : ByteArray := ⟨#[dig8 d]⟩
theorem one8_size (d m : Nat) (h : 1 ≤ m) : (one8 d).size ≤ m := h
theorem dig8_nat {d : Nat} (hd : d < 10) : ((dig8 d).toNat : Int) = 48 + (d : Int) := by
  have e : (dig8 d).toNat = 48 + d := UInt8.toNat_ofNat_of_lt' (show 48 + d < 256 by omega)
  rw [e]; rfl
theorem digits_small {n : Nat} (h : n < 10) : Lib.decDigits n = [dig8 n] := by rw [Lib.decDigits, dif_pos h]; rfl
theorem digits_big {n : Nat} (h : ¬ n < 10) : Lib.decDigits n = Lib.decDigits (n / 10) ++ [dig8 (n % 10)] := by rw [Lib.decDigits, dif_neg h]; rfl
theorem digits_le : ∀ (k n : Nat), n < 10 ^ (k + 1) → (Lib.decDigits n).length ≤ k + 1
  | 0, n, h => by rw [digits_small (by simpa using h)]; simp
  | k + 1, n, h => by
    by_cases hn : n < 10
    · rw [digits_small hn]; simp
    · rw [digits_big hn, List.length_append]
      have := digits_le k (n / 10) (by rw [Nat.pow_succ] at h; omega)
      simp; omega
theorem digits_13 {n : Nat} (h : n ≤ 9999999999999) : (Lib.decDigits n).length ≤ 13 := digits_le 12 n (by omega)

theorem one_byte (W : World) (g : Nat) (d : Nat) (hd : d < 10) (hc : W.cell? ⟨g, 0, none⟩ = some (.int .u8 (48 + (d : Int)))) :
    (convert 22 9 (.slice (some ⟨g, 0, none⟩) 1 1)).run Try.prog W = .ok (.string (one8 d)) W := by
  refine run_convert_bytes_back W _ _ 5 ⟨g, 0, none⟩ 1 [dig8 d] Try.underlying22 Try.underlying5 Try.underlying9 ?_
  intro j hj
  simp at hj
  subst hj
  simp only [List.getElem_cons_zero, dig8_nat hd]
  simpa [Addr.add] using hc

/-- the text of a list of numbers -/
def txtL (xs : List Int) : List UInt8 := Lib.join (xs.map Lib.itoa) [44]
theorem itoa_nat {v : Int} (h : 0 ≤ v) : Lib.itoa v = Lib.decDigits v.toNat := by unfold Lib.itoa; rw [if_neg (by omega)]
theorem txt_first {xs : List Int} {v : Int} (hv : xs[0]? = some v) (h : 0 ≤ v) : txtL (xs.take 1) = Lib.decDigits v.toNat := by
  cases xs with
  | nil => cases hv
  | cons x r =>
    simp at hv
    subst hv
    unfold txtL
    rw [← itoa_nat h]
    exact Lib.join_one _ _
theorem txt_next {xs : List Int} {k : Nat} {v : Int} (hv : xs[k]? = some v) (h : 0 ≤ v) (hk : 0 < k) : txtL (xs.take (k + 1)) = txtL (xs.take k) ++ [44] ++ Lib.decDigits v.toNat := by
  cases xs with
  | nil => simp at hv
  | cons x r =>
    obtain ⟨q, rfl⟩ : ∃ q, k = q + 1 := ⟨k - 1, by omega⟩
    have hr : (r.map Lib.itoa)[q]? = some (Lib.itoa v) := by
      rw [List.getElem?_map]
      simp at hv
      rw [hv]; rfl
    unfold txtL
    rw [List.take_succ_cons, List.take_succ_cons, List.map_cons, List.map_cons, List.map_take, List.map_take, Lib.join_cons, Lib.join_cons, Lib.joinTail_take_succ _ _ _ _ hr, itoa_nat h]
    simp only [List.append_assoc]
def listT (xs : List Int) : List UInt8 := if withB 0 1000000000000 xs then (if xs.length = 0 then [45] else txtL xs) else []
def listE (xs : List Int) : Int := if withB 0 1000000000000 xs then 0 else 2
theorem list_no {xs : List Int} (h : withB 0 1000000000000 xs = false) : listT xs = [] ∧ listE xs = 2 := by simp [listT, listE, h]
theorem list_none {xs : List Int} (h : withB 0 1000000000000 xs = true) (h2 : xs.length = 0) : listT xs = [45] ∧ listE xs = 0 := by simp [listT, listE, h, h2]
theorem list_some {xs : List Int} (h : withB 0 1000000000000 xs = true) (h2 : xs.length ≠ 0) : listT xs = txtL xs ∧ listE xs = 0 := by simp [listT, listE, h, h2]

/-- what a call answers that gives a text and a code -/
def GivesTextCode (w : World) (code : Int) (l : List UInt8) (m : Nat) (e : Ending) (w' : World) : Prop :=
  ∃ t : ByteArray, e = .returned (.tuple #[.string t, .int .i64 code]) ∧ Txt t l ∧ t.size ≤ m ∧ Below w.heap.size w w'
theorem ret_tc {t : ByteArray} {a b : Int} (h : a = b) : Ending.returned (.tuple #[.string t, .int .i64 a]) = .returned (.tuple #[.string t, .int .i64 b]) := by rw [h]

end Go.Proofs.Ytpabccgndhmcdaa
