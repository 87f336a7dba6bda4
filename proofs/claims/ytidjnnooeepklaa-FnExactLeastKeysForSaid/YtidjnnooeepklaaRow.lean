/- Rows of a call's own that grow by append: words. Numbers as texts: the model's decimal numerals and texts of lists. KeyText of the program. The keys of a maker in their order: plain functions of lists. No program text. -/
import Derived.Test.YtidjnnooeepklaaOwn
import Derived.Laws.AppendOwn
import Derived.Maps.AppendAt
import Derived.Deep.AppendLies
import Derived.OwnWalk
import Derived.Lib.ItoaNum
import Derived.Lib.Join
import Derived.Laws.IdiomStrings
import Derived.Laws.Concat
import Derived.Deep.RegionHeld3
import Derived.Test.YtidjnnooeepklaaFault
namespace Go.Proofs.Ytidjnnooeepklaa
open Go.RowKit

theorem heapLt {w : World} {g : Nat} {o : Obj} (h : w.heap[g]? = some o) : g < w.heap.size := by
  rcases Nat.lt_or_ge g w.heap.size with hlt | hge
  · exact hlt
  · rw [Array.getElem?_eq_none hge] at h; cases h
theorem rowBase {w : World} {base t s n : Nat} {v : Value} {xs : List Value} (h : w.ownsRow base t s v n xs) : ∀ k, v.ownBlock = some k → base ≤ k := by
  intro k hk
  rcases h.2 with ⟨rfl, _⟩ | ⟨g, cap, cur, rfl, hb, _⟩
  · cases hk
  · have : g = k := by simpa [Value.ownBlock] using hk
    omega
theorem rowNil {w : World} {base t s : Nat} (hb : base ≤ w.heap.size) : (w.alloc (.cells #[] t)).ownsRow base t s (.slice (some ⟨w.heap.size, 0, none⟩) 0 0) 0 [] :=
  ⟨by simp, .inr ⟨w.heap.size, 0, #[], rfl, hb, heap_alloc_new w _, Nat.le_refl _, by unfold maxLen; omega, by simp, by simp⟩⟩
theorem rowBelow {w w2 : World} {base t s n : Nat} {v : Value} {xs : List Value} (h : w.ownsRow base t s v n xs) (hb : Below w.heap.size w w2) : w2.ownsRow base t s v n xs := by
  refine ⟨h.1, ?_⟩
  rcases h.2 with h0 | ⟨g, cap, cur, e, h1, hg, rest⟩
  · exact .inl h0
  · exact .inr ⟨g, cap, cur, e, h1, (hb.block g (heapLt hg)).trans hg, rest⟩
theorem rowDrewN {w : World} {base t s n : Nat} {v : Value} {xs : List Value} (h : w.ownsRow base t s v n xs) (k : Nat) : (w.drewN k).ownsRow base t s v n xs := h
theorem rowMore {w : World} {base base' t s n : Nat} {v : Value} {xs : List Value} (h : w.ownsRow base t s v n xs) (hb : base' ≤ base) : w.ownsRow base' t s v n xs := by
  refine ⟨h.1, ?_⟩
  rcases h.2 with h0 | ⟨g, cap, cur, e, h1, hg, rest⟩
  · exact .inl h0
  · exact .inr ⟨g, cap, cur, e, by omega, hg, rest⟩
def intsV (xs : List Int) : List Value := xs.map (Value.int .i64)
theorem intsV_snoc (xs : List Int) (v : Int) : intsV xs ++ [.int .i64 v] = intsV (xs ++ [v]) := by simp [intsV]
theorem intsV_len (xs : List Int) : (intsV xs).length = xs.length := by simp [intsV]
theorem intsV_one (xs : List Int) : ∀ u ∈ intsV xs, u.oneCell' = true := by
  intro u hu
  unfold intsV at hu
  obtain ⟨v, _, rfl⟩ := List.mem_map.1 hu
  rfl
/-- a row of integers as a list of the call's own, with its capacity -/
theorem rowInts {w : World} {base t n : Nat} {v : Value} {xs : List Int} (h : w.ownsRow base t 1 v n (intsV xs)) (hl : xs.length = n) : ∃ A c, v = .slice A n c ∧ Own w base w.heap.size A n xs ∧ n ≤ c ∧ c ≤ 9223372036854775807 := by
  rcases h.2 with ⟨rfl, rfl⟩ | ⟨g, cap, cur, rfl, hb, hg, hnc, hcm, hcs, htk⟩
  · obtain rfl := List.eq_nil_of_length_eq_zero hl
    exact ⟨none, 0, rfl, Own.nil _ (Nat.le_refl _), by omega, by omega⟩
  · have hlt : g < w.heap.size := heapLt hg
    refine ⟨_, _, rfl, ⟨hl, Nat.le_refl _, fun _ => ⟨_, rfl, hb, hlt, fun j u hu => ?_⟩⟩, hnc, by unfold maxLen at hcm; omega⟩
    have hc := h.cells (g := g) rfl j (.int .i64 u) (by unfold intsV; rw [List.getElem?_map, hu]; rfl)
    refine ⟨?_, hc⟩
    unfold Addr.add
    split <;> simp [World.frozen?, hg]

def capOf : Value → Nat
  | .slice _ _ c => c
  | _ => 0
/-- .. of a row whose slice is known -/
theorem rowIntsAt {w : World} {base t n g cap : Nat} {xs : List Int} (h : w.ownsRow base t 1 (.slice (some ⟨g, 0, none⟩) n cap) n (intsV xs)) (hl : xs.length = n) : Own w base w.heap.size (some ⟨g, 0, none⟩) n xs ∧ n ≤ cap ∧ cap ≤ 9223372036854775807 := by
  rcases h.2 with ⟨e, _⟩ | ⟨g', cap', cur, e, hb, hg, hnc, hcm, hcs, htk⟩
  · have := congrArg Value.ownBlock e
    simp [Value.ownBlock] at this
  · have e1 : g = g' := by have := congrArg Value.ownBlock e; simpa [Value.ownBlock] using this
    have e2 : cap = cap' := congrArg capOf e
    subst e1; subst e2
    have hlt : g < w.heap.size := heapLt hg
    refine ⟨⟨hl, Nat.le_refl _, fun _ => ⟨_, rfl, hb, hlt, fun j u hu => ?_⟩⟩, hnc, by unfold maxLen at hcm; omega⟩
    have hc := h.cells (g := g) rfl j (.int .i64 u) (by unfold intsV; rw [List.getElem?_map, hu]; rfl)
    refine ⟨?_, hc⟩
    unfold Addr.add
    split <;> simp [World.frozen?, hg]

/-- a block that holds one value -/
def Cell1 (w : World) (b : Nat) (t : TypeId) (v : Value) : Prop := w.heap[b]? = some (.cells #[v] t (0, 0))
theorem Cell1.lt {w : World} {b : Nat} {t : TypeId} {v : Value} (h : Cell1 w b t v) : b < w.heap.size := heapLt h
theorem Cell1.new (w : World) (t : TypeId) (v : Value) : Cell1 (w.alloc (.cells #[v] t)) w.heap.size t v := heap_alloc_new w _
theorem Cell1.on {w w' : World} {b : Nat} {t : TypeId} {v : Value} (h : Cell1 w b t v) (hb : Below w.heap.size w w') : Cell1 w' b t v := (hb.block b h.lt).trans h
theorem Cell1.below {w w' : World} {b B : Nat} {t : TypeId} {v : Value} (h : Cell1 w b t v) (hb : Below B w w') (hB : b < B) : Cell1 w' b t v := (hb.block b hB).trans h
theorem Cell1.alloc {w : World} {b : Nat} {t : TypeId} {v : Value} (h : Cell1 w b t v) (o : Obj) : Cell1 (w.alloc o) b t v := (Below.heap_alloc w o b h.lt).trans h
theorem Cell1.grown {w w' : World} {b : Nat} {t : TypeId} {v : Value} {row : Option Nat} (h : Cell1 w b t v) (hg : w.grownBy w' row) (hr : some b ≠ row) : Cell1 w' b t v := (hg.block b h.lt hr).trans h
theorem Cell1.cell {w : World} {b : Nat} {t : TypeId} {v : Value} (h : Cell1 w b t v) : w.cell? ⟨b, 0, none⟩ = some v := by unfold Cell1 at h; simp [World.cell?, h]
theorem Cell1.thawed {w : World} {b : Nat} {t : TypeId} {v : Value} (h : Cell1 w b t v) : w.frozen? ⟨b, 0, none⟩ = false := by unfold Cell1 at h; simp [World.frozen?, h]
theorem Cell1.put {w : World} {b : Nat} {t : TypeId} {v : Value} (h : Cell1 w b t v) (u : Value) : Cell1 (w.setCell ⟨b, 0, none⟩ u) b t u := by
  unfold Cell1 at *
  simp [World.setCell, Array.getElem?_modify, h]
theorem Cell1.other {w : World} {b : Nat} {t : TypeId} {v : Value} (h : Cell1 w b t v) {p : Addr} (hp : b ≠ p.block) (u : Value) : Cell1 (w.setCell p u) b t v := (Below.heap_setCell w p u b hp).trans h

/-- what a call answers that gives a list of its own and a code -/
def GivesList (w : World) (code : Int) (xs : List Int) (e : Ending) (w' : World) : Prop :=
  ∃ A n c, e = .returned (.tuple #[.slice A n c, .int .i64 code]) ∧ Own w' w.heap.size w'.heap.size A n xs ∧ n ≤ 1048576 ∧ n ≤ c ∧ c ≤ 9223372036854775807 ∧ Below w.heap.size w w'
theorem Own.widen {W w : World} {n : Nat} {A : Option Addr} {xs : List Int} {lo : Nat} (h : Own w lo w.heap.size A n xs) (h1 : W.heap.size ≤ lo) : Own w W.heap.size w.heap.size A n xs := h.more h1 (Nat.le_refl _) (Nat.le_refl _)

theorem Try.info5' : (Try.prog.info? 5).map (fun i => (i.zero, i.size, i.bytes)) = some (some (.int .u8 0), 1, 1) := by kernel_rfl

end Go.Proofs.Ytidjnnooeepklaa

namespace Go.Proofs.Ytidjnnooeepklaa
open Go.RowKit

theorem bcell {W w1 : World} {B : Nat} (hb : Below B W w1) : (∀ b o, b < B → w1.cell? ⟨b, o, none⟩ = W.cell? ⟨b, o, none⟩) ∧ (∀ b o, b < B → w1.frozen? ⟨b, o, none⟩ = W.frozen? ⟨b, o, none⟩) :=
  ⟨fun b o h => hb.cell (p := ⟨b, o, none⟩) h, fun b o h => hb.frozen (p := ⟨b, o, none⟩) h⟩

/-- the text t is the bytes l, at most m of them -/
def Txt (t : ByteArray) (l : List UInt8) : Prop := t.data.toList = l
/-- what a call answers that gives a text -/
def GivesText (w : World) (l : List UInt8) (m : Nat) (e : Ending) (w' : World) : Prop := ∃ t : ByteArray, e = .returned (.string t) ∧ Txt t l ∧ t.size ≤ m ∧ Below w.heap.size w w'
theorem size_of {t : ByteArray} {l : List UInt8} (h : t.data.toList = l) : t.size = l.length := by
  rw [← h, Array.length_toList]; rfl
theorem text_eq {s t : ByteArray} (h : s.data.toList = t.data.toList) : s = t := by
  cases s; cases t
  congr 1
  exact Array.ext' h
theorem size_add (s t : ByteArray) : (s ++ t).size = s.size + t.size := ByteArray.size_append
theorem text_add (s t : ByteArray) : (s ++ t).data.toList = s.data.toList ++ t.data.toList := by simp [ByteArray.data_append]

def dig8 (d : Nat) : UInt8 := UInt8.ofNat (48 + d)
def one8 (d : Nat) : ByteArray := ⟨#[dig8 d]⟩
theorem one8_size (d m : Nat) (h : 1 ≤ m) : (one8 d).size ≤ m := h
theorem dig8_nat {d : Nat} (hd : d < 10) : ((dig8 d).toNat : Int) = 48 + (d : Int) := by
  have e : (dig8 d).toNat = 48 + d := UInt8.toNat_ofNat_of_lt' (show 48 + d < 256 by omega)
  rw [e]; rfl
theorem digits_small {n : Nat} (h : n < 10) : Lib.decDigits n = [dig8 n] := by rw [Lib.decDigits, dif_pos h]; rfl
theorem digits_big {n : Nat} (h : ¬ n < 10) : Lib.decDigits n = Lib.decDigits (n / 10) ++ [dig8 (n % 10)] := by rw [Lib.decDigits, dif_neg h]; rfl
theorem digits_le : ∀ (k n : Nat), n < 10 ^ (k + 1) → (Lib.decDigits n).length ≤ k + 1
  | 0, n, h => by rw [digits_small (by simpa using h)]; simp
  | k + 1, n, h => by
    by_cases hn : n < 10
    · rw [digits_small hn]; simp
    · rw [digits_big hn, List.length_append]
      have := digits_le k (n / 10) (by rw [Nat.pow_succ] at h; omega)
      simp; omega
theorem digits_13 {n : Nat} (h : n ≤ 9999999999999) : (Lib.decDigits n).length ≤ 13 := digits_le 12 n (by omega)

theorem one_byte (W : World) (g : Nat) (d : Nat) (hd : d < 10) (hc : W.cell? ⟨g, 0, none⟩ = some (.int .u8 (48 + (d : Int)))) :
    (convert 22 9 (.slice (some ⟨g, 0, none⟩) 1 1)).run Try.prog W = .ok (.string (one8 d)) W := by
  refine run_convert_bytes_back W _ _ 5 ⟨g, 0, none⟩ 1 [dig8 d] Try.underlying22 Try.underlying5 Try.underlying9 ?_
  intro j hj
  simp at hj
  subst hj
  simp only [List.getElem_cons_zero, dig8_nat hd]
  simpa [Addr.add] using hc

/-- the text of a list of numbers -/
def txtL (xs : List Int) : List UInt8 := Lib.join (xs.map Lib.itoa) [44]
theorem itoa_nat {v : Int} (h : 0 ≤ v) : Lib.itoa v = Lib.decDigits v.toNat := by unfold Lib.itoa; rw [if_neg (by omega)]
theorem txt_first {xs : List Int} {v : Int} (hv : xs[0]? = some v) (h : 0 ≤ v) : txtL (xs.take 1) = Lib.decDigits v.toNat := by
  cases xs with
  | nil => cases hv
  | cons x r =>
    simp at hv
    subst hv
    unfold txtL
    rw [← itoa_nat h]
    exact Lib.join_one _ _
theorem txt_next {xs : List Int} {k : Nat} {v : Int} (hv : xs[k]? = some v) (h : 0 ≤ v) (hk : 0 < k) : txtL (xs.take (k + 1)) = txtL (xs.take k) ++ [44] ++ Lib.decDigits v.toNat := by
  cases xs with
  | nil => simp at hv
  | cons x r =>
    obtain ⟨q, rfl⟩ : ∃ q, k = q + 1 := ⟨k - 1, by omega⟩
    have hr : (r.map Lib.itoa)[q]? = some (Lib.itoa v) := by
      rw [List.getElem?_map]
      simp at hv
      rw [hv]; rfl
    unfold txtL
    rw [List.take_succ_cons, List.take_succ_cons, List.map_cons, List.map_cons, List.map_take, List.map_take, Lib.join_cons, Lib.join_cons, Lib.joinTail_take_succ _ _ _ _ hr, itoa_nat h]
    simp only [List.append_assoc]
def listT (xs : List Int) : List UInt8 := if withB 0 1000000000000 xs then (if xs.length = 0 then [45] else txtL xs) else []
def listE (xs : List Int) : Int := if withB 0 1000000000000 xs then 0 else 2
theorem list_no {xs : List Int} (h : withB 0 1000000000000 xs = false) : listT xs = [] ∧ listE xs = 2 := by simp [listT, listE, h]
theorem list_none {xs : List Int} (h : withB 0 1000000000000 xs = true) (h2 : xs.length = 0) : listT xs = [45] ∧ listE xs = 0 := by simp [listT, listE, h, h2]
theorem list_some {xs : List Int} (h : withB 0 1000000000000 xs = true) (h2 : xs.length ≠ 0) : listT xs = txtL xs ∧ listE xs = 0 := by simp [listT, listE, h, h2]

/-- what a call answers that gives a text and a code -/
def GivesTextCode (w : World) (code : Int) (l : List UInt8) (m : Nat) (e : Ending) (w' : World) : Prop :=
  ∃ t : ByteArray, e = .returned (.tuple #[.string t, .int .i64 code]) ∧ Txt t l ∧ t.size ≤ m ∧ Below w.heap.size w w'
theorem ret_tc {t : ByteArray} {a b : Int} (h : a = b) : Ending.returned (.tuple #[.string t, .int .i64 a]) = .returned (.tuple #[.string t, .int .i64 b]) := by rw [h]

end Go.Proofs.Ytidjnnooeepklaa

namespace Go.Proofs.Ytidjnnooeepklaa
open Go.RowKit

/-- the text of cuts -/
def textK (xs : List Int) : List UInt8 := xs.map (fun v => dig8 v.toNat)
def ktT (m : Mk) (xs : List Int) : List UInt8 := if isKeyB m xs then textK xs else []
def ktE (m : Mk) (xs : List Int) : Int := if m.ok then (if isKeyB m xs then 0 else 2) else 1
theorem kt_bad {m : Mk} {xs : List Int} (h : m.ok = false) : ktT m xs = [] ∧ ktE m xs = 1 := by simp [ktT, ktE, isKeyB, h]
theorem kt_no {m : Mk} {xs : List Int} (h : m.ok = true) (h2 : isKeyB m xs = false) : ktT m xs = [] ∧ ktE m xs = 2 := by simp [ktT, ktE, h, h2]
theorem kt_yes {m : Mk} {xs : List Int} (h : m.ok = true) (h2 : isKeyB m xs = true) : ktT m xs = textK xs ∧ ktE m xs = 0 := by simp [ktT, ktE, h, h2]
theorem key_facts {m : Mk} {xs : List Int} (h : isKeyB m xs = true) : m.ok = true ∧ (xs.length : Int) = m.C ∧ allIn 0 (m.D - 1) xs = true ∧ stepsB m.S xs = true ∧ runsB m.M xs = true ∧ m.L ≤ (kinds xs : Int) := by
  unfold isKeyB at h
  rw [Bool.and_eq_true] at h
  refine ⟨h.1, ?_⟩
  have hf : faultV m xs = 0 := by simpa using h.2
  unfold faultV at hf
  by_cases h1 : (xs.length : Int) = m.C
  · rw [if_neg (by simp [h1])] at hf
    rcases h2 : allIn 0 (m.D - 1) xs with _ | _
    · rw [if_pos h2] at hf; cases hf
    · rw [if_neg (by simp [h2])] at hf
      rcases h3 : stepsB m.S xs with _ | _
      · rw [if_pos h3] at hf; cases hf
      · rw [if_neg (by simp [h3])] at hf
        rcases h4 : runsB m.M xs with _ | _
        · rw [if_pos h4] at hf; cases hf
        · rw [if_neg (by simp [h4])] at hf
          by_cases h5 : (kinds xs : Int) < m.L
          · rw [if_pos h5] at hf; cases hf
          · exact ⟨h1, rfl, rfl, rfl, by omega⟩
  · rw [if_pos h1] at hf; cases hf
theorem text_len (xs : List Int) : (textK xs).length = xs.length := by simp [textK]
theorem text_at {xs : List Int} {j : Nat} (hd : allIn 0 7 xs = true) (hj : j < (textK xs).length) : (((textK xs)[j]'hj).toNat : Int) = 48 + xs.getD j 0 := by
  have hj' : j < xs.length := by simpa [textK] using hj
  have hv : xs[j]? = some xs[j] := List.getElem?_eq_getElem hj'
  obtain ⟨a, b⟩ := allIn_at hd hv
  show (((xs.map (fun v => dig8 v.toNat))[j]'(by simpa using hj')).toNat : Int) = _
  rw [List.getElem_map, dig8_nat (by omega), getD_at hv]
  omega
theorem allIn_wide {lo hi lo' hi' : Int} {xs : List Int} (h : allIn lo hi xs = true) (h1 : lo' ≤ lo) (h2 : hi ≤ hi') : allIn lo' hi' xs = true := by
  unfold allIn at *
  rw [List.all_eq_true] at *
  intro v hv
  have := inB_true.1 (h v hv)
  exact inB_true.2 (by omega)

/-- what a call answers that gives a text and a code -/
def GivesTextE (w : World) (l : List UInt8) (code : Int) (e : Ending) (w' : World) : Prop := ∃ t : ByteArray, e = .returned (.tuple #[.string t, .int .i64 code]) ∧ Txt t l ∧ t.size ≤ 1048576 ∧ Below w.heap.size w w'
theorem ret_te {t : ByteArray} {a b : Int} (h : a = b) : Ending.returned (.tuple #[.string t, .int .i64 a]) = .returned (.tuple #[.string t, .int .i64 b]) := by rw [h]
/-- the row of a text after k signs -/
def signRow (xs : List Int) (k : Nat) (j : Nat) : Value := .int .u8 (if j < k then 48 + xs.getD j 0 else 0)
theorem signRow_set {xs : List Int} {k : Nat} {v : Int} (hv : xs[k]? = some v) (j : Nat) : (if j = k then Value.int .u8 (48 + v) else signRow xs k j) = signRow xs (k + 1) j := by
  unfold signRow
  by_cases h : j = k
  · subst h
    rw [if_pos rfl, if_pos (by omega), getD_at hv]
  · rw [if_neg h]
    by_cases h2 : j < k
    · rw [if_pos h2, if_pos (by omega)]
    · rw [if_neg h2, if_neg (by omega)]
theorem text_run {W : World} {g : Nat} {xs : List Int} {n cap : Nat} (hl : xs.length = n) (hd : allIn 0 7 xs = true) (hc : ∀ j, j < n → W.cell? ⟨g, j, none⟩ = some (.int .u8 (48 + xs.getD j 0))) :
    ∃ t : ByteArray, Txt t (textK xs) ∧ t.size = n ∧ (convert 22 9 (.slice (some ⟨g, 0, none⟩) n cap)).run Try.prog W = .ok (.string t) W := by
  refine ⟨⟨(textK xs).toArray⟩, rfl, ?_, ?_⟩
  · show (textK xs).toArray.size = n
    simp [text_len, hl]
  · have e : n = (textK xs).length := by rw [text_len, hl]
    rw [e]
    refine run_convert_bytes_back W _ _ 5 ⟨g, 0, none⟩ cap (textK xs) Try.underlying22 Try.underlying5 Try.underlying9 ?_
    intro j hj
    rw [text_at hd hj]
    have := hc j (by rw [text_len, hl] at hj; exact hj)
    unfold Addr.add
    split
    · next h0 => subst h0; exact this
    · simpa using this

end Go.Proofs.Ytidjnnooeepklaa

namespace Go.Proofs.Ytidjnnooeepklaa

/-! beginnings -/
def beginsB (m : Mk) (xs : List Int) : Bool := stepsB m.S xs && runsB m.M xs
/-- whether a beginning may still become a key -/
def mayB (m : Mk) (xs : List Int) : Bool := allIn 0 (m.D - 1) xs && (stepsB m.S xs && (runsB m.M xs && decide (m.L ≤ m.C - xs.length + kinds xs)))

theorem getD_left {xs ys : List Int} {j : Nat} (h : j < xs.length) : (xs ++ ys).getD j 0 = xs.getD j 0 := by
  rw [List.getD_eq_getElem?_getD, List.getD_eq_getElem?_getD, List.getElem?_append_left h]
theorem stepAt_left {S : Int} {xs ys : List Int} {j : Nat} (h : j < xs.length) : stepAt S (xs ++ ys) j = stepAt S xs j := by
  unfold stepAt
  rw [getD_left h, getD_left (show j - 1 < xs.length by omega)]
theorem runAt_left {xs ys : List Int} : ∀ {j : Nat}, j ≤ xs.length → runAt (xs ++ ys) j = runAt xs j
  | 0, _ => rfl
  | j + 1, h => by
    unfold runAt
    rw [getD_left (show j < xs.length by omega), getD_left (show j - 1 < xs.length by omega), runAt_left (show j ≤ xs.length by omega)]
theorem kindsAt_left {xs ys : List Int} : ∀ {j : Nat}, j ≤ xs.length → kindsAt (xs ++ ys) j = kindsAt xs j
  | 0, _ => rfl
  | j + 1, h => by
    unfold kindsAt
    rw [getD_left (show j < xs.length by omega), kindsAt_left (show j ≤ xs.length by omega), List.take_append_of_le_length (by omega)]
theorem stepsB_left {S : Int} {xs ys : List Int} (h : stepsB S (xs ++ ys) = true) : stepsB S xs = true := by
  unfold stepsB at *
  rw [List.all_eq_true] at *
  intro j hj
  have hj' := List.mem_range.1 hj
  rw [← stepAt_left (ys := ys) hj']
  exact h j (List.mem_range.2 (by rw [List.length_append]; omega))
theorem runsB_left {M : Int} {xs ys : List Int} (h : runsB M (xs ++ ys) = true) : runsB M xs = true := by
  unfold runsB at *
  rw [List.all_eq_true] at *
  intro j hj
  have hj' := List.mem_range.1 hj
  have := h j (List.mem_range.2 (by rw [List.length_append]; omega))
  unfold runOk at *
  rwa [runAt_left (show j + 1 ≤ xs.length by omega)] at this
theorem beginsB_left {m : Mk} {xs ys : List Int} (h : beginsB m (xs ++ ys) = true) : beginsB m xs = true := by
  unfold beginsB at *
  rw [Bool.and_eq_true] at *
  exact ⟨stepsB_left h.1, runsB_left h.2⟩
theorem beginsB_nil (m : Mk) : beginsB m [] = true := rfl
theorem kindsAt_up (xs : List Int) (p : Nat) : ∀ r, kindsAt xs (p + r) ≤ kindsAt xs p + r
  | 0 => Nat.le_refl _
  | r + 1 => by
    have := kindsAt_up xs p r
    show kindsAt xs (p + r) + _ ≤ _
    split <;> omega
theorem kinds_grow (xs ys : List Int) : kinds (xs ++ ys) ≤ kinds xs + ys.length := by
  unfold kinds
  rw [List.length_append]
  have := kindsAt_up (xs ++ ys) xs.length ys.length
  rwa [kindsAt_left (Nat.le_refl _)] at this

/-! all keys that begin with some cuts, in order: k cuts are missing -/
def keysFrom (m : Mk) : Nat → List Int → List (List Int)
  | 0, xs => if beginsB m xs && decide (m.L ≤ (kinds xs : Int)) then [xs] else []
  | k + 1, xs => if beginsB m xs then (List.range m.D.toNat).flatMap (fun (d : Nat) => keysFrom m k (xs ++ [(d : Int)])) else []
/-- .. whose next cut is at least d -/
def tails (m : Mk) (k : Nat) (xs : List Int) (d : Nat) : List (List Int) := ((List.range m.D.toNat).drop d).flatMap (fun (d : Nat) => keysFrom m k (xs ++ [(d : Int)]))

theorem keys_zero_no {m : Mk} {xs : List Int} (h : beginsB m xs = true) (h2 : ¬ m.L ≤ (kinds xs : Int)) : keysFrom m 0 xs = [] := by simp [keysFrom, h, h2]
theorem keys_zero_yes {m : Mk} {xs : List Int} (h : beginsB m xs = true) (h2 : m.L ≤ (kinds xs : Int)) : keysFrom m 0 xs = [xs] := by simp [keysFrom, h, h2]
theorem keys_stop {m : Mk} {k : Nat} {xs : List Int} (h : beginsB m xs = false) : keysFrom m k xs = [] := by cases k <;> simp [keysFrom, h]
theorem keys_succ {m : Mk} {k : Nat} {xs : List Int} (h : beginsB m xs = true) : keysFrom m (k + 1) xs = tails m k xs 0 := by simp [keysFrom, tails, h]
theorem tails_end {m : Mk} {k d : Nat} {xs : List Int} (h : ¬ d < m.D.toNat) : tails m k xs d = [] := by
  unfold tails
  rw [List.drop_of_length_le (by rw [List.length_range]; omega)]; rfl
theorem tails_step {m : Mk} {k d : Nat} {xs : List Int} (h : d < m.D.toNat) : tails m k xs d = keysFrom m k (xs ++ [(d : Int)]) ++ tails m k xs (d + 1) := by
  unfold tails
  rw [List.drop_eq_getElem_cons (by rw [List.length_range]; exact h), List.flatMap_cons, List.getElem_range]

/-- what the keys of the list are -/
theorem keys_facts {m : Mk} : ∀ {k : Nat} {pre xs : List Int}, xs ∈ keysFrom m k pre → xs.length = pre.length + k ∧ xs.take pre.length = pre ∧ beginsB m xs = true ∧ m.L ≤ (kinds xs : Int) ∧ (allIn 0 (m.D - 1) pre = true → 0 ≤ m.D → allIn 0 (m.D - 1) xs = true)
  | 0, pre, xs, h => by
    unfold keysFrom at h
    split at h
    · next hc =>
      rw [Bool.and_eq_true] at hc
      simp at h
      subst h
      exact ⟨rfl, List.take_length, hc.1, by simpa using hc.2, fun h _ => h⟩
    · cases h
  | k + 1, pre, xs, h => by
    unfold keysFrom at h
    split at h
    · rw [List.mem_flatMap] at h
      obtain ⟨d, hd, hx⟩ := h
      obtain ⟨h1, h2, h3, h4, h5⟩ := keys_facts hx
      rw [List.length_append] at h1 h2
      have hd' := List.mem_range.1 hd
      refine ⟨by simp at h1; omega, ?_, h3, h4, fun ha hD => h5 ?_ hD⟩
      · have := congrArg (List.take pre.length) h2
        rw [List.take_take, List.take_left' rfl] at this
        rwa [Nat.min_eq_left (by omega)] at this
      · unfold allIn at *
        rw [List.all_append, ha]
        simp [inB]; omega
    · cases h
/-- .. and that all of them are in it, with those that follow -/
def afterAt (m : Mk) (xs : List Int) (i : Nat) : List (List Int) := tails m (xs.length - 1 - i) (xs.take i) ((xs.getD i 0).toNat + 1)
def down (m : Mk) (xs : List Int) (p : Nat) : Nat → List (List Int)
  | 0 => []
  | r + 1 => afterAt m xs (p + r) ++ down m xs p r
theorem down_front (m : Mk) (xs : List Int) (p : Nat) : ∀ r, down m xs p (r + 1) = down m xs (p + 1) r ++ afterAt m xs p
  | 0 => by simp [down]
  | r + 1 => by
    show afterAt m xs (p + (r + 1)) ++ down m xs p (r + 1) = afterAt m xs (p + 1 + r) ++ down m xs (p + 1) r ++ afterAt m xs p
    rw [down_front m xs p r, show p + (r + 1) = p + 1 + r by omega, List.append_assoc]
theorem take_cut {xs : List Int} {p : Nat} (h : p < xs.length) (h0 : 0 ≤ xs.getD p 0) : xs.take (p + 1) = xs.take p ++ [(((xs.getD p 0).toNat : Nat) : Int)] := by
  have hv : xs[p]? = some xs[p] := List.getElem?_eq_getElem h
  rw [List.take_succ_eq_append_getElem h, getD_at hv]
  rw [getD_at hv] at h0
  rw [show ((xs[p].toNat : Nat) : Int) = xs[p] by omega]
theorem tails_part {m : Mk} {k : Nat} {xs : List Int} : ∀ (d : Nat), d < m.D.toNat → ∃ A, tails m k xs 0 = A ++ (keysFrom m k (xs ++ [(d : Int)]) ++ tails m k xs (d + 1))
  | 0, h => ⟨[], by rw [tails_step h]; rfl⟩
  | d + 1, h => by
    obtain ⟨A, e⟩ := tails_part (m := m) (k := k) (xs := xs) d (by omega)
    refine ⟨A ++ keysFrom m k (xs ++ [(d : Int)]), ?_⟩
    rw [e, tails_step h, List.append_assoc]
theorem keys_part {m : Mk} {xs : List Int} (hb : beginsB m xs = true) (hk : m.L ≤ (kinds xs : Int)) (hd : allIn 0 (m.D - 1) xs = true) (hD : 0 ≤ m.D) :
    ∀ (k p : Nat), p + k = xs.length → ∃ A, keysFrom m k (xs.take p) = A ++ xs :: down m xs p k
  | 0, p, h => by
    have e : xs.take p = xs := List.take_of_length_le (by omega)
    exact ⟨[], by rw [e, keys_zero_yes hb hk]; rfl⟩
  | k + 1, p, h => by
    obtain ⟨A, e⟩ := keys_part hb hk hd hD k (p + 1) (by omega)
    have hp : p < xs.length := by omega
    have hv : xs[p]? = some xs[p] := List.getElem?_eq_getElem hp
    obtain ⟨v0, v1⟩ := allIn_at hd hv
    have hg := getD_at hv
    have h0 : beginsB m (xs.take p) = true := beginsB_left (ys := xs.drop p) (by rw [List.take_append_drop]; exact hb)
    obtain ⟨A2, e2⟩ := tails_part (m := m) (k := k) (xs := xs.take p) (xs.getD p 0).toNat (by rw [hg]; omega)
    refine ⟨A2 ++ A, ?_⟩
    rw [keys_succ h0, e2, ← take_cut hp (by rw [hg]; exact v0), e, down_front]
    have : afterAt m xs p = tails m k (xs.take p) ((xs.getD p 0).toNat + 1) := by
      unfold afterAt
      rw [show xs.length - 1 - p = k by omega]
    rw [this]
    simp only [List.append_assoc, List.cons_append]

/-- the keys that follow some cuts -/
def nextAll (m : Mk) (xs : List Int) : List (List Int) := down m xs 0 xs.length
/-- all keys -/
def allKeys (m : Mk) : List (List Int) := keysFrom m m.C.toNat []

theorem key_of {m : Mk} {xs : List Int} (hm : m.ok = true) (h1 : (xs.length : Int) = m.C) (h2 : allIn 0 (m.D - 1) xs = true) (h3 : beginsB m xs = true) (h4 : m.L ≤ (kinds xs : Int)) : isKeyB m xs = true := by
  unfold beginsB at h3
  rw [Bool.and_eq_true] at h3
  unfold isKeyB
  rw [hm, fault0 h1 h2 h3.1 h3.2 (by omega)]; rfl
theorem all_are_keys {m : Mk} {xs : List Int} (hm : m.ok = true) (h : xs ∈ allKeys m) : isKeyB m xs = true := by
  obtain ⟨h1, _, h3, h4, h5⟩ := keys_facts h
  obtain ⟨m1, m2, m3, _⟩ := Mk.ok_true hm
  exact key_of hm (by simp at h1; omega) (h5 rfl (by omega)) h3 h4
theorem all_at {m : Mk} {xs : List Int} (h : isKeyB m xs = true) : ∃ A, allKeys m = A ++ xs :: nextAll m xs := by
  obtain ⟨f1, f2, f3, f4, f5, f6⟩ := key_facts h
  obtain ⟨m1, m2, m3, _⟩ := Mk.ok_true f1
  have := keys_part (m := m) (xs := xs) (by unfold beginsB; rw [f4, f5]; rfl) f6 f3 (by omega) xs.length 0 (by omega)
  rw [List.take_zero] at this
  unfold allKeys
  rwa [show m.C.toNat = xs.length by omega]

/-- the zigzag: a key of every maker -/
def zigD (D i : Nat) : Int := if i < D then (i : Int) else if (i - D) % 2 = 0 then (D : Int) - 2 else (D : Int) - 1
def zig (C D : Nat) : List Int := (List.range C).map (zigD D)
def zigOk (C D : Nat) : Bool := decide ((zig C D).length = C) && (allIn 0 ((D : Int) - 1) (zig C D) && (stepsB 1 (zig C D) && (runsB 1 (zig C D) && decide (kinds (zig C D) = min C D))))
theorem zig_small : ∀ C ∈ [2, 3, 4, 5, 6], ∀ D ∈ [2, 3, 4, 5, 6, 7, 8], zigOk C D = true := by decide +kernel
theorem stepsB_wide {S S' : Int} {xs : List Int} (h : stepsB S xs = true) (hS : S ≤ S') : stepsB S' xs = true := by
  unfold stepsB at *
  rw [List.all_eq_true] at *
  intro j hj
  have := h j hj
  unfold stepAt at *
  rw [Bool.or_eq_true] at *
  rcases this with h1 | h1
  · exact .inl h1
  · have := inB_true.1 h1
    exact .inr (inB_true.2 (by omega))
theorem runsB_wide {M M' : Int} {xs : List Int} (h : runsB M xs = true) (hM : M ≤ M') : runsB M' xs = true := by
  unfold runsB at *
  rw [List.all_eq_true] at *
  intro j hj
  have := h j hj
  unfold runOk at *
  simp at this ⊢
  omega
theorem zig_key {m : Mk} (hm : m.ok = true) : isKeyB m (zig m.C.toNat m.D.toNat) = true := by
  obtain ⟨m1, m2, m3, m4, m5, m6, m7, m8, m9, m10, m11⟩ := Mk.ok_true hm
  have hz := zig_small m.C.toNat (by simp; omega) m.D.toNat (by simp; omega)
  unfold zigOk at hz
  simp only [Bool.and_eq_true, decide_eq_true_eq] at hz
  obtain ⟨z1, z2, z3, z4, z5⟩ := hz
  refine key_of hm (by omega) ?_ ?_ (by omega)
  · rwa [show ((m.D.toNat : Nat) : Int) = m.D by omega] at z2
  · unfold beginsB
    rw [stepsB_wide z3 m5, runsB_wide z4 m7]; rfl
theorem all_some {m : Mk} (hm : m.ok = true) : allKeys m ≠ [] := by
  obtain ⟨A, e⟩ := all_at (zig_key hm)
  rw [e]
  simp

/-- a beginning that cannot have enough cuts in the end has no keys -/
theorem keys_few {m : Mk} {k : Nat} {xs : List Int} (hl : (xs.length : Int) + k = m.C) (h : ¬ m.L ≤ m.C - xs.length + kinds xs) : keysFrom m k xs = [] := by
  rcases he : keysFrom m k xs with _ | ⟨y, r⟩
  · rfl
  · obtain ⟨h1, h2, _, h4, _⟩ := keys_facts (m := m) (k := k) (pre := xs) (xs := y) (by rw [he]; simp)
    have e : y = xs ++ y.drop xs.length := by
      have := List.take_append_drop xs.length y
      rw [h2] at this
      exact this.symm
    have hk := kinds_grow xs (y.drop xs.length)
    rw [← e, List.length_drop] at hk
    omega
theorem keys_may {m : Mk} {k : Nat} {xs : List Int} (hl : (xs.length : Int) + k = m.C) (hd : allIn 0 (m.D - 1) xs = true) (h : mayB m xs = false) : keysFrom m k xs = [] := by
  rcases hb : beginsB m xs with _ | _
  · exact keys_stop hb
  · refine keys_few hl (fun hL => ?_)
    unfold beginsB at hb
    rw [Bool.and_eq_true] at hb
    unfold mayB at h
    rw [hd, hb.1, hb.2] at h
    simp at h
    omega
theorem may_begins {m : Mk} {xs : List Int} (h : mayB m xs = true) : beginsB m xs = true ∧ m.L ≤ m.C - xs.length + kinds xs := by
  unfold mayB at h
  simp only [Bool.and_eq_true, decide_eq_true_eq] at h
  exact ⟨by unfold beginsB; rw [h.2.1, h.2.2.1]; rfl, h.2.2.2⟩

/-- the first of a list of keys -/
def headL (l : List (List Int)) : List Int := l.head?.getD []

end Go.Proofs.Ytidjnnooeepklaa
