/- The words at the head of the translated program, letter by letter, and what a row asks of them. -/
import Derived.Test.YtjoknbknhfnggaaRows
import Derived.WalkKit
import Derived.ProofKit
import Derived.JoinedOf
import Derived.Test.YtjoknbknhfnggaaSets
import Derived.OpenShut
import Derived.ChangeOld
namespace Go.Proofs.Ytjoknbknhfnggaa
open Go
set_option maxRecDepth 100000
def headW : List (List Char) := [
  [Char.ofNat 104, Char.ofNat 97, Char.ofNat 114, Char.ofNat 110, Char.ofNat 101, Char.ofNat 115, Char.ofNat 115],
  [Char.ofNat 54, Char.ofNat 49, Char.ofNat 48, Char.ofNat 48, Char.ofNat 102, Char.ofNat 50, Char.ofNat 56, Char.ofNat 102, Char.ofNat 50, Char.ofNat 56, Char.ofNat 57, Char.ofNat 100, Char.ofNat 100, Char.ofNat 100, Char.ofNat 97, Char.ofNat 49, Char.ofNat 48, Char.ofNat 97, Char.ofNat 100, Char.ofNat 55, Char.ofNat 49, Char.ofNat 53, Char.ofNat 101, Char.ofNat 100, Char.ofNat 99, Char.ofNat 49, Char.ofNat 101, Char.ofNat 51, Char.ofNat 55, Char.ofNat 98, Char.ofNat 98, Char.ofNat 53, Char.ofNat 98, Char.ofNat 48, Char.ofNat 48, Char.ofNat 99, Char.ofNat 57, Char.ofNat 52, Char.ofNat 98, Char.ofNat 53, Char.ofNat 101, Char.ofNat 53, Char.ofNat 101, Char.ofNat 98, Char.ofNat 97, Char.ofNat 98, Char.ofNat 53, Char.ofNat 100, Char.ofNat 49, Char.ofNat 57, Char.ofNat 101, Char.ofNat 50, Char.ofNat 100, Char.ofNat 53, Char.ofNat 98, Char.ofNat 100, Char.ofNat 102, Char.ofNat 53, Char.ofNat 54, Char.ofNat 97, Char.ofNat 98, Char.ofNat 57, Char.ofNat 98, Char.ofNat 52],
  [Char.ofNat 99, Char.ofNat 117, Char.ofNat 116],
  [Char.ofNat 97, Char.ofNat 116],
  [Char.ofNat 108, Char.ofNat 111, Char.ofNat 111, Char.ofNat 112, Char.ofNat 46, Char.ofNat 101, Char.ofNat 120, Char.ofNat 97, Char.ofNat 109, Char.ofNat 112, Char.ofNat 108, Char.ofNat 101, Char.ofNat 47, Char.ofNat 103, Char.ofNat 48, Char.ofNat 48, Char.ofNat 57, Char.ofNat 52, Char.ofNat 55, Char.ofNat 47, Char.ofNat 108, Char.ofNat 97, Char.ofNat 119, Char.ofNat 115, Char.ofNat 46, Char.ofNat 70, Char.ofNat 110, Char.ofNat 72, Char.ofNat 117, Char.ofNat 108, Char.ofNat 108, Char.ofNat 115],
  [Char.ofNat 108, Char.ofNat 111, Char.ofNat 111, Char.ofNat 112, Char.ofNat 46, Char.ofNat 101, Char.ofNat 120, Char.ofNat 97, Char.ofNat 109, Char.ofNat 112, Char.ofNat 108, Char.ofNat 101, Char.ofNat 47, Char.ofNat 103, Char.ofNat 48, Char.ofNat 48, Char.ofNat 57, Char.ofNat 52, Char.ofNat 55, Char.ofNat 47, Char.ofNat 108, Char.ofNat 97, Char.ofNat 119, Char.ofNat 115, Char.ofNat 46, Char.ofNat 70, Char.ofNat 110, Char.ofNat 79, Char.ofNat 112, Char.ofNat 101, Char.ofNat 110, Char.ofNat 101, Char.ofNat 114, Char.ofNat 115],
  [Char.ofNat 108, Char.ofNat 111, Char.ofNat 111, Char.ofNat 112, Char.ofNat 46, Char.ofNat 101, Char.ofNat 120, Char.ofNat 97, Char.ofNat 109, Char.ofNat 112, Char.ofNat 108, Char.ofNat 101, Char.ofNat 47, Char.ofNat 103, Char.ofNat 48, Char.ofNat 48, Char.ofNat 57, Char.ofNat 52, Char.ofNat 55, Char.ofNat 47, Char.ofNat 108, Char.ofNat 97, Char.ofNat 119, Char.ofNat 115, Char.ofNat 46, Char.ofNat 70, Char.ofNat 110, Char.ofNat 77, Char.ofNat 101, Char.ofNat 101, Char.ofNat 116, Char.ofNat 105, Char.ofNat 110, Char.ofNat 103, Char.ofNat 115],
  [Char.ofNat 108, Char.ofNat 111, Char.ofNat 111, Char.ofNat 112, Char.ofNat 46, Char.ofNat 101, Char.ofNat 120, Char.ofNat 97, Char.ofNat 109, Char.ofNat 112, Char.ofNat 108, Char.ofNat 101, Char.ofNat 47, Char.ofNat 103, Char.ofNat 48, Char.ofNat 48, Char.ofNat 57, Char.ofNat 52, Char.ofNat 55, Char.ofNat 47, Char.ofNat 108, Char.ofNat 97, Char.ofNat 119, Char.ofNat 115, Char.ofNat 46, Char.ofNat 70, Char.ofNat 110, Char.ofNat 84, Char.ofNat 104, Char.ofNat 105, Char.ofNat 99, Char.ofNat 107],
  [Char.ofNat 108, Char.ofNat 111, Char.ofNat 111, Char.ofNat 112, Char.ofNat 46, Char.ofNat 101, Char.ofNat 120, Char.ofNat 97, Char.ofNat 109, Char.ofNat 112, Char.ofNat 108, Char.ofNat 101, Char.ofNat 47, Char.ofNat 103, Char.ofNat 48, Char.ofNat 48, Char.ofNat 57, Char.ofNat 52, Char.ofNat 55, Char.ofNat 47, Char.ofNat 108, Char.ofNat 97, Char.ofNat 119, Char.ofNat 115, Char.ofNat 46, Char.ofNat 70, Char.ofNat 110, Char.ofNat 69, Char.ofNat 120, Char.ofNat 97, Char.ofNat 99, Char.ofNat 116, Char.ofNat 80, Char.ofNat 105, Char.ofNat 110, Char.ofNat 115, Char.ofNat 79, Char.ofNat 102],
  [Char.ofNat 108, Char.ofNat 111, Char.ofNat 111, Char.ofNat 112, Char.ofNat 46, Char.ofNat 101, Char.ofNat 120, Char.ofNat 97, Char.ofNat 109, Char.ofNat 112, Char.ofNat 108, Char.ofNat 101, Char.ofNat 47, Char.ofNat 103, Char.ofNat 48, Char.ofNat 48, Char.ofNat 57, Char.ofNat 52, Char.ofNat 55, Char.ofNat 47, Char.ofNat 108, Char.ofNat 97, Char.ofNat 119, Char.ofNat 115, Char.ofNat 46, Char.ofNat 70, Char.ofNat 110, Char.ofNat 69, Char.ofNat 120, Char.ofNat 97, Char.ofNat 99, Char.ofNat 116, Char.ofNat 76, Char.ofNat 111, Char.ofNat 99, Char.ofNat 107, Char.ofNat 79, Char.ofNat 102, Char.ofNat 80, Char.ofNat 105, Char.ofNat 110, Char.ofNat 115],
  [Char.ofNat 108, Char.ofNat 111, Char.ofNat 111, Char.ofNat 112, Char.ofNat 46, Char.ofNat 101, Char.ofNat 120, Char.ofNat 97, Char.ofNat 109, Char.ofNat 112, Char.ofNat 108, Char.ofNat 101, Char.ofNat 47, Char.ofNat 103, Char.ofNat 48, Char.ofNat 48, Char.ofNat 57, Char.ofNat 52, Char.ofNat 55, Char.ofNat 47, Char.ofNat 108, Char.ofNat 97, Char.ofNat 119, Char.ofNat 115, Char.ofNat 46, Char.ofNat 70, Char.ofNat 110, Char.ofNat 69, Char.ofNat 120, Char.ofNat 97, Char.ofNat 99, Char.ofNat 116, Char.ofNat 84, Char.ofNat 104, Char.ofNat 105, Char.ofNat 110, Char.ofNat 67, Char.ofNat 104, Char.ofNat 97, Char.ofNat 109, Char.ofNat 98, Char.ofNat 101, Char.ofNat 114, Char.ofNat 115],
  [Char.ofNat 108, Char.ofNat 111, Char.ofNat 111, Char.ofNat 112, Char.ofNat 46, Char.ofNat 101, Char.ofNat 120, Char.ofNat 97, Char.ofNat 109, Char.ofNat 112, Char.ofNat 108, Char.ofNat 101, Char.ofNat 47, Char.ofNat 103, Char.ofNat 48, Char.ofNat 48, Char.ofNat 57, Char.ofNat 52, Char.ofNat 55, Char.ofNat 47, Char.ofNat 108, Char.ofNat 97, Char.ofNat 119, Char.ofNat 115, Char.ofNat 46, Char.ofNat 70, Char.ofNat 110, Char.ofNat 69, Char.ofNat 120, Char.ofNat 97, Char.ofNat 99, Char.ofNat 116, Char.ofNat 83, Char.ofNat 116, Char.ofNat 111, Char.ofNat 99, Char.ofNat 107, Char.ofNat 79, Char.ofNat 102]]
def joinW : List (List Char) → List Char
  | [] => []
  | [w] => w
  | w :: v :: ws => w ++ Char.ofNat 32 :: joinW (v :: ws)
theorem words_word : ∀ (w r : List Char), (w.all (fun c => !(c == Char.ofNat 32))) = true → wordsSigns (w ++ Char.ofNat 32 :: r) = w :: wordsSigns r
  | [], r, _ => rfl
  | c :: w, r, h => by
    rw [List.all_cons, Bool.and_eq_true] at h
    have hc : c ≠ Char.ofNat 32 := by
      intro e
      rw [e] at h
      simp at h
    have ih := words_word w r h.2
    rw [List.cons_append, wordsSigns.eq_def]
    split
    · next e => cases e
    · next e => injection e with e1 e2; exact absurd e1 hc
    · next e => injection e with e1 e2; subst e1; subst e2; rw [ih]
theorem words_last : ∀ (w : List Char), (w.all (fun c => !(c == Char.ofNat 32))) = true → wordsSigns w = [w]
  | [], _ => rfl
  | c :: w, h => by
    rw [List.all_cons, Bool.and_eq_true] at h
    have hc : c ≠ Char.ofNat 32 := by
      intro e
      rw [e] at h
      simp at h
    have ih := words_last w h.2
    rw [wordsSigns.eq_def]
    split
    · next e => cases e
    · next e => injection e with e1 e2; exact absurd e1 hc
    · next e => injection e with e1 e2; subst e1; subst e2; rw [ih]
theorem words_join : ∀ (ws : List (List Char)), ws ≠ [] → (ws.all (fun w => w.all (fun c => !(c == Char.ofNat 32)))) = true → wordsSigns (joinW ws) = ws
  | [], h, _ => absurd rfl h
  | [w], _, h => by
    rw [List.all_cons, Bool.and_eq_true] at h
    exact words_last w h.1
  | w :: v :: ws, _, h => by
    rw [List.all_cons, Bool.and_eq_true] at h
    unfold joinW
    rw [words_word w _ h.1, words_join (v :: ws) (by simp) h.2]
theorem head_is : Try.prog.initOrder = String.ofList (joinW headW) := by kernel_rfl
theorem head_words : wordsSigns Try.prog.initOrder.toList = headW := by
  rw [head_is, String.toList_ofList]
  exact words_join headW (by unfold headW; simp) (by kernel_rfl)
def tailW : List (List Char) := headW.drop 3
def cutW : List Char := [Char.ofNat 99, Char.ofNat 117, Char.ofNat 116]
theorem behind_is : behindMainWord headW = headW.drop 2 := by kernel_rfl
theorem tail_is : headW.drop 2 = cutW :: tailW := by kernel_rfl
theorem strip_is : stripLifts liftWords (cutW :: tailW) = ([], cutW :: tailW) := by kernel_rfl
theorem no_gc : (cutW == "gc".toList) = false := by kernel_rfl
theorem no_spec : (cutW == "spec".toList) = false := by kernel_rfl
theorem no_carried : (cutW == "carried".toList) = false := by kernel_rfl
theorem not_carried : (some cutW == some "carried".toList) = false := by kernel_rfl
theorem some_cut : (some cutW == some "cut".toList) = true := by kernel_rfl
theorem is_cut : (cutW == "cut".toList) = true := by kernel_rfl
theorem not_later : Try.prog.laysLater = false := by kernel_rfl
theorem not_reflect : Try.prog.bearsReflect = false := by kernel_rfl
theorem door_fits : Try.prog.doorFits [] = true := by kernel_rfl
theorem words_is : behindMainWord (wordsSigns Try.prog.initOrder.toList) = cutW :: tailW := by rw [head_words, behind_is, tail_is]
theorem enters_of (P : Program) (c : List Char) (rest : List (List Char)) (h : behindMainWord (wordsSigns P.initOrder.toList) = c :: rest) (h1 : stripLifts liftWords (c :: rest) = ([], c :: rest)) (h2 : (some c == some "cut".toList) = true)
    (h3 : P.laysLater = false) (h4 : P.bearsReflect = false) (h5 : P.doorFits [] = true) : P.mayEnter = true := by
  unfold Program.mayEnter
  rw [h]
  dsimp only
  rw [h1]
  dsimp only
  rw [List.head?_cons, h2, h3, h4, h5]
  simp
theorem make_of (P : Program) (c : List Char) (rest : List (List Char)) (h : behindMainWord (wordsSigns P.initOrder.toList) = c :: rest) (h1 : (c == "gc".toList) = false) (h2 : (c == "spec".toList) = false) (h3 : (c == "cut".toList) = true) : P.make = some .cut := by
  unfold Program.make
  rw [h]
  dsimp only
  rw [h1, h2, h3]
  simp
theorem final_of (P : Program) (c : List Char) (rest : List (List Char)) (h : behindMainWord (wordsSigns P.initOrder.toList) = c :: rest) (h1 : stripLifts liftWords (c :: rest) = ([], c :: rest)) (h2 : (some c == some "carried".toList) = false) (h3 : (some c == some "cut".toList) = true) : P.liftsFinal = false := by
  unfold Program.liftsFinal Program.headLifts
  rw [h, h1]
  dsimp only
  rw [List.head?_cons, h2, h3]
  simp
theorem head_enters : Try.prog.mayEnter = true := enters_of _ cutW tailW words_is strip_is some_cut not_later not_reflect door_fits
theorem head_make : Try.prog.make = some .cut := make_of _ cutW tailW words_is no_gc no_spec is_cut
theorem head_final : Try.prog.liftsFinal = false := final_of _ cutW tailW words_is strip_is not_carried some_cut
theorem and_mk {a b : Bool} (ha : a = true) (hb : b = true) : (a && b) = true := by rw [ha, hb]; rfl
end Go.Proofs.Ytjoknbknhfnggaa

namespace Go.Proofs.Ytjoknbknhfnggaa
open Go Go.RowKit Go.WideShapes Go.ChangeShapes

theorem open_row {H : Type} {enc : TypeId × Value → H} {P : Program} {w : World} {base : Nat} {spare : Nat → Bool} {held : Bool} {t e : TypeId} {fuel : Nat} {cs : List Value} {x : DataW H × List MemPlace}
    (ht : P.underlying t = some (.slice e)) (he : P.underlying e = some (.int .i64)) (hc : P.cellsOf e = 1) (h : DataW.trod enc P w base spare held fuel t cs = some x) :
    ∃ A q c ys, cs = [.slice A q c] ∧ Ints w w.heap.size A q ys ∧ q ≤ c ∧ c ≤ 9223372036854775807 := by
  rcases open_ints ht he hc h with ⟨hcs, _⟩ | ⟨a, len, cap, zs, hcs, _, hl, hm, hz, _, hcell, _⟩
  · exact ⟨none, 0, 0, [], hcs, ⟨rfl, fun h => absurd h (by omega)⟩, Nat.le_refl _, by omega⟩
  · have hlz : len ≤ zs.length := by rw [hz]; split <;> omega
    refine ⟨some a, len, cap, zs.take len, hcs, ⟨by rw [List.length_take]; omega, fun hp => ⟨a, rfl, ?_, fun j v hv => ?_⟩⟩, hl, hm⟩
    · have := hcell 0 (by omega)
      have hb := World.block_lt_of_cell? w _ this
      rwa [block_of_add] at hb
    · rw [List.getElem?_take] at hv
      split at hv
      · rw [hcell j (by have := (List.getElem?_eq_some_iff.1 hv).1; exact this), List.getD_eq_getElem?_getD, hv]; rfl
      · cases hv
theorem open_sets {H : Type} {enc : TypeId × Value → H} {P : Program} {w : World} {base : Nat} {spare : Nat → Bool} {held : Bool} {t e i : TypeId} {fuel : Nat} {cs : List Value} {x : DataW H × List MemPlace}
    (ht : P.underlying t = some (.slice e)) (he : P.underlying e = some (.slice i)) (hi : P.underlying i = some (.int .i64)) (hce : P.cellsOf e = 1) (hci : P.cellsOf i = 1)
    (h : DataW.trod enc P w base spare held fuel t cs = some x) :
    ∃ V n c yss, cs = [.slice V n c] ∧ Sets w w.heap.size V n yss ∧ n ≤ c ∧ c ≤ 9223372036854775807 := by
  rcases DataW.trod_slice ht h with ⟨hcs, _⟩ | ⟨a, len, cap, elems, rest, n, _, hcs, _, _, hl, hm, hlen, hel, _, _⟩
  · exact ⟨none, 0, 0, [], hcs, Sets.nil _, Nat.le_refl _, by omega⟩
  · have each : ∀ j, j < len → ∃ A q c ys, w.cell? (a.add j) = some (.slice A q c) ∧ Ints w w.heap.size A q ys ∧ q ≤ c ∧ c ≤ 9223372036854775807 := by
      intro j hj
      have h1 := hel j hj
      rw [List.getElem?_eq_getElem (by omega), hce, Nat.mul_one, Option.bind_eq_some_iff] at h1
      obtain ⟨cs', hcs', hy⟩ := h1
      obtain ⟨A, q, c, ys, rfl, h2, h3, h4⟩ := open_row he hi hci hy
      exact ⟨A, q, c, ys, cell_of_cells?_one hcs', h2, h3, h4⟩
    have all : ∃ yss : List (List Int), yss.length = len ∧ ∀ (j : Nat) (ys : List Int), yss[j]? = some ys → ∃ A q c, w.cell? (a.add j) = some (.slice A q c) ∧ Ints w w.heap.size A q ys ∧ q ≤ c ∧ c ≤ 9223372036854775807 := by
      have go : ∀ k, k ≤ len → ∃ yss : List (List Int), yss.length = k ∧ ∀ (j : Nat) (ys : List Int), yss[j]? = some ys → ∃ A q c, w.cell? (a.add j) = some (.slice A q c) ∧ Ints w w.heap.size A q ys ∧ q ≤ c ∧ c ≤ 9223372036854775807 := by
        intro k
        induction k with
        | zero => intro _; exact ⟨[], rfl, fun j ys hj => by simp at hj⟩
        | succ k ih =>
          intro hk
          obtain ⟨yss, h1, h2⟩ := ih (by omega)
          obtain ⟨A, q, c, ys, h3, h4, h5, h6⟩ := each k (by omega)
          refine ⟨yss ++ [ys], by simp [h1], fun j zs hz => ?_⟩
          rcases Nat.lt_or_ge j k with hlt | hge
          · rw [List.getElem?_append_left (by omega)] at hz
            exact h2 j zs hz
          · have hjk : j = k := by
              have := (List.getElem?_eq_some_iff.1 hz).1
              simp [h1] at this
              omega
            subst hjk
            rw [List.getElem?_append_right (by omega), h1, Nat.sub_self] at hz
            simp at hz
            subst hz
            exact ⟨A, q, c, h3, h4, h5, h6⟩
      exact go len (Nat.le_refl _)
    obtain ⟨yss, h1, h2⟩ := all
    refine ⟨some a, len, cap, yss, hcs, ⟨h1, fun hp => ⟨a, rfl, ?_, h2⟩⟩, hl, hm⟩
    obtain ⟨A, q, c, ys, h3, _⟩ := each 0 hp
    have hb := World.block_lt_of_cell? w _ h3
    rwa [block_of_add] at hb
/-- a struct of one list of lists that came in, by value -/
theorem sets1 {H : Type} {enc : TypeId × Value → H} {P : Program} {w : World} {base b0 : Nat} {spare : Nat → Bool} {held : Bool} {r : Reach} {t s e i : TypeId} {f0 : Field} {v : Value} {d : DataW H} {p : List MemPlace}
    (hs : P.underlying t = some (.struct #[f0])) (ho : f0.offset = 0) (hC : P.cellsOf t = 1) (hsl : P.underlying s = some (.slice e)) (he : P.underlying e = some (.slice i)) (hi : P.underlying i = some (.int .i64)) (hcs : P.cellsOf s = 1) (hce : P.cellsOf e = 1) (hci : P.cellsOf i = 1)
    (hv : Value.okWide P w r b0 t v) (h : DataW.Trod enc P w base spare held t v d p) (e0 : f0.type = s) :
    ∃ V n c yss, v = .agg #[.slice V n c] ∧ Sets w w.heap.size V n yss ∧ n ≤ c ∧ c ≤ 9223372036854775807 := by
  obtain ⟨cs, rfl, hsz⟩ := okWide_struct hs hv
  have h1 : cs.size = 1 := hsz.trans hC
  obtain ⟨c0, rfl⟩ : ∃ c0, cs = #[c0] := by
    obtain ⟨l⟩ := cs
    match l, h1 with
    | [c0], _ => exact ⟨c0, rfl⟩
  obtain ⟨fuel, hf⟩ := h
  obtain ⟨xs, n, _, _, _, hlen, hg⟩ := DataW.trod_struct hs hf
  have h2 := hg 0 f0 rfl
  have hx : xs[0]? = some (xs[0]'(by rw [hlen]; exact Nat.zero_lt_one)) := List.getElem?_eq_getElem _
  rw [hx, e0, ho, hcs] at h2
  obtain ⟨V, m, c, yss, h3, h4⟩ := open_sets hsl he hi hce hci h2
  refine ⟨V, m, c, yss, ?_, h4⟩
  have : c0 = .slice V m c := by simpa [Value.cells] using h3
  rw [this]

end Go.Proofs.Ytjoknbknhfnggaa
