/- Rows of lists that grow: a row whose lists grow in place, and a row that grows by whole lists. Words alone. -/
import Derived.Test.YtnadcjclihflcaaSets
import Derived.Test.YtnadcjclihflcaaMay
namespace Go.Proofs.Ytnadcjclihflcaa
open Go Go.RowKit

theorem Ints.past {w w' : World} {n : Nat} {A : Option Addr} {xs : List Int} {row : Option Nat} (h : Ints w w.heap.size A n xs) (hg : w.grownBy w' row) (hr : 0 < n → ∀ ad, A = some ad → row ≠ some ad.block) : Ints w' w'.heap.size A n xs :=
  ⟨h.1, fun hn => by
    obtain ⟨ad, e, hb, hc⟩ := h.2 hn
    refine ⟨ad, e, Nat.lt_of_lt_of_le hb hg.size, fun j v hv => ?_⟩
    rw [World.cell?_of_block (w := w) (hg.block _ (by rw [block_of_add]; exact hb) (fun e' => by rw [block_of_add] at e'; exact hr hn ad e e'.symm))]
    exact hc j v hv⟩
theorem rowPast {w w2 : World} {base t s n : Nat} {v : Value} {xs : List Value} {row : Option Nat} (h : w.ownsRow base t s v n xs) (hg : w.grownBy w2 row) (hr : ∀ k, v.ownBlock = some k → row ≠ some k) : w2.ownsRow base t s v n xs := by
  refine ⟨h.1, ?_⟩
  rcases h.2 with h0 | ⟨g, cap, cur, e, h1, hgc, rest⟩
  · exact .inl h0
  · subst e
    exact .inr ⟨g, cap, cur, rfl, h1, (hg.block g (heapLt hgc) (fun e => hr g (by simp [Value.ownBlock]) e.symm)).trans hgc, rest⟩

/-! a row whose lists grow in place -/
structure Built (w : World) (lo g n : Nat) (vals : Nat → Value) (xss : Nat → List Int) : Prop where
  row : w.rowIs g 24 n vals
  inner : ∀ j, j < n → w.ownsRow lo 2 1 (vals j) (xss j).length (intsV (xss j))
  sep : ∀ j, j < n → (vals j).ownBlock ≠ some g
  apart : ∀ i j k, i < n → j < n → i ≠ j → (vals i).ownBlock = some k → (vals j).ownBlock ≠ some k
theorem Built.start {w : World} {lo n : Nat} : Built (w.alloc (.cells (madeCells #[.slice none 0 0] n) 24)) lo w.heap.size n (fun _ => .slice none 0 0) (fun _ => []) :=
  ⟨World.rowIs_made w (.slice none 0 0) n 24, fun j _ => ⟨by simp [intsV], .inl ⟨rfl, rfl⟩⟩, fun j _ => by simp [Value.ownBlock], fun i j k _ _ _ e => by simp [Value.ownBlock] at e⟩
theorem Built.on {w w' : World} {lo g n : Nat} {vals : Nat → Value} {xss : Nat → List Int} (h : Built w lo g n vals xss) (hb : Below w.heap.size w w') : Built w' lo g n vals xss :=
  ⟨h.row.of_block (hb.block g h.row.lt), fun j hj => rowBelow (h.inner j hj) hb, h.sep, h.apart⟩
/-- the list of a chamber has grown by one, and is stored -/
theorem Built.push {w w' : World} {lo g n i gg cap : Nat} {vals : Nat → Value} {xss : Nat → List Int} {d : Int} {o : Obj} (h : Built w lo g n vals xss) (hi : i < n)
    (hown : w'.ownsRow lo 2 1 (.slice (some ⟨gg, 0, none⟩) ((xss i).length + 1) cap) ((xss i).length + 1) (intsV (xss i) ++ [.int .i64 d]))
    (hg : (w.alloc o).grownBy w' (vals i).ownBlock) (hat : (vals i).ownBlock = some gg ∨ w.heap.size ≤ gg) :
    Built (w'.setCell ⟨g, i, none⟩ (.slice (some ⟨gg, 0, none⟩) ((xss i).length + 1) cap)) lo g n (fun j => if j = i then .slice (some ⟨gg, 0, none⟩) ((xss i).length + 1) cap else vals j) (fun j => if j = i then xss i ++ [d] else xss j) := by
  have hgl := h.row.lt
  have ha := h.on ((Below.refl w.heap.size w).alloc (Nat.le_refl _) o)
  have hggg : gg ≠ g := by
    rcases hat with e | e
    · intro e2; exact h.sep i hi (by rw [e, e2])
    · omega
  have hset : w'.grownBy (w'.setCell ⟨g, i, none⟩ (.slice (some ⟨gg, 0, none⟩) ((xss i).length + 1) cap)) (some g) := grown_set (p := ⟨g, i, none⟩) (World.grownBy.refl w' (some g)) rfl _
  have hrow : w'.rowIs g 24 n vals := ha.row.of_block (hg.block g ha.row.lt (fun e => h.sep i hi e.symm))
  refine ⟨(hrow.set i _).congr (fun j _ => rfl), fun j hj => ?_, fun j hj => ?_, fun a b k ha' hb' hab => ?_⟩
  · by_cases e : j = i
    · subst e
      simp only [if_true]
      rw [List.length_append, ← intsV_snoc]
      exact rowPast hown hset (fun k hk => by
        simp [Value.ownBlock] at hk
        subst hk
        intro e2; injection e2 with e2; exact hggg e2.symm)
    · simp only [if_neg e]
      refine rowPast (rowPast (ha.inner j hj) hg (fun k hk e2 => h.apart i j k hi hj (Ne.symm e) e2 hk)) hset (fun k hk e2 => ?_)
      injection e2 with e2
      subst e2
      exact h.sep j hj hk
  · by_cases e : j = i
    · simp only [if_pos e]
      simp [Value.ownBlock]
      exact hggg
    · simp only [if_neg e]
      exact h.sep j hj
  · have old : ∀ j k, j < n → (vals j).ownBlock = some k → k < w.heap.size := by
      intro j k hj hk
      rcases (h.inner j hj).2 with ⟨e, _⟩ | ⟨g', cap', cur, e, _, hg', _⟩
      · rw [e] at hk; simp [Value.ownBlock] at hk
      · rw [e] at hk
        simp [Value.ownBlock] at hk
        subst hk
        exact heapLt hg'
    by_cases ea : a = i
    · subst ea
      rw [if_pos rfl, if_neg (Ne.symm hab)]
      intro hk hbk
      simp [Value.ownBlock] at hk
      subst hk
      rcases hat with e | e
      · exact h.apart a b _ ha' hb' hab e hbk
      · have := old b _ hb' hbk; omega
    · rw [if_neg ea]
      by_cases eb : b = i
      · subst eb
        rw [if_pos rfl]
        intro hk hbk
        simp [Value.ownBlock] at hbk
        subst hbk
        rcases hat with e | e
        · exact h.apart b a _ hb' ha' (Ne.symm hab) e hk
        · have := old a _ ha' hk; omega
      · rw [if_neg eb]
        exact h.apart a b k ha' hb' hab

def partOf : Value → Option Addr × Nat × Nat
  | .slice a n c => (a, n, c)
  | _ => (none, 0, 0)
theorem Built.rag {w : World} {lo g n : Nat} {vals : Nat → Value} {xss : Nat → List Int} (h : Built w lo g n vals xss) {lo' : Nat} (hl1 : lo' ≤ lo) (hl2 : lo' ≤ g) : Rag w lo' (some ⟨g, 0, none⟩) n ((List.range n).map (fun j => partOf (vals j))) ((List.range n).map xss) := by
  have at_ : ∀ (j : Nat) (a : Option Addr × Nat × Nat), ((List.range n).map (fun j => partOf (vals j)))[j]? = some a → j < n ∧ a = partOf (vals j) := by
    intro j a hj
    rw [List.getElem?_map] at hj
    rcases hr : (List.range n)[j]? with _ | u
    · rw [hr] at hj; cases hj
    · rw [hr] at hj
      obtain ⟨hl, e⟩ := List.getElem?_eq_some_iff.1 hr
      rw [List.getElem_range] at e
      subst e
      exact ⟨by simpa using hl, by simpa using hj.symm⟩
  have aty : ∀ (j : Nat) (ys : List Int), ((List.range n).map xss)[j]? = some ys → ys = xss j := by
    intro j ys hj
    rw [List.getElem?_map] at hj
    rcases hr : (List.range n)[j]? with _ | u
    · rw [hr] at hj; cases hj
    · rw [hr] at hj
      obtain ⟨hl, e⟩ := List.getElem?_eq_some_iff.1 hr
      rw [List.getElem_range] at e
      subst e
      simpa using hj.symm
  refine ⟨by simp, by simp, Nat.le_of_lt (Nat.lt_of_le_of_lt hl2 h.row.lt), fun _ => ⟨_, rfl, hl2, h.row.lt, fun j a hj => ?_⟩, fun j a ys hj hy => ?_, fun i j a b ad bd hij hi hj hpa hpb ea eb => ?_⟩
  · obtain ⟨hjn, rfl⟩ := at_ j a hj
    obtain ⟨A, c, e, _⟩ := rowInts (h.inner j hjn) rfl
    have e2 : (⟨g, 0, none⟩ : Addr).add j = ⟨g, j, none⟩ := by
      unfold Addr.add
      split
      · next h0 => subst h0; rfl
      · simp
    rw [e2, h.row.cell hjn, e]; rfl
  · obtain ⟨hjn, rfl⟩ := at_ j a hj
    obtain rfl := aty j ys hy
    obtain ⟨A, c, e, ho, h1, h2⟩ := rowInts (h.inner j hjn) rfl
    rw [e]
    refine ⟨rfl, h1, h2, fun hp => ?_⟩
    obtain ⟨ad, v, rfl, _⟩ := ho.at_ hp
    obtain ⟨s1, s2, _⟩ := ho.self hp
    refine ⟨ad, rfl, s1, Nat.le_trans hl1 s2, fun vd hv => ?_⟩
    injection hv with hv
    subst hv
    intro e3
    exact h.sep j hjn (by rw [e]; simp [Value.ownBlock]; exact e3.symm)
  · obtain ⟨hin, rfl⟩ := at_ i a hi
    obtain ⟨hjn, rfl⟩ := at_ j b hj
    obtain ⟨A, c, e, _⟩ := rowInts (h.inner i hin) rfl
    obtain ⟨A', c', e', _⟩ := rowInts (h.inner j hjn) rfl
    rw [e] at ea; rw [e'] at eb
    have ea' : A = some ad := ea
    have eb' : A' = some bd := eb
    subst ea'; subst eb'
    intro e3
    exact h.apart i j ad.block hin hjn (by omega) (by rw [e]; rfl) (by rw [e', e3]; rfl)

/-! a row that grows by whole lists, which are only read -/
structure Stack (w : World) (lo : Nat) (v : Value) (n : Nat) (vals : List Value) (yss : List (List Int)) : Prop where
  row : w.ownsRow lo 24 1 v n vals
  len : yss.length = n
  inner : ∀ (j : Nat) (u : Value) (ys : List Int), vals[j]? = some u → yss[j]? = some ys → ∃ A q c, u = .slice A q c ∧ Ints w w.heap.size A q ys ∧ q ≤ c ∧ c ≤ 9223372036854775807 ∧ (0 < q → ∀ ad, A = some ad → v.ownBlock ≠ some ad.block)
theorem Stack.vlen {w : World} {lo n : Nat} {v : Value} {vals : List Value} {yss : List (List Int)} (h : Stack w lo v n vals yss) : vals.length = n := by have := h.row.1; omega
theorem Stack.none_ {w : World} {lo : Nat} {v : Value} (h : w.ownsRow lo 24 1 v 0 []) : Stack w lo v 0 [] [] := ⟨h, rfl, fun j u ys hj => by simp at hj⟩
theorem Stack.on {w w' : World} {lo n : Nat} {v : Value} {vals : List Value} {yss : List (List Int)} (h : Stack w lo v n vals yss) (hb : Below w.heap.size w w') : Stack w' lo v n vals yss :=
  ⟨rowBelow h.row hb, h.len, fun j u ys hj hy => by
    obtain ⟨A, q, c, e, h1, h2⟩ := h.inner j u ys hj hy
    exact ⟨A, q, c, e, h1.on hb, h2⟩⟩
theorem Stack.drewN {w : World} {lo n : Nat} {v : Value} {vals : List Value} {yss : List (List Int)} (h : Stack w lo v n vals yss) (k : Nat) : Stack (w.drewN k) lo v n vals yss := h.on (below_drewN (Below.refl _ _) k)
theorem Stack.push {w w' : World} {lo n g cap q c : Nat} {v : Value} {vals : List Value} {yss : List (List Int)} {A : Option Addr} {ys : List Int} {o : Obj} (h : Stack w lo v n vals yss)
    (hi : Ints w w.heap.size A q ys) (hc : q ≤ c) (hcm : c ≤ 9223372036854775807) (hv : 0 < q → ∀ ad, A = some ad → v.ownBlock ≠ some ad.block)
    (hrow : w'.ownsRow lo 24 1 (.slice (some ⟨g, 0, none⟩) (n + 1) cap) (n + 1) (vals ++ [.slice A q c])) (hg : (w.alloc o).grownBy w' v.ownBlock) (hat : v.ownBlock = some g ∨ w.heap.size ≤ g) :
    Stack w' lo (.slice (some ⟨g, 0, none⟩) (n + 1) cap) (n + 1) (vals ++ [.slice A q c]) (yss ++ [ys]) := by
  have hvl := h.vlen
  have hb0 := (Below.refl w.heap.size w).alloc (Nat.le_refl _) o
  have keep : ∀ (B : Option Addr) (p : Nat) (zs : List Int), Ints w w.heap.size B p zs → (0 < p → ∀ ad, B = some ad → v.ownBlock ≠ some ad.block) → Ints w' w'.heap.size B p zs ∧ (0 < p → ∀ ad, B = some ad → (Value.slice (some ⟨g, 0, none⟩) (n + 1) cap).ownBlock ≠ some ad.block) := by
    intro B p zs hz hne
    refine ⟨(hz.on hb0).past hg hne, fun hp ad e e2 => ?_⟩
    have e' : g = ad.block := by simpa [Value.ownBlock] using e2
    rcases hat with h1 | h1
    · exact hne hp ad e (by rw [h1, e'])
    · obtain ⟨bd, e3, hlt, _⟩ := hz.2 hp
      rw [e] at e3; injection e3 with e3; subst e3
      omega
  refine ⟨hrow, by rw [List.length_append, h.len]; rfl, fun j u zs hj hz => ?_⟩
  rcases Nat.lt_or_ge j n with hlt | hge
  · rw [List.getElem?_append_left (by omega)] at hj
    rw [List.getElem?_append_left (by rw [h.len]; omega)] at hz
    obtain ⟨B, p, c', e, h1, h2, h3, h4⟩ := h.inner j u zs hj hz
    obtain ⟨k1, k2⟩ := keep B p zs h1 h4
    exact ⟨B, p, c', e, k1, h2, h3, k2⟩
  · have hjn : j = n := by
      have := (List.getElem?_eq_some_iff.1 hj).1
      rw [List.length_append, hvl] at this
      simp at this
      omega
    subst hjn
    rw [List.getElem?_append_right (by omega), hvl, Nat.sub_self] at hj
    rw [List.getElem?_append_right (by rw [h.len]; omega), h.len, Nat.sub_self] at hz
    simp at hj hz
    subst hj; subst hz
    obtain ⟨k1, k2⟩ := keep A q ys hi hv
    exact ⟨A, q, c, rfl, k1, hc, hcm, k2⟩
theorem Stack.sets {w : World} {lo n : Nat} {v : Value} {vals : List Value} {yss : List (List Int)} (h : Stack w lo v n vals yss) : ∃ V c, v = .slice V n c ∧ Sets w w.heap.size V n yss ∧ n ≤ c ∧ c ≤ 9223372036854775807 := by
  have hvl := h.vlen
  rcases h.row.2 with ⟨e, hn0⟩ | ⟨g, cap, cur, e, h1, hg, hnc, hcm, _⟩
  · subst hn0
    have : yss = [] := List.eq_nil_of_length_eq_zero h.len
    subst this
    exact ⟨none, 0, e, Sets.nil _, by omega, by omega⟩
  · refine ⟨_, _, e, ⟨h.len, fun hn => ⟨_, rfl, heapLt hg, fun j ys hy => ?_⟩⟩, hnc, by unfold maxLen at hcm; omega⟩
    have hj : j < vals.length := by rw [hvl, ← h.len]; exact (List.getElem?_eq_some_iff.1 hy).1
    have hu : vals[j]? = some vals[j] := List.getElem?_eq_getElem hj
    obtain ⟨A, q, c, e2, h2, h3, h4, _⟩ := h.inner j _ ys hu hy
    refine ⟨A, q, c, ?_, h2, h3, h4⟩
    have hc := h.row.cells (g := g) (by rw [e]; rfl) j vals[j] hu
    rw [← e2]
    exact hc
theorem Built.drewN {w : World} {lo g n : Nat} {vals : Nat → Value} {xss : Nat → List Int} (h : Built w lo g n vals xss) (k : Nat) : Built (w.drewN k) lo g n vals xss := h.on (below_drewN (Below.refl _ _) k)
theorem Built.congr {w : World} {lo g n : Nat} {vals : Nat → Value} {xss yss : Nat → List Int} (h : Built w lo g n vals xss) (e : ∀ j, xss j = yss j) : Built w lo g n vals yss := by
  have : xss = yss := funext e
  rw [← this]; exact h

end Go.Proofs.Ytnadcjclihflcaa
