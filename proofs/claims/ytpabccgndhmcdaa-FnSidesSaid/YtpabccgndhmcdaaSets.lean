/- Lists of lists of numbers in memory: those that a call may read, those that a call has made. Words alone. -/
import Derived.Test.YtpabccgndhmcdaaLKeys
import Derived.Test.YtpabccgndhmcdaaLent
namespace Go.Proofs.Ytpabccgndhmcdaa
open Go.RowKit

/-- The slice value '.slice V n c' reads as the lists yss, below block B. -/
def Sets (w : World) (B : Nat) (V : Option Addr) (n : Nat) (yss : List (List Int)) : Prop :=
  yss.length = n ∧ (0 < n → ∃ ad, V = some ad ∧ ad.block < B ∧ ∀ (j : Nat) (ys : List Int), yss[j]? = some ys → ∃ A q c, w.cell? (ad.add j) = some (.slice A q c) ∧ Ints w B A q ys ∧ q ≤ c ∧ c ≤ 9223372036854775807)

theorem Sets.len {w : World} {B n : Nat} {V : Option Addr} {yss : List (List Int)} (h : Sets w B V n yss) : yss.length = n := h.1
theorem Sets.at_ {w : World} {B n k : Nat} {V : Option Addr} {yss : List (List Int)} (h : Sets w B V n yss) (hk : k < n) :
    ∃ ad ys A q c, V = some ad ∧ ad.block < B ∧ yss[k]? = some ys ∧ w.cell? (ad.add k) = some (.slice A q c) ∧ Ints w B A q ys ∧ q ≤ c ∧ c ≤ 9223372036854775807 := by
  obtain ⟨ad, e, hb, hc⟩ := h.2 (by omega)
  have hy : yss[k]? = some (yss[k]'(by rw [h.1]; exact hk)) := List.getElem?_eq_getElem _
  obtain ⟨A, q, c, h1, h2, h3, h4⟩ := hc k _ hy
  exact ⟨ad, _, A, q, c, e, hb, hy, h1, h2, h3, h4⟩
theorem Sets.keep {w w' : World} {B n : Nat} {V : Option Addr} {yss : List (List Int)} (h : Sets w B V n yss) (hk : ∀ p : Addr, p.block < B → w'.cell? p = w.cell? p) : Sets w' B V n yss :=
  ⟨h.1, fun hn => by
    obtain ⟨ad, e, hb, hc⟩ := h.2 hn
    refine ⟨ad, e, hb, fun j ys hy => ?_⟩
    obtain ⟨A, q, c, h1, h2, h3⟩ := hc j ys hy
    exact ⟨A, q, c, (hk _ (by rw [block_of_add]; exact hb)).trans h1, h2.keep hk, h3⟩⟩
theorem Sets.more {w : World} {B B' n : Nat} {V : Option Addr} {yss : List (List Int)} (h : Sets w B V n yss) (hB : B ≤ B') : Sets w B' V n yss :=
  ⟨h.1, fun hn => by
    obtain ⟨ad, e, hb, hc⟩ := h.2 hn
    refine ⟨ad, e, by omega, fun j ys hy => ?_⟩
    obtain ⟨A, q, c, h1, h2, h3⟩ := hc j ys hy
    exact ⟨A, q, c, h1, h2.more hB, h3⟩⟩
theorem Sets.below {w w' : World} {B n : Nat} {V : Option Addr} {yss : List (List Int)} (h : Sets w B V n yss) (hb : Below B w w') : Sets w' B V n yss := h.keep fun _ hp => hb.cell hp
theorem Sets.on {w w' : World} {n : Nat} {V : Option Addr} {yss : List (List Int)} (h : Sets w w.heap.size V n yss) (hb : Below w.heap.size w w') : Sets w' w'.heap.size V n yss := (h.below hb).more hb.size
theorem Sets.drewN {w : World} {n : Nat} {V : Option Addr} {yss : List (List Int)} (h : Sets w w.heap.size V n yss) (k : Nat) : Sets (w.drewN k) (w.drewN k).heap.size V n yss := h.on (below_drewN (Below.refl _ _) k)
theorem Sets.nil {w : World} {B : Nat} (V : Option Addr) : Sets w B V 0 [] := ⟨rfl, fun h => absurd h (by omega)⟩

/-- how many numbers lie in the first k lists -/
def sizeAt (yss : List (List Int)) : Nat → Nat
  | 0 => 0
  | k + 1 => sizeAt yss k + (yss.getD k []).length
def sizeL (yss : List (List Int)) : Nat := sizeAt yss yss.length
theorem sizeAt_step {yss : List (List Int)} {k : Nat} {ys : List Int} (h : yss[k]? = some ys) : sizeAt yss (k + 1) = sizeAt yss k + ys.length := by
  show sizeAt yss k + _ = _
  rw [List.getD_eq_getElem?_getD, h]; rfl
theorem sizeAt_le (yss : List (List Int)) : ∀ {j k : Nat}, j ≤ k → sizeAt yss j ≤ sizeAt yss k
  | j, 0, h => by obtain rfl : j = 0 := by omega
                  exact Nat.le_refl _
  | j, k + 1, h => by
    rcases Nat.lt_or_ge j (k + 1) with h1 | h1
    · exact Nat.le_trans (sizeAt_le yss (show j ≤ k by omega)) (Nat.le_add_right _ _)
    · obtain rfl : j = k + 1 := by omega
      exact Nat.le_refl _
theorem size_one {yss : List (List Int)} {k : Nat} {ys : List Int} (h : yss[k]? = some ys) : ys.length ≤ sizeL yss := by
  have h1 := sizeAt_step h
  have h2 : k < yss.length := (List.getElem?_eq_some_iff.1 h).1
  have := sizeAt_le yss (show k + 1 ≤ yss.length by omega)
  unfold sizeL; omega
theorem sizeAt_under (yss : List (List Int)) {k : Nat} (h : k ≤ yss.length) : sizeAt yss k ≤ sizeL yss := sizeAt_le yss h

def ragV (gs : List (Option Addr × Nat × Nat)) : List Value := gs.map (fun a => Value.slice a.1 a.2.1 a.2.2)
/-- The slice value '.slice V n c' is a row of the call's own of n lists, which read as yss and lie in blocks of their own from lo on. -/
structure Rag (w : World) (lo : Nat) (V : Option Addr) (n : Nat) (gs : List (Option Addr × Nat × Nat)) (yss : List (List Int)) : Prop where
  len : yss.length = n
  glen : gs.length = n
  low : lo ≤ w.heap.size
  outer : 0 < n → ∃ ad, V = some ad ∧ lo ≤ ad.block ∧ ad.block < w.heap.size ∧ ∀ (j : Nat) (a : Option Addr × Nat × Nat), gs[j]? = some a → w.cell? (ad.add j) = some (.slice a.1 a.2.1 a.2.2)
  inner : ∀ (j : Nat) (a : Option Addr × Nat × Nat) (ys : List Int), gs[j]? = some a → yss[j]? = some ys → ys.length = a.2.1 ∧ a.2.1 ≤ a.2.2 ∧ a.2.2 ≤ 9223372036854775807 ∧
    (0 < a.2.1 → ∃ ad, a.1 = some ad ∧ Self w ad a.2.1 ys ∧ lo ≤ ad.block ∧ ∀ vd, V = some vd → vd.block ≠ ad.block)
  apart : ∀ (i j : Nat) (a b : Option Addr × Nat × Nat) (ad bd : Addr), i < j → gs[i]? = some a → gs[j]? = some b → 0 < a.2.1 → 0 < b.2.1 → a.1 = some ad → b.1 = some bd → ad.block ≠ bd.block

theorem Rag.nil {w : World} {lo : Nat} (V : Option Addr) (h : lo ≤ w.heap.size) : Rag w lo V 0 [] [] :=
  ⟨rfl, rfl, h, fun h => absurd h (by omega), fun j a ys hj _ => by simp at hj, fun i j a b ad bd _ hi => by simp at hi⟩
theorem Rag.at_ {w : World} {lo n k : Nat} {V : Option Addr} {gs : List (Option Addr × Nat × Nat)} {yss : List (List Int)} (h : Rag w lo V n gs yss) (hk : k < n) :
    ∃ (ad : Addr) (a : Option Addr × Nat × Nat) (ys : List Int), V = some ad ∧ lo ≤ ad.block ∧ ad.block < w.heap.size ∧ gs[k]? = some a ∧ yss[k]? = some ys ∧ w.cell? (ad.add k) = some (.slice a.1 a.2.1 a.2.2) := by
  obtain ⟨ad, e, h1, h2, hc⟩ := h.outer (by omega)
  have hg : gs[k]? = some (gs[k]'(by rw [h.glen]; exact hk)) := List.getElem?_eq_getElem _
  have hy : yss[k]? = some (yss[k]'(by rw [h.len]; exact hk)) := List.getElem?_eq_getElem _
  exact ⟨ad, _, _, e, h1, h2, hg, hy, hc k _ hg⟩
theorem Rag.sets {w : World} {lo n : Nat} {V : Option Addr} {gs : List (Option Addr × Nat × Nat)} {yss : List (List Int)} (h : Rag w lo V n gs yss) : Sets w w.heap.size V n yss :=
  ⟨h.len, fun hn => by
    obtain ⟨ad, e, h1, h2, hc⟩ := h.outer hn
    refine ⟨ad, e, h2, fun j ys hy => ?_⟩
    have hj : j < n := by rw [← h.len]; exact (List.getElem?_eq_some_iff.1 hy).1
    have hg : gs[j]? = some (gs[j]'(by rw [h.glen]; exact hj)) := List.getElem?_eq_getElem _
    obtain ⟨i1, i2, i3, i4⟩ := h.inner j _ ys hg hy
    refine ⟨_, _, _, hc j _ hg, ⟨i1, fun hp => ?_⟩, i2, i3⟩
    obtain ⟨a', e', hs, _⟩ := i4 hp
    obtain ⟨a2, e2, hb2, hc2⟩ := (Own.ints hs).2 hp
    injection e2 with e2
    subst e2
    exact ⟨a', e', hb2, hc2⟩⟩
theorem Rag.on {w w' : World} {lo n : Nat} {V : Option Addr} {gs : List (Option Addr × Nat × Nat)} {yss : List (List Int)} (h : Rag w lo V n gs yss) (hb : Below w.heap.size w w') : Rag w' lo V n gs yss :=
  ⟨h.len, h.glen, Nat.le_trans h.low hb.size, fun hn => by
    obtain ⟨ad, e, h1, h2, hc⟩ := h.outer hn
    exact ⟨ad, e, h1, Nat.lt_of_lt_of_le h2 hb.size, fun j a hj => (hb.cell (by rw [block_of_add]; exact h2)).trans (hc j a hj)⟩,
   fun j a ys hj hy => by
    obtain ⟨i1, i2, i3, i4⟩ := h.inner j a ys hj hy
    exact ⟨i1, i2, i3, fun hp => by
      obtain ⟨ad, e, hs, h1, h2⟩ := i4 hp
      exact ⟨ad, e, hs.on hb, h1, h2⟩⟩, h.apart⟩
theorem Rag.drewN {w : World} {lo n : Nat} {V : Option Addr} {gs : List (Option Addr × Nat × Nat)} {yss : List (List Int)} (h : Rag w lo V n gs yss) (k : Nat) : Rag (w.drewN k) lo V n gs yss := h.on (below_drewN (Below.refl _ _) k)
theorem Rag.more {w : World} {lo lo' n : Nat} {V : Option Addr} {gs : List (Option Addr × Nat × Nat)} {yss : List (List Int)} (h : Rag w lo V n gs yss) (hl : lo' ≤ lo) : Rag w lo' V n gs yss :=
  ⟨h.len, h.glen, Nat.le_trans hl h.low, fun hn => by
    obtain ⟨ad, e, h1, h2⟩ := h.outer hn
    exact ⟨ad, e, by omega, h2⟩,
   fun j a ys hj hy => by
    obtain ⟨i1, i2, i3, i4⟩ := h.inner j a ys hj hy
    exact ⟨i1, i2, i3, fun hp => by
      obtain ⟨ad, e, hs, h1, h2⟩ := i4 hp
      exact ⟨ad, e, hs, by omega, h2⟩⟩, h.apart⟩
/-- kept where no block from lo on turns -/
theorem Rag.aside {w w' : World} {lo n : Nat} {V : Option Addr} {gs : List (Option Addr × Nat × Nat)} {yss : List (List Int)} {row : Option Nat} (h : Rag w lo V n gs yss) (hg : w.grownBy w' row) (hr : ∀ g, row = some g → g < lo ∨ w.heap.size ≤ g) : Rag w' lo V n gs yss :=
  ⟨h.len, h.glen, Nat.le_trans h.low hg.size, fun hn => by
    obtain ⟨ad, e, h1, h2, hc⟩ := h.outer hn
    refine ⟨ad, e, h1, Nat.lt_of_lt_of_le h2 hg.size, fun j a hj => ?_⟩
    rw [World.cell?_of_block (w := w) (hg.block _ (by rw [block_of_add]; exact h2) (fun e' => by rw [block_of_add] at e'; have := hr _ e'.symm; omega))]
    exact hc j a hj,
   fun j a ys hj hy => by
    obtain ⟨i1, i2, i3, i4⟩ := h.inner j a ys hj hy
    exact ⟨i1, i2, i3, fun hp => by
      obtain ⟨ad, e, hs, h1, h2⟩ := i4 hp
      exact ⟨ad, e, hs.apart hg (fun er => by have := hr _ er; have := hs.lt; omega), h1, h2⟩⟩, h.apart⟩
theorem Rag.asetCell {w : World} {lo n : Nat} {V : Option Addr} {gs : List (Option Addr × Nat × Nat)} {yss : List (List Int)} (h : Rag w lo V n gs yss) {p : Addr} (hp : p.block < lo) (v : Value) : Rag (w.setCell p v) lo V n gs yss :=
  h.aside (row := some p.block) (grown_set (p := p) (World.grownBy.refl w (some p.block)) rfl v) (fun g e => by injection e with e; omega)
/-- one list of them has been written over -/
theorem Rag.write {w w' : World} {lo n k : Nat} {V : Option Addr} {gs : List (Option Addr × Nat × Nat)} {yss : List (List Int)} {a : Option Addr × Nat × Nat} {zs : List Int} {row : Option Nat} (h : Rag w lo V n gs yss) (ha : gs[k]? = some a) (hz : zs.length = a.2.1)
    (hs : ∀ ad, 0 < a.2.1 → a.1 = some ad → Self w' ad a.2.1 zs) (hg : w.grownBy w' row) (hr : ∀ g, row = some g → 0 < a.2.1 ∧ ∃ ad, a.1 = some ad ∧ g = ad.block) : Rag w' lo V n gs (yss.set k zs) := by
  have hk : k < n := by rw [← h.glen]; exact (List.getElem?_eq_some_iff.1 ha).1
  have hy : yss[k]? = some (yss[k]'(by rw [h.len]; exact hk)) := List.getElem?_eq_getElem _
  obtain ⟨s1, s2, s3, s4⟩ := h.inner k a _ ha hy
  refine ⟨by rw [List.length_set, h.len], h.glen, Nat.le_trans h.low hg.size, fun hn => ?_, fun j b ys hj hys => ?_, h.apart⟩
  · obtain ⟨ad, e, h1, h2, hc⟩ := h.outer hn
    refine ⟨ad, e, h1, Nat.lt_of_lt_of_le h2 hg.size, fun j b hj => ?_⟩
    rw [World.cell?_of_block (w := w) (hg.block _ (by rw [block_of_add]; exact h2) (fun e' => ?_))]
    · exact hc j b hj
    · rw [block_of_add] at e'
      obtain ⟨hp, bd, e1, e2⟩ := hr _ e'.symm
      obtain ⟨bd', e3, _, _, h4⟩ := s4 hp
      rw [e1] at e3
      injection e3 with e3
      subst e3
      exact h4 ad e e2
  · by_cases hjk : j = k
    · subst hjk
      rw [ha] at hj
      injection hj with hj
      subst hj
      rw [List.getElem?_set_self (by rw [h.len]; exact hk)] at hys
      injection hys with hys
      subst hys
      refine ⟨hz, s2, s3, fun hp => ?_⟩
      obtain ⟨ad, e, _, h1, h2⟩ := s4 hp
      exact ⟨ad, e, hs ad hp e, h1, h2⟩
    · rw [List.getElem?_set_ne (Ne.symm hjk)] at hys
      obtain ⟨t1, t2, t3, t4⟩ := h.inner j b ys hj hys
      refine ⟨t1, t2, t3, fun hp => ?_⟩
      obtain ⟨ad, e, hs', h1, h2⟩ := t4 hp
      refine ⟨ad, e, hs'.apart hg (fun er => ?_), h1, h2⟩
      obtain ⟨hp', bd, e1, e2⟩ := hr _ er
      rcases Nat.lt_or_gt_of_ne hjk with hlt | hgt
      · exact h.apart j k b a ad bd hlt hj ha hp hp' e e1 e2
      · exact h.apart k j a b bd ad hgt ha hj hp' hp e1 e e2.symm

/-- nothing has turned but blocks from lo on, below hi -/
structure Apart (lo hi : Nat) (w w' : World) : Prop where
  os : w'.os = w.os
  tape : w'.tape = w.tape
  output : w'.output = w.output
  size : w.heap.size ≤ w'.heap.size
  block : ∀ k, k < w.heap.size → k < lo ∨ hi ≤ k → w'.heap[k]? = w.heap[k]?
theorem Apart.refl (lo hi : Nat) (w : World) : Apart lo hi w w := ⟨rfl, rfl, rfl, Nat.le_refl _, fun _ _ _ => rfl⟩
theorem Apart.grown {lo hi : Nat} {w w1 w2 : World} {row : Option Nat} (h : Apart lo hi w w1) (hg : w1.grownBy w2 row) (hr : ∀ g, row = some g → lo ≤ g ∧ g < hi) : Apart lo hi w w2 :=
  ⟨hg.os.trans h.os, hg.tape.trans h.tape, hg.output.trans h.output, Nat.le_trans h.size hg.size, fun k hk hc =>
    (hg.block k (Nat.lt_of_lt_of_le hk h.size) (fun e => by have := hr k e.symm; omega)).trans (h.block k hk hc)⟩
theorem Apart.below {lo hi : Nat} {w w' : World} (h : Apart lo hi w w') (hl : lo ≤ w.heap.size) : Below lo w w' := ⟨h.os, h.tape, h.output, h.size, fun k hk => h.block k (by omega) (.inl hk)⟩
theorem Apart.after {lo hi : Nat} {w w1 w2 : World} (h : Apart lo hi w w1) (hb : Below w1.heap.size w1 w2) : Apart lo hi w w2 :=
  ⟨hb.os.trans h.os, hb.tape.trans h.tape, hb.output.trans h.output, Nat.le_trans h.size hb.size, fun k hk hc => (hb.block k (Nat.lt_of_lt_of_le hk h.size)).trans (h.block k hk hc)⟩
theorem Apart.before {lo hi : Nat} {w w1 w2 : World} (h : Apart lo hi w1 w2) (hb : Below w.heap.size w w1) : Apart lo hi w w2 :=
  ⟨h.os.trans hb.os, h.tape.trans hb.tape, h.output.trans hb.output, Nat.le_trans hb.size h.size, fun k hk hc => (h.block k (Nat.lt_of_lt_of_le hk hb.size) hc).trans (hb.block k hk)⟩
/-- the lists lie below hi -/
def Top (gs : List (Option Addr × Nat × Nat)) (hi : Nat) : Prop := ∀ (j : Nat) (a : Option Addr × Nat × Nat) (ad : Addr), gs[j]? = some a → 0 < a.2.1 → a.1 = some ad → ad.block < hi
theorem Rag.top {w : World} {lo n : Nat} {V : Option Addr} {gs : List (Option Addr × Nat × Nat)} {yss : List (List Int)} (h : Rag w lo V n gs yss) : Top gs w.heap.size := by
  intro j a ad hj hp e
  have hjn : j < n := by rw [← h.glen]; exact (List.getElem?_eq_some_iff.1 hj).1
  have hy : yss[j]? = some (yss[j]'(by rw [h.len]; exact hjn)) := List.getElem?_eq_getElem _
  obtain ⟨_, _, _, i4⟩ := h.inner j a _ hj hy
  obtain ⟨bd, e1, hs, _⟩ := i4 hp
  rw [e] at e1; injection e1 with e1; subst e1
  exact hs.lt
/-- lists that lie behind are not touched -/
theorem Rag.past {w w' : World} {lo hi lo' n : Nat} {V : Option Addr} {gs : List (Option Addr × Nat × Nat)} {yss : List (List Int)} (h : Rag w lo' V n gs yss) (ha : Apart lo hi w w') (hh : hi ≤ lo') : Rag w' lo' V n gs yss :=
  ⟨h.len, h.glen, Nat.le_trans h.low ha.size, fun hn => by
    obtain ⟨ad, e, h1, h2, hc⟩ := h.outer hn
    refine ⟨ad, e, h1, Nat.lt_of_lt_of_le h2 ha.size, fun j a hj => ?_⟩
    rw [World.cell?_of_block (w := w) (ha.block _ (by rw [block_of_add]; exact h2) (.inr (by rw [block_of_add]; omega)))]
    exact hc j a hj,
   fun j a ys hj hy => by
    obtain ⟨i1, i2, i3, i4⟩ := h.inner j a ys hj hy
    refine ⟨i1, i2, i3, fun hp => ?_⟩
    obtain ⟨ad, e, hs, h1, h2⟩ := i4 hp
    have hl := hs.lt
    refine ⟨ad, e, ⟨hs.1, by have := hs.2.1; have := ha.size; omega, fun hn => ?_⟩, h1, h2⟩
    obtain ⟨bd, e1, b1, b2, hc⟩ := hs.2.2 hn
    refine ⟨bd, e1, b1, b2, fun k v hv => ?_⟩
    have hb := ha.block (bd.add k).block (by rw [block_of_add]; omega) (.inr (by rw [block_of_add]; omega))
    rw [World.frozen?_of_block (w := w) hb, World.cell?_of_block (w := w) hb]
    exact hc k v hv, h.apart⟩

/-- a pile is such a row -/
theorem Pile.rag {w : World} {lo n p c : Nat} {V : Option Addr} {gs : List (Addr × Nat)} {yss : List (List Int)} (h : Pile w lo (.slice V n c) n p gs yss) (hlo : lo ≤ w.heap.size) : Rag w lo V n (gs.map (fun a => (some a.1, p, a.2))) yss := by
  refine ⟨h.len, by rw [List.length_map, h.glen], hlo, fun hn => ?_, fun j a ys hj hy => ?_, fun i j a b ad bd hij hi hj _ _ ea eb => ?_⟩
  · rcases h.row.2 with ⟨e, hn0⟩ | ⟨g, cap, cur, e, h1, hg, _⟩
    · omega
    · have hV : V = some ⟨g, 0, none⟩ := congrArg addrOf e
      subst hV
      refine ⟨_, rfl, h1, heapLt hg, fun j a hj => ?_⟩
      rw [List.getElem?_map] at hj
      rcases hgj : gs[j]? with _ | b
      · rw [hgj] at hj; cases hj
      · rw [hgj] at hj
        injection hj with hj
        subst hj
        exact h.row.cells (g := g) rfl j _ (by unfold slicesV; rw [List.getElem?_map, hgj]; rfl)
  · rw [List.getElem?_map] at hj
    rcases hgj : gs[j]? with _ | b
    · rw [hgj] at hj; cases hj
    · rw [hgj] at hj
      injection hj with hj
      subst hj
      obtain ⟨s, h1, h2, h3, h4⟩ := h.inner j b ys hgj hy
      exact ⟨s.1, h3, h4, fun _ => ⟨b.1, rfl, s, h1, fun vd hv => by
        subst hv
        intro e
        exact h2 (by simp [Value.ownBlock, e])⟩⟩
  · rw [List.getElem?_map] at hi hj
    rcases hgi : gs[i]? with _ | a'
    · rw [hgi] at hi; cases hi
    rcases hgj : gs[j]? with _ | b'
    · rw [hgj] at hj; cases hj
    rw [hgi] at hi; rw [hgj] at hj
    injection hi with hi
    injection hj with hj
    subst hi; subst hj
    injection ea with ea
    injection eb with eb
    subst ea; subst eb
    exact h.apart i j a' b' hij hgi hgj

/-- what a call answers that gives a list of lists and a code -/
def GivesRag (w : World) (yss : List (List Int)) (e : Ending) (w' : World) : Prop :=
  ∃ V n c gs, e = .returned (.slice V n c) ∧ Rag w' w.heap.size V n gs yss ∧ n ≤ c ∧ c ≤ 9223372036854775807 ∧ Below w.heap.size w w'
/-- .. and a code -/
def GivesRagE (w : World) (code : Int) (yss : List (List Int)) (e : Ending) (w' : World) : Prop :=
  ∃ V n c gs, e = .returned (.tuple #[.slice V n c, .int .i64 code]) ∧ Rag w' w.heap.size V n gs yss ∧ n ≤ c ∧ c ≤ 9223372036854775807 ∧ Below w.heap.size w w'
/-- what a call answers that gives a lock -/
def GivesLock (w : World) (yss : List (List Int)) (e : Ending) (w' : World) : Prop :=
  ∃ V n c gs, e = .returned (.agg #[.slice V n c]) ∧ Rag w' w.heap.size V n gs yss ∧ n ≤ c ∧ c ≤ 9223372036854775807 ∧ Below w.heap.size w w'
/-- .. and a code -/
def GivesLockE (w : World) (code : Int) (yss : List (List Int)) (e : Ending) (w' : World) : Prop :=
  ∃ V n c gs, e = .returned (.tuple #[.agg #[.slice V n c], .int .i64 code]) ∧ Rag w' w.heap.size V n gs yss ∧ n ≤ c ∧ c ≤ 9223372036854775807 ∧ Below w.heap.size w w'

end Go.Proofs.Ytpabccgndhmcdaa
