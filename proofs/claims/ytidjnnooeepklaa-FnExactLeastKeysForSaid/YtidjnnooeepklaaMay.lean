/- mayBegin of the program. fillKey of the program. NextKey and FirstKey of the program. NextKey and FirstKey of the program: their walks. Lists of lists that a call has made: words; and that each key stands once among all keys. FirstKeys of the program. -/
import Derived.Test.YtidjnnooeepklaaRow
import Derived.Deep.RegionHeld3
import Derived.Lib.SliceRun
namespace Go.Proofs.Ytidjnnooeepklaa
open Go.RowKit

theorem may_no {m : Mk} {xs : List Int} {k : Nat} (hall : ∀ j, 1 ≤ j → j < k + 1 → ruleB m xs j = true) (hk : k < 4) (h : ruleB m xs (k + 1) = false) : mayB m xs = false := by
  match k, hk, h with
  | 0, _, h => unfold mayB; rw [show allIn 0 (m.D - 1) xs = false from h]; rfl
  | 1, _, h => unfold mayB; rw [show stepsB m.S xs = false from h]; simp
  | 2, _, h => unfold mayB; rw [show runsB m.M xs = false from h]; simp
  | 3, _, h => unfold mayB; rw [show decide (m.L ≤ m.C - xs.length + kinds xs) = false from h]; simp
theorem may_yes {m : Mk} {xs : List Int} {k : Nat} (hall : ∀ j, 1 ≤ j → j < k + 1 → ruleB m xs j = true) (hk : ¬ k < 4) : mayB m xs = true := by
  unfold mayB
  rw [show allIn 0 (m.D - 1) xs = true from hall 1 (by omega) (by omega), show stepsB m.S xs = true from hall 2 (by omega) (by omega), show runsB m.M xs = true from hall 3 (by omega) (by omega), show decide (m.L ≤ m.C - xs.length + kinds xs) = true from hall 4 (by omega) (by omega)]
  rfl
theorem rules_next {m : Mk} {xs : List Int} {k : Nat} (hall : ∀ j, 1 ≤ j → j < k + 1 → ruleB m xs j = true) (h : ruleB m xs (k + 1) = true) : ∀ j, 1 ≤ j → j < k + 1 + 1 → ruleB m xs j = true := by
  intro j h1 h2
  by_cases e : j = k + 1
  · subst e; exact h
  · exact hall j h1 (by omega)
end Go.Proofs.Ytidjnnooeepklaa

namespace Go.Proofs.Ytidjnnooeepklaa
open Go.RowKit

theorem grown_below {a w w' : World} {row : Option Nat} (h : a.grownBy w row) (hb : Below w.heap.size w w') : a.grownBy w' row :=
  ⟨hb.os.trans h.os, hb.tape.trans h.tape, hb.output.trans h.output, Nat.le_trans h.size hb.size, fun i hi hn => (hb.block i (Nat.lt_of_lt_of_le hi h.size)).trans (h.block i hi hn)⟩
theorem grown_then {a b c : World} {row : Option Nat} (h : a.grownBy b row) (k : b.grownBy c row) : a.grownBy c row :=
  ⟨k.os.trans h.os, k.tape.trans h.tape, k.output.trans h.output, Nat.le_trans h.size k.size, fun i hi hn => (k.block i (Nat.lt_of_lt_of_le hi h.size) hn).trans (h.block i hi hn)⟩
theorem grown_dn {a w : World} {row : Option Nat} (h : a.grownBy w row) (n : Nat) : a.grownBy (w.drewN n) row := ⟨h.os, h.tape, h.output, h.size, h.block⟩
theorem Own.dn {w : World} {lo hi n : Nat} {A : Option Addr} {xs : List Int} (h : Own w lo hi A n xs) (k : Nat) : Own (w.drewN k) lo hi A n xs := h
theorem Own.put {w : World} {lo hi n : Nat} {ad : Addr} {xs : List Int} {j : Nat} (v : Int) (h : Own w lo hi (some ad) n xs) (hj : j < n) : Own (w.setCell (ad.add j) (.int .i64 v)) lo hi (some ad) n (xs.set j v) := by
  refine ⟨by rw [List.length_set, h.len], by simpa [World.setCell] using h.2.1, fun hn => ?_⟩
  obtain ⟨ad', e, h1, h2, hc⟩ := h.2.2 hn
  obtain rfl : ad = ad' := by injection e
  refine ⟨ad, rfl, h1, h2, fun i u hu => ?_⟩
  by_cases e : i = j
  · subst e
    obtain ⟨_, v', e', _, _, _, hf, hcell⟩ := h.at_ hj
    injection e' with e'
    subst e'
    rw [List.getElem?_set_self (by rw [h.len]; exact hj)] at hu
    obtain rfl : v = u := by injection hu
    exact ⟨by rw [World.frozen?_setCell]; exact hf, World.cell?_setCell_same _ _ _ hcell⟩
  · rw [List.getElem?_set_ne (Ne.symm e)] at hu
    rw [World.frozen?_setCell, World.cell?_setCell_other _ _ _ _ (add_ne ad (Ne.symm e))]
    exact hc i u hu
theorem take_set {xs : List Int} {j : Nat} {v : Int} (hj : j < xs.length) : (xs.set j v).take (j + 1) = xs.take j ++ [v] := by
  rw [List.take_succ_eq_append_getElem (by rw [List.length_set]; exact hj), List.getElem_set_self, List.take_set_of_le (Nat.le_refl _)]
theorem take_set' {xs : List Int} {j : Nat} {v : Int} : (xs.set j v).take j = xs.take j := List.take_set_of_le (Nat.le_refl _)

/-- what fillKey answers: T are the keys that it looks for the first of -/
def Filled (w : World) (lo hi : Nat) (ad : Addr) (n ch : Nat) (ys : List Int) (T : List (List Int)) (e : Ending) (w' : World) : Prop :=
  ∃ (ok : Bool) (zs : List Int), e = .returned (.bool ok) ∧ Own w' lo hi (some ad) n zs ∧ w.grownBy w' (some ad.block) ∧ zs.take ch = ys.take ch ∧ ((ok = true ∧ T.head? = some zs) ∨ (ok = false ∧ T = []))
theorem depth_snoc {m : Mk} {xs : List Int} {d : Nat} (h : allIn 0 (m.D - 1) xs = true) (hd : (d : Int) < m.D) : allIn 0 (m.D - 1) (xs ++ [(d : Int)]) = true := by
  unfold allIn at *
  rw [List.all_append, h]
  simp [inB]; omega

end Go.Proofs.Ytidjnnooeepklaa

namespace Go.Proofs.Ytidjnnooeepklaa
open Go.RowKit

/-- whether cuts keep the rules 1 and 2 -/
def cutsB (m : Mk) (xs : List Int) : Bool := allIn 0 (m.D - 1) xs && decide ((xs.length : Int) = m.C)
def nextOk (m : Mk) (xs : List Int) : Bool := m.ok && cutsB m xs
def nextL (m : Mk) (xs : List Int) : List Int := if nextOk m xs then headL (nextAll m xs) else []
def nextE (m : Mk) (xs : List Int) : Int := if m.ok then (if cutsB m xs then (if (nextAll m xs).isEmpty then 4 else 0) else 2) else 1
theorem next_bad {m : Mk} {xs : List Int} (h : m.ok = false) : nextL m xs = [] ∧ nextE m xs = 1 := by simp [nextL, nextE, nextOk, h]
theorem next_no {m : Mk} {xs : List Int} (h : m.ok = true) (h2 : cutsB m xs = false) : nextL m xs = [] ∧ nextE m xs = 2 := by simp [nextL, nextE, nextOk, h, h2]
theorem next_none {m : Mk} {xs : List Int} (h : m.ok = true) (h2 : cutsB m xs = true) (h3 : nextAll m xs = []) : nextL m xs = [] ∧ nextE m xs = 4 := by simp [nextL, nextE, nextOk, h, h2, h3, headL]
theorem next_yes {m : Mk} {xs ys : List Int} (h : m.ok = true) (h2 : cutsB m xs = true) (h3 : (nextAll m xs).head? = some ys) : nextL m xs = ys ∧ nextE m xs = 0 := by
  have h4 : (nextAll m xs).isEmpty = false := by
    cases hn : nextAll m xs with
    | nil => rw [hn] at h3; cases h3
    | cons a b => rfl
  simp [nextL, nextE, nextOk, h, h2, headL, h3, h4]
theorem cuts_no1 {m : Mk} {xs : List Int} (h : (xs.length : Int) ≠ m.C) : cutsB m xs = false := by simp [cutsB, h]
theorem cuts_no2 {m : Mk} {xs : List Int} (h : allIn 0 (m.D - 1) xs = false) : cutsB m xs = false := by simp [cutsB, h]
theorem cuts_yes {m : Mk} {xs : List Int} (h1 : (xs.length : Int) = m.C) (h : allIn 0 (m.D - 1) xs = true) : cutsB m xs = true := by simp [cutsB, h, h1]

/-- what a copy of a list answers -/
def Copied (w : World) (n : Nat) (xs : List Int) (e : Ending) (w' : World) : Prop :=
  ∃ A c, e = .returned (.slice A n c) ∧ Own w' w.heap.size w'.heap.size A n xs ∧ n ≤ c ∧ c ≤ 9223372036854775807 ∧ Below w.heap.size w w'
theorem ints_news {w : World} {B n : Nat} {ad : Addr} {xs : List Int} (h : Ints w B (some ad) n xs) (hn : 0 < n) : ∀ j u, (intsV xs)[j]? = some u → w.cell? (ad.add j) = some u := by
  intro j u hu
  unfold intsV at hu
  rw [List.getElem?_map] at hu
  rcases hv : xs[j]? with _ | v
  · rw [hv] at hu; cases hu
  · rw [hv] at hu
    obtain ⟨ad', e, _, hc⟩ := h.2 hn
    injection e with e
    subst e
    have hu' : Value.int .i64 v = u := by simpa using hu
    rw [← hu']
    exact hc _ _ hv

set_option maxRecDepth 100000 in
set_option maxHeartbeats 1000000 in
theorem clone_any (ad : Addr) (n c : Nat) (xs : List Int) (w : World) (h : Ints w w.heap.size (some ad) n xs) (hn : n ≤ 1048576) (hp : 0 < n) :
    Calls Try.prog 113 #[.slice (some ad) n c] w (Copied w n xs) := by
  obtain ⟨i0, hi, hz0, hz1, hz2⟩ := info_parts Try.info2'
  have HI := Lib.hid (And.intro hi (And.intro hz0 (And.intro hz1 hz2)))
  clear hi hz0 hz1 hz2
  have HL := Lib.hid h.len
  have hb0 := (Below.refl w.heap.size w).alloc (Nat.le_refl _) (.cells #[] 2)
  have HN := Lib.hid (ints_news (h.below hb0) hp)
  have HB := Lib.hid hb0
  clear hb0
  have HO := Lib.hid (rowNil (w := w) (t := 2) (s := 1) (Nat.le_refl w.heap.size))
  have hcmp : ∀ W : World, (binOp .eql 27 (.slice (some ad) n c) (.slice none 0 0)).run Try.prog W = .ok (.bool false) W := fun W => Lib.run_eql_slice_nil W 27 2 (some ad) n c 0 0 Try.underlying27
  go_enter Try.func113, Try.ntmps113
  go_wp2_with (at_builtin; refine wpList_append_lies _ rfl _ _ 27 rfl w.heap.size 2 i0 _ 1 8 Try.underlying27 HI.out.1 HI.out.2.1 HI.out.2.2.1 HI.out.2.2.2 rfl (by omega) _ 0 _ rfl HO.out ad n c (intsV xs) rfl (by rw [intsV_len, HL.out]; omega) HN.out (intsV_one _) hp (by unfold maxLen; omega) (by omega) (by simp) (w.heap.size + 1) (by simp) ?_; intro gg cap w5 hown1 hgrow hat hlt3)
  rw [show 0 + n = n by omega, List.nil_append] at hown1
  obtain ⟨ho, hc1, hc2⟩ := rowIntsAt hown1 HL.out
  have B5 := Lib.hid (HB.out.grown hgrow (by simp) (fun q e => by have := rowBase HO.out q e; omega))
  have O5 := Lib.hid ho
  clear ho hown1 hgrow hat
  go_wp2
  go_ret
  exact ⟨some ⟨gg, 0, none⟩, cap, by simp, O5.out, hc1, hc2, B5.out⟩

end Go.Proofs.Ytidjnnooeepklaa

namespace Go.Proofs.Ytidjnnooeepklaa
open Go.RowKit

theorem below_grown' {B : Nat} {a w w' : World} {row : Option Nat} (h : Below B a w) (hB : B ≤ w.heap.size) (hg : w.grownBy w' row) (hr : ∀ g, row = some g → B ≤ g) : Below B a w' := h.grown hg hB hr

def firstL (m : Mk) : List Int := if m.ok then headL (allKeys m) else []
def firstE (m : Mk) : Int := if m.ok then 0 else 1
theorem first_bad {m : Mk} (h : m.ok = false) : firstL m = [] ∧ firstE m = 1 := by simp [firstL, firstE, h]
theorem first_yes {m : Mk} {ys : List Int} (h : m.ok = true) (h3 : (allKeys m).head? = some ys) : firstL m = ys ∧ firstE m = 0 := by simp [firstL, firstE, h, headL, h3]

end Go.Proofs.Ytidjnnooeepklaa

namespace Go.Proofs.Ytidjnnooeepklaa
open Go.RowKit

theorem keys_nodup (m : Mk) : ∀ (k : Nat) (pre : List Int), (keysFrom m k pre).Pairwise (· ≠ ·)
  | 0, pre => by
    unfold keysFrom
    split
    · exact List.pairwise_singleton _ _
    · exact List.Pairwise.nil
  | k + 1, pre => by
    unfold keysFrom
    split
    · rw [List.pairwise_flatMap]
      refine ⟨fun d _ => keys_nodup m k _, ?_⟩
      refine List.Pairwise.imp (R := fun a b => a < b) ?_ List.pairwise_lt_range
      intro a b hab x hx y hy e
      subst e
      obtain ⟨_, h1, _⟩ := keys_facts hx
      obtain ⟨_, h2, _⟩ := keys_facts hy
      rw [List.length_append] at h1 h2
      have h3 := h1.symm.trans h2
      have h4 : [(a : Int)] = [(b : Int)] := List.append_cancel_left h3
      simp at h4
      omega
    · exact List.Pairwise.nil
theorem once {x : List Int} : ∀ {A A' B B' : List (List Int)}, (A ++ x :: B).Pairwise (· ≠ ·) → A ++ x :: B = A' ++ x :: B' → B = B'
  | [], [], B, B', _, h => by simpa using h
  | [], a :: A', B, B', hn, h => by
    simp at h
    obtain ⟨rfl, rfl⟩ := h
    have := (List.pairwise_cons.1 hn).1 x (by simp)
    exact absurd rfl this
  | a :: A, [], B, B', hn, h => by
    simp at h
    obtain ⟨rfl, _⟩ := h
    have := (List.pairwise_cons.1 hn).1 a (by simp)
    exact absurd rfl this
  | a :: A, a' :: A', B, B', hn, h => by
    simp at h
    exact once (A := A) (A' := A') (List.pairwise_cons.1 hn).2 (by simpa using h.2)
theorem next_of {m : Mk} (hm : m.ok = true) {A R : List (List Int)} {x : List Int} (h : allKeys m = A ++ x :: R) : nextAll m x = R := by
  have hx : x ∈ allKeys m := by rw [h]; simp
  obtain ⟨A', e⟩ := all_at (all_are_keys hm hx)
  have hn : (A ++ x :: R).Pairwise (· ≠ ·) := by rw [← h]; exact keys_nodup m _ _
  exact (once hn (h.symm.trans e)).symm
theorem key_len {m : Mk} {x : List Int} (h : x ∈ allKeys m) (hm : m.ok = true) : (x.length : Int) = m.C := by
  obtain ⟨h1, _⟩ := keys_facts h
  obtain ⟨m1, _⟩ := Mk.ok_true hm
  simp at h1
  omega

/-- a list that lies whole in the block of its own beginning -/
def Self (w : World) (a : Addr) (p : Nat) (ys : List Int) : Prop := Own w a.block (a.block + 1) (some a) p ys
theorem Own.self {w : World} {lo hi p : Nat} {a : Addr} {ys : List Int} (h : Own w lo hi (some a) p ys) (hp : 0 < p) : Self w a p ys ∧ lo ≤ a.block ∧ a.block < hi := by
  obtain ⟨_, _, e, h1, h2, _⟩ := h.at_ hp
  injection e with e
  subst e
  refine ⟨⟨h.1, by have := h.2.1; omega, fun hn => ?_⟩, h1, h2⟩
  obtain ⟨ad, e, _, _, hc⟩ := h.2.2 hn
  injection e with e
  subst e
  exact ⟨a, rfl, Nat.le_refl _, by omega, hc⟩
theorem Self.apart {w w' : World} {a : Addr} {p : Nat} {ys : List Int} {row : Option Nat} (h : Self w a p ys) (hg : w.grownBy w' row) (hr : row ≠ some a.block) : Self w' a p ys :=
  Own.apart h hg (fun g e => by
    have : g ≠ a.block := fun e' => hr (by rw [e, e'])
    omega)
theorem Self.on {w w' : World} {a : Addr} {p : Nat} {ys : List Int} (h : Self w a p ys) (hb : Below w.heap.size w w') : Self w' a p ys := Own.below h hb
theorem Self.lt {w : World} {a : Addr} {p : Nat} {ys : List Int} (h : Self w a p ys) : a.block < w.heap.size := by have := Own.size h; omega
theorem Self.under {w w' : World} {a : Addr} {p B : Nat} {ys : List Int} (h : Self w a p ys) (hb : Below B w w') (hB : a.block < B) : Self w' a p ys :=
  ⟨h.1, by have := h.2.1; have := hb.size; omega, fun hn => by
    obtain ⟨ad, e, h1, h2, hc⟩ := h.2.2 hn
    refine ⟨ad, e, h1, h2, fun j v hv => ?_⟩
    have hlt : (ad.add j).block < B := by rw [block_of_add]; omega
    rw [hb.frozen hlt, hb.cell hlt]
    exact hc j v hv⟩

def slicesV (p : Nat) (gs : List (Addr × Nat)) : List Value := gs.map (fun a => Value.slice (some a.1) p a.2)
theorem slicesV_len (p : Nat) (gs : List (Addr × Nat)) : (slicesV p gs).length = gs.length := by simp [slicesV]
theorem slicesV_snoc (p : Nat) (gs : List (Addr × Nat)) (a : Addr) (c : Nat) : slicesV p gs ++ [.slice (some a) p c] = slicesV p (gs ++ [(a, c)]) := by simp [slicesV]
/-- The slice value v is a row of its own of n lists of p numbers each, which read as yss and lie in blocks of their own from lo on. -/
structure Pile (w : World) (lo : Nat) (v : Value) (n p : Nat) (gs : List (Addr × Nat)) (yss : List (List Int)) : Prop where
  row : w.ownsRow lo 27 1 v n (slicesV p gs)
  len : yss.length = n
  inner : ∀ (j : Nat) (a : Addr × Nat) (ys : List Int), gs[j]? = some a → yss[j]? = some ys → Self w a.1 p ys ∧ lo ≤ a.1.block ∧ v.ownBlock ≠ some a.1.block ∧ p ≤ a.2 ∧ a.2 ≤ 9223372036854775807
  apart : ∀ (i j : Nat) (a b : Addr × Nat), i < j → gs[i]? = some a → gs[j]? = some b → a.1.block ≠ b.1.block
theorem Pile.glen {w : World} {lo n p : Nat} {v : Value} {gs : List (Addr × Nat)} {yss : List (List Int)} (h : Pile w lo v n p gs yss) : gs.length = n := by
  have := h.row.1
  rw [slicesV_len] at this
  omega
theorem Pile.none_ {w : World} {lo p : Nat} {v : Value} (h : w.ownsRow lo 27 1 v 0 []) : Pile w lo v 0 p [] [] :=
  ⟨h, rfl, fun j a ys hj _ => by simp at hj, fun i j a b _ hi _ => by simp at hi⟩
theorem Pile.on {w w' : World} {lo n p : Nat} {v : Value} {gs : List (Addr × Nat)} {yss : List (List Int)} (h : Pile w lo v n p gs yss) (hb : Below w.heap.size w w') : Pile w' lo v n p gs yss :=
  ⟨rowBelow h.row hb, h.len, fun j a ys hj hy => by
    obtain ⟨h1, h2⟩ := h.inner j a ys hj hy
    exact ⟨h1.on hb, h2⟩, h.apart⟩
theorem Pile.more {w : World} {lo lo' n p : Nat} {v : Value} {gs : List (Addr × Nat)} {yss : List (List Int)} (h : Pile w lo v n p gs yss) (hl : lo' ≤ lo) : Pile w lo' v n p gs yss :=
  ⟨rowMore h.row hl, h.len, fun j a ys hj hy => by
    obtain ⟨h1, h2, h3⟩ := h.inner j a ys hj hy
    exact ⟨h1, by omega, h3⟩, h.apart⟩
/-- one list more -/
theorem Pile.push {w w' : World} {lo n p g cap c : Nat} {v : Value} {gs : List (Addr × Nat)} {yss : List (List Int)} {a : Addr} {ys : List Int} {t : TypeId} (h : Pile w lo v n p gs yss)
    (hs : Self w a p ys) (ha : lo ≤ a.block) (hv : v.ownBlock ≠ some a.block) (hc : p ≤ c) (hcm : c ≤ 9223372036854775807) (hd : ∀ b ∈ gs, b.1.block ≠ a.block)
    (hrow : w'.ownsRow lo 27 1 (.slice (some ⟨g, 0, none⟩) (n + 1) cap) (n + 1) (slicesV p gs ++ [.slice (some a) p c]))
    (hg : (w.alloc (.cells #[.slice (some a) p c] t)).grownBy w' v.ownBlock) (hat : v.ownBlock = some g ∨ g = w.heap.size + 1) : Pile w' lo (.slice (some ⟨g, 0, none⟩) (n + 1) cap) (n + 1) p (gs ++ [(a, c)]) (yss ++ [ys]) := by
  have hgl := h.glen
  have hb0 := (Below.refl w.heap.size w).alloc (Nat.le_refl _) (.cells #[.slice (some a) p c] t)
  have keep : ∀ (b : Addr) (zs : List Int), Self w b p zs → v.ownBlock ≠ some b.block → Self w' b p zs ∧ (Value.slice (some ⟨g, 0, none⟩) (n + 1) cap).ownBlock ≠ some b.block := by
    intro b zs hb hvb
    refine ⟨(hb.on hb0).apart hg hvb, ?_⟩
    intro e
    have e' : g = b.block := by simpa [Value.ownBlock] using e
    rcases hat with h1 | h1
    · exact hvb (by rw [h1, e'])
    · have := hb.lt; omega
  refine ⟨by rw [← slicesV_snoc]; exact hrow, by rw [List.length_append, h.len]; rfl, ?_, ?_⟩
  · intro j b zs hj hz
    rcases Nat.lt_or_ge j n with hlt | hge
    · rw [List.getElem?_append_left (by omega)] at hj
      rw [List.getElem?_append_left (by rw [h.len]; omega)] at hz
      obtain ⟨h1, h2, h3, h4⟩ := h.inner j b zs hj hz
      obtain ⟨k1, k2⟩ := keep b.1 zs h1 h3
      exact ⟨k1, h2, k2, h4⟩
    · have hjn : j = n := by
        have := (List.getElem?_eq_some_iff.1 hj).1
        rw [List.length_append, hgl] at this
        simp at this
        omega
      subst hjn
      rw [List.getElem?_append_right (by omega), hgl, Nat.sub_self] at hj
      rw [List.getElem?_append_right (by rw [h.len]; omega), h.len, Nat.sub_self] at hz
      simp at hj hz
      subst hj; subst hz
      obtain ⟨k1, k2⟩ := keep a ys hs hv
      exact ⟨k1, ha, k2, hc, hcm⟩
  · intro i j b b' hij hi hj
    rcases Nat.lt_or_ge j n with hlt | hge
    · rw [List.getElem?_append_left (by omega)] at hi hj
      exact h.apart i j b b' hij hi hj
    · have hjn : j = n := by
        have := (List.getElem?_eq_some_iff.1 hj).1
        rw [List.length_append, hgl] at this
        simp at this
        omega
      subst hjn
      rw [List.getElem?_append_left (by omega)] at hi
      rw [List.getElem?_append_right (by omega), hgl, Nat.sub_self] at hj
      simp at hj
      subst hj
      exact hd b (List.mem_of_getElem? hi)
theorem slice_one (a : Addr) (p c : Nat) : ∀ u ∈ [Value.slice (some a) p c], u.oneCell' = true := by
  intro u hu
  simp at hu
  subst hu
  rfl
theorem Try.info27' : (Try.prog.info? 27).map (fun i => (i.zero, i.size, i.bytes)) = some (some (.slice none 0 0), 1, 24) := by kernel_rfl

/-- what a call answers that gives a list of lists and a code -/
def GivesLists (w : World) (p : Nat) (code : Int) (yss : List (List Int)) (e : Ending) (w' : World) : Prop :=
  ∃ V n c gs, e = .returned (.tuple #[.slice V n c, .int .i64 code]) ∧ Pile w' w.heap.size (.slice V n c) n p gs yss ∧ n ≤ 300 ∧ Below w.heap.size w w'

end Go.Proofs.Ytidjnnooeepklaa

namespace Go.Proofs.Ytidjnnooeepklaa
open Go.RowKit

def fkL (m : Mk) (n : Int) : List (List Int) := if m.ok && inB n 0 300 then (allKeys m).take n.toNat else []
def fkE (m : Mk) (n : Int) : Int := if m.ok then (if inB n 0 300 then 0 else 2) else 1
theorem fk_bad {m : Mk} {n : Int} (h : m.ok = false) : fkL m n = [] ∧ fkE m n = 1 := by simp [fkL, fkE, h]
theorem fk_no {m : Mk} {n : Int} (h : m.ok = true) (h2 : inB n 0 300 = false) : fkL m n = [] ∧ fkE m n = 2 := by simp [fkL, fkE, h, h2]
theorem fk_yes {m : Mk} {n : Int} (h : m.ok = true) (h2 : inB n 0 300 = true) : fkL m n = (allKeys m).take n.toNat ∧ fkE m n = 0 := by simp [fkL, fkE, h, h2]
def codeI (more : Bool) : Int := if more then 0 else 4
def lenOf : Value → Nat
  | .slice _ n _ => n
  | _ => 0

/-- the key at hand, and those that follow it: none is left, or the value kv is the first of R, a list of its own apart from the pile v -/
def AtHand (w : World) (lo p : Nat) (v : Value) (gs : List (Addr × Nat)) (kv : Value) (more : Bool) (R : List (List Int)) : Prop :=
  (R = [] ∧ more = false) ∨ ∃ a c y R', R = y :: R' ∧ more = true ∧ kv = .slice (some a) p c ∧ Self w a p y ∧ lo ≤ a.block ∧ p ≤ c ∧ c ≤ 9223372036854775807 ∧ v.ownBlock ≠ some a.block ∧ ∀ b ∈ gs, b.1.block ≠ a.block
theorem AtHand.next {w w' : World} {lo p n : Nat} {v : Value} {gs : List (Addr × Nat)} {yss : List (List Int)} {A : Option Addr} {c q : Nat} {y : List Int} {R : List (List Int)} (hp : 0 < p) (hpile : Pile w lo v n p gs yss) (hlo : lo ≤ w.heap.size)
    (ho : Own w' w.heap.size w'.heap.size A q y) (hy : y.length = p) (hc : q ≤ c) (hcm : c ≤ 9223372036854775807) : AtHand w' lo p v gs (.slice A q c) true (y :: R) := by
  obtain rfl : q = p := by rw [← ho.len, hy]
  obtain ⟨a, _, rfl, _⟩ := ho.at_ hp
  obtain ⟨h1, h2, h3⟩ := ho.self hp
  refine .inr ⟨a, c, y, R, rfl, rfl, rfl, h1, by omega, hc, hcm, ?_, ?_⟩
  · intro e
    rcases hpile.row.2 with ⟨rfl, _⟩ | ⟨g, cap, cur, rfl, _, hg, _⟩
    · cases e
    · have := heapLt hg
      have e' : g = a.block := by simpa [Value.ownBlock] using e
      omega
  · intro b hb e
    obtain ⟨j, hj⟩ := List.getElem?_of_mem hb
    have hjn : j < n := by rw [← hpile.glen]; exact (List.getElem?_eq_some_iff.1 hj).1
    obtain ⟨h4, _⟩ := hpile.inner j b yss[j]! hj (by rw [List.getElem!_eq_getElem?_getD, List.getElem?_eq_getElem (by rw [hpile.len]; exact hjn)]; rfl)
    have := h4.lt
    omega

end Go.Proofs.Ytidjnnooeepklaa
