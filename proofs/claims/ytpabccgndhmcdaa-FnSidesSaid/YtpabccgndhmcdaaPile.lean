/- Lists of lists that a call has made: words; and that each key stands once among all keys. -/
import Derived.Test.YtpabccgndhmcdaaNext
namespace Go.Proofs.Ytpabccgndhmcdaa
open Go.RowKit

theorem keys_nodup (m : Mk) : ∀ (k : Nat) (pre : List Int), (keysFrom m k pre).Pairwise (· ≠ ·)
  | 0, pre => by
    unfold keysFrom
    split
    · exact List.pairwise_singleton _ _
    · exact List.Pairwise.nil
  | k + 1, pre => by
    unfold keysFrom
    split
    · rw [List.pairwise_flatMap]
      refine ⟨fun d _ => keys_nodup m k _, ?_⟩
      refine List.Pairwise.imp (R := fun a b => a < b) ?_ List.pairwise_lt_range
      intro a b hab x hx y hy e
      subst e
      obtain ⟨_, h1, _⟩ := keys_facts hx
      obtain ⟨_, h2, _⟩ := keys_facts hy
      rw [List.length_append] at h1 h2
      have h3 := h1.symm.trans h2
      have h4 : [(a : Int)] = [(b : Int)] := List.append_cancel_left h3
      simp at h4
      omega
    · exact List.Pairwise.nil
theorem once {x : List Int} : ∀ {A A' B B' : List (List Int)}, (A ++ x :: B).Pairwise (· ≠ ·) → A ++ x :: B = A' ++ x :: B' → B = B'
  | [], [], B, B', _, h => by simpa using h
  | [], a :: A', B, B', hn, h => by
    simp at h
    obtain ⟨rfl, rfl⟩ := h
    have := (List.pairwise_cons.1 hn).1 x (by simp)
    exact absurd rfl this
  | a :: A, [], B, B', hn, h => by
    simp at h
    obtain ⟨rfl, _⟩ := h
    have := (List.pairwise_cons.1 hn).1 a (by simp)
    exact absurd rfl this
  | a :: A, a' :: A', B, B', hn, h => by
    simp at h
    exact once (A := A) (A' := A') (List.pairwise_cons.1 hn).2 (by simpa using h.2)
theorem next_of {m : Mk} (hm : m.ok = true) {A R : List (List Int)} {x : List Int} (h : allKeys m = A ++ x :: R) : nextAll m x = R := by
  have hx : x ∈ allKeys m := by rw [h]; simp
  obtain ⟨A', e⟩ := all_at (all_are_keys hm hx)
  have hn : (A ++ x :: R).Pairwise (· ≠ ·) := by rw [← h]; exact keys_nodup m _ _
  exact (once hn (h.symm.trans e)).symm
theorem key_len {m : Mk} {x : List Int} (h : x ∈ allKeys m) (hm : m.ok = true) : (x.length : Int) = m.C := by
  obtain ⟨h1, _⟩ := keys_facts h
  obtain ⟨m1, _⟩ := Mk.ok_true hm
  simp at h1
  omega

/-- a list that lies whole in the block of its own beginning -/
def Self (w : World) (a : Addr) (p : Nat) (ys : List Int) : Prop := Own w a.block (a.block + 1) (some a) p ys
theorem Own.self {w : World} {lo hi p : Nat} {a : Addr} {ys : List Int} (h : Own w lo hi (some a) p ys) (hp : 0 < p) : Self w a p ys ∧ lo ≤ a.block ∧ a.block < hi := by
  obtain ⟨_, _, e, h1, h2, _⟩ := h.at_ hp
  injection e with e
  subst e
  refine ⟨⟨h.1, by have := h.2.1; omega, fun hn => ?_⟩, h1, h2⟩
  obtain ⟨ad, e, _, _, hc⟩ := h.2.2 hn
  injection e with e
  subst e
  exact ⟨a, rfl, Nat.le_refl _, by omega, hc⟩
theorem Self.apart {w w' : World} {a : Addr} {p : Nat} {ys : List Int} {row : Option Nat} (h : Self w a p ys) (hg : w.grownBy w' row) (hr : row ≠ some a.block) : Self w' a p ys :=
  Own.apart h hg (fun g e => by
    have : g ≠ a.block := fun e' => hr (by rw [e, e'])
    omega)
theorem Self.on {w w' : World} {a : Addr} {p : Nat} {ys : List Int} (h : Self w a p ys) (hb : Below w.heap.size w w') : Self w' a p ys := Own.below h hb
theorem Self.lt {w : World} {a : Addr} {p : Nat} {ys : List Int} (h : Self w a p ys) : a.block < w.heap.size := by have := Own.size h; omega
theorem Self.under {w w' : World} {a : Addr} {p B : Nat} {ys : List Int} (h : Self w a p ys) (hb : Below B w w') (hB : a.block < B) : Self w' a p ys :=
  ⟨h.1, by have := h.2.1; have := hb.size; omega, fun hn => by
    obtain ⟨ad, e, h1, h2, hc⟩ := h.2.2 hn
    refine ⟨ad, e, h1, h2, fun j v hv => ?_⟩
    have hlt : (ad.add j).block < B := by rw [block_of_add]; omega
    rw [hb.frozen hlt, hb.cell hlt]
    exact hc j v hv⟩

def slicesV (p : Nat) (gs : List (Addr × Nat)) : List Value := gs.map (fun a => Value.slice (some a.1) p a.2)
theorem slicesV_len (p : Nat) (gs : List (Addr × Nat)) : (slicesV p gs).length = gs.length := by simp [slicesV]
theorem slicesV_snoc (p : Nat) (gs : List (Addr × Nat)) (a : Addr) (c : Nat) : slicesV p gs ++ [.slice (some a) p c] = slicesV p (gs ++ [(a, c)]) := by simp [slicesV]
/-- The slice value v is a row of its own of n lists of p numbers each, which read as yss and lie in blocks of their own from lo on. -/
structure Pile (w : World) (lo : Nat) (v : Value) (n p : Nat) (gs : List (Addr × Nat)) (yss : List (List Int)) : Prop where
  row : w.ownsRow lo 24 1 v n (slicesV p gs)
  len : yss.length = n
  inner : ∀ (j : Nat) (a : Addr × Nat) (ys : List Int), gs[j]? = some a → yss[j]? = some ys → Self w a.1 p ys ∧ lo ≤ a.1.block ∧ v.ownBlock ≠ some a.1.block ∧ p ≤ a.2 ∧ a.2 ≤ 9223372036854775807
  apart : ∀ (i j : Nat) (a b : Addr × Nat), i < j → gs[i]? = some a → gs[j]? = some b → a.1.block ≠ b.1.block
theorem Pile.glen {w : World} {lo n p : Nat} {v : Value} {gs : List (Addr × Nat)} {yss : List (List Int)} (h : Pile w lo v n p gs yss) : gs.length = n := by
  have := h.row.1
  rw [slicesV_len] at this
  omega
theorem Pile.none_ {w : World} {lo p : Nat} {v : Value} (h : w.ownsRow lo 24 1 v 0 []) : Pile w lo v 0 p [] [] :=
  ⟨h, rfl, fun j a ys hj _ => by simp at hj, fun i j a b _ hi _ => by simp at hi⟩
theorem Pile.on {w w' : World} {lo n p : Nat} {v : Value} {gs : List (Addr × Nat)} {yss : List (List Int)} (h : Pile w lo v n p gs yss) (hb : Below w.heap.size w w') : Pile w' lo v n p gs yss :=
  ⟨rowBelow h.row hb, h.len, fun j a ys hj hy => by
    obtain ⟨h1, h2⟩ := h.inner j a ys hj hy
    exact ⟨h1.on hb, h2⟩, h.apart⟩
theorem Pile.more {w : World} {lo lo' n p : Nat} {v : Value} {gs : List (Addr × Nat)} {yss : List (List Int)} (h : Pile w lo v n p gs yss) (hl : lo' ≤ lo) : Pile w lo' v n p gs yss :=
  ⟨rowMore h.row hl, h.len, fun j a ys hj hy => by
    obtain ⟨h1, h2, h3⟩ := h.inner j a ys hj hy
    exact ⟨h1, by omega, h3⟩, h.apart⟩
/-- one list more -/
theorem Pile.push {w w' : World} {lo n p g cap c : Nat} {v : Value} {gs : List (Addr × Nat)} {yss : List (List Int)} {a : Addr} {ys : List Int} {t : TypeId} (h : Pile w lo v n p gs yss)
    (hs : Self w a p ys) (ha : lo ≤ a.block) (hv : v.ownBlock ≠ some a.block) (hc : p ≤ c) (hcm : c ≤ 9223372036854775807) (hd : ∀ b ∈ gs, b.1.block ≠ a.block)
    (hrow : w'.ownsRow lo 24 1 (.slice (some ⟨g, 0, none⟩) (n + 1) cap) (n + 1) (slicesV p gs ++ [.slice (some a) p c]))
    (hg : (w.alloc (.cells #[.slice (some a) p c] t)).grownBy w' v.ownBlock) (hat : v.ownBlock = some g ∨ g = w.heap.size + 1) : Pile w' lo (.slice (some ⟨g, 0, none⟩) (n + 1) cap) (n + 1) p (gs ++ [(a, c)]) (yss ++ [ys]) := by
  have hgl := h.glen
  have hb0 := (Below.refl w.heap.size w).alloc (Nat.le_refl _) (.cells #[.slice (some a) p c] t)
  have keep : ∀ (b : Addr) (zs : List Int), Self w b p zs → v.ownBlock ≠ some b.block → Self w' b p zs ∧ (Value.slice (some ⟨g, 0, none⟩) (n + 1) cap).ownBlock ≠ some b.block := by
    intro b zs hb hvb
    refine ⟨(hb.on hb0).apart hg hvb, ?_⟩
    intro e
    have e' : g = b.block := by simpa [Value.ownBlock] using e
    rcases hat with h1 | h1
    · exact hvb (by rw [h1, e'])
    · have := hb.lt; omega
  refine ⟨by rw [← slicesV_snoc]; exact hrow, by rw [List.length_append, h.len]; rfl, ?_, ?_⟩
  · intro j b zs hj hz
    rcases Nat.lt_or_ge j n with hlt | hge
    · rw [List.getElem?_append_left (by omega)] at hj
      rw [List.getElem?_append_left (by rw [h.len]; omega)] at hz
      obtain ⟨h1, h2, h3, h4⟩ := h.inner j b zs hj hz
      obtain ⟨k1, k2⟩ := keep b.1 zs h1 h3
      exact ⟨k1, h2, k2, h4⟩
    · have hjn : j = n := by
        have := (List.getElem?_eq_some_iff.1 hj).1
        rw [List.length_append, hgl] at this
        simp at this
        omega
      subst hjn
      rw [List.getElem?_append_right (by omega), hgl, Nat.sub_self] at hj
      rw [List.getElem?_append_right (by rw [h.len]; omega), h.len, Nat.sub_self] at hz
      simp at hj hz
      subst hj; subst hz
      obtain ⟨k1, k2⟩ := keep a ys hs hv
      exact ⟨k1, ha, k2, hc, hcm⟩
  · intro i j b b' hij hi hj
    rcases Nat.lt_or_ge j n with hlt | hge
    · rw [List.getElem?_append_left (by omega)] at hi hj
      exact h.apart i j b b' hij hi hj
    · have hjn : j = n := by
        have := (List.getElem?_eq_some_iff.1 hj).1
        rw [List.length_append, hgl] at this
        simp at this
        omega
      subst hjn
      rw [List.getElem?_append_left (by omega)] at hi
      rw [List.getElem?_append_right (by omega), hgl, Nat.sub_self] at hj
      simp at hj
      subst hj
      exact hd b (List.mem_of_getElem? hi)
theorem slice_one (a : Addr) (p c : Nat) : ∀ u ∈ [Value.slice (some a) p c], u.oneCell' = true := by
  intro u hu
  simp at hu
  subst hu
  rfl
theorem Try.info24' : (Try.prog.info? 24).map (fun i => (i.zero, i.size, i.bytes)) = some (some (.slice none 0 0), 1, 24) := by kernel_rfl

/-- what a call answers that gives a list of lists and a code -/
def GivesLists (w : World) (p : Nat) (code : Int) (yss : List (List Int)) (e : Ending) (w' : World) : Prop :=
  ∃ V n c gs, e = .returned (.tuple #[.slice V n c, .int .i64 code]) ∧ Pile w' w.heap.size (.slice V n c) n p gs yss ∧ n ≤ 300 ∧ Below w.heap.size w w'

end Go.Proofs.Ytpabccgndhmcdaa
