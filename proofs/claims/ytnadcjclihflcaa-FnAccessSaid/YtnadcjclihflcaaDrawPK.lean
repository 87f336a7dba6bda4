/- The draw of a key of a plan. The first list of a row is put anew. -/
import Derived.Test.YtnadcjclihflcaaDrawPV
namespace Go.Proofs.Ytnadcjclihflcaa
open Go Go.RowKit

/-- what is kept while a key is drawn -/
structure NpK (w wx : World) (B g : Nat) (A : Option Addr) (n c : Nat) (u v x : Value) : Prop where
  bx : Cell3 wx w.heap.size 30 u v x
  h : Src wx B g A n c
  gr : w.grownBy wx (some g)
theorem NpK.next {w wx wy : World} {B g : Nat} {A : Option Addr} {n c : Nat} {u v x : Value} (k : NpK w wx B g A n c u v x) (hg : wx.grownBy wy (some g)) (hs : Src wy B g A n c) (h1 : g < w.heap.size) : NpK w wy B g A n c u v x :=
  ⟨k.bx.grown hg (fun e => by injection e with e; omega), hs, grown_trans' k.gr hg⟩

set_option maxRecDepth 100000 in
set_option maxHeartbeats 4000000 in
theorem l10DrawKey_any (B g : Nat) (A : Option Addr) (n c : Nat) (A1 : Option Addr) (m c1 : Nat) (A2 : Option Addr) (k c2 : Nat) (V : Option Addr) (q cq : Nat) (w : World) (h : Src w B g A n c) (hm : q ≤ 64) :
    Calls Try.prog 87 #[.pointer (some ⟨g, 0, none⟩), .agg #[.slice A1 m c1, .slice A2 k c2, .slice V q cq]] w (DrawnI w B g A n c) := by
  have hg1 := h.lt
  have K0 : NpK w (w.alloc (.cells #[.slice A1 m c1, .slice A2 k c2, .slice V q cq] 30)).drew B g A n c (.slice A1 m c1) (.slice A2 k c2) (.slice V q cq) := ⟨Cell3.new w _ _ _ _, h.alloc _, grown_drewN (grown_alloc (World.grownBy.refl w (some g)) _) 1⟩
  have cl : (w.alloc (.cells #[.slice A1 m c1, .slice A2 k c2, .slice V q cq] 30)).cell? ⟨w.heap.size, 2, none⟩ = some (.slice V q cq) := K0.bx.cells.2.2
  have cl' := K0.bx.cells.2.2
  clear h
  go_enter Try.func87, Try.ntmps87
  go_wp2
  go_region_held3 (fun w' => w'.cell? ⟨w.heap.size, 2, none⟩ = some (.slice V q cq))
    (first
      | go_keep
      | with_reducible exact cl'
      | with_reducible exact Ea
      | with_reducible exact Eb
      | with_reducible exact Ec)
    (first
      | (go_at_call 104; (with_reducible refine (l01Next_any B g A n c 12 _ (NpK.h (by with_reducible assumption)) (by omega)).mono ?_); rintro e wa ⟨xa, rfl, xa0, xa1, Sa, ga⟩; have Ka := NpK.next (by with_reducible assumption) ga Sa hg1; have Ea := Ka.bx.cells.2.2; have u1 : xa.tdiv 11 = xa / 11 := Int.tdiv_eq_ediv_of_nonneg (by omega); have v3 : IntKind.i64.wrap (xa / 11) = xa / 11 := (by rw [IntKind.wrap_i64]; omega); have v4 : IntKind.i64.wrap (xa.tdiv 11) = xa / 11 := (by rw [u1]; exact v3); have v5 : IntKind.i64.wrap ((q : Int) + xa / 11) = (q : Int) + xa / 11 := (by rw [IntKind.wrap_i64]; omega))
      | (go_at_call 104; (with_reducible refine (l01Next_any B g A n c 20 _ (NpK.h (by with_reducible assumption)) (by omega)).mono ?_); rintro e wc ⟨xc, rfl, xc0, xc1, Sc, gc⟩; have Kc := NpK.next (by with_reducible assumption) gc Sc hg1; have Ec := Kc.bx.cells.2.2; skip)
      | (go_at_call 104; (with_reducible refine (l01Next_any B g A n c ((q : Int) + xa / 11) _ (NpK.h (by with_reducible assumption)) (by omega)).mono ?_); rintro e wb ⟨xb, rfl, xb0, xb1, Sb, gb⟩; have Kb := NpK.next (by with_reducible assumption) gb Sb hg1; have Eb := Kb.bx.cells.2.2; skip))
  all_goals
    go_wp2
    go_ret
    first
      | exact ⟨_, rfl, Kc.h, Kc.gr⟩
      | exact ⟨_, rfl, Kb.h, Kb.gr⟩

/-- the first cell of a row may be put anew -/
theorem rowSet0 {w : World} {base t q : Nat} {v : Value} {vals : List Value} (h : w.ownsRow base t 1 v q vals) (hq : 0 < q) : ∃ gb cap, v = .slice (some ⟨gb, 0, none⟩) q cap ∧ base ≤ gb ∧ gb < w.heap.size ∧ (∃ u, w.cell? ⟨gb, 0, none⟩ = some u) ∧ w.frozen? ⟨gb, 0, none⟩ = false ∧ ∀ x, (w.setCell ⟨gb, 0, none⟩ x).ownsRow base t 1 v q (vals.set 0 x) := by
  rcases h.2 with ⟨_, e⟩ | ⟨g, cap, cur, e, hb, hg, h1, h2, hs, ht⟩
  · omega
  · have hl : 0 < cur.size := by omega
    refine ⟨g, cap, e, hb, heapLt hg, ⟨cur[0], by simp [World.cell?, hg, Array.getElem?_eq_getElem hl]⟩, by simp [World.frozen?, hg], fun x => ⟨by rw [List.length_set]; exact h.1, .inr ⟨g, cap, cur.setIfInBounds 0 x, e, hb, by simp [World.setCell, Array.getElem?_modify, hg], h1, h2, by simpa using hs, ?_⟩⟩⟩
    rw [← ht, Array.toList_setIfInBounds, List.take_set]

/-- .. so may the first of its lists -/
theorem Kods.put0 {w w1 : World} {lo q gb cap r c : Nat} {vals : List Value} {R : List (List Int)} {A : Option Addr} {ys : List Int} (h : Kods w lo (.slice (some ⟨gb, 0, Option.none⟩) q cap) q vals R) (hrow : ∀ x, (w.setCell ⟨gb, 0, Option.none⟩ x).ownsRow lo 24 1 (.slice (some ⟨gb, 0, Option.none⟩) q cap) q (vals.set 0 x))
    (he : w1 = w.setCell ⟨gb, 0, Option.none⟩ (.slice A r c)) (hi : LoI w lo A r ys) (hv : 0 < r → ∀ ad, A = some ad → ad.block ≠ gb) (hc : r ≤ c) (hcm : c ≤ 9223372036854775807) : Kods w1 lo (.slice (some ⟨gb, 0, Option.none⟩) q cap) q (vals.set 0 (.slice A r c)) (R.set 0 ys) := by
  subst he
  have hg : w.grownBy (w.setCell ⟨gb, 0, Option.none⟩ (.slice A r c)) (some gb) := grown_set (p := ⟨gb, 0, Option.none⟩) (World.grownBy.refl w _) rfl _
  refine ⟨⟨hrow _, by rw [List.length_set]; exact h.st.len, fun j u zs hj hz => ?_⟩, fun x hx ad q' c' e hq => ?_⟩
  · by_cases hj0 : j = 0
    · subst hj0
      have h1 : 0 < vals.length := by
        rcases vals with _ | _
        · simp at hj
        · simp
      have h2 : 0 < R.length := by
        rcases R with _ | _
        · simp at hz
        · simp
      rw [List.getElem?_set_self h1] at hj
      rw [List.getElem?_set_self h2] at hz
      injection hj with hj
      injection hz with hz
      subst hj; subst hz
      exact ⟨A, r, c, rfl, hi.1.past hg (fun hr ad e e2 => by injection e2 with e2; exact hv hr ad e e2.symm), hc, hcm, fun hr ad e e2 => by
        have : gb = ad.block := by simpa [Value.ownBlock] using e2
        exact hv hr ad e this.symm⟩
    · rw [List.getElem?_set_ne (Ne.symm hj0)] at hj hz
      obtain ⟨A', q', c', e, k1, k2, k3, k4⟩ := h.st.inner j u zs hj hz
      exact ⟨A', q', c', e, k1.past hg (fun hr ad e' e2 => by
        injection e2 with e2
        exact k4 hr ad e' (by rw [e2]; rfl)), k2, k3, k4⟩
  · rcases List.mem_or_eq_of_mem_set hx with h1 | h1
    · exact h.up x h1 ad q' c' e hq
    · rw [h1] at e
      obtain ⟨e1, e2, _⟩ := Value.slice.inj e
      subst e2
      exact hi.2 hq ad e1

end Go.Proofs.Ytnadcjclihflcaa
