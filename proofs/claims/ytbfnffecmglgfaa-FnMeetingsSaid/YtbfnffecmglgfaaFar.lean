/- Lists that lie from a block on: what is stored ahead of it does not touch them. -/
import Derived.Test.YtbfnffecmglgfaaDrawL
namespace Go.Proofs.Ytbfnffecmglgfaa
open Go Go.RowKit

theorem Sets.aside {w : World} {n c lo : Nat} {V : Option Addr} {zss : List (List Int)} {p : Addr} (h : Sets w w.heap.size V n zss) (hV : ∀ ad, V = some ad → lo ≤ ad.block) (hl : LowRow w (.slice V n c) lo) (hp : p.block < lo) (u : Value) : Sets (w.setCell p u) (w.setCell p u).heap.size V n zss := by
  have hg := grown_set (p := p) (World.grownBy.refl w (some p.block)) rfl u
  refine ⟨h.1, fun hn => ?_⟩
  obtain ⟨ad, e, hb, hc⟩ := h.2 hn
  subst e
  refine ⟨ad, rfl, Nat.lt_of_lt_of_le hb hg.size, fun i zs hz => ?_⟩
  have hin : i < n := by have := (List.getElem?_eq_some_iff.1 hz).1; have := h.1; omega
  obtain ⟨A0, q0, c0, h1, h2, h3⟩ := hc i zs hz
  refine ⟨A0, q0, c0, ?_, h2.past hg (fun hq' a ea e2 => by
    injection e2 with e2
    subst ea
    have := hl ad n c rfl i hin a q0 c0 h1 hq'
    omega), h3⟩
  have := hV ad rfl
  rw [World.cell?_setCell_other _ _ _ _ (fun e4 => by have := congrArg Addr.block e4; rw [block_of_add] at this; omega)]
  exact h1
/-- lists that lie from a block on -/
structure Far (w : World) (lo : Nat) (V : Option Addr) (n c : Nat) (zss : List (List Int)) : Prop where
  sets : Sets w w.heap.size V n zss
  top : ∀ ad, V = some ad → lo ≤ ad.block
  low : LowRow w (.slice V n c) lo
theorem Far.aside {w : World} {n c lo : Nat} {V : Option Addr} {zss : List (List Int)} {p : Addr} (h : Far w lo V n c zss) (hp : p.block < lo) (u : Value) : Far (w.setCell p u) lo V n c zss :=
  ⟨h.sets.aside h.top h.low hp u, h.top, h.low.put (fun ad e => by have := h.top ad e; omega) (Nat.le_refl _) u⟩
theorem Far.aside5 {w : World} {n c lo b : Nat} {V : Option Addr} {zss : List (List Int)} (h : Far w lo V n c zss) (hp : b < lo) (m : Mk) : Far (put5 w b m) lo V n c zss :=
  ((((h.aside (p := ⟨b, 0, none⟩) hp _).aside (p := ⟨b, 1, none⟩) hp _).aside (p := ⟨b, 2, none⟩) hp _).aside (p := ⟨b, 3, none⟩) hp _).aside (p := ⟨b, 4, none⟩) hp _
theorem Cell1.aside5 {w : World} {b b' : Nat} {t : TypeId} {v : Value} (h : Cell1 w b t v) (hb : b' ≠ b) (m : Mk) : Cell1 (put5 w b' m) b t v := by
  have g : w.grownBy (put5 w b' m) (some b') := grown_set (grown_set (grown_set (grown_set (grown_set (World.grownBy.refl w (some b')) (p := ⟨b', 0, none⟩) rfl _) (p := ⟨b', 1, none⟩) rfl _) (p := ⟨b', 2, none⟩) rfl _) (p := ⟨b', 3, none⟩) rfl _) (p := ⟨b', 4, none⟩) rfl _
  exact h.grown g (fun e => by injection e with e; exact hb e.symm)

theorem Far.on {w w' : World} {n c lo : Nat} {V : Option Addr} {zss : List (List Int)} (h : Far w lo V n c zss) (hb : Below w.heap.size w w') : Far w' lo V n c zss :=
  ⟨h.sets.on hb, h.top, fun ad k c' e j hj a q c2 hcc h0 => by
    have hn : 0 < n := by injection e with _ e2 _; omega
    obtain ⟨ad', e', hab, _⟩ := h.sets.2 hn
    have e3 : ad' = ad := by injection e with e1 _ _; rw [e'] at e1; injection e1
    subst e3
    rw [hb.cell (p := ad'.add j) (by rw [block_of_add]; exact hab)] at hcc
    exact h.low ad' k c' e j hj a q c2 hcc h0⟩
theorem Far.grown {w w' : World} {n c lo g : Nat} {V : Option Addr} {zss : List (List Int)} (h : Far w lo V n c zss) (hg : w.grownBy w' (some g)) (hp : g < lo) : Far w' lo V n c zss := by
  have hout : ∀ (ad : Addr) (j : Nat), V = some ad → ad.block < w.heap.size → w'.cell? (ad.add j) = w.cell? (ad.add j) := fun ad j e hab =>
    World.cell?_of_block (w := w) (hg.block _ (by rw [block_of_add]; exact hab) (fun e4 => by rw [block_of_add] at e4; injection e4 with e4; have := h.top ad e; omega))
  refine ⟨⟨h.sets.1, fun hn => ?_⟩, h.top, fun ad k c' e j hj a q c2 hcc h0 => ?_⟩
  · obtain ⟨ad, e, hb, hc⟩ := h.sets.2 hn
    refine ⟨ad, e, Nat.lt_of_lt_of_le hb hg.size, fun i zs hz => ?_⟩
    have hin : i < n := by have := (List.getElem?_eq_some_iff.1 hz).1; have := h.sets.1; omega
    obtain ⟨A0, q0, c0, h1, h2, h3⟩ := hc i zs hz
    refine ⟨A0, q0, c0, (hout ad i e hb).trans h1, h2.past hg (fun hq' a ea e2 => by
      injection e2 with e2
      subst ea
      have := h.low ad n c (by rw [e]) i hin a q0 c0 h1 hq'
      omega), h3⟩
  · have hn : 0 < n := by injection e with _ e2 _; omega
    obtain ⟨ad', e', hab, _⟩ := h.sets.2 hn
    have e3 : ad' = ad := by injection e with e1 _ _; rw [e'] at e1; injection e1
    subst e3
    rw [hout ad' j e' hab] at hcc
    exact h.low ad' k c' e j hj a q c2 hcc h0

end Go.Proofs.Ytbfnffecmglgfaa
