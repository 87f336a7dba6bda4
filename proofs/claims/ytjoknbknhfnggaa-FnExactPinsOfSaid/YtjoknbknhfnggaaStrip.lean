/- Lists that lie one behind the other: reading, keeping, marking. -/
import Derived.Test.YtjoknbknhfnggaaStacksW
import Derived.Test.YtjoknbknhfnggaaSetsC
namespace Go.Proofs.Ytjoknbknhfnggaa
open Go Go.RowKit

set_option maxRecDepth 100000 in
set_option maxHeartbeats 2000000 in
/-- marks on a part of a block: nothing else turns -/
theorem markPart_any (b o n c : Nat) (zs : List Int) (k : Int) (w : World) (hb : b < w.heap.size) (hl : zs.length = n) (h : ∀ (i : Nat) (v : Int), zs[i]? = some v → w.cell? ⟨b, o + i, none⟩ = some (.int .i64 v) ∧ w.frozen? ⟨b, o + i, none⟩ = false) (hn : n ≤ 1048576) (k0 : 0 ≤ k) (k1 : k ≤ 1000000000000) :
    Calls Try.prog 61 #[.slice (some ⟨b, o, none⟩) n c, .int .i64 k] w fun e w' => e = .returned (.int .i64 (k + n)) ∧ w.grownBy w' (some b) ∧ (∀ p : Addr, w'.frozen? p = w.frozen? p) ∧ (∀ i : Nat, i < n → w'.cell? ⟨b, o + i, none⟩ = some (.int .i64 (k + i))) ∧ ∀ x : Nat, (x < o ∨ o + n ≤ x) → w'.cell? ⟨b, x, none⟩ = w.cell? ⟨b, x, none⟩ := by
  have HH := Lib.hid h
  have HL := Lib.hid hl
  have HB := Lib.hid hb
  clear h hl hb
  go_enter Try.func61, Try.ntmps61
  go_wp2
  go_loopw [1, 5] (fun v i wr => ∃ j : Nat, j ≤ n ∧ i = .int .i64 j ∧ v = .int .i64 (k + j) ∧ Hid (w.grownBy wr (some b)) ∧ Hid (∀ p : Addr, wr.frozen? p = w.frozen? p) ∧ Hid (∀ i : Nat, i < j → wr.cell? ⟨b, o + i, none⟩ = some (.int .i64 (k + i))) ∧ Hid (∀ x : Nat, (x < o ∨ o + j ≤ x) → wr.cell? ⟨b, x, none⟩ = w.cell? ⟨b, x, none⟩)) (fun _ i _ => n - (intOf i).toNat)
  case atStart => exact ⟨0, Nat.zero_le _, rfl, by go_num, Lib.hid (World.grownBy.refl _ _), Lib.hid (fun _ => rfl), Lib.hid (fun i h => absurd h (by omega)), Lib.hid (fun _ _ => rfl)⟩
  case round =>
    obtain ⟨j, hj, rfl, rfl, HG, HF, HD, HO⟩ := hrel
    by_cases hlt : j < n
    · have hv : zs[j]? = some (zs[j]'(by rw [HL.out]; exact hlt)) := List.getElem?_eq_getElem _
      generalize zs[j]'(by rw [HL.out]; exact hlt) = v at hv
      have hc : wr.cell? ⟨b, o + j, none⟩ = some (.int .i64 v) := (HO.out (o + j) (.inr (Nat.le_refl _))).trans (HH.out j v hv).1
      have hf : wr.frozen? ⟨b, o + j, none⟩ = false := (HF.out _).trans (HH.out j v hv).2
      have HC := Lib.hid hc
      have G2 := Lib.hid (grown_set HG.out (p := ⟨b, o + j, none⟩) rfl (.int .i64 (k + j)))
      have F2 : Hid (∀ p : Addr, (wr.setCell ⟨b, o + j, none⟩ (.int .i64 (k + j))).frozen? p = w.frozen? p) := Lib.hid (fun p => by rw [World.frozen?_setCell]; exact HF.out p)
      have D2 : Hid (∀ i : Nat, i < j + 1 → (wr.setCell ⟨b, o + j, none⟩ (.int .i64 (k + j))).cell? ⟨b, o + i, none⟩ = some (.int .i64 (k + i))) := Lib.hid (fun i hi => by
        by_cases e : i = j
        · subst e; exact World.cell?_setCell_same _ _ _ HC.out
        · rw [World.cell?_setCell_other _ _ _ _ (fun e2 => by have := congrArg Addr.off e2; simp at this; omega)]
          exact HD.out i (by omega))
      have O2 : Hid (∀ x : Nat, (x < o ∨ o + (j + 1) ≤ x) → (wr.setCell ⟨b, o + j, none⟩ (.int .i64 (k + j))).cell? ⟨b, x, none⟩ = w.cell? ⟨b, x, none⟩) := Lib.hid (fun x hx => by
        rw [World.cell?_setCell_other _ _ _ _ (fun e2 => by have := congrArg Addr.off e2; simp at this; omega)]
        exact HO.out x (by omega))
      clear hv HG HF HD HO HC
      go_wp2
      go_roundw
      case rel => exact ⟨j + 1, by omega, by go_num, by go_num, G2, F2, D2, O2⟩
      case measure => simp [intOf]; omega
    · have hjn : j = n := by omega
      have HJ := Lib.hid hjn
      clear hjn
      go_wp2
      go_ret
      refine ⟨ret_int (by rw [HJ.out]), HG.out, HF.out, ?_, ?_⟩
      · rw [← HJ.out]; exact HD.out
      · rw [← HJ.out]; exact HO.out

/-- the slice value '.slice V n c' is a row of n lists of the call's own, which lie one behind the other (not all in one block) as the lists yss do, and read as zss -/
structure Strip (w : World) (lo g0 : Nat) (V : Option Addr) (n : Nat) (bs : List Nat) (yss zss : List (List Int)) : Prop where
  len : yss.length = n
  zlen : zss.length = n
  blen : bs.length = n
  low : lo ≤ w.heap.size
  glow : 0 < n → V = some ⟨g0, 0, none⟩ ∧ lo ≤ g0 ∧ g0 < w.heap.size
  same : ∀ (j : Nat) (ys zs : List Int), yss[j]? = some ys → zss[j]? = some zs → zs.length = ys.length
  row : ∀ (j b : Nat) (ys : List Int), bs[j]? = some b → yss[j]? = some ys → w.cell? ⟨g0, j, none⟩ = some (.slice (some ⟨b, sizeAt yss j, none⟩) ys.length ys.length)
  each : ∀ (j b : Nat) (zs : List Int), bs[j]? = some b → zss[j]? = some zs → lo ≤ b ∧ b ≠ g0 ∧ b < w.heap.size ∧ ∀ (i : Nat) (v : Int), zs[i]? = some v → w.cell? ⟨b, sizeAt yss j + i, none⟩ = some (.int .i64 v) ∧ w.frozen? ⟨b, sizeAt yss j + i, none⟩ = false

theorem Strip.keep {w w' : World} {lo g0 n : Nat} {V : Option Addr} {bs : List Nat} {yss zss : List (List Int)} (h : Strip w lo g0 V n bs yss zss) (hs : w.heap.size ≤ w'.heap.size) (hb : ∀ k, lo ≤ k → k < w.heap.size → w'.heap[k]? = w.heap[k]?) : Strip w' lo g0 V n bs yss zss := by
  refine ⟨h.len, h.zlen, h.blen, Nat.le_trans h.low hs, fun hn => ?_, h.same, fun j b ys hj hy => ?_, fun j b zs hj hz => ?_⟩
  · obtain ⟨e, h1, h2⟩ := h.glow hn
    exact ⟨e, h1, Nat.lt_of_lt_of_le h2 hs⟩
  · have hn : 0 < n := by have := (List.getElem?_eq_some_iff.1 hj).1; have := h.blen; omega
    obtain ⟨e, h1, h2⟩ := h.glow hn
    rw [World.cell?_of_block (w := w) (a := ⟨g0, j, none⟩) (hb g0 h1 h2)]
    exact h.row j b ys hj hy
  · obtain ⟨a1, a2, a3, a4⟩ := h.each j b zs hj hz
    refine ⟨a1, a2, Nat.lt_of_lt_of_le a3 hs, fun i v hv => ?_⟩
    rw [World.cell?_of_block (w := w) (a := ⟨b, sizeAt yss j + i, none⟩) (hb b a1 a3), World.frozen?_of_block (w := w) (a := ⟨b, sizeAt yss j + i, none⟩) (hb b a1 a3)]
    exact a4 i v hv
theorem Strip.on {w w' : World} {lo g0 n : Nat} {V : Option Addr} {bs : List Nat} {yss zss : List (List Int)} (h : Strip w lo g0 V n bs yss zss) (hb : Below w.heap.size w w') : Strip w' lo g0 V n bs yss zss :=
  h.keep hb.size (fun k _ hk => hb.block k hk)
theorem Strip.drewN {w : World} {lo g0 n : Nat} {V : Option Addr} {bs : List Nat} {yss zss : List (List Int)} (h : Strip w lo g0 V n bs yss zss) (k : Nat) : Strip (w.drewN k) lo g0 V n bs yss zss := h.on (below_drewN (Below.refl _ _) k)
theorem Strip.past {w w' : World} {lo lo' hi g0 n : Nat} {V : Option Addr} {bs : List Nat} {yss zss : List (List Int)} (h : Strip w lo' g0 V n bs yss zss) (ha : Apart lo hi w w') (hh : hi ≤ lo') : Strip w' lo' g0 V n bs yss zss :=
  h.keep ha.size (fun k h1 hk => ha.block k hk (.inr (by omega)))
theorem Strip.at_ {w : World} {lo g0 n j : Nat} {V : Option Addr} {bs : List Nat} {yss zss : List (List Int)} (h : Strip w lo g0 V n bs yss zss) (hj : j < n) : ∃ b ys zs, bs[j]? = some b ∧ yss[j]? = some ys ∧ zss[j]? = some zs :=
  ⟨_, _, _, List.getElem?_eq_getElem (by rw [h.blen]; exact hj), List.getElem?_eq_getElem (by rw [h.len]; exact hj), List.getElem?_eq_getElem (by rw [h.zlen]; exact hj)⟩
theorem Strip.sets {w : World} {lo g0 n : Nat} {V : Option Addr} {bs : List Nat} {yss zss : List (List Int)} (h : Strip w lo g0 V n bs yss zss) (hbig : sizeL yss ≤ 1048576) : Sets w w.heap.size V n zss := by
  refine ⟨h.zlen, fun hn => ?_⟩
  obtain ⟨e, h1, h2⟩ := h.glow hn
  refine ⟨_, e, h2, fun j zs hz => ?_⟩
  have hj : j < n := by have := (List.getElem?_eq_some_iff.1 hz).1; have := h.zlen; omega
  obtain ⟨b, ys, zs', hb, hy, hz'⟩ := h.at_ hj
  have hsm := h.same j ys zs hy hz
  obtain ⟨a1, a2, a3, a4⟩ := h.each j b zs hb hz
  have hle : ys.length ≤ sizeL yss := by
    have := sizeAt_step hy
    have := sizeAt_under yss (k := j + 1) (by have := h.len; omega)
    omega
  refine ⟨some ⟨b, sizeAt yss j, none⟩, ys.length, ys.length, ?_, ⟨hsm, fun _ => ⟨_, rfl, a3, fun i v hv => ?_⟩⟩, Nat.le_refl _, by omega⟩
  · rw [add_at]; exact h.row j b ys hb hy
  · rw [Addr.add_lit]; exact (a4 i v hv).1
/-- one list is marked -/
theorem Strip.write {w w' : World} {lo g0 n i b : Nat} {V : Option Addr} {bs : List Nat} {yss zss : List (List Int)} {ys : List Int} {r : Int} (h : Strip w lo g0 V n bs yss zss) (hi : bs[i]? = some b) (hy : yss[i]? = some ys)
    (h1 : w.grownBy w' (some b)) (h2 : ∀ p : Addr, w'.frozen? p = w.frozen? p) (h3 : ∀ t : Nat, t < ys.length → w'.cell? ⟨b, sizeAt yss i + t, none⟩ = some (.int .i64 (r + t))) (h4 : ∀ x : Nat, (x < sizeAt yss i ∨ sizeAt yss i + ys.length ≤ x) → w'.cell? ⟨b, x, none⟩ = w.cell? ⟨b, x, none⟩) :
    Strip w' lo g0 V n bs yss (zss.set i (marks r ys.length)) := by
  have hin : i < n := by have := (List.getElem?_eq_some_iff.1 hi).1; have := h.blen; omega
  have hzi : zss[i]? = some (zss[i]'(by rw [h.zlen]; exact hin)) := List.getElem?_eq_getElem _
  obtain ⟨b1, b2, b3, b4⟩ := h.each i b _ hi hzi
  refine ⟨h.len, by rw [List.length_set]; exact h.zlen, h.blen, Nat.le_trans h.low h1.size, fun hn => ?_, fun j ys' zs' hj hz => ?_, fun j b' ys' hj hy' => ?_, fun j b' zs' hj hz => ?_⟩
  · obtain ⟨e, g1, g2⟩ := h.glow hn
    exact ⟨e, g1, Nat.lt_of_lt_of_le g2 h1.size⟩
  · by_cases e : j = i
    · subst e
      rw [List.getElem?_set_self (by rw [h.zlen]; exact hin)] at hz
      injection hz with hz
      rw [hy] at hj
      injection hj with hj
      rw [← hz, ← hj, marks_len]
    · rw [List.getElem?_set_ne (Ne.symm e)] at hz
      exact h.same j ys' zs' hj hz
  · have hn : 0 < n := by omega
    obtain ⟨e, g1, g2⟩ := h.glow hn
    rw [World.cell?_of_block (w := w) (a := ⟨g0, j, none⟩) (h1.block g0 g2 (fun e => by injection e with e; exact b2 e.symm))]
    exact h.row j b' ys' hj hy'
  · by_cases e : j = i
    · subst e
      rw [hi] at hj
      injection hj with hj
      subst hj
      rw [List.getElem?_set_self (by rw [h.zlen]; exact hin)] at hz
      injection hz with hz
      subst hz
      refine ⟨b1, b2, Nat.lt_of_lt_of_le b3 h1.size, fun t v hv => ?_⟩
      have htl : t < ys.length := by have := (List.getElem?_eq_some_iff.1 hv).1; rwa [marks_len] at this
      obtain rfl := marks_at hv
      have hzt := h.same j ys _ hy hzi
      have hv2 := List.getElem?_eq_getElem (l := zss[j]'(by rw [h.zlen]; exact hin)) (i := t) (by omega)
      exact ⟨h3 t htl, by rw [h2]; exact (b4 t _ hv2).2⟩
    · rw [List.getElem?_set_ne (Ne.symm e)] at hz
      obtain ⟨a1, a2, a3, a4⟩ := h.each j b' zs' hj hz
      refine ⟨a1, a2, Nat.lt_of_lt_of_le a3 h1.size, fun t v hv => ?_⟩
      refine ⟨?_, by rw [h2]; exact (a4 t v hv).2⟩
      by_cases eb : b' = b
      · subst eb
        have hjn : j < n := by have := (List.getElem?_eq_some_iff.1 hj).1; have := h.blen; omega
        obtain ⟨_, ys', _, _, hy', _⟩ := h.at_ hjn
        have hlen := h.same j ys' zs' hy' hz
        have htl := (List.getElem?_eq_some_iff.1 hv).1
        rw [h4 _ (by
          rcases Nat.lt_or_ge j i with hji | hji
          · left
            have := sizeAt_step hy'
            have := sizeAt_le yss (show j + 1 ≤ i by omega)
            omega
          · right
            have := sizeAt_step hy
            have := sizeAt_le yss (show i + 1 ≤ j by omega)
            omega)]
        exact (a4 t v hv).1
      · rw [World.cell?_of_block (w := w) (a := ⟨b', sizeAt yss j + t, none⟩) (h1.block b' a3 (fun e => by injection e with e; exact eb e))]
        exact (a4 t v hv).1

set_option maxRecDepth 100000 in
set_option maxHeartbeats 2000000 in
theorem markStrip_any (V : Option Addr) (n c lo g0 : Nat) (bs : List Nat) (yss : List (List Int)) (k : Int) (w : World) (h : Strip w lo g0 V n bs yss yss) (hn : n + sizeL yss ≤ 1048576) (k0 : 0 ≤ k) (k1 : k ≤ 4000000) :
    Calls Try.prog 53 #[.slice V n c, .int .i64 k] w fun e w' => e = .returned (.int .i64 (rAt k yss n)) ∧ Strip w' lo g0 V n bs yss (marksR k yss) ∧ Below lo w w' := by
  have HP := Lib.hid h
  have HN := Lib.hid hn
  have hn1 : n ≤ 1048576 := by omega
  have HLB := Lib.hid (show Below lo w w from ⟨rfl, rfl, rfl, Nat.le_refl _, fun _ _ => rfl⟩)
  clear h hn
  have HK : Hid (k = rAt k yss 0) := Lib.hid (by unfold rAt; simp [sizeAt])
  go_enter Try.func53, Try.ntmps53
  go_wp2
  go_loopw [1, 5] (fun x y wr => ∃ (i : Nat) (zss : List (List Int)), i ≤ n ∧ y = .int .i64 i ∧ x = .int .i64 (rAt k yss i) ∧ Hid (Strip wr lo g0 V n bs yss zss) ∧ Hid (MarkedR k yss i zss) ∧ Hid (Below lo w wr)) (fun _ y _ => n - (intOf y).toNat)
  case atStart => exact ⟨0, yss, Nat.zero_le _, rfl, by rw [← HK.out], HP, Lib.hid ⟨rfl, fun j hj => absurd hj (by omega)⟩, HLB⟩
  case round =>
    clear HLB
    obtain ⟨i, zss, hi, rfl, rfl, HS, HM, HB⟩ := hrel
    by_cases hlt : i < n
    · obtain ⟨b, ys, zs, hb, hy, hz⟩ := HS.out.at_ hlt
      obtain ⟨rfl, hgl, hgs⟩ := HS.out.glow (by omega)
      obtain ⟨a1, a2, a3, a4⟩ := HS.out.each i b zs hb hz
      have hc := HS.out.row i b ys hb hy
      have hsm := HS.out.same i ys zs hy hz
      obtain ⟨r0, r1⟩ := rAt_range (i := i) k0 k1 (show sizeL yss ≤ 1048576 by have := HN.out; omega) (by rw [HP.out.len]; omega)
      obtain ⟨r2, r3⟩ := rAt_range (i := i + 1) k0 k1 (show sizeL yss ≤ 1048576 by have := HN.out; omega) (by rw [HP.out.len]; omega)
      obtain ⟨l, hl⟩ : ∃ l, ys.length = l := ⟨_, rfl⟩
      have HST := Lib.hid (rAt_step (k := k) hy hl)
      have HGD := Lib.hid (getD_list hy)
      have hq : l ≤ 1048576 := by have := fits_at HN.out hy; omega
      have HLL := Lib.hid hl
      have HBB := Lib.hid hb
      have HYY := Lib.hid hy
      have H4 := Lib.hid a4
      have A3 := Lib.hid a3
      have A1 := Lib.hid a1
      have HZL := Lib.hid (hsm.trans hl)
      rw [hl] at hc
      obtain ⟨s, hs⟩ : ∃ s, sizeAt yss i = s := ⟨_, rfl⟩
      have HSS := Lib.hid hs
      rw [hs] at hc H4
      clear hb hy hz a1 a2 a3 a4 hsm hl hs
      go_wp2_with fail
      refine (markPart_any b s l l zs (rAt k yss i) _ A3.out HZL.out H4.out hq r0 (by omega)).mono ?_
      rintro e w2 ⟨rfl, g1, g2, g3, g4⟩
      have P2 : Hid (Strip w2 lo g0 (some ⟨g0, 0, none⟩) n bs yss (zss.set i (marks (rAt k yss i) ys.length))) := Lib.hid (HS.out.write HBB.out HYY.out g1 g2 (by rw [HSS.out, HLL.out]; exact g3) (by rw [HSS.out, HLL.out]; exact g4))
      have M2 : Hid (MarkedR k yss (i + 1) (zss.set i (marks (rAt k yss i) ys.length))) := Lib.hid ⟨by rw [List.length_set]; exact HM.out.1, fun j hj hjl => by
        by_cases e : j = i
        · subst e
          rw [List.getElem?_set_self (by rw [HS.out.zlen]; exact hlt), HGD.out]
        · rw [List.getElem?_set_ne (Ne.symm e)]
          exact HM.out.2 j (by omega) hjl⟩
      have B2 := Lib.hid (HB.out.grown g1 (by have := HS.out.low; omega) (fun q e => by injection e with e; have := A1.out; omega))
      rw [HST.out]
      clear g1 g2 g3 g4 hc
      go_wp2
      go_roundw
      case rel => exact ⟨i + 1, _, by omega, by go_num, rfl, P2, M2, B2⟩
      case measure => simp [intOf]; omega
    · obtain rfl : i = n := by omega
      have HE := Lib.hid (HM.out.all HP.out.len)
      go_wp2
      go_ret
      refine ⟨rfl, ?_, HB.out⟩
      rw [← HE.out]
      exact HS.out

/-- a list of stacks is such a row -/
theorem Stacked.strip {w : World} {lo lo' g0 n q : Nat} {gs : List (Nat × Nat)} {zss : List (List Int)} {pv : Value} (h : Stacked w lo g0 n n gs zss pv q) (ho : Offs w gs zss) (hl : zss.length = n) (h1 : lo' ≤ g0) (h2 : g0 < lo) : Strip w lo' g0 (some ⟨g0, 0, none⟩) n (gs.map Prod.fst) zss zss := by
  have hg := h.row.lt
  have hbs : ∀ (j b : Nat) (zs : List Int), (gs.map Prod.fst)[j]? = some b → zss[j]? = some zs → gs[j]? = some (b, sizeAt zss j) := fun j b zs hj hz => by
    rw [List.getElem?_map] at hj
    rcases hgj : gs[j]? with _ | p
    · rw [hgj] at hj; cases hj
    · rw [hgj] at hj
      obtain ⟨b', o⟩ := p
      injection hj with hj
      obtain rfl : b' = b := hj
      obtain ⟨e, _⟩ := ho j b' o zs hgj hz
      rw [e]
  refine ⟨hl, hl, by rw [List.length_map, h.len], by omega, fun _ => ⟨rfl, h1, hg⟩, fun j ys zs a b => by rw [a] at b; injection b with b; rw [b], fun j b ys hj hy => ?_, fun j b zs hj hz => ?_⟩
  · have hg2 := hbs j b ys hj hy
    have hjn : j < n := by have := (List.getElem?_eq_some_iff.1 hy).1; omega
    rw [h.row.cell hjn]
    unfold stV
    rw [hg2, hy]
  · have hg2 := hbs j b zs hj hz
    obtain ⟨a1, a2, _, a4⟩ := h.each j b _ zs hg2 hz
    obtain ⟨_, o2⟩ := ho j b _ zs hg2 hz
    exact ⟨by omega, by omega, a2, fun i v hv => ⟨a4 i v hv, o2 i (List.getElem?_eq_some_iff.1 hv).1⟩⟩

end Go.Proofs.Ytjoknbknhfnggaa
