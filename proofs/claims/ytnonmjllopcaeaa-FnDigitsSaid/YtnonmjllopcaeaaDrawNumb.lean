/- The draw for NumberOf. -/
import Derived.Test.YtnonmjllopcaeaaDrawDigs
import Derived.Deep.DeepCutAuto
namespace Go.Proofs.Ytnonmjllopcaeaa
open Go.RowKit

theorem own_lit (w : World) (xs : List Int) (t : TypeId) {lo : Nat} (h : lo ≤ w.heap.size) : Own (w.alloc (.cells (xs.map (Value.int .i64)).toArray t)) lo (w.alloc (.cells (xs.map (Value.int .i64)).toArray t)).heap.size (some ⟨w.heap.size, 0, none⟩) xs.length xs := by
  refine ⟨rfl, Nat.le_refl _, fun _ => ⟨_, rfl, h, by simp, fun j v hv => ?_⟩⟩
  have e : (⟨w.heap.size, 0, none⟩ : Addr).add j = ⟨w.heap.size, j, none⟩ := by
    unfold Addr.add
    split
    · next h0 => subst h0; rfl
    · simp
  rw [e]
  constructor
  · unfold World.frozen?
    rw [heap_alloc_new w (.cells (xs.map (Value.int .i64)).toArray t)]
    simp
  · rw [World.cell?_alloc_at _ _ _ _ rfl, List.getElem?_toArray, List.getElem?_map, hv]
    rfl
/-- the bases of the draw, as they stand in a slot -/
def BasesIn (lo : Nat) (v : Value) (wx : World) : Prop := ∃ A' m c' xs, v = .slice A' m c' ∧ Own wx lo wx.heap.size A' m xs ∧ m ≤ 7 ∧ allB (-1) 101 xs

/-- what the draw for NumberOf answers -/
def DrawnTwoLists (w : World) (e : Ending) (w' : World) : Prop :=
  ∃ A m c xs A' m' c' ys, e = .returned (.tuple #[.slice A m c, .slice A' m' c']) ∧ Own w' w.heap.size w'.heap.size A m xs ∧ Own w' w.heap.size w'.heap.size A' m' ys ∧ m ≤ 8 ∧ m' ≤ 7 ∧ Below w.heap.size w w'

set_option maxHeartbeats 4000000 in
theorem drawNumberOf_any (B : Nat) (A : Option Addr) (n c : Nat) (w : World) (hb : Bts w B A n) (hB : B ≤ w.heap.size) (hn : n ≤ 4096) :
    Calls Try.prog 27 #[.slice A n c] w (DrawnTwoLists w) := by
  obtain ⟨i0, hi, hz0, hz1, hz2⟩ := info_parts Try.info2'
  have HI := Lib.hid (And.intro hi (And.intro hz0 (And.intro hz1 hz2)))
  clear hi hz0 hz1 hz2
  have HB := Lib.hid hb
  clear hb
  go_enter Try.func27, Try.ntmps27
  go_wp2_with fail
  refine (l01From_any B A n c _ HB.out hB hn).mono ?_
  rintro e w1 ⟨g, rfl, hg, hg1, h1, b1⟩
  have s1 := b1.size
  go_wp2_with fail
  refine (drawBases_any B g A n c _ h1).mono ?_
  rintro e w2 ⟨D, m, d, xs, rfl, hr, hl, hm, ha, h2, g2, z2⟩
  have R2 := Lib.hid hr
  have HL := Lib.hid hl
  have HA := Lib.hid ha
  have b2 := below_grown b1 g2 (fun q e => by injection e with e; omega)
  clear hr hl ha b1 h1 g2
  go_wp2_with fail
  refine (l01Next_any B g A n c _ _ h2 (by omega)).mono ?_
  rintro e w3 ⟨q, rfl, q0, q1, h3, g3⟩
  have R3 := Lib.hid (row_apart R2.out g3 hg1)
  have b3 := below_grown b2 g3 (fun q e => by injection e with e; omega)
  have z3 : w1.heap.size + 1 ≤ w3.heap.size := by have := g3.size; omega
  obtain ⟨A', c', e', ho⟩ := row_ints R3.out HL.out
  injection e' with e1 e2 e3
  subst e1; subst e3
  have HO := Lib.hid ho
  have S3 := Lib.hid h3
  have B3 := Lib.hid b3
  clear ho e2 R2 h2 h3 b2 b3 g3 q1 R3
  go_upto_if 14 with (fail)
  go_cut [5] (fun v wx => BasesIn w1.heap.size v wx ∧ Src wx B g A n c ∧ Below w.heap.size w wx ∧ w1.heap.size + 1 ≤ wx.heap.size)
  case first =>
    rcases k0 : (q == 0) with _ | _
    · go_wp2_with fail
      go_meet
      exact ⟨⟨_, _, _, xs, rfl, HO.out, by omega, HA.out⟩, S3.out, B3.out, z3⟩
    · go_wp2_with fail
      go_meet
      refine ⟨⟨_, _, _, _, rfl, own_lit w3 [100, 100, 100, 100, 100, 100, 100] 2 (by omega), by simp, ?_⟩, S3.out.alloc _, B3.out.alloc B3.out.size _, by simp; omega⟩
      intro v hv
      simp only [List.mem_cons, List.mem_nil_iff, or_false] at hv
      omega
  case rest =>
    clear HO S3 B3 HL HA
    obtain ⟨⟨E, p, f, ys, rfl, hy, hp, hya⟩, h4, b4, z4⟩ := hcut
    obtain ⟨w4, rfl⟩ : ∃ w4, w4 = wc := ⟨_, rfl⟩
    have HY := Lib.hid (hy.below ((Below.refl w4.heap.size w4).alloc (Nat.le_refl _) (.cells #[] 2)))
    have HYA := Lib.hid hya
    have S4 := Lib.hid (h4.alloc (.cells #[] 2))
    have B4 := Lib.hid (b4.alloc b4.size (.cells #[] 2))
    have R4 : Hid ((w4.alloc (.cells #[] 2)).ownsRow w4.heap.size 2 1 (.slice (some ⟨w4.heap.size, 0, none⟩) 0 0) 0 (listI [])) := Lib.hid (row_empty (Nat.le_refl _))
    have hg4 := h4.lt
    have hb4 := b4.size
    clear hy hya h4 b4
    go_wp2_with fail
    go_loopw [6, 7] (fun v i wr => ∃ (k : Nat) (zs : List Int), k ≤ p ∧ i = .int .i64 k ∧ zs.length = k ∧ wr.ownsRow w4.heap.size 2 1 v k (listI zs) ∧
        Own wr w1.heap.size w4.heap.size E p ys ∧ Src wr B g A n c ∧ Below w.heap.size w wr ∧ w4.heap.size + 1 ≤ wr.heap.size) (fun _ i _ => p - (intOf i).toNat)
    case atStart => exact ⟨0, [], Nat.zero_le _, rfl, rfl, R4.out, HY.out, S4.out, B4.out, by simp⟩
    case round =>
      obtain ⟨k, zs, hk, rfl, hzl, hown, hy, hs, hbl, hz⟩ := hrel
      have HO := Lib.hid hown
      have HZ := Lib.hid hzl
      have HW := Lib.hid hy
      have HBl := Lib.hid hbl
      clear hown hzl hbl R4 HY S4 B4
      by_cases hlt : k < p
      · obtain ⟨ad, u, rfl, l1, l2, hu, hf, hc⟩ := hy.at_ hlt
        obtain ⟨u0, u1⟩ := HYA.out u (List.mem_of_getElem? hu)
        have j0 : (0 : Int) ≤ (k : Int) := by omega
        have j1 : (k : Int) < (p : Int) := by omega
        clear hu hy hf
        go_wp2_with fail
        refine (l01Next_any B g A n c _ _ hs (by omega)).mono ?_
        rintro e w5 ⟨r, rfl, r0, r1, h5, g5⟩
        have r2 : r ≤ 101 := by omega
        have O5 := Lib.hid (row_apart HO.out g5 (by omega))
        have W5 := Lib.hid (HW.out.apart g5 (fun q e => by injection e with e; omega))
        have B5 := Lib.hid (below_grown HBl.out g5 (fun q e => by injection e with e; omega))
        have z5 : w4.heap.size + 1 ≤ w5.heap.size := by have := g5.size; omega
        clear HO HW HBl hs g5 r1 hc
        go_wp2_with fail
        refine (l01Next_any B g A n c _ _ h5 (by omega)).mono ?_
        rintro e w6 ⟨s, rfl, t0, t1, h6, g6⟩
        have t2 : s ≤ 39 := by omega
        have O6 := Lib.hid (row_apart O5.out g6 (by omega))
        have W6 := Lib.hid (W5.out.apart g6 (fun q e => by injection e with e; omega))
        have B6 := Lib.hid (below_grown B5.out g6 (fun q e => by injection e with e; omega))
        have z6 : w4.heap.size + 1 ≤ w6.heap.size := by have := g6.size; omega
        clear O5 W5 B5 h5 g6 t1
        go_wp2_with fail
        refine (l01Next_any B g A n c _ _ h6 (by omega)).mono ?_
        rintro e w7 ⟨v, rfl, v0, v1, h7, g7⟩
        have v2 : v ≤ 39 := by omega
        have O7 := Lib.hid (row_apart O6.out g7 (by omega))
        have W7 := Lib.hid (W6.out.apart g7 (fun q e => by injection e with e; omega))
        have B7 := Lib.hid (below_grown B6.out g7 (fun q e => by injection e with e; omega))
        have S7 := Lib.hid h7
        have z7 : w4.heap.size + 1 ≤ w7.heap.size := by have := g7.size; omega
        clear O6 W6 B6 h6 g7 v1 h7
        have hb7 := B7.out.size
        go_wp2_with (at_builtin; refine wpList_append_lies _ rfl _ _ 24 rfl w4.heap.size 2 i0 _ 1 8 Try.underlying24 HI.out.1 HI.out.2.1 HI.out.2.2.1 HI.out.2.2.2 rfl (by omega) _ k _ rfl (O7.out.alloc _) ⟨w7.heap.size, 0, none⟩ 1 1 [.int .i64 (r + s / 39 - v / 39)] rfl rfl (World.news_of_block (cs := #[.int .i64 (r + s / 39 - v / 39)]) (t := 2) (fr := (0, 0)) (heap_alloc_new w7 _)) (by simp [Value.oneCell']) (by omega) (by unfold maxLen; omega) (by omega) (by simp; omega) (w7.heap.size + 1) (by simp) ?_; intro gg cap w8 hown1 hgrow hat hlt3)
        have R8 := Lib.hid hown1
        have S8 := Lib.hid ((S7.out.alloc (.cells #[.int .i64 (r + s / 39 - v / 39)] 2)).apart hgrow (fun q e => by have := row_base O7.out q e; omega))
        have W8 := Lib.hid ((W7.out.below ((Below.refl w7.heap.size w7).alloc (Nat.le_refl _) (.cells #[.int .i64 (r + s / 39 - v / 39)] 2))).apart hgrow (fun q e => by have := row_base O7.out q e; omega))
        have B8 := Lib.hid ((B7.out.alloc hb7 (.cells #[.int .i64 (r + s / 39 - v / 39)] 2)).grown hgrow (by simp; omega) (fun q e => by have := row_base O7.out q e; omega))
        have Z8 : w4.heap.size + 1 ≤ w8.heap.size := by have := hgrow.size; simp at this; omega
        clear hown1 hgrow hat hlt3 O7 S7 W7 B7
        go_wp2
        go_roundw
        case rel => exact ⟨k + 1, zs ++ [r + s / 39 - v / 39], by omega, by go_num, by rw [List.length_append, HZ.out]; rfl, by rw [← listI_snoc]; exact R8.out, W8.out, S8.out, B8.out, Z8⟩
        case measure => simp [intOf]; omega
      · clear hy
        go_wp2_with fail
        refine (l01Next_any B g A n c _ _ hs (by omega)).mono ?_
        rintro e w5 ⟨q, rfl, q0, q1, h5, g5⟩
        have O5 := Lib.hid (row_apart HO.out g5 (by omega))
        have W5 := Lib.hid (HW.out.apart g5 (fun q e => by injection e with e; omega))
        have B5 := Lib.hid (below_grown HBl.out g5 (fun q e => by injection e with e; omega))
        have z5 : w4.heap.size + 1 ≤ w5.heap.size := by have := g5.size; omega
        have hb5 := B5.out.size
        clear HO HW HBl hs g5 q1 h5
        rcases k0 : (q == 0) with _ | _
        · obtain ⟨A', c', rfl, ho⟩ := row_ints O5.out HZ.out
          have HO := Lib.hid (ho.more (lo' := w.heap.size) (by omega) (Nat.le_refl _) (Nat.le_refl _))
          have HW := Lib.hid (W5.out.more (lo' := w.heap.size) (by omega) (by omega) (Nat.le_refl _))
          clear ho
          go_wp2
          go_ret2
          exact ⟨A', k, c', zs, _, p, _, ys, rfl, HO.out, HW.out, by omega, hp, B5.out⟩
        · go_wp2_with (at_builtin; refine wpList_append_lies _ rfl _ _ 24 rfl w4.heap.size 2 i0 _ 1 8 Try.underlying24 HI.out.1 HI.out.2.1 HI.out.2.2.1 HI.out.2.2.2 rfl (by omega) _ k _ rfl (O5.out.alloc _) ⟨w5.heap.size, 0, none⟩ 1 1 [.int .i64 0] rfl rfl (World.news_of_block (cs := #[.int .i64 0]) (t := 2) (fr := (0, 0)) (heap_alloc_new w5 _)) (by simp [Value.oneCell']) (by omega) (by unfold maxLen; omega) (by omega) (by simp; omega) (w5.heap.size + 1) (by simp) ?_; intro gg cap w8 hown1 hgrow hat hlt3)
          have W8 := (W5.out.below ((Below.refl w5.heap.size w5).alloc (Nat.le_refl _) (.cells #[.int .i64 0] 2))).apart hgrow (fun q e => by have := row_base O5.out q e; omega)
          have B8 := Lib.hid ((B5.out.alloc hb5 (.cells #[.int .i64 0] 2)).grown hgrow (by simp; omega) (fun q e => by have := row_base O5.out q e; omega))
          have Z8 : w4.heap.size + 1 ≤ w8.heap.size := by have := hgrow.size; simp at this; omega
          have R8 : w8.ownsRow w4.heap.size 2 1 (.slice (some ⟨gg, 0, none⟩) (k + 1) cap) (k + 1) (listI (zs ++ [0])) := by rw [← listI_snoc]; exact hown1
          obtain ⟨A', c', e', ho⟩ := row_ints R8 (by rw [List.length_append, HZ.out]; rfl)
          injection e' with e1 e2 e3
          subst e1; subst e3
          have HO := Lib.hid (ho.more (lo' := w.heap.size) (by omega) (Nat.le_refl _) (Nat.le_refl _))
          have HW := Lib.hid (W8.more (lo' := w.heap.size) (by omega) (by omega) (Nat.le_refl _))
          clear hown1 hgrow hat hlt3 O5 W5 B5 W8 R8 ho e2
          go_wp2
          go_ret2
          exact ⟨_, k + 1, _, zs ++ [0], _, p, _, ys, rfl, HO.out, HW.out, by omega, hp, B8.out⟩

end Go.Proofs.Ytnonmjllopcaeaa
