/- The draw of a lock. -/
import Derived.Test.YtbfnffecmglgfaaDrawKey
import Derived.Test.YtbfnffecmglgfaaSHull
import Derived.Deep.LoopGhost
namespace Go.Proofs.Ytbfnffecmglgfaa
open Go Go.RowKit

/-- what a draw of a key answers, which is one -/
def DrawnKK (w : World) (m : Mk) (B g : Nat) (A : Option Addr) (n c : Nat) (e : Ending) (w' : World) : Prop :=
  ∃ A' k c' xs, e = .returned (.slice A' k c') ∧ Own w' w.heap.size w'.heap.size A' k xs ∧ k ≤ 1048576 ∧ k ≤ c' ∧ c' ≤ 9223372036854775807 ∧ Src w' B g A n c ∧ w.grownBy w' (some g) ∧ (xs.length : Int) = m.C
theorem addAt0 (b i : Nat) : (⟨b, 0, none⟩ : Addr).add i = ⟨b, i, none⟩ := by
  unfold Addr.add
  split
  · next h0 => subst h0; rfl
  · simp
/-- the row's cells may be written, and no list lies in the row's block -/
def RowFree (w : World) (v : Value) : Prop :=
  ∀ (ad : Addr) (k c : Nat), v = .slice (some ad) k c → ∀ j, j < k → w.frozen? (ad.add j) = false ∧ ∀ a q c, w.cell? (ad.add j) = some (.slice (some a) q c) → 0 < q → a.block ≠ ad.block
theorem Stack.free {w : World} {lo n : Nat} {v : Value} {vals : List Value} {yss : List (List Int)} (h : Stack w lo v n vals yss) : RowFree w v := by
  intro ad k c e j hj
  have hvl := h.vlen
  rcases h.row.2 with ⟨rfl, _⟩ | ⟨g, cap, cur, rfl, hb, hg, hnc, hcm, hcs, htk⟩
  · injection e with e _ _; cases e
  · injection e with e1 e2 e3
    injection e1 with e1
    subst e1; subst e2
    have hu : vals[j]? = some (vals[j]'(by omega)) := List.getElem?_eq_getElem _
    have hy : yss[j]? = some (yss[j]'(by have := h.len; omega)) := List.getElem?_eq_getElem _
    obtain ⟨A, q, c', e4, _, _, _, h4⟩ := h.inner j _ _ hu hy
    have hc := h.row.cells (g := g) rfl j _ hu
    refine ⟨by rw [addAt0]; simp [World.frozen?, hg], fun a q' c2 hcc h0 => ?_⟩
    rw [hc, e4] at hcc
    injection hcc with hcc
    injection hcc with f1 f2 f3
    subst f2
    intro hab
    exact h4 h0 a f1 (by rw [hab]; rfl)
/-- each list with a number in it lies from a block on -/
def LowIn (vals : List Value) (lo : Nat) : Prop := ∀ (j : Nat) (u : Value), vals[j]? = some u → ∀ a q c, u = .slice (some a) q c → 0 < q → lo ≤ a.block
theorem LowIn.push {vals : List Value} {lo q c : Nat} {A : Option Addr} (h : LowIn vals lo) (h2 : 0 < q → ∀ ad, A = some ad → lo ≤ ad.block) : LowIn (vals ++ [.slice A q c]) lo := by
  intro j u hj a q' c' e h0
  by_cases hl : j < vals.length
  · rw [List.getElem?_append_left hl] at hj
    exact h j u hj a q' c' e h0
  · rw [List.getElem?_append_right (by omega)] at hj
    have hj0 := (List.getElem?_eq_some_iff.1 hj).1
    simp at hj0
    rw [hj0] at hj
    simp at hj
    rw [← hj] at e
    injection e with e1 e2 e3
    subst e2
    exact h2 h0 a e1
def LowRow (w : World) (v : Value) (lo : Nat) : Prop :=
  ∀ (ad : Addr) (k c : Nat), v = .slice (some ad) k c → ∀ j, j < k → ∀ a q c', w.cell? (ad.add j) = some (.slice (some a) q c') → 0 < q → lo ≤ a.block
theorem Stack.lowRow {w : World} {lo lo' n : Nat} {v : Value} {vals : List Value} {yss : List (List Int)} (h : Stack w lo v n vals yss) (hl : LowIn vals lo') : LowRow w v lo' := by
  intro ad k c e j hj a q c' hcc h0
  have hvl := h.vlen
  rcases h.row.2 with ⟨rfl, _⟩ | ⟨g, cap, cur, rfl, hb, hg, hnc, hcm, hcs, htk⟩
  · injection e with e _ _; cases e
  · injection e with e1 e2 e3
    injection e1 with e1
    subst e1; subst e2
    have hu : vals[j]? = some (vals[j]'(by omega)) := List.getElem?_eq_getElem _
    have hc := h.row.cells (g := g) rfl j _ hu
    rw [hc] at hcc
    injection hcc with hcc
    exact hl j _ hu a q c' hcc h0
theorem LowRow.put {w : World} {V : Option Addr} {n c lo lo' : Nat} {p : Addr} (h : LowRow w (.slice V n c) lo) (hV : ∀ ad, V = some ad → ad.block ≠ p.block) (hl : lo' ≤ lo) (u : Value) : LowRow (w.setCell p u) (.slice V n c) lo' := by
  intro ad k c' e j hj a q c2 hc h0
  have h2 := h ad k c' e j hj a q c2
  injection e with e1 e2 e3
  rw [World.cell?_setCell_other _ _ _ _ (fun e4 => by have := congrArg Addr.block e4; rw [block_of_add] at this; exact hV ad e1 this.symm)] at hc
  exact Nat.le_trans hl (h2 hc h0)
theorem RowFree.put {w : World} {V : Option Addr} {n c : Nat} {p : Addr} (h : RowFree w (.slice V n c)) (hV : ∀ ad, V = some ad → ad.block ≠ p.block) (u : Value) : RowFree (w.setCell p u) (.slice V n c) := by
  intro ad k c' e j hj
  obtain ⟨h1, h2⟩ := h ad k c' e j hj
  injection e with e1 e2 e3
  refine ⟨by rw [World.frozen?_setCell]; exact h1, fun a q c2 hc => ?_⟩
  rw [World.cell?_setCell_other _ _ _ _ (fun e4 => by have := congrArg Addr.block e4; rw [block_of_add] at this; exact hV ad e1 this.symm)] at hc
  exact h2 a q c2 hc
/-- another list is put into a row that may be written -/
theorem Sets.swap {w : World} {n c j q c' : Nat} {ad : Addr} {zss : List (List Int)} {A : Option Addr} {ys : List Int} (h : Sets w w.heap.size (some ad) n zss) (hf : RowFree w (.slice (some ad) n c)) (hj : j < n) (hi : Ints w w.heap.size A q ys) (hne : 0 < q → ∀ a, A = some a → a.block ≠ ad.block) (hq : q ≤ c') (hc' : c' ≤ 9223372036854775807) :
    Sets (w.setCell (ad.add j) (.slice A q c')) (w.setCell (ad.add j) (.slice A q c')).heap.size (some ad) n (zss.set j ys) := by
  have hg := grown_set (p := ad.add j) (World.grownBy.refl w (some (ad.add j).block)) rfl (.slice A q c')
  have hb0 : (ad.add j).block = ad.block := block_of_add ad j
  refine ⟨by rw [List.length_set]; exact h.1, fun hn => ?_⟩
  obtain ⟨ad', e, hb, hc⟩ := h.2 hn
  injection e with e
  subst e
  refine ⟨ad, rfl, Nat.lt_of_lt_of_le hb hg.size, fun i zs hz => ?_⟩
  by_cases hij : i = j
  · subst hij
    rw [List.getElem?_set_self (by rw [h.1]; exact hj)] at hz
    injection hz with hz
    subst hz
    have hx : zss[i]? = some (zss[i]'(by rw [h.1]; exact hj)) := List.getElem?_eq_getElem _
    obtain ⟨A0, q0, c0, h1, _⟩ := hc i _ hx
    exact ⟨A, q, c', World.cell?_setCell_same _ _ _ h1, hi.past hg (fun hq' a ea e2 => by rw [hb0] at e2; injection e2 with e2; exact hne hq' a ea e2.symm), hq, hc'⟩
  · rw [List.getElem?_set_ne (Ne.symm hij)] at hz
    have hin : i < n := by have := (List.getElem?_eq_some_iff.1 hz).1; have := h.1; omega
    obtain ⟨A0, q0, c0, h1, h2, h3⟩ := hc i zs hz
    refine ⟨A0, q0, c0, ?_, h2.past hg (fun hq' a ea e2 => by
      rw [hb0] at e2; injection e2 with e2
      subst ea
      exact (hf ad n c rfl i hin).2 a q0 c0 h1 hq' e2.symm), h3⟩
    rw [World.cell?_setCell_other _ _ _ _ (add_ne ad (Ne.symm hij))]
    exact h1
def GivesSetsW (w : World) (yss : List (List Int)) (e : Ending) (w' : World) : Prop :=
  ∃ V n c, e = .returned (.agg #[.slice V n c]) ∧ Sets w' w'.heap.size V n yss ∧ n ≤ c ∧ c ≤ 9223372036854775807 ∧ Below w.heap.size w w' ∧ (∀ ad, V = some ad → w.heap.size ≤ ad.block) ∧ RowFree w' (.slice V n c) ∧ LowRow w' (.slice V n c) w.heap.size
set_option maxRecDepth 100000 in
set_option maxHeartbeats 8000000 in
theorem l04HullW_any (m : Mk) (hm : m.ok = true) (V : Option Addr) (n c : Nat) (xss : List (List Int)) (w : World) (h : Sets w w.heap.size V n xss) (hn : n ≤ 1048576) (hk : ∀ (k : Nat) (ys : List Int), xss[k]? = some ys → (ys.length : Int) = m.C) :
    Calls Try.prog 98 #[.agg #[.int .i64 m.C, .int .i64 m.D, .int .i64 m.S, .int .i64 m.M, .int .i64 m.L], .slice V n c] w (GivesSetsW w (lockOf m.C.toNat m.D.toNat (hullP xss))) := by
  obtain ⟨m1, m2, m3, m4, m5, m6, m7, m8, m9, m10, m11⟩ := Mk.ok_true hm
  obtain ⟨D, hD⟩ : ∃ D : Nat, m.D.toNat = D := ⟨_, rfl⟩
  obtain ⟨C, hC⟩ : ∃ C : Nat, m.C.toNat = C := ⟨_, rfl⟩
  have hDD : (D : Int) = m.D := by omega
  have hCC : (C : Int) = m.C := by omega
  rw [hD, hC]
  have HS := Lib.hid h
  have HK := Lib.hid hk
  obtain ⟨ii, hi0, hz0, hz1, hz2⟩ := info_parts Try.info2'
  have HF := Lib.hid (And.intro hi0 (And.intro hz0 (And.intro hz1 hz2)))
  obtain ⟨jj, hj0, hy0, hy1, hy2⟩ := info_parts Try.info39'
  have HG := Lib.hid (And.intro hj0 (And.intro hy0 (And.intro hy1 hy2)))
  have x0 := Lib.hid (((Boxed.new w 25 m).alloc (.cells #[.slice none 0 0] 30)).alloc (.cells #[] 39))
  have k0 := (Cell1.new (w.alloc (.cells #[.int .i64 m.C, .int .i64 m.D, .int .i64 m.S, .int .i64 m.M, .int .i64 m.L] 25)) 30 (.slice none 0 0)).alloc (.cells #[] 39)
  have b0 := Lib.hid ((((Below.refl w.heap.size w).alloc (Nat.le_refl _) (.cells #[.int .i64 m.C, .int .i64 m.D, .int .i64 m.S, .int .i64 m.M, .int .i64 m.L] 25)).alloc (by simp) (.cells #[.slice none 0 0] 30)).alloc (by simp; omega) (.cells #[] 39))
  have r0 := rowNil (w := (w.alloc (.cells #[.int .i64 m.C, .int .i64 m.D, .int .i64 m.S, .int .i64 m.M, .int .i64 m.L] 25)).alloc (.cells #[.slice none 0 0] 30)) (t := 39) (s := 1) (base := w.heap.size + 1 + 1) (by simp)
  simp only [World.size_alloc] at k0 r0
  have K0 := Lib.hid k0
  have R0 := Lib.hid (Stack.none_ r0)
  clear h hk hi0 hz0 hz1 hz2 hj0 hy0 hy1 hy2 k0 r0 hm hD hC
  go_enter Try.func98, Try.ntmps98
  go_wp2
  go_loopw [5, 6] (fun y x wr => ∃ (i : Nat) (vals : List Value) (z : Value), z = y ∧ x = .int .i64 i ∧ i ≤ C ∧ Hid (Stack wr (w.heap.size + 1 + 1) z i vals ((List.range i).map (fun j => setOf D (hullP xss j)))) ∧ Hid (LowIn vals w.heap.size) ∧ Hid (Boxed wr w.heap.size 25 m) ∧ Hid (Cell1 wr (w.heap.size + 1) 30 (.slice none 0 0)) ∧ Hid (Below w.heap.size w wr)) (fun _ x _ => C - (intOf x).toNat)
  case atStart => exact ⟨0, [], _, rfl, rfl, Nat.zero_le _, R0, Lib.hid (fun j u hj => by simp at hj), x0, K0, b0⟩
  case round =>
    obtain ⟨i, vals, z, rfl, rfl, hi, hst, HLI, hbox, hres, hb⟩ := hrel
    clear R0 x0 K0 b0
    obtain ⟨wo, rfl⟩ : ∃ wo, wo = wr := ⟨_, rfl⟩
    obtain ⟨q0, q1, q2, q3, q4⟩ := hbox.out.cells
    by_cases hlt : (i : Int) < m.C
    · have y0 := Lib.hid (hbox.out.alloc (.cells #[] 2))
      have e0 := Lib.hid ((Below.refl wo.heap.size wo).alloc (Nat.le_refl _) (.cells #[] 2))
      have p0 := Lib.hid (rowNil (w := wo) (t := 2) (s := 1) (base := wo.heap.size) (Nat.le_refl _))
      have hszw := hb.out.size
      go_wp2
      clear q0 q1 q2 q3 q4
      go_loopw [7, 8] (fun y x wr => ∃ (d : Nat) (v : Value), v = y ∧ x = .int .i64 d ∧ d ≤ D ∧ Hid (wr.ownsRow wo.heap.size 2 1 v (setOf d (hullP xss i)).length (intsV (setOf d (hullP xss i)))) ∧ Hid (Boxed wr w.heap.size 25 m) ∧ Hid (Below wo.heap.size wo wr)) (fun _ x _ => D - (intOf x).toNat)
      case atStart => exact ⟨0, _, rfl, rfl, Nat.zero_le _, p0, y0, e0⟩
      case round =>
        obtain ⟨d, v, rfl, rfl, hd, hrow, hbx, hbel⟩ := hrel
        clear p0 y0 e0
        obtain ⟨q0, q1, q2, q3, q4⟩ := hbx.out.cells
        by_cases hltd : (d : Int) < m.D
        · have B2 := Lib.hid (hb.out.trans (hbel.out.mono hszw))
          have H2 := Lib.hid (HS.out.on B2.out)
          have ht0 : (false : Bool) = hullP (xss.take 0) i d := rfl
          have hlenn := HS.out.len
          have HLEN := Lib.hid hlenn
          clear hlenn
          go_wp2
          clear q0 q1 q2 q3 q4
          go_loop [9, 10] (fun t x => ∃ k : Nat, x = .int .i64 k ∧ k ≤ n ∧ t = .bool (hullP (xss.take k) i d)) (fun _ x => n - (intOf x).toNat)
          case atStart => exact ⟨0, rfl, Nat.zero_le _, rfl⟩
          case round =>
            obtain ⟨k, rfl, hkn, rfl⟩ := hrel
            by_cases hltk : k < n
            · obtain ⟨ad, ys, A, q, cc, rfl, hab, hy, hc, hin, _, _⟩ := H2.out.at_ hltk
              have hyl := HK.out k ys hy
              have hiq : i < q := by have := hin.len; omega
              obtain ⟨ad2, u, rfl, hab2, hv, hc2⟩ := hin.at_ hiq
              have HT := Lib.hid (hull_take (d := d) hy hv)
              have i0 : (0 : Int) ≤ (i : Int) := by omega
              have i1 : (i : Int) < (q : Int) := by omega
              have j0 : (0 : Int) ≤ (k : Int) := by omega
              have j1 : (k : Int) < (n : Int) := by omega
              clear hy hin hv hyl
              obtain ⟨t, ht⟩ : ∃ t, hullP (xss.take k) i d = t := ⟨_, rfl⟩
              have HTT := Lib.hid ht
              rw [ht]
              clear ht ht0
              rcases t with _ | _
              · by_cases hvd : u = (d : Int)
                · subst hvd
                  have hq : ((d : Int) == (d : Int)) = true := by simp
                  have HX : Hid (hullP (xss.take (k + 1)) i d = true) := Lib.hid (by rw [HT.out]; simp)
                  go_wp2
                  go_round
                  case rel => exact ⟨k + 1, by go_num, by omega, by rw [HX.out]⟩
                  case measure => simp [intOf]; omega
                · have hq : (u == (d : Int)) = false := by simpa using hvd
                  have HX : Hid (hullP (xss.take (k + 1)) i d = false) := Lib.hid (by rw [HT.out, HTT.out]; simp [hvd])
                  go_wp2
                  go_round
                  case rel => exact ⟨k + 1, by go_num, by omega, by rw [HX.out]⟩
                  case measure => simp [intOf]; omega
              · have HX : Hid (hullP (xss.take (k + 1)) i d = true) := Lib.hid (by rw [HT.out, HTT.out]; simp)
                go_wp2
                go_round
                case rel => exact ⟨k + 1, by go_num, by omega, by rw [HX.out]⟩
                case measure => simp [intOf]; omega
            · obtain rfl : k = n := by omega
              rw [List.take_of_length_le (by rw [HLEN.out]; exact Nat.le_refl _)]
              obtain ⟨t, ht⟩ : ∃ t, hullP xss i d = t := ⟨_, rfl⟩
              have HTT := Lib.hid ht
              rw [ht]
              clear ht ht0
              rcases t with _ | _
              · have HR : Hid (wr.ownsRow wo.heap.size 2 1 v (setOf (d + 1) (hullP xss i)).length (intsV (setOf (d + 1) (hullP xss i)))) := Lib.hid (by rw [setOf_snoc, HTT.out]; exact hrow.out)
                go_wp2
                go_roundw
                case rel => exact ⟨d + 1, v, rfl, by go_num, by omega, HR, hbx, hbel⟩
                case measure => simp [intOf]; omega
              · have hll := setOf_len d (hullP xss i)
                obtain ⟨l, hl⟩ : ∃ l, (setOf d (hullP xss i)).length = l := ⟨_, rfl⟩
                rw [hl] at hll
                have HR := hrow.out
                rw [hl] at HR
                have HRR := Lib.hid HR
                have hsz2 := hbel.out.size
                have hbase : ∀ k, v.ownBlock = some k → wo.heap.size ≤ k := rowBase HR
                clear HR
                go_wp2_with (at_builtin; refine wpList_append_lies _ rfl _ _ 39 rfl wo.heap.size 2 ii _ 1 8 Try.underlying39 HF.out.1 HF.out.2.1 HF.out.2.2.1 HF.out.2.2.2 rfl (by omega) _ l _ rfl (HRR.out.alloc _) ⟨wr.heap.size, 0, none⟩ 1 1 [.int .i64 (d : Int)] rfl rfl (World.news_of_block (cs := #[.int .i64 (d : Int)]) (t := 2) (fr := (0, 0)) (heap_alloc_new wr _)) (by simp [Value.oneCell']) (by omega) (by unfold maxLen; omega) (by omega) (by simp; omega) (wr.heap.size + 1) (by simp) ?_; intro gg cap w5 hown1 hgrow hat hlt3)
                have R5 : Hid (w5.ownsRow wo.heap.size 2 1 (.slice (some ⟨gg, 0, none⟩) (l + 1) cap) (setOf (d + 1) (hullP xss i)).length (intsV (setOf (d + 1) (hullP xss i)))) := Lib.hid (by
                  rw [setOf_snoc, HTT.out]
                  simp only [if_true]
                  rw [List.length_append, hl, ← intsV_snoc]
                  exact hown1)
                have Y5 := Lib.hid ((hbx.out.alloc (.cells #[.int .i64 (d : Int)] 2)).grown hgrow (by intro e; have := hbase _ e.symm; have := hbox.out.lt; omega))
                have B5 := Lib.hid ((hbel.out.alloc hsz2 (.cells #[.int .i64 (d : Int)] 2)).grown hgrow (by simp; omega) (fun q e => hbase q e))
                clear hown1 hgrow hat hlt3 hbase hl
                go_wp2
                go_roundw
                case rel => exact ⟨d + 1, _, rfl, by go_num, by omega, R5, Y5, B5⟩
                case measure => simp [intOf]; omega
        · obtain rfl : d = D := by omega
          obtain ⟨A, q, rfl, ho, hqc, hqm⟩ := rowInts hrow.out rfl
          have HI := Lib.hid ho.ints
          have hzb : ∀ k, z.ownBlock = some k → k < wo.heap.size := rowTop hst.out.row
          have hzl : ∀ k, z.ownBlock = some k → w.heap.size + 1 + 1 ≤ k := rowBase hst.out.row
          have HNE : Hid (0 < (setOf d (hullP xss i)).length → ∀ ad, A = some ad → z.ownBlock ≠ some ad.block) := Lib.hid (fun hp ad e e2 => by
            subst e
            obtain ⟨_, _, e3, h1, _⟩ := ho.at_ hp
            injection e3 with e3
            subst e3
            have := hzb _ e2
            omega)
          have HLW : Hid (0 < (setOf d (hullP xss i)).length → ∀ ad, A = some ad → w.heap.size ≤ ad.block) := Lib.hid (fun hp ad e => by
            subst e
            obtain ⟨_, _, e3, h1, _⟩ := ho.at_ hp
            injection e3 with e3
            subst e3
            have := hb.out.size
            omega)
          have HS2 := Lib.hid (hst.out.on hbel.out)
          have hres2 := Lib.hid (Cell1.on hres.out hbel.out)
          have B2 := Lib.hid (hb.out.trans (hbel.out.mono hszw))
          have hb2 := B2.out.size
          have hlr := hres2.out.lt
          clear ho
          obtain ⟨l, hl⟩ : ∃ l, (setOf d (hullP xss i)).length = l := ⟨_, rfl⟩
          have hll := setOf_len d (hullP xss i)
          rw [hl] at hll HI HNE HLW hqc ⊢
          have HLL := Lib.hid hl
          clear hrow hl
          go_wp2_with (at_builtin; refine wpList_append_lies _ rfl _ _ 26 rfl (w.heap.size + 1 + 1) 39 jj _ 1 24 Try.underlying26 HG.out.1 HG.out.2.1 HG.out.2.2.1 HG.out.2.2.2 rfl (by omega) _ i _ rfl (HS2.out.row.alloc _) ⟨wr.heap.size, 0, none⟩ 1 1 [.slice A l q] rfl rfl (World.news_of_block (cs := #[.slice A l q]) (t := 39) (fr := (0, 0)) (heap_alloc_new wr _)) (by simp [Value.oneCell']) (by omega) (by unfold maxLen; omega) (by omega) (by simp; omega) (wr.heap.size + 1) (by simp) ?_; intro gg cap w5 hown1 hgrow hat hlt3)
          have P5 : Hid (Stack w5 (w.heap.size + 1 + 1) (.slice (some ⟨gg, 0, none⟩) (i + 1) cap) (i + 1) (vals ++ [.slice A l q]) ((List.range (i + 1)).map (fun j => setOf d (hullP xss j)))) := Lib.hid (by
            rw [List.range_succ, List.map_append]
            exact HS2.out.push HI.out hqc hqm HNE.out hown1 hgrow (hat.imp id (fun e => by rw [e]; omega)))
          have Y5 := Lib.hid ((hbx.out.alloc (.cells #[.slice A l q] 39)).grown hgrow (by intro e; have := hzl _ e.symm; omega))
          have K5 := Lib.hid ((hres2.out.alloc (.cells #[.slice A l q] 39)).grown hgrow (by intro e; have := hzl _ e.symm; omega))
          have B5 := Lib.hid ((B2.out.alloc hb2 (.cells #[.slice A l q] 39)).grown hgrow (by simp; omega) (fun q e => by have := hzl q e; omega))
          clear hown1 hgrow hat hlt3 hzb hzl q0 q1 q2 q3 q4
          go_wp2
          go_roundw
          case rel => exact ⟨i + 1, _, _, rfl, by go_num, by omega, P5, Lib.hid (HLI.out.push HLW.out), Y5, K5, B5⟩
          case measure => simp [intOf]; omega
    · obtain rfl : i = C := by omega
      obtain ⟨A, c2, rfl, hs1, hc2, hcm2⟩ := hst.out.sets
      have hzl' : ∀ k, (Value.slice A i c2).ownBlock = some k → w.heap.size + 1 + 1 ≤ k := rowBase hst.out.row
      have hf1 := hres.out.thawed
      have hk1 := hres.out.cell
      have P2 := hst.out.asetCell (p := ⟨w.heap.size + 1, 0, none⟩) (by show w.heap.size + 1 < w.heap.size + 1 + 1; omega) hres.out (.slice A i c2)
      obtain ⟨A', c3, e3, hs2, _⟩ := P2.sets
      have HFR := Lib.hid P2.free
      have HLR := Lib.hid (P2.lowRow HLI.out)
      have e4 : A' = A := by injection e3 with e3; exact e3.symm
      subst e4
      have H2 := Lib.hid hs2
      clear hs1 P2 e3 hs2
      go_wp2
      have L1 := hres.out.put (.slice A' i c2)
      have r0 := L1.cell
      refine bodyPost_ret (v := .agg #[.slice A' i c2]) (by simp [results, Try.results98, go_sem, r0]) rfl ⟨A', i, c2, rfl, H2.out, hc2, hcm2, hb.out.setCell (by show w.heap.size ≤ w.heap.size + 1; omega) _, fun ad e => by have := hzl' ad.block (by rw [e]; rfl); omega, HFR.out, HLR.out⟩


theorem tails_len {m : Mk} {k d : Nat} {xs y : List Int} (h : y ∈ tails m k xs d) : y.length = xs.length + 1 + k := by
  unfold tails at h
  obtain ⟨d', _, h2⟩ := List.mem_flatMap.1 h
  have := (keys_facts h2).1
  rw [List.length_append] at this
  simpa using this
theorem down_len {m : Mk} {xs y : List Int} {p : Nat} : ∀ {r : Nat}, y ∈ down m xs p r → p + r ≤ xs.length → y.length = xs.length
  | 0, h, _ => by cases h
  | r + 1, h, hr => by
    rcases List.mem_append.1 h with h | h
    · have := tails_len h
      rw [List.length_take] at this
      omega
    · exact down_len h (by omega)
theorem next_len {m : Mk} {xs y : List Int} (h : y ∈ nextAll m xs) : y.length = xs.length := down_len h (by omega)
theorem grown_new {a w : World} {g : Nat} {p : Addr} (h : a.grownBy w (some g)) (hp : a.heap.size ≤ p.block) (u : Value) : a.grownBy (w.setCell p u) (some g) :=
  ⟨h.os, h.tape, h.output, by simpa [World.setCell] using h.size, fun i hi hne => (Below.heap_setCell w p u i (by omega)).trans (h.block i hi hne)⟩

set_option maxRecDepth 100000 in
set_option maxHeartbeats 8000000 in
theorem l02SomeK_any (m : Mk) (hm : m.ok = true) (B g : Nat) (A : Option Addr) (n c : Nat) (w : World) (h : Src w B g A n c) (hBw : B ≤ w.heap.size) :
    Calls Try.prog 92 #[.pointer (some ⟨g, 0, none⟩), .agg #[.int .i64 m.C, .int .i64 m.D, .int .i64 m.S, .int .i64 m.M, .int .i64 m.L]] w (DrawnKK w m B g A n c) := by
  have hg1 := h.lt
  obtain ⟨m1, m2, m3, m4, m5, m6, m7, m8, m9, m10, m11⟩ := Mk.ok_true hm
  have HM := Lib.hid hm
  obtain ⟨i0, hi, hz0, hz1, hz2⟩ := info_parts Try.info2'
  have HI := Lib.hid (And.intro hi (And.intro hz0 (And.intro hz1 hz2)))
  clear hi hz0 hz1 hz2 hm
  have H1 := Lib.hid ((h.alloc (.cells #[.int .i64 m.C, .int .i64 m.D, .int .i64 m.S, .int .i64 m.M, .int .i64 m.L] 25)).alloc (.cells #[] 2))
  have X1 := Lib.hid ((Boxed.new w 25 m).alloc (.cells #[] 2))
  have R1 := Lib.hid (row_begins (w := w) (t := 2) (.cells #[.int .i64 m.C, .int .i64 m.D, .int .i64 m.S, .int .i64 m.M, .int .i64 m.L] 25))
  have G1 := Lib.hid (grown_alloc (grown_alloc (World.grownBy.refl w (some g)) (.cells #[.int .i64 m.C, .int .i64 m.D, .int .i64 m.S, .int .i64 m.M, .int .i64 m.L] 25)) (.cells #[] 2))
  clear h
  go_enter Try.func92, Try.ntmps92
  go_wp2
  go_loopw [5, 6] (fun v i wr => ∃ (k : Nat) (xs : List Int), (k : Int) ≤ m.C ∧ Hid (xs.length = k) ∧ i = .int .i64 k ∧ Hid (allIn 0 (m.D - 1) xs = true) ∧
      Hid (wr.ownsRow (w.heap.size + 1) 2 1 v k (listI xs)) ∧ Hid (Src wr B g A n c) ∧ Hid (w.grownBy wr (some g)) ∧ Hid (Boxed wr w.heap.size 25 m) ∧ w.heap.size + 2 ≤ wr.heap.size) (fun _ i _ => 9 - (intOf i).toNat)
  case atStart => exact ⟨0, [], by omega, Lib.hid rfl, rfl, Lib.hid rfl, R1, H1, G1, X1, by simp⟩
  case round =>
    clear R1 H1 G1 X1
    obtain ⟨k, xs, hkC, HX, rfl, HA, HO, HS, HG, HB, hz⟩ := hrel
    obtain ⟨q0, q1, q2, q3, q4⟩ := HB.out.cells
    by_cases hlt : (k : Int) < m.C
    · go_wp2_with fail
      clear q0 q1 q2 q3 q4
      refine (l01Next_any B g A n c _ _ HS.out (by omega)).mono ?_
      rintro e w2 ⟨x, rfl, x0, x9, h2, g2⟩
      have X2 := Lib.hid (HB.out.grown g2 (by intro e; injection e with e; omega))
      have R2 := Lib.hid (row_apart HO.out g2 (by omega))
      have G2 := Lib.hid (grown_trans' HG.out g2)
      have H2 := Lib.hid h2
      have z2 : w.heap.size + 2 ≤ w2.heap.size := by have := g2.size; omega
      have x9 : x ≤ m.D - 1 := by omega
      have HA2 := Lib.hid (depth_in HA.out x0 x9)
      clear HO HS HG HB g2 h2 HA
      go_wp2_with (at_builtin; refine wpList_append_lies _ rfl _ _ 39 rfl (w.heap.size + 1) 2 i0 _ 1 8 Try.underlying39 HI.out.1 HI.out.2.1 HI.out.2.2.1 HI.out.2.2.2 rfl (by omega) _ k _ rfl (R2.out.alloc _) ⟨w2.heap.size, 0, none⟩ 1 1 [.int .i64 x] rfl rfl (World.news_of_block (cs := #[.int .i64 x]) (t := 2) (fr := (0, 0)) (heap_alloc_new w2 _)) (by simp [Value.oneCell']) (by omega) (by unfold maxLen; omega) (by omega) (by simp; omega) (w2.heap.size + 1) (by simp) ?_; intro gg cap w5 hown1 hgrow hat hlt3)
      have R5 := Lib.hid hown1
      have S5 := Lib.hid ((H2.out.alloc (.cells #[.int .i64 x] 2)).apart hgrow (fun q e => by have := row_base R2.out q e; omega))
      have X5 := Lib.hid ((X2.out.alloc (.cells #[.int .i64 x] 2)).grown hgrow (by intro e; have := row_base R2.out _ e.symm; omega))
      have G5 := Lib.hid (grown_own (grown_alloc G2.out (.cells #[.int .i64 x] 2)) hgrow (fun q e => by have := row_base R2.out q e; omega))
      have Z5 : w.heap.size + 2 ≤ w5.heap.size := by have := hgrow.size; simp at this; omega
      clear hown1 hgrow hat hlt3 R2 H2 X2 G2
      go_wp2
      go_roundw
      case rel => exact ⟨k + 1, xs ++ [x], by omega, Lib.hid (by rw [List.length_append, HX.out]; rfl), by go_num, HA2, Lib.hid (by rw [← listI_snoc]; exact R5.out), S5, G5, X5, Z5⟩
      case measure => simp [intOf]; omega
    · have hkC2 : (k : Int) = m.C := by omega
      obtain ⟨A5, c5, rfl, ho5, hk5, hc5⟩ := row_full HO.out HX.out
      have hsl := HS.out.lt
      go_wp2_with fail
      clear q0 q1 q2 q3 q4
      refine (l02Next_any m HM.out _ _ _ xs _ ho5.ints hkC2 hk5 HA.out).mono ?_
      rintro e w6 ⟨A6, k6, c6, ok, ys, rfl, o6, hk6, hkc6, hc6, b6, hor⟩
      have X6 := Lib.hid (HB.out.on b6)
      have S6 := Lib.hid (HS.out.on b6 (by omega))
      have G6 := Lib.hid (grown_below HG.out b6)
      have O6 := Lib.hid o6
      have z6 := b6.size
      have HOR := Lib.hid hor
      clear HO HS HG HB ho5 b6 o6 hor
      rcases ok with _ | _
      · obtain ⟨q0, q1, q2, q3, q4⟩ := X6.out.cells
        go_wp2_with fail
        clear q0 q1 q2 q3 q4
        refine (l02First_any m HM.out m.C.toNat none 0 0 [] w6.heap.size _ (by omega) (Own.nil _ (Nat.le_refl _)) (Nat.le_refl _) (by omega) (by omega) (fun _ => ⟨rfl, rfl⟩) rfl).mono ?_
        rintro e w7 ⟨A7, k7, c7, ok7, zs, rfl, o7, hk7, hkc7, hc7, b7, hor⟩
        have S7 := Lib.hid (S6.out.on b7 (by omega))
        have G7 := Lib.hid (grown_below G6.out b7)
        have O7 := Lib.hid o7
        have z7 := b7.size
        have HOR7 := Lib.hid hor
        clear S6 G6 O6 X6 o7 b7 hor
        go_wp2
        go_ret
        have hall : (zs.length : Int) = m.C := by
          rcases HOR7.out with ⟨_, h⟩ | ⟨_, h⟩
          · exact key_len (show zs ∈ allKeys m from List.mem_of_mem_head? (by rw [show allKeys m = keysFrom m m.C.toNat [] from rfl, h]; rfl)) HM.out
          · exact absurd h (all_some HM.out)
        exact ⟨A7, k7, c7, zs, rfl, O7.out.more (by omega) (Nat.le_refl _) (Nat.le_refl _), hk7, hkc7, hc7, S7.out, G7.out, hall⟩
      · go_wp2
        go_ret
        have hall : (ys.length : Int) = m.C := by
          rcases HOR.out with ⟨_, h⟩ | ⟨h, _⟩
          · have := next_len (List.mem_of_mem_head? (by rw [h]; rfl) : ys ∈ nextAll m xs)
            have := HX.out
            omega
          · cases h
        exact ⟨A6, k6, c6, ys, rfl, O6.out.more (by omega) (Nat.le_refl _) (Nat.le_refl _), hk6, hkc6, hc6, S6.out, G6.out, hall⟩


theorem Stack.apart {w w' : World} {lo n g : Nat} {v : Value} {vals : List Value} {yss : List (List Int)} (h : Stack w lo v n vals yss) (hg : w.grownBy w' (some g)) (hlo : g < lo) (hin : ∀ (j : Nat) (u : Value), vals[j]? = some u → ∀ a k c, u = .slice (some a) k c → a.block ≠ g) : Stack w' lo v n vals yss := by
  refine ⟨row_apart h.row hg hlo, h.len, fun j u ys hj hy => ?_⟩
  obtain ⟨A, q, c, e, h1, h2, h3, h4⟩ := h.inner j u ys hj hy
  refine ⟨A, q, c, e, ⟨h1.1, fun hq => ?_⟩, h2, h3, h4⟩
  obtain ⟨ad, ea, hb, hc⟩ := h1.2 hq
  refine ⟨ad, ea, Nat.lt_of_lt_of_le hb hg.size, fun i v hv => ?_⟩
  have hne : ad.block ≠ g := hin j u hj ad q c (by rw [e, ea])
  rw [World.cell?_of_block (w := w) (a := ad.add i) (hg.block _ (by rw [block_of_add]; exact hb) (fun e => by rw [block_of_add] at e; injection e with e; exact hne e))]
  exact hc i v hv

/-- what a draw of a lock answers: the hull of some keys -/
def DrawnLk (w : World) (m : Mk) (B g : Nat) (A : Option Addr) (n c : Nat) (e : Ending) (w' : World) : Prop :=
  ∃ V k c' xss, e = .returned (.agg #[.slice V k c']) ∧ Sets w' w'.heap.size V k (lockOf m.C.toNat m.D.toNat (hullP xss)) ∧ k ≤ c' ∧ c' ≤ 9223372036854775807 ∧ (∀ ad, V = some ad → w.heap.size ≤ ad.block) ∧ RowFree w' (.slice V k c') ∧ LowRow w' (.slice V k c') w.heap.size ∧ (∀ x ∈ xss, (x.length : Int) = m.C) ∧ Src w' B g A n c ∧ w.grownBy w' (some g)

set_option maxRecDepth 100000 in
set_option maxHeartbeats 8000000 in
theorem l04Valid_any (m : Mk) (hm : m.ok = true) (B g : Nat) (A : Option Addr) (n c : Nat) (w : World) (h : Src w B g A n c) (hBw : B ≤ w.heap.size) :
    Calls Try.prog 113 #[.pointer (some ⟨g, 0, none⟩), .agg #[.int .i64 m.C, .int .i64 m.D, .int .i64 m.S, .int .i64 m.M, .int .i64 m.L]] w (DrawnLk w m B g A n c) := by
  have hg1 := h.lt
  have HM := Lib.hid hm
  obtain ⟨jj, hj0, hy0, hy1, hy2⟩ := info_parts Try.info39'
  have HG := Lib.hid (And.intro hj0 (And.intro hy0 (And.intro hy1 hy2)))
  clear hj0 hy0 hy1 hy2 hm
  have H1 := Lib.hid (((h.alloc (.cells #[.int .i64 m.C, .int .i64 m.D, .int .i64 m.S, .int .i64 m.M, .int .i64 m.L] 25)).alloc (.cells #[.slice none 0 0] 30)).alloc (.cells #[] 39))
  have X1 := Lib.hid (((Boxed.new w 25 m).alloc (.cells #[.slice none 0 0] 30)).alloc (.cells #[] 39))
  have O1' := (Cell1.new (w.alloc (.cells #[.int .i64 m.C, .int .i64 m.D, .int .i64 m.S, .int .i64 m.M, .int .i64 m.L] 25)) 30 (.slice none 0 0)).alloc (.cells #[] 39)
  rw [World.size_alloc] at O1'
  have O1 := Lib.hid O1'
  have R1' := Stack.none_ (rowNil (w := (w.alloc (.cells #[.int .i64 m.C, .int .i64 m.D, .int .i64 m.S, .int .i64 m.M, .int .i64 m.L] 25)).alloc (.cells #[.slice none 0 0] 30)) (t := 39) (s := 1) (base := w.heap.size + 2) (by simp))
  simp only [World.size_alloc] at R1'
  have R1 := Lib.hid R1'
  have G1 := Lib.hid (grown_alloc (grown_alloc (grown_alloc (World.grownBy.refl w (some g)) (.cells #[.int .i64 m.C, .int .i64 m.D, .int .i64 m.S, .int .i64 m.M, .int .i64 m.L] 25)) (.cells #[.slice none 0 0] 30)) (.cells #[] 39))
  clear h O1' R1'
  go_enter Try.func113, Try.ntmps113
  go_wp2_with fail
  refine (l01Next_any B g A n c 3 _ H1.out (by omega)).mono ?_
  rintro e w2 ⟨x, rfl, x0, x9, h2, g2⟩
  have X2 := Lib.hid (X1.out.grown g2 (by intro e; injection e with e; omega))
  have O2 := Lib.hid (O1.out.grown g2 (by intro e; injection e with e; omega))
  have R2 := Lib.hid (R1.out.apart g2 (by omega) (fun j u hj => by simp at hj))
  have G2 := Lib.hid (grown_trans' G1.out g2)
  have H2 := Lib.hid h2
  have z2 : w.heap.size + 3 ≤ w2.heap.size := by have := g2.size; simp at this; omega
  have x9 : x ≤ 2 := by omega
  obtain ⟨t, ht⟩ : ∃ t : Nat, (t : Int) = 1 + x := ⟨(1 + x).toNat, by omega⟩
  have HT := Lib.hid ht
  have sw : IntKind.i64.wrap (1 + x) = 1 + x := IntWalk.i64_in _ (by omega)
  clear H1 X1 O1 R1 G1 g2 h2 ht
  go_wp2
  rw [← HT.out]
  clear sw
  go_loopg [5, 6] t (fun gh y x wr => ∃ (i : Nat) (vals : List Value) (z : Value) (xss : List (List Int)), z = y ∧ x = .int .i64 (gh : Int) ∧ i + gh = t ∧ Hid (Stack wr (w.heap.size + 2) z i vals xss) ∧ Hid (∀ x ∈ xss, (x.length : Int) = m.C) ∧ Hid (∀ (j : Nat) (u : Value), vals[j]? = some u → ∀ a k c, u = .slice (some a) k c → a.block ≠ g) ∧ Hid (Src wr B g A n c) ∧ Hid (w.grownBy wr (some g)) ∧ Hid (Boxed wr w.heap.size 25 m) ∧ Hid (Cell1 wr (w.heap.size + 1) 30 (.slice none 0 0)) ∧ w.heap.size + 3 ≤ wr.heap.size)
  case atStart => exact ⟨0, [], _, [], rfl, rfl, by omega, R2, Lib.hid (fun x hx => by cases hx), Lib.hid (fun j u hj => by simp at hj), H2, G2, X2, O2, z2⟩
  case round =>
    clear R2 H2 G2 X2 O2 z2
    obtain ⟨i, vals, z, xss, rfl, rfl, hi, HST, HXK, HVG, HS, HGR, HX, HO, hz⟩ := hrel
    have ht3 : t ≤ 3 := by have := HT.out; omega
    have hgs := HS.out.lt
    by_cases hgk : (gk : Int) > 0
    · obtain ⟨q0, q1, q2, q3, q4⟩ := HX.out.cells
      go_wp2_with fail
      refine (l02SomeK_any m HM.out B g A n c _ HS.out (by omega)).mono ?_
      rintro e w3 ⟨A3, k3, c3, ys, rfl, o3, hk3, hkc3, hc3, h3, g3, hys⟩
      have ST3 := Lib.hid (HST.out.apart g3 (by omega) HVG.out)
      have X3 := Lib.hid (HX.out.grown g3 (by intro e; injection e with e; omega))
      have O3 := Lib.hid (HO.out.grown g3 (by intro e; injection e with e; omega))
      have G3 := Lib.hid (grown_trans' HGR.out g3)
      have H3 := Lib.hid h3
      have K3 := Lib.hid o3
      have z3 : w.heap.size + 3 ≤ w3.heap.size := by have := g3.size; omega
      have z3b := g3.size
      have HZT := Lib.hid (rowTop HST.out.row)
      have HZV := Lib.hid (rowBase HST.out.row)
      have HY := Lib.hid hys
      clear q0 q1 q2 q3 q4 HST HX HO HGR HS g3 h3 o3 hys
      go_wp2_with (at_builtin; refine wpList_append_lies _ rfl _ _ 26 rfl (w.heap.size + 2) 39 jj _ 1 24 Try.underlying26 HG.out.1 HG.out.2.1 HG.out.2.2.1 HG.out.2.2.2 rfl (by omega) _ i _ rfl (ST3.out.row.alloc _) ⟨w3.heap.size, 0, none⟩ 1 1 [.slice A3 k3 c3] rfl rfl (World.news_of_block (cs := #[.slice A3 k3 c3]) (t := 39) (fr := (0, 0)) (heap_alloc_new w3 _)) (by simp [Value.oneCell']) (by omega) (by unfold maxLen; omega) (by omega) (by simp; omega) (w3.heap.size + 1) (by simp) ?_; intro gg cap w5 hown1 hgrow hat hlt3)
      have HNE : Hid (0 < k3 → ∀ ad, A3 = some ad → z.ownBlock ≠ some ad.block) := Lib.hid (by
        intro hp ad' e' e2
        obtain ⟨ad3, e3, h1, h2, _⟩ := K3.out.2.2 hp
        rw [e'] at e3
        injection e3 with e3
        subst e3
        have := HZT.out _ e2
        omega)
      have P5 : Hid (Stack w5 (w.heap.size + 2) (.slice (some ⟨gg, 0, none⟩) (i + 1) cap) (i + 1) (vals ++ [.slice A3 k3 c3]) (xss ++ [ys])) := Lib.hid (ST3.out.push K3.out.ints hkc3 hc3 HNE.out hown1 hgrow (hat.imp id (fun e => by rw [e]; omega)))
      have S5 := Lib.hid ((H3.out.alloc (.cells #[.slice A3 k3 c3] 39)).apart hgrow (fun q e => by have := HZV.out q e; omega))
      have X5 := Lib.hid ((X3.out.alloc (.cells #[.slice A3 k3 c3] 39)).grown hgrow (fun e => by have := HZV.out _ e.symm; omega))
      have O5 := Lib.hid ((O3.out.alloc (.cells #[.slice A3 k3 c3] 39)).grown hgrow (fun e => by have := HZV.out _ e.symm; omega))
      have G5 := Lib.hid (grown_own (grown_alloc G3.out (.cells #[.slice A3 k3 c3] 39)) hgrow (fun q e => by have := HZV.out q e; omega))
      have Z5 : w.heap.size + 3 ≤ w5.heap.size := by have := hgrow.size; simp at this; omega
      have XK5 : Hid (∀ x ∈ xss ++ [ys], (x.length : Int) = m.C) := Lib.hid (fun x hx => by
        rcases List.mem_append.1 hx with hx | hx
        · exact HXK.out x hx
        · rw [List.mem_singleton.1 hx]; exact HY.out)
      have VL := Lib.hid ST3.out.vlen
      have VG5 : Hid (∀ (j : Nat) (u : Value), (vals ++ [Value.slice A3 k3 c3])[j]? = some u → ∀ a k c, u = .slice (some a) k c → a.block ≠ g) := Lib.hid (fun j u hj a k c' e => by
        by_cases hjl : j < vals.length
        · rw [List.getElem?_append_left hjl] at hj
          exact HVG.out j u hj a k c' e
        · rw [List.getElem?_append_right (by omega)] at hj
          have hj0 := (List.getElem?_eq_some_iff.1 hj).1
          simp at hj0
          rw [hj0] at hj
          simp at hj
          rw [← hj] at e
          injection e with e1 e2 e3
          subst e1
          have hk0 : 0 < k3 := by
            obtain ⟨m1, _⟩ := Mk.ok_true HM.out
            have := HY.out
            have := K3.out.len
            omega
          obtain ⟨ad3, e3, h1, h2, _⟩ := K3.out.2.2 hk0
          injection e3 with e3
          subst e3
          omega)
      clear hown1 hgrow hat hlt3 ST3 H3 X3 O3 G3
      obtain ⟨r, hr⟩ : ∃ r : Nat, gk = r + 1 := ⟨gk - 1, by omega⟩
      have sw : (gk : Int) - 1 = (r : Int) := by omega
      go_wp2
      go_roundg r
      case measure => omega
      case rel => exact ⟨i + 1, _, _, _, rfl, by go_num, by omega, P5, XK5, VG5, S5, G5, X5, O5, Z5⟩
    · obtain ⟨q0, q1, q2, q3, q4⟩ := HX.out.cells
      obtain ⟨VV, cV, e2, hsets, hc1, hc2⟩ := HST.out.sets
      subst e2
      have HSS := Lib.hid hsets
      have HKL : Hid (∀ (k : Nat) (ys : List Int), xss[k]? = some ys → (ys.length : Int) = m.C) := Lib.hid (fun k ys hk => HXK.out ys (List.mem_of_getElem? hk))
      have hi3 : i ≤ 3 := by omega
      clear hsets
      go_wp2_with fail
      refine (l04HullW_any m HM.out _ _ _ xss _ HSS.out (by omega) HKL.out).mono ?_
      rintro e w4 ⟨V4, n4, c4, rfl, S4', z4, y4, b4, hv4, hfr4, hlr4⟩
      have HFR4 := Lib.hid hfr4
      have HLR4 := Lib.hid hlr4
      have S4 := Lib.hid S4'
      have HV4 := Lib.hid hv4
      have S6 := Lib.hid (HS.out.on b4 (by omega))
      have G6 := Lib.hid (grown_below HGR.out b4)
      have o1 := HO.out.on b4
      have O6 := Lib.hid o1
      have f1 := o1.thawed
      have k1 := o1.cell
      have z6 := b4.size
      clear q0 q1 q2 q3 q4 b4 S4' hv4 hfr4 hlr4
      go_wp2
      have r0 := (O6.out.put (.slice V4 n4 c4)).cell
      have U := S4.out.past (p := ⟨w.heap.size + 1, 0, none⟩) O6.out (fun ad e => by have := HV4.out ad e; show ad.block ≠ w.heap.size + 1; omega) (.slice V4 n4 c4)
      have SS := S6.out.apart (row := some (w.heap.size + 1)) (grown_set (p := ⟨w.heap.size + 1, 0, none⟩) (World.grownBy.refl w4 (some (w.heap.size + 1))) rfl (.slice V4 n4 c4)) (fun k e => by injection e with e; omega)
      have FR := HFR4.out.put (p := ⟨w.heap.size + 1, 0, none⟩) (fun ad e => by have := HV4.out ad e; show ad.block ≠ w.heap.size + 1; omega) (.slice V4 n4 c4)
      have LR := HLR4.out.put (p := ⟨w.heap.size + 1, 0, none⟩) (lo' := w.heap.size) (fun ad e => by have := HV4.out ad e; show ad.block ≠ w.heap.size + 1; omega) (by omega) (.slice V4 n4 c4)
      have GG := grown_new (p := ⟨w.heap.size + 1, 0, none⟩) G6.out (by show w.heap.size ≤ w.heap.size + 1; omega) (.slice V4 n4 c4)
      exact bodyPost_ret (v := .agg #[.slice V4 n4 c4]) (by simp [results, Try.results113, go_sem, r0]) rfl ⟨V4, n4, c4, xss, rfl, U, z4, y4, fun ad e => by have := HV4.out ad e; omega, FR, LR, HXK.out, SS, GG⟩

end Go.Proofs.Ytbfnffecmglgfaa
