/- HullOf of the model. -/
import Derived.Test.YtbfnffecmglgfaaHull
namespace Go.Proofs.Ytbfnffecmglgfaa
open Go Go.RowKit

theorem rowTop {w : World} {base t s n : Nat} {v : Value} {xs : List Value} (h : w.ownsRow base t s v n xs) : ∀ k, v.ownBlock = some k → k < w.heap.size := by
  intro k hk
  rcases h.2 with ⟨rfl, _⟩ | ⟨g, cap, cur, rfl, hb, hg, _⟩
  · cases hk
  · have : g = k := by simpa [Value.ownBlock] using hk
    subst this
    exact heapLt hg
theorem Ints.notin {w : World} {B q b : Nat} {A : Option Addr} {xs : List Int} {t : TypeId} {a : Option Addr} {n c : Nat} (h : Ints w B A q xs) (k : Cell1 w b t (.slice a n c)) : 0 < q → ∀ ad, A = some ad → ad.block ≠ b := by
  intro hq ad e hb
  obtain ⟨ad', v, e', _, hv, hc⟩ := h.at_ hq
  rw [e] at e'
  injection e' with e'
  subst e'
  have hbl : (ad.add 0).block = b := by rw [block_of_add]; exact hb
  unfold Cell1 at k
  rw [← hbl] at k
  simp only [World.cell?, k] at hc
  rcases ho : (#[Value.slice a n c])[(ad.add 0).off]? with _ | u
  · simp [ho] at hc
  · have : u = .slice a n c := by
      have := Array.getElem?_eq_some_iff.1 ho
      obtain ⟨hl, e2⟩ := this
      simp at hl
      rw [← e2]
      simp [hl]
    subst this
    simp [ho] at hc
theorem Stack.asetCell {w : World} {lo n : Nat} {v : Value} {vals : List Value} {yss : List (List Int)} {p : Addr} {t : TypeId} {a : Option Addr} {n' c' : Nat} (h : Stack w lo v n vals yss) (hp : p.block < lo) (k : Cell1 w p.block t (.slice a n' c')) (u : Value) : Stack (w.setCell p u) lo v n vals yss := by
  have hg := grown_set (p := p) (World.grownBy.refl w (some p.block)) rfl u
  refine ⟨rowPast h.row hg (fun q hq e => by injection e with e; have := rowBase h.row q hq; omega), h.len, fun j z ys hj hy => ?_⟩
  obtain ⟨A, q, c, e, h1, h2, h3, h4⟩ := h.inner j z ys hj hy
  exact ⟨A, q, c, e, h1.past hg (fun hq ad ea e2 => by injection e2 with e2; exact h1.notin k hq ad ea e2.symm), h2, h3, h4⟩

theorem Sets.past {w : World} {n : Nat} {V : Option Addr} {yss : List (List Int)} {p : Addr} {t : TypeId} {a : Option Addr} {n' c' : Nat} (h : Sets w w.heap.size V n yss) (k : Cell1 w p.block t (.slice a n' c')) (hV : ∀ ad, V = some ad → ad.block ≠ p.block) (u : Value) : Sets (w.setCell p u) (w.setCell p u).heap.size V n yss :=
  ⟨h.1, fun hn => by
    obtain ⟨ad, e, hb, hc⟩ := h.2 hn
    have hg := grown_set (p := p) (World.grownBy.refl w (some p.block)) rfl u
    refine ⟨ad, e, Nat.lt_of_lt_of_le hb hg.size, fun j ys hy => ?_⟩
    obtain ⟨A, q, c, h1, h2, h3⟩ := hc j ys hy
    refine ⟨A, q, c, ?_, h2.past hg (fun hq ad' ea e2 => by injection e2 with e2; exact h2.notin k hq ad' ea e2.symm), h3⟩
    rw [World.cell?_of_block (w := w) (hg.block _ (by rw [block_of_add]; exact hb) (fun e' => by rw [block_of_add] at e'; injection e' with e'; exact hV ad e e'))]
    exact h1⟩

/-- what a call answers that gives a lock which is only read -/
def GivesSets (w : World) (yss : List (List Int)) (e : Ending) (w' : World) : Prop :=
  ∃ V n c, e = .returned (.agg #[.slice V n c]) ∧ Sets w' w'.heap.size V n yss ∧ n ≤ c ∧ c ≤ 9223372036854775807 ∧ Below w.heap.size w w' ∧ ∀ ad, V = some ad → w.heap.size ≤ ad.block
def GivesSetsE (w : World) (code : Int) (yss : List (List Int)) (e : Ending) (w' : World) : Prop :=
  ∃ V n c, e = .returned (.tuple #[.agg #[.slice V n c], .int .i64 code]) ∧ Sets w' w'.heap.size V n yss ∧ n ≤ c ∧ c ≤ 9223372036854775807 ∧ Below w.heap.size w w'

theorem hull_take {xss : List (List Int)} {k i d : Nat} {xs : List Int} {v : Int} (hx : xss[k]? = some xs) (hv : xs[i]? = some v) : hullP (xss.take (k + 1)) i d = (hullP (xss.take k) i d || decide (v = (d : Int))) := by
  obtain ⟨hl, e⟩ := List.getElem?_eq_some_iff.1 hx
  unfold hullP
  rw [List.take_succ_eq_append_getElem hl, e, List.any_append, List.any_cons, List.any_nil, Bool.or_false, getD_at hv]
theorem setOf_len (D : Nat) (q : Nat → Bool) : (setOf D q).length ≤ D := by
  unfold setOf
  rw [List.length_map]
  have := List.length_filter_le q (List.range D)
  rw [List.length_range] at this
  exact this

set_option maxRecDepth 100000 in
set_option maxHeartbeats 8000000 in
theorem l04Hull_any (m : Mk) (hm : m.ok = true) (V : Option Addr) (n c : Nat) (xss : List (List Int)) (w : World) (h : Sets w w.heap.size V n xss) (hn : n ≤ 1048576) (hk : ∀ (k : Nat) (ys : List Int), xss[k]? = some ys → (ys.length : Int) = m.C) :
    Calls Try.prog 98 #[.agg #[.int .i64 m.C, .int .i64 m.D, .int .i64 m.S, .int .i64 m.M, .int .i64 m.L], .slice V n c] w (GivesSets w (lockOf m.C.toNat m.D.toNat (hullP xss))) := by
  obtain ⟨m1, m2, m3, m4, m5, m6, m7, m8, m9, m10, m11⟩ := Mk.ok_true hm
  obtain ⟨D, hD⟩ : ∃ D : Nat, m.D.toNat = D := ⟨_, rfl⟩
  obtain ⟨C, hC⟩ : ∃ C : Nat, m.C.toNat = C := ⟨_, rfl⟩
  have hDD : (D : Int) = m.D := by omega
  have hCC : (C : Int) = m.C := by omega
  rw [hD, hC]
  have HS := Lib.hid h
  have HK := Lib.hid hk
  obtain ⟨ii, hi0, hz0, hz1, hz2⟩ := info_parts Try.info2'
  have HF := Lib.hid (And.intro hi0 (And.intro hz0 (And.intro hz1 hz2)))
  obtain ⟨jj, hj0, hy0, hy1, hy2⟩ := info_parts Try.info39'
  have HG := Lib.hid (And.intro hj0 (And.intro hy0 (And.intro hy1 hy2)))
  have x0 := Lib.hid (((Boxed.new w 25 m).alloc (.cells #[.slice none 0 0] 30)).alloc (.cells #[] 39))
  have k0 := (Cell1.new (w.alloc (.cells #[.int .i64 m.C, .int .i64 m.D, .int .i64 m.S, .int .i64 m.M, .int .i64 m.L] 25)) 30 (.slice none 0 0)).alloc (.cells #[] 39)
  have b0 := Lib.hid ((((Below.refl w.heap.size w).alloc (Nat.le_refl _) (.cells #[.int .i64 m.C, .int .i64 m.D, .int .i64 m.S, .int .i64 m.M, .int .i64 m.L] 25)).alloc (by simp) (.cells #[.slice none 0 0] 30)).alloc (by simp; omega) (.cells #[] 39))
  have r0 := rowNil (w := (w.alloc (.cells #[.int .i64 m.C, .int .i64 m.D, .int .i64 m.S, .int .i64 m.M, .int .i64 m.L] 25)).alloc (.cells #[.slice none 0 0] 30)) (t := 39) (s := 1) (base := w.heap.size + 1 + 1) (by simp)
  simp only [World.size_alloc] at k0 r0
  have K0 := Lib.hid k0
  have R0 := Lib.hid (Stack.none_ r0)
  clear h hk hi0 hz0 hz1 hz2 hj0 hy0 hy1 hy2 k0 r0 hm hD hC
  go_enter Try.func98, Try.ntmps98
  go_wp2
  go_loopw [5, 6] (fun y x wr => ∃ (i : Nat) (vals : List Value) (z : Value), z = y ∧ x = .int .i64 i ∧ i ≤ C ∧ Hid (Stack wr (w.heap.size + 1 + 1) z i vals ((List.range i).map (fun j => setOf D (hullP xss j)))) ∧ Hid (Boxed wr w.heap.size 25 m) ∧ Hid (Cell1 wr (w.heap.size + 1) 30 (.slice none 0 0)) ∧ Hid (Below w.heap.size w wr)) (fun _ x _ => C - (intOf x).toNat)
  case atStart => exact ⟨0, [], _, rfl, rfl, Nat.zero_le _, R0, x0, K0, b0⟩
  case round =>
    obtain ⟨i, vals, z, rfl, rfl, hi, hst, hbox, hres, hb⟩ := hrel
    clear R0 x0 K0 b0
    obtain ⟨wo, rfl⟩ : ∃ wo, wo = wr := ⟨_, rfl⟩
    obtain ⟨q0, q1, q2, q3, q4⟩ := hbox.out.cells
    by_cases hlt : (i : Int) < m.C
    · have y0 := Lib.hid (hbox.out.alloc (.cells #[] 2))
      have e0 := Lib.hid ((Below.refl wo.heap.size wo).alloc (Nat.le_refl _) (.cells #[] 2))
      have p0 := Lib.hid (rowNil (w := wo) (t := 2) (s := 1) (base := wo.heap.size) (Nat.le_refl _))
      have hszw := hb.out.size
      go_wp2
      clear q0 q1 q2 q3 q4
      go_loopw [7, 8] (fun y x wr => ∃ (d : Nat) (v : Value), v = y ∧ x = .int .i64 d ∧ d ≤ D ∧ Hid (wr.ownsRow wo.heap.size 2 1 v (setOf d (hullP xss i)).length (intsV (setOf d (hullP xss i)))) ∧ Hid (Boxed wr w.heap.size 25 m) ∧ Hid (Below wo.heap.size wo wr)) (fun _ x _ => D - (intOf x).toNat)
      case atStart => exact ⟨0, _, rfl, rfl, Nat.zero_le _, p0, y0, e0⟩
      case round =>
        obtain ⟨d, v, rfl, rfl, hd, hrow, hbx, hbel⟩ := hrel
        clear p0 y0 e0
        obtain ⟨q0, q1, q2, q3, q4⟩ := hbx.out.cells
        by_cases hltd : (d : Int) < m.D
        · have B2 := Lib.hid (hb.out.trans (hbel.out.mono hszw))
          have H2 := Lib.hid (HS.out.on B2.out)
          have ht0 : (false : Bool) = hullP (xss.take 0) i d := rfl
          have hlenn := HS.out.len
          have HLEN := Lib.hid hlenn
          clear hlenn
          go_wp2
          clear q0 q1 q2 q3 q4
          go_loop [9, 10] (fun t x => ∃ k : Nat, x = .int .i64 k ∧ k ≤ n ∧ t = .bool (hullP (xss.take k) i d)) (fun _ x => n - (intOf x).toNat)
          case atStart => exact ⟨0, rfl, Nat.zero_le _, rfl⟩
          case round =>
            obtain ⟨k, rfl, hkn, rfl⟩ := hrel
            by_cases hltk : k < n
            · obtain ⟨ad, ys, A, q, cc, rfl, hab, hy, hc, hin, _, _⟩ := H2.out.at_ hltk
              have hyl := HK.out k ys hy
              have hiq : i < q := by have := hin.len; omega
              obtain ⟨ad2, u, rfl, hab2, hv, hc2⟩ := hin.at_ hiq
              have HT := Lib.hid (hull_take (d := d) hy hv)
              have i0 : (0 : Int) ≤ (i : Int) := by omega
              have i1 : (i : Int) < (q : Int) := by omega
              have j0 : (0 : Int) ≤ (k : Int) := by omega
              have j1 : (k : Int) < (n : Int) := by omega
              clear hy hin hv hyl
              obtain ⟨t, ht⟩ : ∃ t, hullP (xss.take k) i d = t := ⟨_, rfl⟩
              have HTT := Lib.hid ht
              rw [ht]
              clear ht ht0
              rcases t with _ | _
              · by_cases hvd : u = (d : Int)
                · subst hvd
                  have hq : ((d : Int) == (d : Int)) = true := by simp
                  have HX : Hid (hullP (xss.take (k + 1)) i d = true) := Lib.hid (by rw [HT.out]; simp)
                  go_wp2
                  go_round
                  case rel => exact ⟨k + 1, by go_num, by omega, by rw [HX.out]⟩
                  case measure => simp [intOf]; omega
                · have hq : (u == (d : Int)) = false := by simpa using hvd
                  have HX : Hid (hullP (xss.take (k + 1)) i d = false) := Lib.hid (by rw [HT.out, HTT.out]; simp [hvd])
                  go_wp2
                  go_round
                  case rel => exact ⟨k + 1, by go_num, by omega, by rw [HX.out]⟩
                  case measure => simp [intOf]; omega
              · have HX : Hid (hullP (xss.take (k + 1)) i d = true) := Lib.hid (by rw [HT.out, HTT.out]; simp)
                go_wp2
                go_round
                case rel => exact ⟨k + 1, by go_num, by omega, by rw [HX.out]⟩
                case measure => simp [intOf]; omega
            · obtain rfl : k = n := by omega
              rw [List.take_of_length_le (by rw [HLEN.out]; exact Nat.le_refl _)]
              obtain ⟨t, ht⟩ : ∃ t, hullP xss i d = t := ⟨_, rfl⟩
              have HTT := Lib.hid ht
              rw [ht]
              clear ht ht0
              rcases t with _ | _
              · have HR : Hid (wr.ownsRow wo.heap.size 2 1 v (setOf (d + 1) (hullP xss i)).length (intsV (setOf (d + 1) (hullP xss i)))) := Lib.hid (by rw [setOf_snoc, HTT.out]; exact hrow.out)
                go_wp2
                go_roundw
                case rel => exact ⟨d + 1, v, rfl, by go_num, by omega, HR, hbx, hbel⟩
                case measure => simp [intOf]; omega
              · have hll := setOf_len d (hullP xss i)
                obtain ⟨l, hl⟩ : ∃ l, (setOf d (hullP xss i)).length = l := ⟨_, rfl⟩
                rw [hl] at hll
                have HR := hrow.out
                rw [hl] at HR
                have HRR := Lib.hid HR
                have hsz2 := hbel.out.size
                have hbase : ∀ k, v.ownBlock = some k → wo.heap.size ≤ k := rowBase HR
                clear HR
                go_wp2_with (at_builtin; refine wpList_append_lies _ rfl _ _ 39 rfl wo.heap.size 2 ii _ 1 8 Try.underlying39 HF.out.1 HF.out.2.1 HF.out.2.2.1 HF.out.2.2.2 rfl (by omega) _ l _ rfl (HRR.out.alloc _) ⟨wr.heap.size, 0, none⟩ 1 1 [.int .i64 (d : Int)] rfl rfl (World.news_of_block (cs := #[.int .i64 (d : Int)]) (t := 2) (fr := (0, 0)) (heap_alloc_new wr _)) (by simp [Value.oneCell']) (by omega) (by unfold maxLen; omega) (by omega) (by simp; omega) (wr.heap.size + 1) (by simp) ?_; intro gg cap w5 hown1 hgrow hat hlt3)
                have R5 : Hid (w5.ownsRow wo.heap.size 2 1 (.slice (some ⟨gg, 0, none⟩) (l + 1) cap) (setOf (d + 1) (hullP xss i)).length (intsV (setOf (d + 1) (hullP xss i)))) := Lib.hid (by
                  rw [setOf_snoc, HTT.out]
                  simp only [if_true]
                  rw [List.length_append, hl, ← intsV_snoc]
                  exact hown1)
                have Y5 := Lib.hid ((hbx.out.alloc (.cells #[.int .i64 (d : Int)] 2)).grown hgrow (by intro e; have := hbase _ e.symm; have := hbox.out.lt; omega))
                have B5 := Lib.hid ((hbel.out.alloc hsz2 (.cells #[.int .i64 (d : Int)] 2)).grown hgrow (by simp; omega) (fun q e => hbase q e))
                clear hown1 hgrow hat hlt3 hbase hl
                go_wp2
                go_roundw
                case rel => exact ⟨d + 1, _, rfl, by go_num, by omega, R5, Y5, B5⟩
                case measure => simp [intOf]; omega
        · obtain rfl : d = D := by omega
          obtain ⟨A, q, rfl, ho, hqc, hqm⟩ := rowInts hrow.out rfl
          have HI := Lib.hid ho.ints
          have hzb : ∀ k, z.ownBlock = some k → k < wo.heap.size := rowTop hst.out.row
          have hzl : ∀ k, z.ownBlock = some k → w.heap.size + 1 + 1 ≤ k := rowBase hst.out.row
          have HNE : Hid (0 < (setOf d (hullP xss i)).length → ∀ ad, A = some ad → z.ownBlock ≠ some ad.block) := Lib.hid (fun hp ad e e2 => by
            subst e
            obtain ⟨_, _, e3, h1, _⟩ := ho.at_ hp
            injection e3 with e3
            subst e3
            have := hzb _ e2
            omega)
          have HS2 := Lib.hid (hst.out.on hbel.out)
          have hres2 := Lib.hid (Cell1.on hres.out hbel.out)
          have B2 := Lib.hid (hb.out.trans (hbel.out.mono hszw))
          have hb2 := B2.out.size
          have hlr := hres2.out.lt
          clear ho
          obtain ⟨l, hl⟩ : ∃ l, (setOf d (hullP xss i)).length = l := ⟨_, rfl⟩
          have hll := setOf_len d (hullP xss i)
          rw [hl] at hll HI HNE hqc ⊢
          have HLL := Lib.hid hl
          clear hrow hl
          go_wp2_with (at_builtin; refine wpList_append_lies _ rfl _ _ 26 rfl (w.heap.size + 1 + 1) 39 jj _ 1 24 Try.underlying26 HG.out.1 HG.out.2.1 HG.out.2.2.1 HG.out.2.2.2 rfl (by omega) _ i _ rfl (HS2.out.row.alloc _) ⟨wr.heap.size, 0, none⟩ 1 1 [.slice A l q] rfl rfl (World.news_of_block (cs := #[.slice A l q]) (t := 39) (fr := (0, 0)) (heap_alloc_new wr _)) (by simp [Value.oneCell']) (by omega) (by unfold maxLen; omega) (by omega) (by simp; omega) (wr.heap.size + 1) (by simp) ?_; intro gg cap w5 hown1 hgrow hat hlt3)
          have P5 : Hid (Stack w5 (w.heap.size + 1 + 1) (.slice (some ⟨gg, 0, none⟩) (i + 1) cap) (i + 1) (vals ++ [.slice A l q]) ((List.range (i + 1)).map (fun j => setOf d (hullP xss j)))) := Lib.hid (by
            rw [List.range_succ, List.map_append]
            exact HS2.out.push HI.out hqc hqm HNE.out hown1 hgrow (hat.imp id (fun e => by rw [e]; omega)))
          have Y5 := Lib.hid ((hbx.out.alloc (.cells #[.slice A l q] 39)).grown hgrow (by intro e; have := hzl _ e.symm; omega))
          have K5 := Lib.hid ((hres2.out.alloc (.cells #[.slice A l q] 39)).grown hgrow (by intro e; have := hzl _ e.symm; omega))
          have B5 := Lib.hid ((B2.out.alloc hb2 (.cells #[.slice A l q] 39)).grown hgrow (by simp; omega) (fun q e => by have := hzl q e; omega))
          clear hown1 hgrow hat hlt3 hzb hzl q0 q1 q2 q3 q4
          go_wp2
          go_roundw
          case rel => exact ⟨i + 1, _, _, rfl, by go_num, by omega, P5, Y5, K5, B5⟩
          case measure => simp [intOf]; omega
    · obtain rfl : i = C := by omega
      obtain ⟨A, c2, rfl, hs1, hc2, hcm2⟩ := hst.out.sets
      have hzl' : ∀ k, (Value.slice A i c2).ownBlock = some k → w.heap.size + 1 + 1 ≤ k := rowBase hst.out.row
      have hf1 := hres.out.thawed
      have hk1 := hres.out.cell
      have P2 := hst.out.asetCell (p := ⟨w.heap.size + 1, 0, none⟩) (by show w.heap.size + 1 < w.heap.size + 1 + 1; omega) hres.out (.slice A i c2)
      obtain ⟨A', c3, e3, hs2, _⟩ := P2.sets
      have e4 : A' = A := by injection e3 with e3; exact e3.symm
      subst e4
      have H2 := Lib.hid hs2
      clear hs1 P2 e3 hs2
      go_wp2
      have L1 := hres.out.put (.slice A' i c2)
      have r0 := L1.cell
      refine bodyPost_ret (v := .agg #[.slice A' i c2]) (by simp [results, Try.results98, go_sem, r0]) rfl ⟨A', i, c2, rfl, H2.out, hc2, hcm2, hb.out.setCell (by show w.heap.size ≤ w.heap.size + 1; omega) _, fun ad e => by have := hzl' ad.block (by rw [e]; rfl); omega⟩

set_option maxRecDepth 100000 in
set_option maxHeartbeats 2000000 in
theorem l04Keys_any (m : Mk) (hm : m.ok = true) (V : Option Addr) (n c : Nat) (xss : List (List Int)) (w : World) (h : Sets w w.heap.size V n xss) (hn : n + sizeL xss ≤ 1048576) :
    Calls Try.prog 97 #[.agg #[.int .i64 m.C, .int .i64 m.D, .int .i64 m.S, .int .i64 m.M, .int .i64 m.L], .slice V n c] w fun e w' => e = .returned (.bool (xss.all (isKeyB m) && decide ((n : Int) ≤ 300))) ∧ Below w.heap.size w w' := by
  have c0 := (Below.refl w.heap.size w).alloc (Nat.le_refl _) (.cells #[.int .i64 m.C, .int .i64 m.D, .int .i64 m.S, .int .i64 m.M, .int .i64 m.L] 25)
  have x0 := Boxed.new w 25 m
  have s0 := h.on c0
  have HM := Lib.hid hm
  have HN := Lib.hid hn
  have HL := Lib.hid h.len
  have hn1 : n ≤ 1048576 := by omega
  clear h hm hn
  go_enter Try.func97, Try.ntmps97
  go_wp2
  go_loopw [5] (fun x wr => ∃ k : Nat, x = .int .i64 k ∧ k ≤ n ∧ Hid (∀ j ys, j < k → xss[j]? = some ys → isKeyB m ys = true) ∧ Hid (Boxed wr w.heap.size 25 m) ∧ Hid (Sets wr wr.heap.size V n xss) ∧ Hid (Below w.heap.size w wr)) (fun x _ => n - (intOf x).toNat)
  case atStart => exact ⟨0, rfl, Nat.zero_le _, Lib.hid (fun j _ hj => absurd hj (by omega)), Lib.hid x0, Lib.hid s0, Lib.hid c0⟩
  case round =>
    obtain ⟨k, rfl, hk, hall, hbox, hsets, hb⟩ := hrel
    clear x0 s0 c0
    by_cases hlt : k < n
    · obtain ⟨ad, ys, A, q, cc, rfl, hab, hy, hc, hi, hqc, hqm⟩ := hsets.out.at_ hlt
      have hq : q ≤ 1048576 := by have := fits_at HN.out hy; have := hi.len; omega
      have HY := Lib.hid hy
      have HI := Lib.hid hi
      obtain ⟨q0, q1, q2, q3, q4⟩ := hbox.out.cells
      have j0 : (0 : Int) ≤ (k : Int) := by omega
      have j1 : (k : Int) < (n : Int) := by omega
      obtain ⟨f, hf⟩ : ∃ f, faultV m ys = f := ⟨_, rfl⟩
      have HFV := Lib.hid hf
      clear hy hi hf
      go_wp2
      go_region_held3 (fun w' => w'.cell? ⟨w.heap.size, 0, none⟩ = some (.int .i64 m.C) ∧ w'.cell? ⟨w.heap.size, 1, none⟩ = some (.int .i64 m.D) ∧ w'.cell? ⟨w.heap.size, 2, none⟩ = some (.int .i64 m.S) ∧ w'.cell? ⟨w.heap.size, 3, none⟩ = some (.int .i64 m.M) ∧ w'.cell? ⟨w.heap.size, 4, none⟩ = some (.int .i64 m.L) ∧ w'.cell? (ad.add k) = some (.slice A q cc))
        (first | go_keep | exact Z2.out)
        (first
          | (go_at_call 146; refine (l02Fault_any m A q cc ys _ (ints_drewN HI.out 1) hq hqc hqm HM.out).mono ?_; rw [HFV.out]; rintro e w2 ⟨rfl, b2⟩; have X2 := Lib.hid ((hbox.out.drewN 1).on b2); have S2 := Lib.hid ((hsets.out.drewN 1).on b2); have B2 := Lib.hid (below_trans' (below_drewN hb.out 1) b2); have Z2 := Lib.hid (show w2.cell? ⟨w.heap.size, 0, none⟩ = some (.int .i64 m.C) ∧ w2.cell? ⟨w.heap.size, 1, none⟩ = some (.int .i64 m.D) ∧ w2.cell? ⟨w.heap.size, 2, none⟩ = some (.int .i64 m.S) ∧ w2.cell? ⟨w.heap.size, 3, none⟩ = some (.int .i64 m.M) ∧ w2.cell? ⟨w.heap.size, 4, none⟩ = some (.int .i64 m.L) ∧ w2.cell? (ad.add k) = some (.slice A q cc) from ⟨X2.out.cells.1, X2.out.cells.2.1, X2.out.cells.2.2.1, X2.out.cells.2.2.2.1, X2.out.cells.2.2.2.2, (b2.cell (p := ad.add k) (by rw [block_of_add]; exact hab)).trans hc⟩)))
      all_goals
        clear q0 q1 q2 q3 q4 hc Z2 HI
        by_cases hf0 : f = 0
        · subst hf0
          have HA : Hid (∀ j ys, j < k + 1 → xss[j]? = some ys → isKeyB m ys = true) := Lib.hid (fun j zs hj hz => by
            rcases Nat.lt_or_ge j k with h1 | h1
            · exact hall.out j zs h1 hz
            · obtain rfl : j = k := by omega
              rw [HY.out] at hz
              injection hz with hz
              subst hz
              unfold isKeyB
              rw [HM.out, HFV.out]; rfl)
          clear b2
          go_wp2
          go_roundw
          case rel => exact ⟨k + 1, by go_num, by omega, HA, X2, S2, B2⟩
          case measure => simp [intOf]; omega
        · have ht : (f != 0) = true := by simpa using hf0
          have HE : Hid ((xss.all (isKeyB m) && decide ((n : Int) ≤ 300)) = false) := Lib.hid (by
            have : xss.all (isKeyB m) = false := by
              rw [List.all_eq_false]
              refine ⟨ys, List.mem_of_getElem? HY.out, ?_⟩
              unfold isKeyB
              rw [HFV.out]
              simp [hf0]
            rw [this]; rfl)
          go_wp2
          go_ret
          exact ⟨ret_bool HE.out.symm, B2.out⟩
    · obtain rfl : k = n := by omega
      have HE : Hid (xss.all (isKeyB m) = true) := Lib.hid (by
        rw [List.all_eq_true]
        intro ys hys
        obtain ⟨j, hj⟩ := List.getElem?_of_mem hys
        exact hall.out j ys (by have := (List.getElem?_eq_some_iff.1 hj).1; rw [HL.out] at this; omega) hj)
      go_wp2
      go_ret
      exact ⟨ret_bool (by rw [HE.out, Bool.true_and]), hb.out⟩

theorem Sets.asetCell {w : World} {B n : Nat} {V : Option Addr} {yss : List (List Int)} (h : Sets w B V n yss) {p : Addr} (hp : B ≤ p.block) (u : Value) : Sets (w.setCell p u) B V n yss := h.below ((Below.refl B w).setCell hp u)

/-- codes and locks of HullOf -/
theorem hull_codes {m : Mk} {xss : List (List Int)} {n : Nat} (hm : m.ok = true) (hl : xss.length = n) : (n = 0 ∨ (xss.all (isKeyB m) && decide ((n : Int) ≤ 300)) = false → hullE m xss = 2 ∧ hullL m xss = []) ∧ (n ≠ 0 → (xss.all (isKeyB m) && decide ((n : Int) ≤ 300)) = true → hullE m xss = 0 ∧ hullL m xss = lockOf m.C.toNat m.D.toNat (hullP xss)) := by
  have hcode : codeF m xss = if xss.all (isKeyB m) then 0 else 2 := by
    unfold codeF
    rw [hm]
    simp
  constructor
  · intro h
    have e1 : hullE m xss = 2 := by
      unfold hullE
      rw [hcode, hl]
      by_cases ha : xss.all (isKeyB m) = true
      · rw [if_pos ha]
        have : inB (n : Int) 1 300 = false := by
          rcases h with h | h
          · subst h; rfl
          · rw [ha, Bool.true_and] at h
            have h' : ¬ (n : Int) ≤ 300 := by simpa using h
            unfold inB
            simp
            omega
        rw [this]; rfl
      · rw [if_neg ha]; rfl
    refine ⟨e1, ?_⟩
    unfold hullL
    rw [e1]; rfl
  · intro h0 h
    rw [Bool.and_eq_true] at h
    have h2 : (n : Int) ≤ 300 := by simpa using h.2
    have e1 : hullE m xss = 0 := by
      unfold hullE
      rw [hcode, hl, if_pos h.1]
      have : inB (n : Int) 1 300 = true := inB_true.2 (by omega)
      rw [this]; rfl
    refine ⟨e1, ?_⟩
    unfold hullL
    rw [e1]; rfl

set_option maxRecDepth 100000 in
set_option maxHeartbeats 2000000 in
theorem specHullOf_any (m : Mk) (V : Option Addr) (n c : Nat) (xss : List (List Int)) (w : World) (h : Sets w w.heap.size V n xss) (hn : n + sizeL xss ≤ 1048576) :
    Calls Try.prog 21 #[.agg #[.int .i64 m.C, .int .i64 m.D, .int .i64 m.S, .int .i64 m.M, .int .i64 m.L], .slice V n c] w (GivesSetsE w (hullE m xss) (hullL m xss)) := by
  have c0 := ((Below.refl w.heap.size w).alloc (Nat.le_refl _) (.cells #[.int .i64 m.C, .int .i64 m.D, .int .i64 m.S, .int .i64 m.M, .int .i64 m.L] 25)).alloc (by simp) (.cells #[.slice none 0 0] 30)
  have x0 := (Boxed.new w 25 m).alloc (.cells #[.slice none 0 0] 30)
  have o0 := Cell1.new (w.alloc (.cells #[.int .i64 m.C, .int .i64 m.D, .int .i64 m.S, .int .i64 m.M, .int .i64 m.L] 25)) 30 (.slice none 0 0)
  have s0 := Lib.hid (h.on c0)
  simp only [World.size_alloc] at o0
  have HN := Lib.hid hn
  have HL := Lib.hid h.len
  have hn1 : n ≤ 1048576 := by omega
  clear h hn
  obtain ⟨q0, q1, q2, q3, q4⟩ := x0.cells
  rcases hm : m.ok with _ | _
  · have HE : Hid (hullE m xss = 1 ∧ hullL m xss = []) := Lib.hid (by
      have e0 := code_bad (yss := xss) hm
      have e1 : hullE m xss = 1 := by unfold hullE; rw [e0]; rfl
      refine ⟨e1, ?_⟩
      unfold hullL
      rw [e1]; rfl)
    rw [HE.out.1, HE.out.2]
    go_enter Try.func21, Try.ntmps21
    go_wp2_with fail
    refine (specIsMaker_any m _).mono ?_
    rw [hm]
    rintro e w1 ⟨rfl, b1⟩
    have c1 := below_trans' c0 b1
    have o1 := o0.on b1
    have f1 := o1.thawed
    have k1 := o1.cell
    clear q0 q1 q2 q3 q4
    go_wp2
    have L1 := o1.put (.slice none 0 0)
    have r0 := L1.cell
    exact bodyPost_ret (v := .tuple #[.agg #[.slice none 0 0], .int .i64 1]) (by simp [results, Try.results21, go_sem, r0]) rfl ⟨none, 0, 0, rfl, Sets.nil none, Nat.le_refl _, by omega, c1.setCell (by simp) _⟩
  have HM := Lib.hid hm
  have HC := Lib.hid (hull_codes hm HL.out)
  clear hm
  by_cases hn0 : n = 0
  · rw [(HC.out.1 (.inl hn0)).1, (HC.out.1 (.inl hn0)).2]
    go_enter Try.func21, Try.ntmps21
    go_wp2_with fail
    refine (specIsMaker_any m _).mono ?_
    rw [HM.out]
    rintro e w1 ⟨rfl, b1⟩
    have c1 := below_trans' c0 b1
    have o1 := o0.on b1
    have f1 := o1.thawed
    have k1 := o1.cell
    have ht : ((n : Int) == 0) = true := by simp; omega
    clear q0 q1 q2 q3 q4
    go_wp2
    have L1 := o1.put (.slice none 0 0)
    have r0 := L1.cell
    exact bodyPost_ret (v := .tuple #[.agg #[.slice none 0 0], .int .i64 2]) (by simp [results, Try.results21, go_sem, r0]) rfl ⟨none, 0, 0, rfl, Sets.nil none, Nat.le_refl _, by omega, c1.setCell (by simp) _⟩
  have ht : ((n : Int) == 0) = false := by simp; omega
  rcases hk : (xss.all (isKeyB m) && decide ((n : Int) ≤ 300)) with _ | _
  · rw [(HC.out.1 (.inr hk)).1, (HC.out.1 (.inr hk)).2]
    go_enter Try.func21, Try.ntmps21
    go_wp2_with fail
    refine (specIsMaker_any m _).mono ?_
    rw [HM.out]
    rintro e w1 ⟨rfl, b1⟩
    have c1 := below_trans' c0 b1
    have o1 := o0.on b1
    have x1 := x0.on b1
    have s1 := Lib.hid (s0.out.on b1)
    clear q0 q1 q2 q3 q4
    obtain ⟨q0, q1, q2, q3, q4⟩ := x1.cells
    go_wp2_with fail
    refine (l04Keys_any m HM.out _ _ _ xss _ s1.out HN.out).mono ?_
    rw [hk]
    rintro e w2 ⟨rfl, b2⟩
    have c2 := below_trans' c1 b2
    have o2 := o1.on b2
    have f2 := o2.thawed
    have k2 := o2.cell
    clear q0 q1 q2 q3 q4
    go_wp2
    have L1 := o2.put (.slice none 0 0)
    have r0 := L1.cell
    exact bodyPost_ret (v := .tuple #[.agg #[.slice none 0 0], .int .i64 2]) (by simp [results, Try.results21, go_sem, r0]) rfl ⟨none, 0, 0, rfl, Sets.nil none, Nat.le_refl _, by omega, c2.setCell (by simp) _⟩
  · rw [(HC.out.2 hn0 hk).1, (HC.out.2 hn0 hk).2]
    have HKY : Hid (∀ (k : Nat) (ys : List Int), xss[k]? = some ys → (ys.length : Int) = m.C) := Lib.hid (fun k ys hy => by
      rw [Bool.and_eq_true] at hk
      obtain ⟨_, f2, _⟩ := key_facts (List.all_eq_true.1 hk.1 ys (List.mem_of_getElem? hy))
      exact f2)
    go_enter Try.func21, Try.ntmps21
    go_wp2_with fail
    refine (specIsMaker_any m _).mono ?_
    rw [HM.out]
    rintro e w1 ⟨rfl, b1⟩
    have c1 := below_trans' c0 b1
    have o1 := o0.on b1
    have x1 := x0.on b1
    have s1 := Lib.hid (s0.out.on b1)
    clear q0 q1 q2 q3 q4
    obtain ⟨q0, q1, q2, q3, q4⟩ := x1.cells
    go_wp2_with fail
    refine (l04Keys_any m HM.out _ _ _ xss _ s1.out HN.out).mono ?_
    rw [hk]
    rintro e w2 ⟨rfl, b2⟩
    have c2 := below_trans' c1 b2
    have o2 := o1.on b2
    have x2 := x1.on b2
    have s2 := Lib.hid (s1.out.on b2)
    clear q0 q1 q2 q3 q4
    obtain ⟨q0, q1, q2, q3, q4⟩ := x2.cells
    go_wp2_with fail
    refine (l04Hull_any m HM.out _ _ _ xss _ s2.out hn1 HKY.out).mono ?_
    rintro e w3 ⟨V3, n3, c3, rfl, hs3, hc3, hcm3, b3, hV3⟩
    have c4 := below_trans' c2 b3
    have o3 := o2.on b3
    have f3 := o3.thawed
    have k3 := o3.cell
    have H3 := Lib.hid hs3
    clear q0 q1 q2 q3 q4 hs3
    have hb2 := o2.lt
    have HV3 := Lib.hid hV3
    clear hV3
    go_wp2
    have L1 := o3.put (.slice V3 n3 c3)
    have r0 := L1.cell
    refine bodyPost_ret (v := .tuple #[.agg #[.slice V3 n3 c3], .int .i64 0]) (by simp [results, Try.results21, go_sem, r0]) rfl ⟨V3, n3, c3, rfl, ?_, hc3, hcm3, c4.setCell (by simp) _⟩
    exact H3.out.past (p := ⟨w.heap.size + 1, 0, none⟩) o3 (fun ad e => by have := HV3.out ad e; show ad.block ≠ w.heap.size + 1; omega) _

end Go.Proofs.Ytbfnffecmglgfaa
