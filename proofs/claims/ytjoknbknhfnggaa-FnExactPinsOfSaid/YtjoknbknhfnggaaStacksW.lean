/- stacks of the program, with where its lists lie. -/
import Derived.Test.YtjoknbknhfnggaaStacksP
namespace Go.Proofs.Ytjoknbknhfnggaa
open Go Go.RowKit

/-- the stacks lie one behind the other, and may be written -/
def Offs (w : World) (gs : List (Nat × Nat)) (zss : List (List Int)) : Prop :=
  ∀ (j b o : Nat) (zs : List Int), gs[j]? = some (b, o) → zss[j]? = some zs → o = sizeAt zss j ∧ ∀ i, i < zs.length → w.frozen? ⟨b, o + i, none⟩ = false
theorem Offs.on {w w' : World} {lo g0 n k q : Nat} {gs : List (Nat × Nat)} {zss : List (List Int)} {pv : Value} (h : Offs w gs zss) (st : Stacked w lo g0 n k gs zss pv q) (hb : Below w.heap.size w w') : Offs w' gs zss :=
  fun j b o zs hg hz => ⟨(h j b o zs hg hz).1, fun i hi => (hb.frozen (p := ⟨b, o + i, none⟩) (st.each j b o zs hg hz).2.1).trans ((h j b o zs hg hz).2 i hi)⟩
theorem row_thawed {w : World} {base t g cap q i : Nat} {xs : List Int} (h : w.ownsRow base t 1 (.slice (some ⟨g, 0, none⟩) q cap) q (intsV xs)) (hl : xs.length = q) (hi : i < q) : w.frozen? ⟨g, i, none⟩ = false := by
  obtain ⟨ad, v, e, _, _, _, hf, _⟩ := (rowIntsAt h hl).1.at_ hi
  injection e with e
  subst e
  rwa [add_at] at hf
theorem Offs.grow {w w' : World} {lo g0 n k q g cap : Nat} {gs : List (Nat × Nat)} {zss : List (List Int)} {pv : Value} {xs : List Int} {x : Int} (h : Offs w gs zss) (st : Stacked w lo g0 n k gs zss pv q)
    (hl : xs.length = q) (h2 : w'.ownsRow lo 2 1 (.slice (some ⟨g, 0, none⟩) (q + 1) cap) (q + 1) (intsV (xs ++ [x])))
    (h3 : w.grownBy w' pv.ownBlock) (h6 : ∀ k, pv.ownBlock = some k → k ≠ g → w'.heap[k]? = w.heap[k]?) : Offs w' gs zss := by
  intro j b o zs hg hz
  obtain ⟨e0, e1⟩ := h j b o zs hg hz
  refine ⟨e0, fun i hi => ?_⟩
  obtain ⟨_, a2, a3, _⟩ := st.each j b o zs hg hz
  by_cases hv : pv.ownBlock = some b
  · by_cases hgb : b = g
    · subst hgb
      have := a3 hv
      exact row_thawed h2 (by rw [List.length_append, hl]; rfl) (by omega)
    · rw [World.frozen?_of_block (w := w) (a := ⟨b, o + i, none⟩) (h6 b hv hgb)]; exact e1 i hi
  · rw [World.frozen?_of_block (w := w) (a := ⟨b, o + i, none⟩) (h3.block b a2 (fun e => hv e.symm))]; exact e1 i hi
theorem Offs.push {w : World} {k q g : Nat} {gs : List (Nat × Nat)} {zss : List (List Int)} {zs : List Int} {p : Addr} {u : Value} (h : Offs w gs zss) (hl : gs.length = k) (hq : sizeAt zss k = q)
    (hf : ∀ i, i < zs.length → w.frozen? ⟨g, q + i, none⟩ = false) (hz : zss[k]? = some zs) : Offs (w.setCell p u) (gs ++ [(g, q)]) zss := by
  intro j b o zs' hg hz'
  by_cases hj : j < k
  · rw [List.getElem?_append_left (by omega)] at hg
    obtain ⟨e0, e1⟩ := h j b o zs' hg hz'
    exact ⟨e0, fun i hi => by rw [World.frozen?_setCell]; exact e1 i hi⟩
  · have hjl := (List.getElem?_eq_some_iff.1 hg).1
    rw [List.length_append, hl] at hjl
    obtain rfl : j = k := by simp at hjl; omega
    rw [List.getElem?_append_right (by omega), hl, Nat.sub_self] at hg
    simp at hg
    obtain ⟨rfl, rfl⟩ := hg
    rw [hz] at hz'
    injection hz' with hz'
    subst hz'
    exact ⟨hq.symm, fun i hi => by rw [World.frozen?_setCell]; exact hf i hi⟩
def GivesStacksW (w : World) (n : Nat) (zss : List (List Int)) (e : Ending) (w' : World) : Prop :=
  ∃ (g0 : Nat) (gs : List (Nat × Nat)) (pv : Value) (q : Nat), e = .returned (.slice (some ⟨g0, 0, none⟩) n n) ∧ w.heap.size ≤ g0 ∧ Stacked w' (g0 + 1) g0 n n gs zss pv q ∧ Offs w' gs zss ∧ Below w.heap.size w w'

set_option maxRecDepth 100000 in
set_option maxHeartbeats 8000000 in
theorem stacksW_any (m : Mk) (V : Option Addr) (n c : Nat) (yss : List (List Int)) (w : World) (h : Sets w w.heap.size V n yss) (hn : n ≤ 6) (hD : 2 ≤ m.D) (hD8 : m.D ≤ 8) (hall : ∀ ys ∈ yss, allIn 0 7 ys = true ∧ ys.length ≤ 8) :
    Calls Try.prog 99 #[.agg #[.slice V n c], .agg #[.int .i64 m.C, .int .i64 m.D, .int .i64 m.S, .int .i64 m.M, .int .i64 m.L]] w (GivesStacksW w n (yss.map (stk m.D))) := by
  obtain ⟨i0, hi, hz0, hz1, hz2⟩ := info_parts Try.info2'
  have HI := Lib.hid (And.intro hi (And.intro hz0 (And.intro hz1 hz2)))
  clear hi hz0 hz1 hz2
  have c0 := ((Below.refl w.heap.size w).alloc (Nat.le_refl _) (.cells #[.slice V n c] 30)).alloc (by simp) (.cells #[.int .i64 m.C, .int .i64 m.D, .int .i64 m.S, .int .i64 m.M, .int .i64 m.L] 25)
  have k0 := (Cell1.new w 30 (.slice V n c)).alloc (.cells #[.int .i64 m.C, .int .i64 m.D, .int .i64 m.S, .int .i64 m.M, .int .i64 m.L] 25)
  have x0 := Boxed.new (w.alloc (.cells #[.slice V n c] 30)) 25 m
  rw [World.size_alloc] at x0
  have ck := k0.cell
  have HS := Lib.hid h
  have HA := Lib.hid hall
  have HLN := Lib.hid h.len
  clear h hall
  have hmk := run_make_row' (P := Try.prog) 26 39 (.slice none 0 0) 24 Try.underlying26 Try.info39' rfl .i64 .i64 n (by omega) (by omega)
  have S0 := Lib.hid (Stacked.start (w := (w.alloc (.cells #[.slice V n c] 30)).alloc (.cells #[.int .i64 m.C, .int .i64 m.D, .int .i64 m.S, .int .i64 m.M, .int .i64 m.L] 25)) (lo := w.heap.size + 2 + 1) (n := n) (zss := yss.map (stk m.D)) (pv := .slice none 0 0))
  simp only [World.size_alloc] at S0
  have X0 := Lib.hid (x0.alloc (.cells (madeCells #[.slice none 0 0] n) 39))
  have K0 := k0.alloc (.cells (madeCells #[.slice none 0 0] n) 39)
  have ck1 := K0.cell
  have B0 := Lib.hid (c0.alloc (by simp; omega) (.cells (madeCells #[.slice none 0 0] n) 39))
  have Z0 : Hid (w.heap.size + 2 + 1 ≤ (((w.alloc (.cells #[.slice V n c] 30)).alloc (.cells #[.int .i64 m.C, .int .i64 m.D, .int .i64 m.S, .int .i64 m.M, .int .i64 m.L] 25)).alloc (.cells (madeCells #[.slice none 0 0] n) 39)).heap.size) := Lib.hid (by simp)
  clear c0 k0 x0 K0
  go_enter Try.func99, Try.ntmps99
  go_wp2
  clear hmk ck ck1
  go_loopw [6, 20] (fun v i wr => ∃ (k q : Nat) (gs : List (Nat × Nat)) (flat : List Int) (pv : Value), k ≤ n ∧ i = .int .i64 k ∧ v = pv ∧ q ≤ 9 * k ∧ Hid (flat.length = q) ∧ Hid (wr.ownsRow (w.heap.size + 2 + 1) 2 1 pv q (intsV flat)) ∧ Hid (Stacked wr (w.heap.size + 2 + 1) (w.heap.size + 1 + 1) n k gs (yss.map (stk m.D)) pv q) ∧ Hid (Offs wr gs (yss.map (stk m.D))) ∧ Hid (sizeAt (yss.map (stk m.D)) k = q) ∧ Hid (Boxed wr (w.heap.size + 1) 25 m) ∧ Hid (Below w.heap.size w wr) ∧ w.heap.size + 2 + 1 ≤ wr.heap.size) (fun _ i _ => n - (intOf i).toNat)
  case atStart => exact ⟨0, 0, [], [], _, Nat.zero_le _, rfl, rfl, Nat.le_refl _, Lib.hid rfl, Lib.hid (World.ownsRow_nil _ _ _ _), S0, Lib.hid (fun j b o zs h => by simp at h), Lib.hid rfl, X0, B0, Z0.out⟩
  case round =>
    clear S0 X0 B0 Z0
    obtain ⟨k, q, gs, flat, pv, hk, rfl, rfl, hq, HF, HR, HST, HOF, HSZ, HX, HB, hz⟩ := hrel
    by_cases hlt : k < n
    · obtain ⟨ad, ys, A, l, cc, rfl, hab, hy, hc, hi, hl1, hl2⟩ := HS.out.at_ hlt
      obtain ⟨h7, h8⟩ := HA.out ys (List.mem_of_getElem? hy)
      have HY : Hid ((yss.map (stk m.D))[k]? = some (stk m.D ys)) := Lib.hid (by rw [List.getElem?_map, hy]; rfl)
      have HIN := Lib.hid hi
      have H7 := Lib.hid h7
      have hl8 : l ≤ 8 := by rw [← hi.len]; exact h8
      have hcw := (HB.out.cell (p := ad.add k) (by rw [block_of_add]; exact hab)).trans hc
      obtain ⟨A1, c1, rfl, _, hc1, hc2⟩ := rowInts HR.out HF.out
      clear hy hi hc h7 h8
      have HQ0 : Hid (0 ≤ q ∧ q ≤ 54) := Lib.hid (by omega)
      go_wp2
      clear hcw
      have HST0 := HST
      go_loopw [6, 10, 29] (fun v b x wr => ∃ (j : Nat) (done : List Int) (below : Int) (pv : Value), x = .int .i64 j ∧ b = .int .i64 below ∧ v = pv ∧ j ≤ l ∧ 0 ≤ below ∧ below ≤ 7 ∧ Hid (done.length = j) ∧ Hid (stk m.D ys = done ++ stkF m.D below (ys.drop j)) ∧ Hid (wr.ownsRow (w.heap.size + 2 + 1) 2 1 pv (q + j) (intsV (flat ++ done))) ∧ Hid (Stacked wr (w.heap.size + 2 + 1) (w.heap.size + 1 + 1) n k gs (yss.map (stk m.D)) pv (q + j)) ∧ Hid (Offs wr gs (yss.map (stk m.D))) ∧ Hid (Boxed wr (w.heap.size + 1) 25 m) ∧ Hid (Below w.heap.size w wr) ∧ w.heap.size + 2 + 1 ≤ wr.heap.size) (fun _ _ x _ => l - (intOf x).toNat)
      case atStart => exact ⟨0, [], 0, _, rfl, rfl, rfl, Nat.zero_le _, by omega, by omega, Lib.hid rfl, Lib.hid rfl, Lib.hid (by simpa using HR.out), HST, HOF, HX, HB, hz⟩
      case round =>
        clear HR HST HOF HX HB hz
        obtain ⟨j, done, below, pv, rfl, rfl, rfl, hj, hb0, hb7, HDL, HDN, HR, HST, HOF, HX, HB, hz⟩ := hrel
        have HFL : Hid ((flat ++ done).length = q + j) := Lib.hid (by rw [List.length_append, HF.out, HDL.out])
        obtain ⟨A2, c2', rfl, _, hc1', hc2'⟩ := rowInts HR.out HFL.out
        by_cases hltj : j < l
        · obtain ⟨ad2, v, rfl, hab2, hv, hcv⟩ := (HIN.out.on HB.out).at_ hltj
          obtain ⟨v0, v7⟩ := allIn_at H7.out hv
          have HDR := Lib.hid (dropCons hv)
          have sw : IntKind.i64.wrap (v - below) = v - below := IntWalk.i64_in _ (by omega)
          clear hv
          go_wp2_with (at_builtin; refine wpList_append_kept _ rfl _ _ 39 rfl (w.heap.size + 2 + 1) 2 i0 _ 1 8 Try.underlying39 HI.out.1 HI.out.2.1 HI.out.2.2.1 HI.out.2.2.2 rfl (by omega) _ (q + j) _ rfl (HR.out.alloc _) ⟨wr.heap.size, 0, none⟩ 1 1 [.int .i64 (v - below)] rfl rfl (World.news_of_block (cs := #[.int .i64 (v - below)]) (t := 2) (fr := (0, 0)) (heap_alloc_new wr _)) (by simp [Value.oneCell']) (by omega) (by unfold maxLen; omega) (by omega) (by simp; omega) (wr.heap.size + 1) (by simp) ?_; intro gg cap w5 hown1 hgrow hat hlt3 hkp)
          have bA := (Below.refl wr.heap.size wr).alloc (Nat.le_refl _) (.cells #[.int .i64 (v - below)] 2)
          have R5 : Hid (w5.ownsRow (w.heap.size + 2 + 1) 2 1 (.slice (some ⟨gg, 0, none⟩) (q + j + 1) cap) (q + j + 1) (intsV (flat ++ done ++ [v - below]))) := Lib.hid (by rw [← intsV_snoc]; exact hown1)
          have ST5 := Lib.hid ((HST.out.on bA).grow (by omega) (HR.out.alloc (.cells #[.int .i64 (v - below)] 2)) HFL.out R5.out hgrow (by rcases hat with h | h; exact .inl h; exact .inr (by rw [h]; simp)) hkp)
          have OF5 := Lib.hid ((HOF.out.on HST.out bA).grow (HST.out.on bA) HFL.out R5.out hgrow hkp)
          have X5 := Lib.hid ((HX.out.alloc (.cells #[.int .i64 (v - below)] 2)).grown hgrow (by intro e; have := rowBase HR.out _ e.symm; omega))
          have B5 := Lib.hid ((HB.out.alloc HB.out.size (.cells #[.int .i64 (v - below)] 2)).grown hgrow (by have := HB.out.size; simp; omega) (fun q e => by have := rowBase HR.out q e; omega))
          have z5 : w.heap.size + 2 + 1 ≤ w5.heap.size := by have := hgrow.size; simp at this; omega
          clear hown1 hgrow hat hlt3 hkp bA HR HST HOF HX HB sw hcv
          go_wp2
          go_roundw
          case rel =>
            refine ⟨j + 1, done ++ [v - below], v, _, by go_num, rfl, rfl, by omega, v0, v7, Lib.hid (by rw [List.length_append, HDL.out]; rfl), Lib.hid ?_, Lib.hid (by rw [← List.append_assoc]; exact R5.out), ST5, OF5, X5, B5, z5⟩
            rw [HDN.out, HDR.out]
            show done ++ ((v - below) :: stkF m.D v (ys.drop (j + 1))) = _
            simp
          case measure => simp [intOf]; omega
        · obtain rfl : j = l := by omega
          have HE : Hid (stk m.D ys = done ++ [m.D - 1 - below]) := Lib.hid (by
            rw [HDN.out, List.drop_of_length_le (by rw [HIN.out.len]; exact Nat.le_refl _)]; rfl)
          obtain ⟨q0, q1, q2, q3, q4⟩ := HX.out.cells
          have sw1 : IntKind.i64.wrap (m.D - 1) = m.D - 1 := IntWalk.i64_in _ (by omega)
          have sw2 : IntKind.i64.wrap (m.D - 1 - below) = m.D - 1 - below := IntWalk.i64_in _ (by omega)
          have HZL : Hid ((stk m.D ys).length = j + 1) := Lib.hid (by rw [stk_len, HIN.out.len])
          have s0 : (0 : Int) ≤ (q : Int) := by omega
          have s1 : (q : Int) ≤ (q : Int) + (j : Int) + 1 := by omega
          go_wp2_with (at_builtin; refine wpList_append_kept _ rfl _ _ 39 rfl (w.heap.size + 2 + 1) 2 i0 _ 1 8 Try.underlying39 HI.out.1 HI.out.2.1 HI.out.2.2.1 HI.out.2.2.2 rfl (by omega) _ (q + j) _ rfl (HR.out.alloc _) ⟨wr.heap.size, 0, none⟩ 1 1 [.int .i64 (m.D - 1 - below)] rfl rfl (World.news_of_block (cs := #[.int .i64 (m.D - 1 - below)]) (t := 2) (fr := (0, 0)) (heap_alloc_new wr _)) (by simp [Value.oneCell']) (by omega) (by unfold maxLen; omega) (by omega) (by simp; omega) (wr.heap.size + 1) (by simp) ?_; intro gg cap w5 hown1 hgrow hat hlt3 hkp; have bA := (Below.refl wr.heap.size wr).alloc (Nat.le_refl _) (.cells #[.int .i64 (m.D - 1 - below)] 2); have R5 : Hid (w5.ownsRow (w.heap.size + 2 + 1) 2 1 (.slice (some ⟨gg, 0, none⟩) (q + j + 1) cap) (q + j + 1) (intsV (flat ++ done ++ [(m.D - 1 - below)]))) := Lib.hid (by rw [← intsV_snoc]; exact hown1); have ST5 := Lib.hid ((HST.out.on bA).grow (by omega) (HR.out.alloc (.cells #[.int .i64 (m.D - 1 - below)] 2)) HFL.out R5.out hgrow (by rcases hat with h | h; exact .inl h; exact .inr (by rw [h]; simp)) hkp); have OF5 := Lib.hid ((HOF.out.on HST.out bA).grow (HST.out.on bA) HFL.out R5.out hgrow hkp); have X5 := Lib.hid ((HX.out.alloc (.cells #[.int .i64 (m.D - 1 - below)] 2)).grown hgrow (by intro e; have := rowBase HR.out _ e.symm; omega)); have B5 := Lib.hid ((HB.out.alloc HB.out.size (.cells #[.int .i64 (m.D - 1 - below)] 2)).grown hgrow (by have := HB.out.size; simp; omega) (fun q e => by have := rowBase HR.out q e; omega)); have z5 : w.heap.size + 2 + 1 ≤ w5.heap.size := (by have := hgrow.size; simp at this; omega); have hcap : q + j + 1 ≤ cap := (rowIntsAt R5.out (by rw [List.length_append, HFL.out]; rfl)).2.1; have hcap2 : cap ≤ 9223372036854775807 := (rowIntsAt R5.out (by rw [List.length_append, HFL.out]; rfl)).2.2; have hst := ST5.out.row.cell hlt; have hfz := ST5.out.row.frozen k; clear hown1 hgrow hat hlt3 hkp bA q0 q1 q2 q3 q4)
          go_roundw
          case rel =>
            have e : q + j + 1 = q + (stk m.D ys).length := by rw [HZL.out]; omega
            have e2 : q + j + 1 - q = (stk m.D ys).length := by rw [HZL.out]; omega
            have R6 : w5.ownsRow (w.heap.size + 2 + 1) 2 1 (.slice (some ⟨gg, 0, none⟩) (q + j + 1) cap) (q + j + 1) (intsV (flat ++ stk m.D ys)) := by rw [HE.out, ← List.append_assoc]; exact R5.out
            have hgg := rowBase R6 gg rfl
            have HP := Stacked.push (q0 := q) (zs := stk m.D ys) (xs := flat) (cap := cap) (g := gg) (by rw [← e]; exact ST5.out) (by omega) (by rw [← e]; exact R6) HF.out HY.out (by rw [HZL.out]; omega)
            rw [← e] at HP
            have OFP := Offs.push (p := ⟨w.heap.size + 1 + 1, k, none⟩) (u := .slice (some ⟨gg, q, none⟩) (stk m.D ys).length (stk m.D ys).length) OF5.out HST0.out.len HSZ.out (zs := stk m.D ys) (g := gg) (fun i hi => row_thawed R6 (by rw [List.length_append, HF.out, HZL.out]; omega) (by rw [HZL.out] at hi; omega)) HY.out
            have SZP : sizeAt (yss.map (stk m.D)) (k + 1) = q + j + 1 := by rw [sizeAt_step HY.out, HSZ.out, HZL.out]; omega
            rw [e2]
            refine ⟨k + 1, q + j + 1, gs ++ [(gg, q)], flat ++ stk m.D ys, _, by omega, by go_num, rfl, by omega, Lib.hid (by rw [List.length_append, HF.out, HZL.out]; omega), Lib.hid ?_, Lib.hid HP, Lib.hid OFP, Lib.hid SZP, Lib.hid ?_, Lib.hid ?_, ?_⟩
            · exact rowHeap R6 (fun i hi => by
                have : gg = i := by simpa [Value.ownBlock] using hi
                subst this
                exact Below.heap_setCell w5 ⟨w.heap.size + 1 + 1, k, none⟩ _ gg (by show gg ≠ w.heap.size + 1 + 1; omega))
            · exact X5.out.grown (grown_set (p := ⟨w.heap.size + 1 + 1, k, none⟩) (World.grownBy.refl w5 (some (w.heap.size + 1 + 1))) rfl _) (by intro e; injection e with e; omega)
            · exact B5.out.setCell (p := ⟨w.heap.size + 1 + 1, k, none⟩) (by show w.heap.size ≤ w.heap.size + 1 + 1; omega) _
            · simp [World.setCell]; omega
          case measure => simp [intOf]; omega
    · obtain rfl : k = n := by omega
      go_wp2
      go_ret
      exact ⟨_, gs, _, q, rfl, by omega, HST.out, HOF.out, HB.out⟩

end Go.Proofs.Ytjoknbknhfnggaa
