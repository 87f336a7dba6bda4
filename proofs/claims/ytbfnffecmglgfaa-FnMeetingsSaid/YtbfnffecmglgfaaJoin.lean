/- JoinLocks of the program. -/
import Derived.Test.YtbfnffecmglgfaaTwoP
import Derived.Test.YtbfnffecmglgfaaSJoin
namespace Go.Proofs.Ytbfnffecmglgfaa
open Go Go.RowKit

set_option linter.unusedSimpArgs false in
set_option maxRecDepth 100000 in
set_option maxHeartbeats 16000000 in
theorem joinLocks_any (m : Mk) (V : Option Addr) (n c : Nat) (yss : List (List Int)) (V' : Option Addr) (n' c' : Nat) (zss : List (List Int)) (w : World) (h : Sets w w.heap.size V n yss) (hn : n + sizeL yss ≤ 1048576) (h' : Sets w w.heap.size V' n' zss) (hn' : n' + sizeL zss ≤ 1048576) :
    Calls Try.prog 40 #[.agg #[.int .i64 m.C, .int .i64 m.D, .int .i64 m.S, .int .i64 m.M, .int .i64 m.L], .agg #[.slice V n c], .agg #[.slice V' n' c']] w (GivesLockE w (twoE m yss zss) (jnL m yss zss)) := by
  have J0 := Lib.hid (JArg.new (m := m) (c := c) (c' := c') h h')
  have HN := Lib.hid hn
  have HN' := Lib.hid hn'
  have HLN := Lib.hid h.len
  clear h h' hn hn'
  obtain ⟨q0, q1, q2, q3, q4, ck, cl⟩ := J0.out.cells
  rcases hL : lockB m yss with _ | _
  · have HE := Lib.hid (two_no (zss := zss) (.inl hL))
    rw [HE.out.1, HE.out.2]
    go_enter Try.func40, Try.ntmps40
    go_wp2_with fail
    refine (isLock_any m _ _ _ yss _ J0.out.saw HN.out).mono ?_
    rw [hL]
    rintro e w1 ⟨rfl, b1⟩
    have J1 := Lib.hid (J0.out.on b1)
    have f1 := J1.out.o.thawed
    have k1 := J1.out.o.cell
    clear q0 q1 q2 q3 q4 ck cl J0 b1
    go_wp2
    have r0 := (J1.out.o.put (.slice none 0 0)).cell
    refine bodyPost_ret (v := .tuple #[.agg #[.slice none 0 0], .int .i64 1]) (by simp [results, Try.results40, go_sem, r0]) rfl ⟨none, 0, 0, [], rfl, Rag.nil none ?_, Nat.le_refl _, by omega, J1.out.bel.setCell (by simp; omega) _⟩
    have := J1.out.bel.size
    simpa [World.setCell] using this
  rcases hL' : lockB m zss with _ | _
  · have HE := Lib.hid (two_no (yss := yss) (.inr hL'))
    rw [HE.out.1, HE.out.2]
    go_enter Try.func40, Try.ntmps40
    go_wp2_with fail
    refine (isLock_any m _ _ _ yss _ J0.out.saw HN.out).mono ?_
    rw [hL]
    rintro e w1 ⟨rfl, b1⟩
    have J1 := Lib.hid (J0.out.on b1)
    clear q0 q1 q2 q3 q4 ck cl J0 b1
    obtain ⟨q0, q1, q2, q3, q4, ck, cl⟩ := J1.out.cells
    go_wp2_with fail
    refine (isLock_any m _ _ _ zss _ J1.out.sbw HN'.out).mono ?_
    rw [hL']
    rintro e w2 ⟨rfl, b2⟩
    have J2 := Lib.hid (J1.out.on b2)
    have f1 := J2.out.o.thawed
    have k1 := J2.out.o.cell
    clear q0 q1 q2 q3 q4 ck cl J1 b2
    go_wp2
    have r0 := (J2.out.o.put (.slice none 0 0)).cell
    refine bodyPost_ret (v := .tuple #[.agg #[.slice none 0 0], .int .i64 1]) (by simp [results, Try.results40, go_sem, r0]) rfl ⟨none, 0, 0, [], rfl, Rag.nil none ?_, Nat.le_refl _, by omega, J2.out.bel.setCell (by simp; omega) _⟩
    have := J2.out.bel.size
    simpa [World.setCell] using this
  have HLY := Lib.hid hL
  have HLZ := Lib.hid hL'
  obtain ⟨hm, hCn, _⟩ := lockB_facts hL
  obtain ⟨m1, m2, m3, m4, m5, m6, m7, m8, m9, m10, m11⟩ := Mk.ok_true hm
  have HM := Lib.hid hm
  obtain ⟨vs, hvs⟩ : ∃ vs, bitsOf yss = vs := ⟨_, rfl⟩
  obtain ⟨us, hus⟩ : ∃ us, bitsOf zss = us := ⟨_, rfl⟩
  have HV : Hid (∀ i, vs i < 256) := Lib.hid (by rw [← hvs]; exact bitsOf_lt hL)
  have HU : Hid (∀ i, us i < 256) := Lib.hid (by rw [← hus]; exact bitsOf_lt hL')
  have HPV : Hid (∀ i d, bitP vs i d = setP yss i d) := Lib.hid (by rw [← hvs]; exact bitsOf_set hL)
  have HPU : Hid (∀ i d, bitP us i d = setP zss i d) := Lib.hid (by rw [← hus]; exact bitsOf_set hL')
  clear hm hCn
  have HEY := two_yes hL hL'
  rw [HEY.1, HEY.2]
  clear HEY
  go_enter Try.func40, Try.ntmps40
  go_wp2_with fail
  refine (isLock_any m _ _ _ yss _ J0.out.saw HN.out).mono ?_
  rw [hL]
  rintro e w1 ⟨rfl, b1⟩
  have J1 := Lib.hid (J0.out.on b1)
  clear q0 q1 q2 q3 q4 ck cl J0 b1
  obtain ⟨q0, q1, q2, q3, q4, ck, cl⟩ := J1.out.cells
  go_wp2_with fail
  refine (isLock_any m _ _ _ zss _ J1.out.sbw HN'.out).mono ?_
  rw [hL']
  rintro e w2 ⟨rfl, b2⟩
  have J2 := Lib.hid (J1.out.on b2)
  have J3 : Hid (JArg w w2.drew m V n c yss V' n' c' zss) := Lib.hid (J2.out.drewN 1)
  clear q0 q1 q2 q3 q4 ck cl J1 b2
  go_wp2
  refine wp_region_held_drew (S := (fun w' => w'.cell? ⟨w.heap.size, 0, none⟩ = some (.int .i64 m.C) ∧ w'.cell? ⟨w.heap.size, 1, none⟩ = some (.int .i64 m.D) ∧ w'.cell? ⟨w.heap.size, 2, none⟩ = some (.int .i64 m.S) ∧ w'.cell? ⟨w.heap.size, 3, none⟩ = some (.int .i64 m.M) ∧ w'.cell? ⟨w.heap.size, 4, none⟩ = some (.int .i64 m.L) ∧ w'.cell? ⟨w.heap.size + 1, 0, none⟩ = some (.slice V n c) ∧ w'.cell? ⟨w.heap.size + 1 + 1, 0, none⟩ = some (.slice V' n' c'))) (by kernel_rfl) J3.out.cells (fun hHeld => ?_)
  refine held_take (i := 0) (oi := _) (v := ?_) (some 22) rfl rfl (by kernel_rfl) (by kernel_rfl) (by kernel_rfl) (fun _ _ _ h => h) (Or.inl ⟨by rfl, ?_⟩) (by assumption) ?_
  rotate_left
  · intro w' hSw
    obtain ⟨r0, r1, r2, r3, r4, r5, r6⟩ := hSw
    go_simp
    try with_reducible rfl
  try simp only [Act.put, List.setIfInBounds_toArray, List.set_cons_zero, List.set_cons_succ]
  refine held_take (i := 1) (oi := _) (v := ?_) (some 23) rfl rfl (by kernel_rfl) (by kernel_rfl) (by kernel_rfl) (fun _ _ _ h => h) (Or.inl ⟨by rfl, ?_⟩) (by assumption) ?_
  rotate_left
  · intro w' hSw
    obtain ⟨r0, r1, r2, r3, r4, r5, r6⟩ := hSw
    go_simp
    try with_reducible rfl
  try simp only [Act.put, List.setIfInBounds_toArray, List.set_cons_zero, List.set_cons_succ]
  refine held_take (i := 3) (oi := _) (v := ?_) (some 25) rfl rfl (by kernel_rfl) (by kernel_rfl) (by kernel_rfl) (fun _ _ _ h => h) (Or.inl ⟨by rfl, ?_⟩) (by assumption) ?_
  rotate_left
  · intro w' hSw
    obtain ⟨r0, r1, r2, r3, r4, r5, r6⟩ := hSw
    go_simp
    try with_reducible rfl
  try simp only [Act.put, List.setIfInBounds_toArray, List.set_cons_zero, List.set_cons_succ]
  refine held_take (i := 4) (oi := _) (v := ?_) (some 26) rfl rfl (by kernel_rfl) (by kernel_rfl) (by kernel_rfl) (fun _ _ _ h => h) (Or.inl ⟨by rfl, ?_⟩) (by assumption) ?_
  rotate_left
  · intro w' hSw
    obtain ⟨r0, r1, r2, r3, r4, r5, r6⟩ := hSw
    go_simp
    try with_reducible rfl
  try simp only [Act.put, List.setIfInBounds_toArray, List.set_cons_zero, List.set_cons_succ]
  refine with_node (fun G hG => ?_)
  clear hHeld J2
  have nF : ∀ (W : World) (g q : Nat), JArg w W m V n c yss V' n' c' zss → BitBox W g 106 m vs → BitBox W q 106 m us → g ≠ q → w.heap.size + 3 < g → w.heap.size + 3 < q → G 0 #[true, true, true, true, true, true, true, true, true, true] { tmps := #[.agg #[.int .i64 m.C, .int .i64 m.D, .int .i64 m.S, .int .i64 m.M, .int .i64 m.L], .agg #[.slice V n c], .agg #[.slice V' n' c'], .pointer (some ⟨w.heap.size, 0, none⟩), .pointer (some ⟨w.heap.size + 1, 0, none⟩), .pointer (some ⟨w.heap.size + 1 + 1, 0, none⟩), .pointer (some ⟨w.heap.size + 1 + 1 + 1, 0, none⟩), .int .i64 0, .pointer (some ⟨g, 0, none⟩), .pointer (some ⟨q, 0, none⟩), undef, .agg #[.int .i64 m.C, .int .i64 m.D, .int .i64 m.S, .int .i64 m.M, .int .i64 m.L], .agg #[.slice V n c], .bool true, .bool false, .bool false, .agg #[.int .i64 m.C, .int .i64 m.D, .int .i64 m.S, .int .i64 m.M, .int .i64 m.L], .agg #[.slice V' n' c'], .bool true, .bool false, .bool false, undef, .agg #[.slice V n c], .agg #[.int .i64 m.C, .int .i64 m.D, .int .i64 m.S, .int .i64 m.M, .int .i64 m.L], .agg #[.int .i64 m.C, .int .i64 m.D, .int .i64 m.S, .int .i64 m.M, .int .i64 m.L, .int .u8 (vs 0 : Nat), .int .u8 (vs 1 : Nat), .int .u8 (vs 2 : Nat), .int .u8 (vs 3 : Nat), .int .u8 (vs 4 : Nat), .int .u8 (vs 5 : Nat)], .agg #[.slice V' n' c'], .agg #[.int .i64 m.C, .int .i64 m.D, .int .i64 m.S, .int .i64 m.M, .int .i64 m.L], .agg #[.int .i64 m.C, .int .i64 m.D, .int .i64 m.S, .int .i64 m.M, .int .i64 m.L, .int .u8 (us 0 : Nat), .int .u8 (us 1 : Nat), .int .u8 (us 2 : Nat), .int .u8 (us 3 : Nat), .int .u8 (us 4 : Nat), .int .u8 (us 5 : Nat)], undef, undef, undef, undef, undef, undef, undef, undef, undef, undef, undef, undef, undef, undef, undef, undef, undef, undef, undef], defers := [] } W := by
    intro W g q J hg hq hne hlg hlq
    rw [hG]
    clear hG G J3
    refine wpAnyH_done (by kernel_rfl) ?_ _
    have HJ := Lib.hid J
    have HG := Lib.hid hg
    have HQ := Lib.hid hq
    obtain ⟨q0, q1, q2, q3, q4, ck, cl⟩ := J.cells
    clear J hg hq ck cl
    go_wp2
    clear q0 q1 q2 q3 q4
    go_loopw [30] (fun x wr => ∃ (i : Nat) (ts : Nat → Nat), x = .int .i64 i ∧ (i : Int) ≤ m.C ∧ Hid (JArg w wr m V n c yss V' n' c' zss) ∧ Hid (BitBox wr g 106 m ts) ∧ Hid (BitBox wr q 106 m us) ∧ Hid (∀ j, ts j < 256) ∧ Hid (∀ j d, bitP ts j d = if j < i then joinP yss zss j d else setP yss j d)) (fun x _ => 9 - (intOf x).toNat)
    case atStart => exact ⟨0, vs, rfl, by omega, HJ, HG, HQ, HV, Lib.hid (fun j d => by rw [if_neg (by omega)]; exact HPV.out j d)⟩
    case round =>
      obtain ⟨i, ts, rfl, hi, hj, hg, hq, ht, hp⟩ := hrel
      clear HJ HG HQ
      by_cases hlt : (i : Int) < m.C
      · have i0 : (0 : Int) ≤ (i : Int) := by omega
        have i6 : (i : Int) < 6 := by omega
        have hs1 := hg.out.bit (show i < 6 by omega)
        have hs2 := hq.out.bit (show i < 6 by omega)
        have hf1 := hg.out.thawed (5 + i)
        have hor := u8_or2 (ht.out i) (HU.out i)
        have hlj := hj.out.o.lt
        have hneq : q ≠ g := Ne.symm hne
        go_wp2
        go_region
        all_goals
          have gb := grown_set (p := ⟨g, 5 + i, none⟩) (World.grownBy.refl (wr.drewN 1) (some g)) rfl (.int .u8 ((ts i ||| us i : Nat) : Int))
          have J2 := Lib.hid ((hj.out.drewN 1).under (B := w.heap.size + 3 + 1) (((Below.refl (w.heap.size + 3 + 1) (wr.drewN 1)).setCell (p := ⟨g, 5 + i, none⟩) (by show w.heap.size + 3 + 1 ≤ g; omega) (.int .u8 ((ts i ||| us i : Nat) : Int)))) (by omega))
          have G2 := Lib.hid ((hg.out.drewN 1).putV (show i < 6 by omega) (ts i ||| us i))
          have Q2 := Lib.hid ((hq.out.drewN 1).grown gb (fun e => hneq (by injection e)))
          have T2 := Lib.hid (bitSet_lt ht.out i (or_lt (ht.out i) (HU.out i)))
          have P2 : Hid (∀ j d, bitP (bitSet ts i (ts i ||| us i)) j d = if j < i + 1 then joinP yss zss j d else setP yss j d) := Lib.hid (fun j d => by
            unfold bitP bitSet
            by_cases hji : j = i
            · subst hji
              rw [if_pos rfl, if_pos (by omega), Nat.testBit_or]
              have h1 := hp.out j d
              rw [if_neg (by omega)] at h1
              have h2 := HPU.out j d
              unfold bitP at h1 h2
              rw [h1, h2]; rfl
            · rw [if_neg hji]
              have h1 := hp.out j d
              unfold bitP at h1
              rw [h1]
              by_cases h2 : j < i
              · rw [if_pos h2, if_pos (by omega)]
              · rw [if_neg h2, if_neg (by omega)])
          clear hs1 hs2 hf1 hor gb
          go_wp2
          go_roundw
          case rel => exact ⟨i + 1, _, by go_num, by omega, J2, G2, Q2, T2, P2⟩
          case measure => simp [intOf]; omega
      · have HP : Hid (lockOf m.C.toNat m.D.toNat (bitP ts) = lockOf m.C.toNat m.D.toNat (joinP yss zss)) := Lib.hid (lockOf_congr (fun j d hj' _ => by rw [hp.out j d, if_pos (by omega)]))
        obtain ⟨r0, r1, r2, r3, r4, r5, r6, r7, r8, r9, r10⟩ := hg.out.cells
        go_wp2_with fail
        refine (inLists_any m HM.out ts ht.out _).mono ?_
        rintro e w5 ⟨V2, n2, c2, gs, rfl, hrag, hc2, hcm2, b2⟩
        rw [HP.out] at hrag
        have J2 := Lib.hid (hj.out.on b2)
        have hlj := hj.out.o.lt
        have f2 := J2.out.o.thawed
        have g2 := J2.out.o.cell
        have HR := Lib.hid hrag
        clear r0 r1 r2 r3 r4 r5 r6 r7 r8 r9 r10 hrag b2
        go_wp2
        have r0 := (J2.out.o.put (.slice V2 n2 c2)).cell
        have R2 := HR.out.asetCell (p := ⟨w.heap.size + 1 + 1 + 1, 0, none⟩) (by show w.heap.size + 1 + 1 + 1 < _; omega) (.slice V2 n2 c2)
        refine bodyPost_ret (v := .tuple #[.agg #[.slice V2 n2 c2], .int .i64 0]) (by simp [results, Try.results40, go_sem, r0]) rfl ⟨V2, n2, c2, gs, rfl, R2.more (by omega), hc2, hcm2, J2.out.bel.setCell (by simp; omega) _⟩

  have nS : ∀ (W : World) (g q : Nat), JArg w W m V n c yss V' n' c' zss → BitBox W g 106 m vs → ZB w W q → g ≠ q → w.heap.size + 3 < g → G 1 #[true, true, true, true, true, true, true, true, true, false] { tmps := #[.agg #[.int .i64 m.C, .int .i64 m.D, .int .i64 m.S, .int .i64 m.M, .int .i64 m.L], .agg #[.slice V n c], .agg #[.slice V' n' c'], .pointer (some ⟨w.heap.size, 0, none⟩), .pointer (some ⟨w.heap.size + 1, 0, none⟩), .pointer (some ⟨w.heap.size + 1 + 1, 0, none⟩), .pointer (some ⟨w.heap.size + 1 + 1 + 1, 0, none⟩), .int .i64 0, .pointer (some ⟨g, 0, none⟩), .pointer (some ⟨q, 0, none⟩), undef, .agg #[.int .i64 m.C, .int .i64 m.D, .int .i64 m.S, .int .i64 m.M, .int .i64 m.L], .agg #[.slice V n c], .bool true, .bool false, .bool false, .agg #[.int .i64 m.C, .int .i64 m.D, .int .i64 m.S, .int .i64 m.M, .int .i64 m.L], .agg #[.slice V' n' c'], .bool true, .bool false, .bool false, undef, .agg #[.slice V n c], .agg #[.int .i64 m.C, .int .i64 m.D, .int .i64 m.S, .int .i64 m.M, .int .i64 m.L], .agg #[.int .i64 m.C, .int .i64 m.D, .int .i64 m.S, .int .i64 m.M, .int .i64 m.L, .int .u8 (vs 0 : Nat), .int .u8 (vs 1 : Nat), .int .u8 (vs 2 : Nat), .int .u8 (vs 3 : Nat), .int .u8 (vs 4 : Nat), .int .u8 (vs 5 : Nat)], .agg #[.slice V' n' c'], .agg #[.int .i64 m.C, .int .i64 m.D, .int .i64 m.S, .int .i64 m.M, .int .i64 m.L], .agg #[.int .i64 m.C, .int .i64 m.D, .int .i64 m.S, .int .i64 m.M, .int .i64 m.L, .int .u8 (us 0 : Nat), .int .u8 (us 1 : Nat), .int .u8 (us 2 : Nat), .int .u8 (us 3 : Nat), .int .u8 (us 4 : Nat), .int .u8 (us 5 : Nat)], undef, undef, undef, undef, undef, undef, undef, undef, undef, undef, undef, undef, undef, undef, undef, undef, undef, undef, undef], defers := [] } W := by
    intro W g q J hg hq hne hlg
    obtain ⟨f0, f1, f2, f3, f4, f5, f6, f7, f8, f9, f10⟩ := hq.1.thaws
    obtain ⟨d0, d1, d2, d3, d4, d5, d6, d7, d8, d9, d10⟩ := hq.1.cells
    have bq : Below (w.heap.size + 3 + 1) W (put11 W q m us) := below_put11 (Below.refl _ W) (by have := hq.2; omega) m us
    have JU := J.under (B := w.heap.size + 3 + 1) bq (by omega)
    have hx := nF (put11 W q m us) g q JU (box_off hg hne) hq.1.put11 hne hlg hq.2
    have JS := JU.cells
    rw [hG] at hx ⊢
    clear hG nF J3 J hg hq bq JU
    refine wpAnyH_ready (rs := [9]) (by kernel_rfl) (by simp) ?_
    refine AllReadyH.cons (o := _) rfl (fun K hK => ?_) AllReadyH.nil
    go_simp
    unfold put11 at hx JS
    exact hK.out _ _ JS (fun _ => hx)
  have n2tt : ∀ (W : World) (g q : Nat), JArg w W m V n c yss V' n' c' zss → ZB w W g → ZB w W q → g ≠ q → G 2 #[true, true, true, true, true, true, true, true, false, false] { tmps := #[.agg #[.int .i64 m.C, .int .i64 m.D, .int .i64 m.S, .int .i64 m.M, .int .i64 m.L], .agg #[.slice V n c], .agg #[.slice V' n' c'], .pointer (some ⟨w.heap.size, 0, none⟩), .pointer (some ⟨w.heap.size + 1, 0, none⟩), .pointer (some ⟨w.heap.size + 1 + 1, 0, none⟩), .pointer (some ⟨w.heap.size + 1 + 1 + 1, 0, none⟩), .int .i64 0, .pointer (some ⟨g, 0, none⟩), .pointer (some ⟨q, 0, none⟩), undef, .agg #[.int .i64 m.C, .int .i64 m.D, .int .i64 m.S, .int .i64 m.M, .int .i64 m.L], .agg #[.slice V n c], .bool true, .bool false, .bool false, .agg #[.int .i64 m.C, .int .i64 m.D, .int .i64 m.S, .int .i64 m.M, .int .i64 m.L], .agg #[.slice V' n' c'], .bool true, .bool false, .bool false, undef, .agg #[.slice V n c], .agg #[.int .i64 m.C, .int .i64 m.D, .int .i64 m.S, .int .i64 m.M, .int .i64 m.L], .agg #[.int .i64 m.C, .int .i64 m.D, .int .i64 m.S, .int .i64 m.M, .int .i64 m.L, .int .u8 (vs 0 : Nat), .int .u8 (vs 1 : Nat), .int .u8 (vs 2 : Nat), .int .u8 (vs 3 : Nat), .int .u8 (vs 4 : Nat), .int .u8 (vs 5 : Nat)], .agg #[.slice V' n' c'], .agg #[.int .i64 m.C, .int .i64 m.D, .int .i64 m.S, .int .i64 m.M, .int .i64 m.L], .agg #[.int .i64 m.C, .int .i64 m.D, .int .i64 m.S, .int .i64 m.M, .int .i64 m.L, .int .u8 (us 0 : Nat), .int .u8 (us 1 : Nat), .int .u8 (us 2 : Nat), .int .u8 (us 3 : Nat), .int .u8 (us 4 : Nat), .int .u8 (us 5 : Nat)], undef, undef, undef, undef, undef, undef, undef, undef, undef, undef, undef, undef, undef, undef, undef, undef, undef, undef, undef], defers := [] } W := by
    intro W g q J hg hq hne
    obtain ⟨f0, f1, f2, f3, f4, f5, f6, f7, f8, f9, f10⟩ := hg.1.thaws
    obtain ⟨d0, d1, d2, d3, d4, d5, d6, d7, d8, d9, d10⟩ := hg.1.cells
    have bq : Below (w.heap.size + 3 + 1) W (put11 W g m vs) := below_put11 (Below.refl _ W) (by have := hg.2; omega) m vs
    have JU := J.under (B := w.heap.size + 3 + 1) bq (by omega)
    have hx := nS (put11 W g m vs) g q JU hg.1.put11 ⟨box_off hq.1 (Ne.symm hne), hq.2⟩ hne hg.2
    have JS := JU.cells
    rw [hG] at hx ⊢
    clear hG nF nS J3 J hg hq bq JU
    refine wpAnyH_ready (rs := [8]) (by kernel_rfl) (by simp) ?_
    refine AllReadyH.cons (o := _) rfl (fun K hK => ?_) AllReadyH.nil
    go_simp
    unfold put11 at hx JS
    exact hK.out _ _ JS (fun _ => hx)
  have n2tf : ∀ (W : World) (g : Nat), JArg w W m V n c yss V' n' c' zss → ZB w W g → G 3 #[true, true, true, true, true, true, true, false, false, false] { tmps := #[.agg #[.int .i64 m.C, .int .i64 m.D, .int .i64 m.S, .int .i64 m.M, .int .i64 m.L], .agg #[.slice V n c], .agg #[.slice V' n' c'], .pointer (some ⟨w.heap.size, 0, none⟩), .pointer (some ⟨w.heap.size + 1, 0, none⟩), .pointer (some ⟨w.heap.size + 1 + 1, 0, none⟩), .pointer (some ⟨w.heap.size + 1 + 1 + 1, 0, none⟩), .int .i64 0, .pointer (some ⟨g, 0, none⟩), undef, undef, .agg #[.int .i64 m.C, .int .i64 m.D, .int .i64 m.S, .int .i64 m.M, .int .i64 m.L], .agg #[.slice V n c], .bool true, .bool false, .bool false, .agg #[.int .i64 m.C, .int .i64 m.D, .int .i64 m.S, .int .i64 m.M, .int .i64 m.L], .agg #[.slice V' n' c'], .bool true, .bool false, .bool false, undef, .agg #[.slice V n c], .agg #[.int .i64 m.C, .int .i64 m.D, .int .i64 m.S, .int .i64 m.M, .int .i64 m.L], .agg #[.int .i64 m.C, .int .i64 m.D, .int .i64 m.S, .int .i64 m.M, .int .i64 m.L, .int .u8 (vs 0 : Nat), .int .u8 (vs 1 : Nat), .int .u8 (vs 2 : Nat), .int .u8 (vs 3 : Nat), .int .u8 (vs 4 : Nat), .int .u8 (vs 5 : Nat)], .agg #[.slice V' n' c'], .agg #[.int .i64 m.C, .int .i64 m.D, .int .i64 m.S, .int .i64 m.M, .int .i64 m.L], .agg #[.int .i64 m.C, .int .i64 m.D, .int .i64 m.S, .int .i64 m.M, .int .i64 m.L, .int .u8 (us 0 : Nat), .int .u8 (us 1 : Nat), .int .u8 (us 2 : Nat), .int .u8 (us 3 : Nat), .int .u8 (us 4 : Nat), .int .u8 (us 5 : Nat)], undef, undef, undef, undef, undef, undef, undef, undef, undef, undef, undef, undef, undef, undef, undef, undef, undef, undef, undef], defers := [] } W := by
    intro W g J hg
    have hG2 := hG
    rw [hG]
    refine wpAnyH_ready (rs := [7]) (by kernel_rfl) (by simp) ?_
    refine AllReadyH.cons (o := _) rfl (fun K hK => ?_) ?_
    · go_simp
      refine hK.out _ _ (J.alloc _).cells (fun _ => ?_)
      have hx := n2tt (W.alloc (.cells #[.int .i64 0, .int .i64 0, .int .i64 0, .int .i64 0, .int .i64 0, .int .u8 0, .int .u8 0, .int .u8 0, .int .u8 0, .int .u8 0, .int .u8 0] 106)) g W.heap.size (J.alloc _) (hg.alloc _) (ZB.new J) (fun e => by have := hg.1.lt; omega)
      rw [hG2] at hx
      exact hx
    exact AllReadyH.nil
  have n2ft : ∀ (W : World) (q : Nat), JArg w W m V n c yss V' n' c' zss → ZB w W q → G 3 #[true, true, true, true, true, true, false, true, false, false] { tmps := #[.agg #[.int .i64 m.C, .int .i64 m.D, .int .i64 m.S, .int .i64 m.M, .int .i64 m.L], .agg #[.slice V n c], .agg #[.slice V' n' c'], .pointer (some ⟨w.heap.size, 0, none⟩), .pointer (some ⟨w.heap.size + 1, 0, none⟩), .pointer (some ⟨w.heap.size + 1 + 1, 0, none⟩), .pointer (some ⟨w.heap.size + 1 + 1 + 1, 0, none⟩), .int .i64 0, undef, .pointer (some ⟨q, 0, none⟩), undef, .agg #[.int .i64 m.C, .int .i64 m.D, .int .i64 m.S, .int .i64 m.M, .int .i64 m.L], .agg #[.slice V n c], .bool true, .bool false, .bool false, .agg #[.int .i64 m.C, .int .i64 m.D, .int .i64 m.S, .int .i64 m.M, .int .i64 m.L], .agg #[.slice V' n' c'], .bool true, .bool false, .bool false, undef, .agg #[.slice V n c], .agg #[.int .i64 m.C, .int .i64 m.D, .int .i64 m.S, .int .i64 m.M, .int .i64 m.L], .agg #[.int .i64 m.C, .int .i64 m.D, .int .i64 m.S, .int .i64 m.M, .int .i64 m.L, .int .u8 (vs 0 : Nat), .int .u8 (vs 1 : Nat), .int .u8 (vs 2 : Nat), .int .u8 (vs 3 : Nat), .int .u8 (vs 4 : Nat), .int .u8 (vs 5 : Nat)], .agg #[.slice V' n' c'], .agg #[.int .i64 m.C, .int .i64 m.D, .int .i64 m.S, .int .i64 m.M, .int .i64 m.L], .agg #[.int .i64 m.C, .int .i64 m.D, .int .i64 m.S, .int .i64 m.M, .int .i64 m.L, .int .u8 (us 0 : Nat), .int .u8 (us 1 : Nat), .int .u8 (us 2 : Nat), .int .u8 (us 3 : Nat), .int .u8 (us 4 : Nat), .int .u8 (us 5 : Nat)], undef, undef, undef, undef, undef, undef, undef, undef, undef, undef, undef, undef, undef, undef, undef, undef, undef, undef, undef], defers := [] } W := by
    intro W q J hq
    have hG2 := hG
    rw [hG]
    refine wpAnyH_ready (rs := [6]) (by kernel_rfl) (by simp) ?_
    refine AllReadyH.cons (o := _) rfl (fun K hK => ?_) ?_
    · go_simp
      refine hK.out _ _ (J.alloc _).cells (fun _ => ?_)
      have hx := n2tt (W.alloc (.cells #[.int .i64 0, .int .i64 0, .int .i64 0, .int .i64 0, .int .i64 0, .int .u8 0, .int .u8 0, .int .u8 0, .int .u8 0, .int .u8 0, .int .u8 0] 106)) W.heap.size q (J.alloc _) (ZB.new J) (hq.alloc _) (fun e => by have := hq.1.lt; omega)
      rw [hG2] at hx
      exact hx
    exact AllReadyH.nil
  have n1tt : ∀ (W : World) (g : Nat) (q : Nat), JArg w W m V n c yss V' n' c' zss → ZB w W g → ZB w W q → g ≠ q → G 3 #[true, true, true, true, true, false, true, true, false, false] { tmps := #[.agg #[.int .i64 m.C, .int .i64 m.D, .int .i64 m.S, .int .i64 m.M, .int .i64 m.L], .agg #[.slice V n c], .agg #[.slice V' n' c'], .pointer (some ⟨w.heap.size, 0, none⟩), .pointer (some ⟨w.heap.size + 1, 0, none⟩), .pointer (some ⟨w.heap.size + 1 + 1, 0, none⟩), .pointer (some ⟨w.heap.size + 1 + 1 + 1, 0, none⟩), .int .i64 0, .pointer (some ⟨g, 0, none⟩), .pointer (some ⟨q, 0, none⟩), undef, .agg #[.int .i64 m.C, .int .i64 m.D, .int .i64 m.S, .int .i64 m.M, .int .i64 m.L], .agg #[.slice V n c], .bool true, .bool false, .bool false, .agg #[.int .i64 m.C, .int .i64 m.D, .int .i64 m.S, .int .i64 m.M, .int .i64 m.L], .agg #[.slice V' n' c'], .bool true, .bool false, .bool false, undef, .agg #[.slice V n c], .agg #[.int .i64 m.C, .int .i64 m.D, .int .i64 m.S, .int .i64 m.M, .int .i64 m.L], .agg #[.int .i64 m.C, .int .i64 m.D, .int .i64 m.S, .int .i64 m.M, .int .i64 m.L, .int .u8 (vs 0 : Nat), .int .u8 (vs 1 : Nat), .int .u8 (vs 2 : Nat), .int .u8 (vs 3 : Nat), .int .u8 (vs 4 : Nat), .int .u8 (vs 5 : Nat)], .agg #[.slice V' n' c'], .agg #[.int .i64 m.C, .int .i64 m.D, .int .i64 m.S, .int .i64 m.M, .int .i64 m.L], undef, undef, undef, undef, undef, undef, undef, undef, undef, undef, undef, undef, undef, undef, undef, undef, undef, undef, undef, undef], defers := [] } W := by
    intro W g q J hg hq hne
    have hG2 := hG
    rw [hG]
    refine wpAnyH_ready (rs := [5]) (by kernel_rfl) (by simp) ?_
    refine AllReadyH.cons (o := _) rfl (fun K hK => ?_) ?_
    · go_simp
      refine (inBits_any m V' n' c' zss _ J.sbw hL' us hus).mono ?_
      rintro e W1 ⟨rfl, b⟩
      refine hK.out _ _ (J.on b).cells (fun _ => ?_)
      have hx := n2tt W1 g q (J.on b) (hg.on b) (hq.on b) hne
      rw [hG2] at hx
      exact hx
    exact AllReadyH.nil
  have n2ff : ∀ (W : World), JArg w W m V n c yss V' n' c' zss → G 4 #[true, true, true, true, true, true, false, false, false, false] { tmps := #[.agg #[.int .i64 m.C, .int .i64 m.D, .int .i64 m.S, .int .i64 m.M, .int .i64 m.L], .agg #[.slice V n c], .agg #[.slice V' n' c'], .pointer (some ⟨w.heap.size, 0, none⟩), .pointer (some ⟨w.heap.size + 1, 0, none⟩), .pointer (some ⟨w.heap.size + 1 + 1, 0, none⟩), .pointer (some ⟨w.heap.size + 1 + 1 + 1, 0, none⟩), .int .i64 0, undef, undef, undef, .agg #[.int .i64 m.C, .int .i64 m.D, .int .i64 m.S, .int .i64 m.M, .int .i64 m.L], .agg #[.slice V n c], .bool true, .bool false, .bool false, .agg #[.int .i64 m.C, .int .i64 m.D, .int .i64 m.S, .int .i64 m.M, .int .i64 m.L], .agg #[.slice V' n' c'], .bool true, .bool false, .bool false, undef, .agg #[.slice V n c], .agg #[.int .i64 m.C, .int .i64 m.D, .int .i64 m.S, .int .i64 m.M, .int .i64 m.L], .agg #[.int .i64 m.C, .int .i64 m.D, .int .i64 m.S, .int .i64 m.M, .int .i64 m.L, .int .u8 (vs 0 : Nat), .int .u8 (vs 1 : Nat), .int .u8 (vs 2 : Nat), .int .u8 (vs 3 : Nat), .int .u8 (vs 4 : Nat), .int .u8 (vs 5 : Nat)], .agg #[.slice V' n' c'], .agg #[.int .i64 m.C, .int .i64 m.D, .int .i64 m.S, .int .i64 m.M, .int .i64 m.L], .agg #[.int .i64 m.C, .int .i64 m.D, .int .i64 m.S, .int .i64 m.M, .int .i64 m.L, .int .u8 (us 0 : Nat), .int .u8 (us 1 : Nat), .int .u8 (us 2 : Nat), .int .u8 (us 3 : Nat), .int .u8 (us 4 : Nat), .int .u8 (us 5 : Nat)], undef, undef, undef, undef, undef, undef, undef, undef, undef, undef, undef, undef, undef, undef, undef, undef, undef, undef, undef], defers := [] } W := by
    intro W J
    have hG2 := hG
    rw [hG]
    refine wpAnyH_ready (rs := [6, 7]) (by kernel_rfl) (by simp) ?_
    refine AllReadyH.cons (o := _) rfl (fun K hK => ?_) ?_
    · go_simp
      refine hK.out _ _ (J.alloc _).cells (fun _ => ?_)
      have hx := n2tf (W.alloc (.cells #[.int .i64 0, .int .i64 0, .int .i64 0, .int .i64 0, .int .i64 0, .int .u8 0, .int .u8 0, .int .u8 0, .int .u8 0, .int .u8 0, .int .u8 0] 106)) W.heap.size (J.alloc _) (ZB.new J)
      rw [hG2] at hx
      exact hx
    refine AllReadyH.cons (o := _) rfl (fun K hK => ?_) ?_
    · go_simp
      refine hK.out _ _ (J.alloc _).cells (fun _ => ?_)
      have hx := n2ft (W.alloc (.cells #[.int .i64 0, .int .i64 0, .int .i64 0, .int .i64 0, .int .i64 0, .int .u8 0, .int .u8 0, .int .u8 0, .int .u8 0, .int .u8 0, .int .u8 0] 106)) W.heap.size (J.alloc _) (ZB.new J)
      rw [hG2] at hx
      exact hx
    exact AllReadyH.nil
  have n1tf : ∀ (W : World) (g : Nat), JArg w W m V n c yss V' n' c' zss → ZB w W g → G 4 #[true, true, true, true, true, false, true, false, false, false] { tmps := #[.agg #[.int .i64 m.C, .int .i64 m.D, .int .i64 m.S, .int .i64 m.M, .int .i64 m.L], .agg #[.slice V n c], .agg #[.slice V' n' c'], .pointer (some ⟨w.heap.size, 0, none⟩), .pointer (some ⟨w.heap.size + 1, 0, none⟩), .pointer (some ⟨w.heap.size + 1 + 1, 0, none⟩), .pointer (some ⟨w.heap.size + 1 + 1 + 1, 0, none⟩), .int .i64 0, .pointer (some ⟨g, 0, none⟩), undef, undef, .agg #[.int .i64 m.C, .int .i64 m.D, .int .i64 m.S, .int .i64 m.M, .int .i64 m.L], .agg #[.slice V n c], .bool true, .bool false, .bool false, .agg #[.int .i64 m.C, .int .i64 m.D, .int .i64 m.S, .int .i64 m.M, .int .i64 m.L], .agg #[.slice V' n' c'], .bool true, .bool false, .bool false, undef, .agg #[.slice V n c], .agg #[.int .i64 m.C, .int .i64 m.D, .int .i64 m.S, .int .i64 m.M, .int .i64 m.L], .agg #[.int .i64 m.C, .int .i64 m.D, .int .i64 m.S, .int .i64 m.M, .int .i64 m.L, .int .u8 (vs 0 : Nat), .int .u8 (vs 1 : Nat), .int .u8 (vs 2 : Nat), .int .u8 (vs 3 : Nat), .int .u8 (vs 4 : Nat), .int .u8 (vs 5 : Nat)], .agg #[.slice V' n' c'], .agg #[.int .i64 m.C, .int .i64 m.D, .int .i64 m.S, .int .i64 m.M, .int .i64 m.L], undef, undef, undef, undef, undef, undef, undef, undef, undef, undef, undef, undef, undef, undef, undef, undef, undef, undef, undef, undef], defers := [] } W := by
    intro W g J hg
    have hG2 := hG
    rw [hG]
    refine wpAnyH_ready (rs := [5, 7]) (by kernel_rfl) (by simp) ?_
    refine AllReadyH.cons (o := _) rfl (fun K hK => ?_) ?_
    · go_simp
      refine (inBits_any m V' n' c' zss _ J.sbw hL' us hus).mono ?_
      rintro e W1 ⟨rfl, b⟩
      refine hK.out _ _ (J.on b).cells (fun _ => ?_)
      have hx := n2tf W1 g (J.on b) (hg.on b)
      rw [hG2] at hx
      exact hx
    refine AllReadyH.cons (o := _) rfl (fun K hK => ?_) ?_
    · go_simp
      refine hK.out _ _ (J.alloc _).cells (fun _ => ?_)
      have hx := n1tt (W.alloc (.cells #[.int .i64 0, .int .i64 0, .int .i64 0, .int .i64 0, .int .i64 0, .int .u8 0, .int .u8 0, .int .u8 0, .int .u8 0, .int .u8 0, .int .u8 0] 106)) g W.heap.size (J.alloc _) (hg.alloc _) (ZB.new J) (fun e => by have := hg.1.lt; omega)
      rw [hG2] at hx
      exact hx
    exact AllReadyH.nil
  have n1ft : ∀ (W : World) (q : Nat), JArg w W m V n c yss V' n' c' zss → ZB w W q → G 4 #[true, true, true, true, true, false, false, true, false, false] { tmps := #[.agg #[.int .i64 m.C, .int .i64 m.D, .int .i64 m.S, .int .i64 m.M, .int .i64 m.L], .agg #[.slice V n c], .agg #[.slice V' n' c'], .pointer (some ⟨w.heap.size, 0, none⟩), .pointer (some ⟨w.heap.size + 1, 0, none⟩), .pointer (some ⟨w.heap.size + 1 + 1, 0, none⟩), .pointer (some ⟨w.heap.size + 1 + 1 + 1, 0, none⟩), .int .i64 0, undef, .pointer (some ⟨q, 0, none⟩), undef, .agg #[.int .i64 m.C, .int .i64 m.D, .int .i64 m.S, .int .i64 m.M, .int .i64 m.L], .agg #[.slice V n c], .bool true, .bool false, .bool false, .agg #[.int .i64 m.C, .int .i64 m.D, .int .i64 m.S, .int .i64 m.M, .int .i64 m.L], .agg #[.slice V' n' c'], .bool true, .bool false, .bool false, undef, .agg #[.slice V n c], .agg #[.int .i64 m.C, .int .i64 m.D, .int .i64 m.S, .int .i64 m.M, .int .i64 m.L], .agg #[.int .i64 m.C, .int .i64 m.D, .int .i64 m.S, .int .i64 m.M, .int .i64 m.L, .int .u8 (vs 0 : Nat), .int .u8 (vs 1 : Nat), .int .u8 (vs 2 : Nat), .int .u8 (vs 3 : Nat), .int .u8 (vs 4 : Nat), .int .u8 (vs 5 : Nat)], .agg #[.slice V' n' c'], .agg #[.int .i64 m.C, .int .i64 m.D, .int .i64 m.S, .int .i64 m.M, .int .i64 m.L], undef, undef, undef, undef, undef, undef, undef, undef, undef, undef, undef, undef, undef, undef, undef, undef, undef, undef, undef, undef], defers := [] } W := by
    intro W q J hq
    have hG2 := hG
    rw [hG]
    refine wpAnyH_ready (rs := [5, 6]) (by kernel_rfl) (by simp) ?_
    refine AllReadyH.cons (o := _) rfl (fun K hK => ?_) ?_
    · go_simp
      refine (inBits_any m V' n' c' zss _ J.sbw hL' us hus).mono ?_
      rintro e W1 ⟨rfl, b⟩
      refine hK.out _ _ (J.on b).cells (fun _ => ?_)
      have hx := n2ft W1 q (J.on b) (hq.on b)
      rw [hG2] at hx
      exact hx
    refine AllReadyH.cons (o := _) rfl (fun K hK => ?_) ?_
    · go_simp
      refine hK.out _ _ (J.alloc _).cells (fun _ => ?_)
      have hx := n1tt (W.alloc (.cells #[.int .i64 0, .int .i64 0, .int .i64 0, .int .i64 0, .int .i64 0, .int .u8 0, .int .u8 0, .int .u8 0, .int .u8 0, .int .u8 0, .int .u8 0] 106)) W.heap.size q (J.alloc _) (ZB.new J) (hq.alloc _) (fun e => by have := hq.1.lt; omega)
      rw [hG2] at hx
      exact hx
    exact AllReadyH.nil
  have n0tt : ∀ (W : World) (g : Nat) (q : Nat), JArg w W m V n c yss V' n' c' zss → ZB w W g → ZB w W q → g ≠ q → G 4 #[true, true, false, true, true, false, true, true, false, false] { tmps := #[.agg #[.int .i64 m.C, .int .i64 m.D, .int .i64 m.S, .int .i64 m.M, .int .i64 m.L], .agg #[.slice V n c], .agg #[.slice V' n' c'], .pointer (some ⟨w.heap.size, 0, none⟩), .pointer (some ⟨w.heap.size + 1, 0, none⟩), .pointer (some ⟨w.heap.size + 1 + 1, 0, none⟩), .pointer (some ⟨w.heap.size + 1 + 1 + 1, 0, none⟩), .int .i64 0, .pointer (some ⟨g, 0, none⟩), .pointer (some ⟨q, 0, none⟩), undef, .agg #[.int .i64 m.C, .int .i64 m.D, .int .i64 m.S, .int .i64 m.M, .int .i64 m.L], .agg #[.slice V n c], .bool true, .bool false, .bool false, .agg #[.int .i64 m.C, .int .i64 m.D, .int .i64 m.S, .int .i64 m.M, .int .i64 m.L], .agg #[.slice V' n' c'], .bool true, .bool false, .bool false, undef, .agg #[.slice V n c], .agg #[.int .i64 m.C, .int .i64 m.D, .int .i64 m.S, .int .i64 m.M, .int .i64 m.L], undef, .agg #[.slice V' n' c'], .agg #[.int .i64 m.C, .int .i64 m.D, .int .i64 m.S, .int .i64 m.M, .int .i64 m.L], undef, undef, undef, undef, undef, undef, undef, undef, undef, undef, undef, undef, undef, undef, undef, undef, undef, undef, undef, undef], defers := [] } W := by
    intro W g q J hg hq hne
    have hG2 := hG
    rw [hG]
    refine wpAnyH_ready (rs := [2]) (by kernel_rfl) (by simp) ?_
    refine AllReadyH.cons (o := _) rfl (fun K hK => ?_) ?_
    · go_simp
      refine (inBits_any m V n c yss _ J.saw hL vs hvs).mono ?_
      rintro e W1 ⟨rfl, b⟩
      refine hK.out _ _ (J.on b).cells (fun _ => ?_)
      have hx := n1tt W1 g q (J.on b) (hg.on b) (hq.on b) hne
      rw [hG2] at hx
      exact hx
    exact AllReadyH.nil
  have n1ff : ∀ (W : World), JArg w W m V n c yss V' n' c' zss → G 5 #[true, true, true, true, true, false, false, false, false, false] { tmps := #[.agg #[.int .i64 m.C, .int .i64 m.D, .int .i64 m.S, .int .i64 m.M, .int .i64 m.L], .agg #[.slice V n c], .agg #[.slice V' n' c'], .pointer (some ⟨w.heap.size, 0, none⟩), .pointer (some ⟨w.heap.size + 1, 0, none⟩), .pointer (some ⟨w.heap.size + 1 + 1, 0, none⟩), .pointer (some ⟨w.heap.size + 1 + 1 + 1, 0, none⟩), .int .i64 0, undef, undef, undef, .agg #[.int .i64 m.C, .int .i64 m.D, .int .i64 m.S, .int .i64 m.M, .int .i64 m.L], .agg #[.slice V n c], .bool true, .bool false, .bool false, .agg #[.int .i64 m.C, .int .i64 m.D, .int .i64 m.S, .int .i64 m.M, .int .i64 m.L], .agg #[.slice V' n' c'], .bool true, .bool false, .bool false, undef, .agg #[.slice V n c], .agg #[.int .i64 m.C, .int .i64 m.D, .int .i64 m.S, .int .i64 m.M, .int .i64 m.L], .agg #[.int .i64 m.C, .int .i64 m.D, .int .i64 m.S, .int .i64 m.M, .int .i64 m.L, .int .u8 (vs 0 : Nat), .int .u8 (vs 1 : Nat), .int .u8 (vs 2 : Nat), .int .u8 (vs 3 : Nat), .int .u8 (vs 4 : Nat), .int .u8 (vs 5 : Nat)], .agg #[.slice V' n' c'], .agg #[.int .i64 m.C, .int .i64 m.D, .int .i64 m.S, .int .i64 m.M, .int .i64 m.L], undef, undef, undef, undef, undef, undef, undef, undef, undef, undef, undef, undef, undef, undef, undef, undef, undef, undef, undef, undef], defers := [] } W := by
    intro W J
    have hG2 := hG
    rw [hG]
    refine wpAnyH_ready (rs := [5, 6, 7]) (by kernel_rfl) (by simp) ?_
    refine AllReadyH.cons (o := _) rfl (fun K hK => ?_) ?_
    · go_simp
      refine (inBits_any m V' n' c' zss _ J.sbw hL' us hus).mono ?_
      rintro e W1 ⟨rfl, b⟩
      refine hK.out _ _ (J.on b).cells (fun _ => ?_)
      have hx := n2ff W1 (J.on b)
      rw [hG2] at hx
      exact hx
    refine AllReadyH.cons (o := _) rfl (fun K hK => ?_) ?_
    · go_simp
      refine hK.out _ _ (J.alloc _).cells (fun _ => ?_)
      have hx := n1tf (W.alloc (.cells #[.int .i64 0, .int .i64 0, .int .i64 0, .int .i64 0, .int .i64 0, .int .u8 0, .int .u8 0, .int .u8 0, .int .u8 0, .int .u8 0, .int .u8 0] 106)) W.heap.size (J.alloc _) (ZB.new J)
      rw [hG2] at hx
      exact hx
    refine AllReadyH.cons (o := _) rfl (fun K hK => ?_) ?_
    · go_simp
      refine hK.out _ _ (J.alloc _).cells (fun _ => ?_)
      have hx := n1ft (W.alloc (.cells #[.int .i64 0, .int .i64 0, .int .i64 0, .int .i64 0, .int .i64 0, .int .u8 0, .int .u8 0, .int .u8 0, .int .u8 0, .int .u8 0, .int .u8 0] 106)) W.heap.size (J.alloc _) (ZB.new J)
      rw [hG2] at hx
      exact hx
    exact AllReadyH.nil
  have n0tf : ∀ (W : World) (g : Nat), JArg w W m V n c yss V' n' c' zss → ZB w W g → G 5 #[true, true, false, true, true, false, true, false, false, false] { tmps := #[.agg #[.int .i64 m.C, .int .i64 m.D, .int .i64 m.S, .int .i64 m.M, .int .i64 m.L], .agg #[.slice V n c], .agg #[.slice V' n' c'], .pointer (some ⟨w.heap.size, 0, none⟩), .pointer (some ⟨w.heap.size + 1, 0, none⟩), .pointer (some ⟨w.heap.size + 1 + 1, 0, none⟩), .pointer (some ⟨w.heap.size + 1 + 1 + 1, 0, none⟩), .int .i64 0, .pointer (some ⟨g, 0, none⟩), undef, undef, .agg #[.int .i64 m.C, .int .i64 m.D, .int .i64 m.S, .int .i64 m.M, .int .i64 m.L], .agg #[.slice V n c], .bool true, .bool false, .bool false, .agg #[.int .i64 m.C, .int .i64 m.D, .int .i64 m.S, .int .i64 m.M, .int .i64 m.L], .agg #[.slice V' n' c'], .bool true, .bool false, .bool false, undef, .agg #[.slice V n c], .agg #[.int .i64 m.C, .int .i64 m.D, .int .i64 m.S, .int .i64 m.M, .int .i64 m.L], undef, .agg #[.slice V' n' c'], .agg #[.int .i64 m.C, .int .i64 m.D, .int .i64 m.S, .int .i64 m.M, .int .i64 m.L], undef, undef, undef, undef, undef, undef, undef, undef, undef, undef, undef, undef, undef, undef, undef, undef, undef, undef, undef, undef], defers := [] } W := by
    intro W g J hg
    have hG2 := hG
    rw [hG]
    refine wpAnyH_ready (rs := [2, 7]) (by kernel_rfl) (by simp) ?_
    refine AllReadyH.cons (o := _) rfl (fun K hK => ?_) ?_
    · go_simp
      refine (inBits_any m V n c yss _ J.saw hL vs hvs).mono ?_
      rintro e W1 ⟨rfl, b⟩
      refine hK.out _ _ (J.on b).cells (fun _ => ?_)
      have hx := n1tf W1 g (J.on b) (hg.on b)
      rw [hG2] at hx
      exact hx
    refine AllReadyH.cons (o := _) rfl (fun K hK => ?_) ?_
    · go_simp
      refine hK.out _ _ (J.alloc _).cells (fun _ => ?_)
      have hx := n0tt (W.alloc (.cells #[.int .i64 0, .int .i64 0, .int .i64 0, .int .i64 0, .int .i64 0, .int .u8 0, .int .u8 0, .int .u8 0, .int .u8 0, .int .u8 0, .int .u8 0] 106)) g W.heap.size (J.alloc _) (hg.alloc _) (ZB.new J) (fun e => by have := hg.1.lt; omega)
      rw [hG2] at hx
      exact hx
    exact AllReadyH.nil
  have n0ft : ∀ (W : World) (q : Nat), JArg w W m V n c yss V' n' c' zss → ZB w W q → G 5 #[true, true, false, true, true, false, false, true, false, false] { tmps := #[.agg #[.int .i64 m.C, .int .i64 m.D, .int .i64 m.S, .int .i64 m.M, .int .i64 m.L], .agg #[.slice V n c], .agg #[.slice V' n' c'], .pointer (some ⟨w.heap.size, 0, none⟩), .pointer (some ⟨w.heap.size + 1, 0, none⟩), .pointer (some ⟨w.heap.size + 1 + 1, 0, none⟩), .pointer (some ⟨w.heap.size + 1 + 1 + 1, 0, none⟩), .int .i64 0, undef, .pointer (some ⟨q, 0, none⟩), undef, .agg #[.int .i64 m.C, .int .i64 m.D, .int .i64 m.S, .int .i64 m.M, .int .i64 m.L], .agg #[.slice V n c], .bool true, .bool false, .bool false, .agg #[.int .i64 m.C, .int .i64 m.D, .int .i64 m.S, .int .i64 m.M, .int .i64 m.L], .agg #[.slice V' n' c'], .bool true, .bool false, .bool false, undef, .agg #[.slice V n c], .agg #[.int .i64 m.C, .int .i64 m.D, .int .i64 m.S, .int .i64 m.M, .int .i64 m.L], undef, .agg #[.slice V' n' c'], .agg #[.int .i64 m.C, .int .i64 m.D, .int .i64 m.S, .int .i64 m.M, .int .i64 m.L], undef, undef, undef, undef, undef, undef, undef, undef, undef, undef, undef, undef, undef, undef, undef, undef, undef, undef, undef, undef], defers := [] } W := by
    intro W q J hq
    have hG2 := hG
    rw [hG]
    refine wpAnyH_ready (rs := [2, 6]) (by kernel_rfl) (by simp) ?_
    refine AllReadyH.cons (o := _) rfl (fun K hK => ?_) ?_
    · go_simp
      refine (inBits_any m V n c yss _ J.saw hL vs hvs).mono ?_
      rintro e W1 ⟨rfl, b⟩
      refine hK.out _ _ (J.on b).cells (fun _ => ?_)
      have hx := n1ft W1 q (J.on b) (hq.on b)
      rw [hG2] at hx
      exact hx
    refine AllReadyH.cons (o := _) rfl (fun K hK => ?_) ?_
    · go_simp
      refine hK.out _ _ (J.alloc _).cells (fun _ => ?_)
      have hx := n0tt (W.alloc (.cells #[.int .i64 0, .int .i64 0, .int .i64 0, .int .i64 0, .int .i64 0, .int .u8 0, .int .u8 0, .int .u8 0, .int .u8 0, .int .u8 0, .int .u8 0] 106)) W.heap.size q (J.alloc _) (ZB.new J) (hq.alloc _) (fun e => by have := hq.1.lt; omega)
      rw [hG2] at hx
      exact hx
    exact AllReadyH.nil
  have n0ff : ∀ (W : World), JArg w W m V n c yss V' n' c' zss → G 6 #[true, true, false, true, true, false, false, false, false, false] { tmps := #[.agg #[.int .i64 m.C, .int .i64 m.D, .int .i64 m.S, .int .i64 m.M, .int .i64 m.L], .agg #[.slice V n c], .agg #[.slice V' n' c'], .pointer (some ⟨w.heap.size, 0, none⟩), .pointer (some ⟨w.heap.size + 1, 0, none⟩), .pointer (some ⟨w.heap.size + 1 + 1, 0, none⟩), .pointer (some ⟨w.heap.size + 1 + 1 + 1, 0, none⟩), .int .i64 0, undef, undef, undef, .agg #[.int .i64 m.C, .int .i64 m.D, .int .i64 m.S, .int .i64 m.M, .int .i64 m.L], .agg #[.slice V n c], .bool true, .bool false, .bool false, .agg #[.int .i64 m.C, .int .i64 m.D, .int .i64 m.S, .int .i64 m.M, .int .i64 m.L], .agg #[.slice V' n' c'], .bool true, .bool false, .bool false, undef, .agg #[.slice V n c], .agg #[.int .i64 m.C, .int .i64 m.D, .int .i64 m.S, .int .i64 m.M, .int .i64 m.L], undef, .agg #[.slice V' n' c'], .agg #[.int .i64 m.C, .int .i64 m.D, .int .i64 m.S, .int .i64 m.M, .int .i64 m.L], undef, undef, undef, undef, undef, undef, undef, undef, undef, undef, undef, undef, undef, undef, undef, undef, undef, undef, undef, undef], defers := [] } W := by
    intro W J
    have hG2 := hG
    rw [hG]
    refine wpAnyH_ready (rs := [2, 6, 7]) (by kernel_rfl) (by simp) ?_
    refine AllReadyH.cons (o := _) rfl (fun K hK => ?_) ?_
    · go_simp
      refine (inBits_any m V n c yss _ J.saw hL vs hvs).mono ?_
      rintro e W1 ⟨rfl, b⟩
      refine hK.out _ _ (J.on b).cells (fun _ => ?_)
      have hx := n1ff W1 (J.on b)
      rw [hG2] at hx
      exact hx
    refine AllReadyH.cons (o := _) rfl (fun K hK => ?_) ?_
    · go_simp
      refine hK.out _ _ (J.alloc _).cells (fun _ => ?_)
      have hx := n0tf (W.alloc (.cells #[.int .i64 0, .int .i64 0, .int .i64 0, .int .i64 0, .int .i64 0, .int .u8 0, .int .u8 0, .int .u8 0, .int .u8 0, .int .u8 0, .int .u8 0] 106)) W.heap.size (J.alloc _) (ZB.new J)
      rw [hG2] at hx
      exact hx
    refine AllReadyH.cons (o := _) rfl (fun K hK => ?_) ?_
    · go_simp
      refine hK.out _ _ (J.alloc _).cells (fun _ => ?_)
      have hx := n0ft (W.alloc (.cells #[.int .i64 0, .int .i64 0, .int .i64 0, .int .i64 0, .int .i64 0, .int .u8 0, .int .u8 0, .int .u8 0, .int .u8 0, .int .u8 0, .int .u8 0] 106)) W.heap.size (J.alloc _) (ZB.new J)
      rw [hG2] at hx
      exact hx
    exact AllReadyH.nil
  exact n0ff _ J3.out

end Go.Proofs.Ytbfnffecmglgfaa
