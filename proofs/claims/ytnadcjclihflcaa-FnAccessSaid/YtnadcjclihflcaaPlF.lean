/- The program's functions on plans. -/
import Derived.Test.YtnadcjclihflcaaPlR
namespace Go.Proofs.Ytnadcjclihflcaa
open Go Go.RowKit

theorem plan_facts {w : World} {A B V : Option Addr} {n k q : Nat} {P : List Int} {D : List Bool} {R : List (List Int)} (h : Pl w A n B k V q P D R) (hp : planB P D R = true) : Tree P ∧ 2 ≤ n ∧ n ≤ 24 ∧ k = n ∧ 1 ≤ q ∧ q ≤ 10 ∧ (∀ K, K < q → rigB n (R.getD K []) = true) ∧ (∀ K, K < q → ∀ x ∈ R.getD K [], 0 ≤ x ∧ x < n) := by
  obtain ⟨hb, h1, h2, h3⟩ := planB_true hp
  obtain ⟨hT, n2, n24, hkn, _⟩ := bld_tree hb
  have e1 := h.b.ps.len
  have e2 := h.b.ds.len
  have e3 := h.r.len
  rw [e1] at n2 n24
  have hr : ∀ K, K < q → rigB n (R.getD K []) = true := fun K hK => by
    rw [← e1]; exact rig_at h3 (by rw [e3]; exact hK)
  exact ⟨hT, n2, n24, by rw [← e2, hkn, e1], by omega, by omega, hr, fun K hK x hx => rig_range (hr K hK) x hx⟩
theorem pk_zero {P : List Int} {D : List Bool} {R : List (List Int)} {x : Int} {q : Nat} (hl : R.length = q) (h : pkE P D R x = 0) : planB P D R = true ∧ ∃ K : Nat, x = K ∧ K < q := by
  unfold pkE at h
  rcases hp : planB P D R with _ | _
  · rw [hp] at h; cases h
  · rw [hp] at h
    rcases hk : isKy R x with _ | _
    · rw [hk] at h; cases h
    · unfold isKy at hk
      rw [inB_true, hl] at hk
      obtain ⟨K, rfl⟩ := Int.eq_ofNat_of_zero_le hk.1
      exact ⟨rfl, K, rfl, by omega⟩
theorem pE_zero {P : List Int} {D : List Bool} {R : List (List Int)} (h : pE P D R = 0) : planB P D R = true := by
  unfold pE at h
  rcases hp : planB P D R with _ | _
  · rw [hp] at h; cases h
  · rfl
theorem pE_not {P : List Int} {D : List Bool} {R : List (List Int)} {z : Int} (h : pE P D R = z) (hz : ¬ z = 0) : planB P D R = false ∧ z = 1 := by
  unfold pE at h
  rcases hp : planB P D R with _ | _
  · rw [hp] at h; exact ⟨rfl, h.symm⟩
  · rw [hp] at h; exact absurd h.symm hz
theorem un_bad {P : List Int} {D : List Bool} {R : List (List Int)} {z : Int} (h : pE P D R = z) (hz : ¬ z = 0) : unL P D R = [] := by unfold unL; rw [(pE_not h hz).1]; rfl
theorem ac_bad {P : List Int} {D : List Bool} {R : List (List Int)} {z : Int} (h : pE P D R = z) (hz : ¬ z = 0) : acL P D R = [] := by unfold acL; rw [(pE_not h hz).1]; rfl
theorem pd_bad {P : List Int} {D : List Bool} {R : List (List Int)} {y z : Int} (h : pE P D R = z) (hz : ¬ z = 0) : pdE P D R y = z ∧ kfL P D R y = [] := by
  obtain ⟨h1, h2⟩ := pE_not h hz
  have e : pdE P D R y = z := by unfold pdE; rw [h1, h2]; rfl
  exact ⟨e, by unfold kfL; rw [e, if_neg hz]⟩
theorem me_bad {P : List Int} {D : List Bool} {R : List (List Int)} {x y z : Int} (h : pkE P D R x = z) (hz : ¬ z = 0) : meE P D R x y = z ∧ meV P D R x y = false := by
  have e : meE P D R x y = z := by
    unfold pkE at h
    unfold meE
    rcases hp : planB P D R with _ | _
    · rw [hp] at h; exact h
    · rw [hp] at h
      rcases hk : isKy R x with _ | _
      · rw [hk] at h; simpa using h
      · rw [hk] at h; exact absurd h.symm hz
  exact ⟨e, by unfold meV; rw [e]; simp [hz]⟩

theorem me_at {P : List Int} {D : List Bool} {R : List (List Int)} {n q K : Nat} {y : Int} (hp : planB P D R = true) (hl : R.length = q) (hL : P.length = n) (hK : K < q) : meE P D R (K : Int) y = (if (inB y 0 ((n : Int) - 1) && dor D y.toNat) then 0 else 2) ∧ meV P D R (K : Int) y = ((inB y 0 ((n : Int) - 1) && dor D y.toNat) && anyU P (R.getD K []) y.toNat) := by
  have hk : isKy R (K : Int) = true := by unfold isKy; rw [inB_true, hl]; omega
  have e : meE P D R (K : Int) y = (if (inB y 0 ((n : Int) - 1) && dor D y.toNat) then 0 else 2) := by
    unfold meE isDr
    rw [hp, hk, hL]; simp
  refine ⟨e, ?_⟩
  unfold meV
  rw [e]
  rcases inB y 0 ((n : Int) - 1) && dor D y.toNat with _ | _
  · rfl
  · rfl
theorem pd_at {P : List Int} {D : List Bool} {R : List (List Int)} {n q : Nat} {y : Int} (hp : planB P D R = true) (hl : R.length = q) (hL : P.length = n) : pdE P D R y = (if (inB y 0 ((n : Int) - 1) && dor D y.toNat) then 0 else 2) ∧ kfL P D R y = (if (inB y 0 ((n : Int) - 1) && dor D y.toNat) then keysTo P R y.toNat q else []) := by
  have e : pdE P D R y = (if (inB y 0 ((n : Int) - 1) && dor D y.toNat) then 0 else 2) := by
    unfold pdE isDr
    rw [hp, hL]; rfl
  refine ⟨e, ?_⟩
  unfold kfL
  rw [e, hl]
  rcases inB y 0 ((n : Int) - 1) && dor D y.toNat with _ | _
  · rfl
  · rfl

theorem doors_some {P : List Int} {D : List Bool} (h : bldB P D = true) : 0 < (amD D (und P 0) P.length).length := by
  obtain ⟨hT, n2, n24, hk, _⟩ := bld_tree h
  have ha : anyD D = true := by
    unfold bldB at h
    simp only [Bool.and_eq_true] at h
    exact h.2
  unfold anyD at ha
  rw [List.any_eq_true] at ha
  obtain ⟨b, hb, e⟩ := ha
  obtain ⟨i, hi, e2⟩ := List.getElem_of_mem hb
  have : (i : Int) ∈ amD D (und P 0) P.length := amD_mem.2 ⟨i, by omega, rfl, by unfold dor; rw [List.getD_eq_getElem?_getD, List.getElem?_eq_getElem hi, e2]; simpa using e, und_zero hT (by omega)⟩
  exact List.length_pos_of_mem this
/-- a row of access as it is written -/
def acAt (P ys L : List Int) (t i : Nat) : Value := .int .i64 (if i < t then (if anyU P ys (L.getD i 0).toNat then 1 else 0) else 0)
theorem acAt_no {P ys L : List Int} {t : Nat} {v : Int} (hv : L[t]? = some v) (h : anyU P ys v.toNat = false) (i : Nat) : acAt P ys L t i = acAt P ys L (t + 1) i := by
  unfold acAt
  by_cases e : i = t
  · subst e
    rw [if_neg (by omega), if_pos (by omega), getD_of hv, h]; rfl
  · by_cases e2 : i < t
    · rw [if_pos e2, if_pos (show i < t + 1 by omega)]
    · rw [if_neg e2, if_neg (show ¬ i < t + 1 by omega)]
theorem acAt_yes {P ys L : List Int} {t : Nat} {v : Int} (hv : L[t]? = some v) (h : anyU P ys v.toNat = true) (i : Nat) : (if i = t then Value.int .i64 1 else acAt P ys L t i) = acAt P ys L (t + 1) i := by
  unfold acAt
  by_cases e : i = t
  · subst e
    rw [if_pos rfl, if_pos (by omega), getD_of hv, h]; rfl
  · rw [if_neg e]
    by_cases e2 : i < t
    · rw [if_pos e2, if_pos (show i < t + 1 by omega)]
    · rw [if_neg e2, if_neg (show ¬ i < t + 1 by omega)]
theorem acAt_end {P ys L : List Int} {t i : Nat} (hl : L.length = t) (hi : i < t) : acAt P ys L t i = .int .i64 ((L.map fun d => if anyU P ys d.toNat then 1 else 0).getD i 0) := by
  unfold acAt
  rw [if_pos hi, List.getD_eq_getElem?_getD, List.getD_eq_getElem?_getD, List.getElem?_map, List.getElem?_eq_getElem (by omega)]
  rfl
theorem Pile.capsP {w : World} {lo n p c : Nat} {V : Option Addr} {gs : List (Addr × Nat)} {yss : List (List Int)} (h : Pile w lo (.slice V n c) n p gs yss) : n ≤ c ∧ c ≤ 9223372036854775807 := by
  rcases h.row.2 with ⟨e, h0⟩ | ⟨g, cap, cur, e, _, _, h1, h2, _⟩
  · injection e with _ _ e; omega
  · injection e with _ _ e; unfold maxLen at h2; omega
theorem Pile.own_lt {w : World} {lo n p : Nat} {v : Value} {gs : List (Addr × Nat)} {yss : List (List Int)} (h : Pile w lo v n p gs yss) : ∀ b, v.ownBlock = some b → b < w.heap.size := fun b e => by
  rcases h.row.2 with ⟨e1, _⟩ | ⟨g', cap', cur, e1, _, hg', _⟩
  · rw [e1] at e; cases e
  · have h1 := heapLt hg'
    rw [e1] at e
    have : g' = b := by simpa [Value.ownBlock] using e
    omega
theorem Pile.each_lt {w : World} {lo n p : Nat} {v : Value} {gs : List (Addr × Nat)} {yss : List (List Int)} (h : Pile w lo v n p gs yss) : ∀ b ∈ gs, b.1.block < w.heap.size := fun b hb => by
  obtain ⟨j, hj, e⟩ := List.getElem_of_mem hb
  have hy : j < yss.length := by rw [h.len, ← h.glen]; exact hj
  obtain ⟨hs, _⟩ := h.inner j b _ (by rw [List.getElem?_eq_getElem hj, e]) (List.getElem?_eq_getElem hy)
  exact hs.lt

set_option maxRecDepth 100000 in
set_option maxHeartbeats 2000000 in
theorem doorsFor_any (A B V : Option Addr) (n c k d q e0 : Nat) (P : List Int) (D : List Bool) (R : List (List Int)) (x : Int) (w : World) (h : Pl w A n B k V q P D R) (hn : n ≤ 1048576) (hk : k ≤ 1048576) (hq : q + sizeL R ≤ 1048576) :
    Calls Try.prog 27 #[.agg #[.slice A n c, .slice B k d, .slice V q e0], .int .i64 x] w (GivesList w (pkE P D R x) (dfL P D R x)) := by
  have c1 := ((Below.refl w.heap.size w).alloc (Nat.le_refl _) (.cells #[.slice A n c, .slice B k d, .slice V q e0] 30)).alloc (by simp) (.cells #[.int .i64 x] 2)
  have h0 := Lib.hid (h.on c1)
  have x0 : Hid (Ints ((w.alloc (.cells #[.slice A n c, .slice B k d, .slice V q e0] 30)).alloc (.cells #[.int .i64 x] 2)) ((w.alloc (.cells #[.slice A n c, .slice B k d, .slice V q e0] 30)).alloc (.cells #[.int .i64 x] 2)).heap.size (some ⟨w.heap.size + 1, 0, none⟩) 1 [x]) := Lib.hid ⟨rfl, fun _ => ⟨_, rfl, by simp, fun j v hj => by
    rcases j with _ | j
    · have e : x = v := by simpa using hj
      subst e
      have := (Cell1.new (w.alloc (.cells #[.slice A n c, .slice B k d, .slice V q e0] 30)) 2 (.int .i64 x)).cell
      rw [World.size_alloc] at this
      exact (congrArg _ (add_zero' _)).trans this
    · simp at hj⟩⟩
  obtain ⟨p0, p1, p2⟩ := (Cell3.new w 30 (.slice A n c) (.slice B k d) (.slice V q e0)).cells
  have C0 := Lib.hid c1
  have H := Lib.hid h
  clear c1 h
  obtain ⟨z, hz⟩ : ∃ z, pkE P D R x = z := ⟨_, rfl⟩
  have HZ := Lib.hid hz
  by_cases hz0 : z = 0
  rotate_left
  · have HD : Hid (dfL P D R x = []) := Lib.hid (by unfold dfL; rw [hz, if_neg hz0])
    rw [hz, HD.out]
    have ht : (z != 0) = true := by simpa using hz0
    go_enter Try.func27, Try.ntmps27
    go_wp2_with fail
    refine (sheetOf_any A B V _ n c k d q e0 1 1 P D R [x] _ h0.out x0.out hn hk hq (by omega)).mono ?_
    rw [shE_one, HZ.out]
    rintro e w1 ⟨⟨s1, s2, s3, rfl, hs, hs'⟩, b1⟩
    obtain ⟨rfl, rfl, rfl⟩ := hs' hz0
    have C2 := Lib.hid ((below_trans' C0.out b1).alloc (below_trans' C0.out b1).size (.cells #[.slice none 0 0, .slice none 0 0, .slice none 0 0] 84))
    clear b1 p0 p1 p2 hz hs hs' hz0
    go_wp2
    go_ret2
    exact ⟨none, 0, 0, rfl, Own.nil _ (Nat.le_refl _), by omega, by omega, by omega, C2.out⟩
  subst hz0
  obtain ⟨hp, K, rfl, hK⟩ := pk_zero H.out.r.len hz
  obtain ⟨hT, n2, n24, hkn, q1, q10, hrig, hr⟩ := plan_facts H.out hp
  subst hkn
  have HT := Lib.hid hT
  have HL := Lib.hid H.out.b.ps.len
  have HG := Lib.hid hrig
  have HR := Lib.hid hr
  have HQ := Lib.hid H.out.r.len
  have HP := Lib.hid hp
  have HQS := Lib.hid hq
  have HD : Hid (dfL P D R (K : Int) = amD D (anyU P (R.getD K [])) k) := Lib.hid (by unfold dfL; rw [hz, if_pos rfl, HL.out]; rfl)
  rw [hz, HD.out]
  have HAM : Hid (amD D (inN k (anyU P (R.getD K []))) k = amD D (anyU P (R.getD K [])) k) := Lib.hid (amD_congr (fun i hi => by unfold inN; simp [hi]))
  clear hT hr hrig hp hz
  go_enter Try.func27, Try.ntmps27
  go_wp2_with fail
  refine (sheetOf_any A B V _ k c k d q e0 1 1 P D R [(K : Int)] _ h0.out x0.out hn hk hq (by omega)).mono ?_
  rw [shE_one, HZ.out]
  rintro e w1 ⟨⟨s1, s2, s3, rfl, hs, hs'⟩, b1⟩
  obtain ⟨rfl, rfl, rfl⟩ := hs rfl
  have C1 := Lib.hid (below_trans' C0.out b1)
  have C2 := Lib.hid (C1.out.alloc C1.out.size (.cells #[.slice A k c, .slice B k d, .slice V q e0] 84))
  have K2 := Lib.hid (Cell3.new w1 84 (.slice A k c) (.slice B k d) (.slice V q e0))
  clear hs hs' b1 p0 p1 p2 C0 x0 h0
  obtain ⟨p0, p1, p2⟩ := K2.out.cells
  go_wp2
  go_region_held3 (fun w' => w'.cell? ⟨w1.heap.size, 0, none⟩ = some (.slice A k c) ∧ w'.cell? ⟨w1.heap.size, 1, none⟩ = some (.slice B k d) ∧ w'.cell? ⟨w1.heap.size, 2, none⟩ = some (.slice V q e0))
    (first
      | go_keep
      | (with_reducible exact E1.out)
      | (with_reducible exact E2.out))
    (first
      | (go_at_call 85; refine (reach_any A B V k c k d q e0 K P D R _ (H.out.on (below_drewN C2.out 1)) HT.out (by omega) n24 hK HQS.out (HR.out K hK)).mono ?_; rintro e w3 ⟨rfl, b3⟩; have bb3 := below_trans' (below_drewN (Below.refl _ _) 1) b3; have C3 := Lib.hid (below_trans' C2.out bb3); have K3 := Lib.hid (K2.out.on bb3); have E1 := Lib.hid K3.out.cells)
      | (go_at_call 83; refine (doorsAmong_any A B k c k d P D (inN k (anyU P (R.getD K []))) _ (H.out.on C3.out).b n24 (by omega)).mono ?_; rw [HAM.out]; rintro e w4 ⟨A4, n4, c4, rfl, ho, h1, h2, h3, b4⟩; have HO := Lib.hid (ho.more C3.out.size (Nat.le_refl _) (Nat.le_refl _)); have C4 := Lib.hid (below_trans' C3.out b4); have E2 := Lib.hid (K3.out.on b4).cells))
  all_goals
    clear p0 p1 p2
    go_wp2
    go_ret2
    exact ⟨_, _, _, rfl, HO.out, h1, h2, h3, C4.out⟩

set_option maxRecDepth 100000 in
set_option maxHeartbeats 2000000 in
theorem shortRights_any (A B V : Option Addr) (n c k d q e0 : Nat) (P : List Int) (D : List Bool) (R : List (List Int)) (x : Int) (w : World) (h : Pl w A n B k V q P D R) (hn : n ≤ 1048576) (hk : k ≤ 1048576) (hq : q + sizeL R ≤ 1048576) :
    Calls Try.prog 37 #[.agg #[.slice A n c, .slice B k d, .slice V q e0], .int .i64 x] w (GivesList w (pkE P D R x) (srL P D R x)) := by
  have c1 := ((Below.refl w.heap.size w).alloc (Nat.le_refl _) (.cells #[.slice A n c, .slice B k d, .slice V q e0] 30)).alloc (by simp) (.cells #[.int .i64 x] 2)
  have h0 := Lib.hid (h.on c1)
  have x0 : Hid (Ints ((w.alloc (.cells #[.slice A n c, .slice B k d, .slice V q e0] 30)).alloc (.cells #[.int .i64 x] 2)) ((w.alloc (.cells #[.slice A n c, .slice B k d, .slice V q e0] 30)).alloc (.cells #[.int .i64 x] 2)).heap.size (some ⟨w.heap.size + 1, 0, none⟩) 1 [x]) := Lib.hid ⟨rfl, fun _ => ⟨_, rfl, by simp, fun j v hj => by
    rcases j with _ | j
    · have e : x = v := by simpa using hj
      subst e
      have := (Cell1.new (w.alloc (.cells #[.slice A n c, .slice B k d, .slice V q e0] 30)) 2 (.int .i64 x)).cell
      rw [World.size_alloc] at this
      exact (congrArg _ (add_zero' _)).trans this
    · simp at hj⟩⟩
  obtain ⟨p0, p1, p2⟩ := (Cell3.new w 30 (.slice A n c) (.slice B k d) (.slice V q e0)).cells
  have C0 := Lib.hid c1
  have H := Lib.hid h
  clear c1 h
  obtain ⟨z, hz⟩ : ∃ z, pkE P D R x = z := ⟨_, rfl⟩
  have HZ := Lib.hid hz
  by_cases hz0 : z = 0
  rotate_left
  · have HD : Hid (srL P D R x = []) := Lib.hid (by unfold srL; rw [hz, if_neg hz0])
    rw [hz, HD.out]
    have ht : (z != 0) = true := by simpa using hz0
    go_enter Try.func37, Try.ntmps37
    go_wp2_with fail
    refine (sheetOf_any A B V _ n c k d q e0 1 1 P D R [x] _ h0.out x0.out hn hk hq (by omega)).mono ?_
    rw [shE_one, HZ.out]
    rintro e w1 ⟨⟨s1, s2, s3, rfl, hs, hs'⟩, b1⟩
    obtain ⟨rfl, rfl, rfl⟩ := hs' hz0
    have C2 := Lib.hid ((below_trans' C0.out b1).alloc (below_trans' C0.out b1).size (.cells #[.slice none 0 0, .slice none 0 0, .slice none 0 0] 84))
    clear b1 p0 p1 p2 hz hs hs' hz0
    go_wp2
    go_ret2
    exact ⟨none, 0, 0, rfl, Own.nil _ (Nat.le_refl _), by omega, by omega, by omega, C2.out⟩
  subst hz0
  obtain ⟨hp, K, rfl, hK⟩ := pk_zero H.out.r.len hz
  obtain ⟨hT, n2, n24, hkn, q1, q10, hrig, hr⟩ := plan_facts H.out hp
  subst hkn
  have HT := Lib.hid hT
  have HL := Lib.hid H.out.b.ps.len
  have HG := Lib.hid hrig
  have HR := Lib.hid hr
  have HQ := Lib.hid H.out.r.len
  have HP := Lib.hid hp
  have HQS := Lib.hid hq
  have HD : Hid (srL P D R (K : Int) = topTo P (anyU P (R.getD K [])) k) := Lib.hid (by unfold srL; rw [hz, if_pos rfl, HL.out]; rfl)
  rw [hz, HD.out]
  have HAM : Hid (topTo P (inN k (anyU P (R.getD K []))) k = topTo P (anyU P (R.getD K [])) k) := Lib.hid (topTo_congr HT.out (fun i hi => by unfold inN; rw [HL.out] at hi; simp [hi]) (Nat.le_of_eq HL.out.symm))
  clear hT hr hrig hp hz
  go_enter Try.func37, Try.ntmps37
  go_wp2_with fail
  refine (sheetOf_any A B V _ k c k d q e0 1 1 P D R [(K : Int)] _ h0.out x0.out hn hk hq (by omega)).mono ?_
  rw [shE_one, HZ.out]
  rintro e w1 ⟨⟨s1, s2, s3, rfl, hs, hs'⟩, b1⟩
  obtain ⟨rfl, rfl, rfl⟩ := hs rfl
  have C1 := Lib.hid (below_trans' C0.out b1)
  have C2 := Lib.hid (C1.out.alloc C1.out.size (.cells #[.slice A k c, .slice B k d, .slice V q e0] 84))
  have K2 := Lib.hid (Cell3.new w1 84 (.slice A k c) (.slice B k d) (.slice V q e0))
  clear hs hs' b1 p0 p1 p2 C0 x0 h0
  obtain ⟨p0, p1, p2⟩ := K2.out.cells
  go_wp2
  go_region_held3 (fun w' => w'.cell? ⟨w1.heap.size, 0, none⟩ = some (.slice A k c) ∧ w'.cell? ⟨w1.heap.size, 1, none⟩ = some (.slice B k d) ∧ w'.cell? ⟨w1.heap.size, 2, none⟩ = some (.slice V q e0))
    (first
      | go_keep
      | (with_reducible exact E1.out)
      | (with_reducible exact E2.out))
    (first
      | (go_at_call 85; refine (reach_any A B V k c k d q e0 K P D R _ (H.out.on (below_drewN C2.out 1)) HT.out (by omega) n24 hK HQS.out (HR.out K hK)).mono ?_; rintro e w3 ⟨rfl, b3⟩; have bb3 := below_trans' (below_drewN (Below.refl _ _) 1) b3; have C3 := Lib.hid (below_trans' C2.out bb3); have K3 := Lib.hid (K2.out.on bb3); have E1 := Lib.hid K3.out.cells)
      | (go_at_call 98; refine (topsOf_any A B V k c k d q e0 P D (inN k (anyU P (R.getD K []))) _ (H.out.on C3.out).b HT.out (by omega) n24).mono ?_; rw [HAM.out]; rintro e w4 ⟨A4, n4, c4, rfl, ho, h1, h2, h3, b4⟩; have HO := Lib.hid (ho.more C3.out.size (Nat.le_refl _) (Nat.le_refl _)); have C4 := Lib.hid (below_trans' C3.out b4); have E2 := Lib.hid (K3.out.on b4).cells))
  all_goals
    clear p0 p1 p2
    go_wp2
    go_ret2
    exact ⟨_, _, _, rfl, HO.out, h1, h2, h3, C4.out⟩

end Go.Proofs.Ytnadcjclihflcaa
