/- The program's keysWhere; ContainedIn, MasterKeys. -/
import Derived.Test.YtidjnnooeepklaaTabR
namespace Go.Proofs.Ytidjnnooeepklaa
open Go Go.RowKit

set_option maxRecDepth 100000 in
set_option maxHeartbeats 4000000 in
theorem keysWhere_any (a b : Nat) (F : Nat → Nat) (vf : Nat) (vc : Array Value) (p : Nat → Bool) (w : World) (ha : a ≤ 10)
    (ev : ∀ args w, (callFunc vf args).run Try.prog w = .ok (.enter vf args) w)
    (hv : ∀ (wv : World) (x : Nat), x < a → Below w.heap.size w wv → Calls Try.prog vf (#[.int .i64 (x : Int)] ++ vc) wv fun e w' => e = .returned (.bool (p x)) ∧ Below wv.heap.size wv w') :
    Calls Try.prog 80 #[.agg (tabA a b F), .func (.func vf) #[] vc] w (GivesRow w (whereL p a)) := by
  have c0 := below_boxT w (.cells (tabA a b F) 83)
  have G0 := TBox.new w a b F
  have HV := Lib.hid hv
  obtain ⟨ii, hi0, hz0, hz1, hz2⟩ := info_parts Try.info2'
  have HF := Lib.hid (And.intro hi0 (And.intro hz0 (And.intro hz1 hz2)))
  clear hi0 hz0 hz1 hz2
  have R2 := rowNil (w := w.alloc (.cells (tabA a b F) 83)) (t := 2) (s := 1) (base := w.heap.size + 1) (by simp)
  rw [World.size_alloc] at R2
  have R2 := Lib.hid R2
  have bB := (Below.refl (w.alloc (.cells (tabA a b F) 83)).heap.size (w.alloc (.cells (tabA a b F) 83))).alloc (Nat.le_refl _) (.cells #[] 2)
  have C2 := Lib.hid (below_trans' c0 bB)
  have hc := (G0.on bB).nm.1
  clear hv c0 G0 bB
  unfold tabA at *
  go_enter Try.func80, Try.ntmps80
  go_wp2
  clear hc
  go_loopw [5, 10] (fun y x wr => ∃ (j s : Nat) (pv : Value), j ≤ a ∧ x = .int .i64 j ∧ y = pv ∧ s ≤ j ∧ Hid ((whereL p j).length = s) ∧ Hid (wr.ownsRow (w.heap.size + 1) 2 1 pv s (intsV (whereL p j))) ∧ Hid (Below w.heap.size w wr)) (fun _ x _ => a - (intOf x).toNat)
  case atStart => exact ⟨0, 0, _, Nat.zero_le _, rfl, rfl, Nat.le_refl _, Lib.hid rfl, R2, C2⟩
  case round =>
    obtain ⟨j, s, pv, hj, rfl, rfl, hs, HQ, HR, HB⟩ := hrel
    clear R2 C2
    obtain ⟨A1, c1, rfl, _, _, _⟩ := rowInts HR.out HQ.out
    by_cases hlt : j < a
    · rcases hp : p j with _ | _
      · have HN := Lib.hid (where_no hp)
        go_wp2_with fail
        refine (HV.out wr j hlt HB.out).mono ?_
        rw [hp]
        rintro e w1 ⟨rfl, b1⟩
        have R1 := Lib.hid (rowBelow HR.out b1)
        have B1 := Lib.hid (below_trans' HB.out b1)
        clear b1 hp HR HB
        go_wp2
        go_roundw
        case rel => exact ⟨j + 1, s, _, by omega, by go_num, rfl, by omega, Lib.hid (by rw [HN.out]; exact HQ.out), Lib.hid (by rw [HN.out]; exact R1.out), B1⟩
        case measure => simp [intOf]; omega
      · have HN := Lib.hid (where_yes hp)
        go_wp2_with fail
        refine (HV.out wr j hlt HB.out).mono ?_
        rw [hp]
        rintro e w1 ⟨rfl, b1⟩
        have R1 := Lib.hid (rowBelow HR.out b1)
        have B1 := Lib.hid (below_trans' HB.out b1)
        clear b1 hp HR HB
        have hszw := B1.out.size
        have HZV := Lib.hid (rowBase R1.out)
        go_wp2_with (at_builtin; refine wpList_append_lies _ rfl _ _ 27 rfl (w.heap.size + 1) 2 ii _ 1 8 Try.underlying27 HF.out.1 HF.out.2.1 HF.out.2.2.1 HF.out.2.2.2 rfl (by omega) _ s _ rfl (rowBelow R1.out ((Below.refl _ _).alloc (Nat.le_refl _) _)) ⟨w1.heap.size, 0, none⟩ 1 1 [(.int .i64 (j : Int))] rfl rfl (World.news_of_block (cs := #[(.int .i64 (j : Int))]) (t := 2) (fr := (0, 0)) (heap_alloc_new w1 _)) (by simp [Value.oneCell']) (by omega) (by unfold maxLen; omega) (by omega) (by simp; omega) (w1.heap.size + 1) (by simp) ?_; intro gg cap w5 hown1 hgrow hat hlt3)
        have R5 : Hid (w5.ownsRow (w.heap.size + 1) 2 1 (.slice (some ⟨gg, 0, none⟩) (s + 1) cap) (s + 1) (intsV (whereL p (j + 1)))) := Lib.hid (by rw [HN.out, ← intsV_snoc]; exact hown1)
        have Q5 : Hid ((whereL p (j + 1)).length = s + 1) := Lib.hid (by rw [HN.out, List.length_append, HQ.out]; rfl)
        have B5 := Lib.hid ((B1.out.alloc B1.out.size (.cells #[.int .i64 (j : Int)] 2)).grown hgrow (by simp; omega) (fun q e => by have := HZV.out q e; omega))
        clear hown1 hgrow hat hlt3
        go_wp2
        go_roundw
        case rel => exact ⟨j + 1, s + 1, _, by omega, by go_num, rfl, by omega, Q5, R5, B5⟩
        case measure => simp [intOf]; omega
    · obtain rfl : j = a := by omega
      obtain ⟨A2, c2, e, ho, h1, h2⟩ := rowInts HR.out HQ.out
      injection e with e1 e2 e3
      subst e1; subst e3
      have HO := Lib.hid (ho.more (show w.heap.size ≤ w.heap.size + 1 by omega) (Nat.le_refl _) (Nat.le_refl _))
      have q1 : s ≤ 1048576 := by omega
      clear ho
      go_wp2
      go_ret
      exact ⟨_, s, _, rfl, HO.out, q1, h1, h2, HB.out⟩

theorem containedIn1_any (a b K x g1 g : Nat) (F : Nat → Nat) (w : World) (hx : x < a) (hK : K < a) (ha : a ≤ 10) (hF : ∀ i, i < a → F i < 4096) (h1 : w.cell? ⟨g1, 0, none⟩ = some (.int .i64 (K : Int))) (h : TBox w g a b F) :
    Calls Try.prog 81 #[.int .i64 (x : Int), .pointer (some ⟨g1, 0, none⟩), .pointer (some ⟨g, 0, none⟩)] w fun e w' => e = .returned (.bool (decide (x ≠ K) && decide (F x &&& F K = F x))) ∧ Below w.heap.size w w' := by
  have c1 := h.cell (i := x) (by omega)
  have c2 := h.cell (i := K) (by omega)
  have i0 : (0 : Int) ≤ (x : Int) := by omega
  have i1 : (x : Int) < 10 := by omega
  have i2 : (0 : Int) ≤ (K : Int) := by omega
  have i3 : (K : Int) < 10 := by omega
  have fx := hF x hx
  have fk := hF K hK
  by_cases e : x = K
  · subst e
    have d1 : ((x : Int) != (x : Int)) = false := by simp
    go_enter Try.func81, Try.ntmps81
    go_wp2
    go_quiet ((go_at_call 82; exact quiet_left (doorIsIn_any _ _ fx fk _)))
    go_wp2
    go_ret
    exact ⟨ret_bool (by simp), below_drewN (Below.refl _ _) _⟩
  · have d1 : ((x : Int) != (K : Int)) = true := by simp; omega
    have HE : Hid (decide (x ≠ K) = true) := Lib.hid (decide_eq_true e)
    clear e
    go_enter Try.func81, Try.ntmps81
    go_wp2
    go_quiet ((go_at_call 82; exact quiet_left (doorIsIn_any _ _ fx fk _)))
    go_wp2
    go_ret
    exact ⟨ret_bool (by rw [HE.out]; rfl), below_drewN (Below.refl _ _) _⟩

theorem masterKeys1_any (a b x g : Nat) (F : Nat → Nat) (w : World) (hx : x < a) (ha : a ≤ 10) (hF : ∀ i, i < a → F i < 4096) (h : TBox w g a b F) :
    Calls Try.prog 97 #[.int .i64 (x : Int), .pointer (some ⟨g, 0, none⟩)] w fun e w' => e = .returned (.bool (decide (onesN 12 (F x) = b))) ∧ Below w.heap.size w w' := by
  have c1 := h.cell (i := x) (by omega)
  obtain ⟨_, c2⟩ := h.nm
  have i0 : (0 : Int) ≤ (x : Int) := by omega
  have i1 : (x : Int) < 10 := by omega
  have fx := hF x hx
  have HE : Hid ((((onesN 12 (F x) : Nat) : Int) == (b : Int)) = decide (onesN 12 (F x) = b)) := Lib.hid (by
    rw [Bool.eq_iff_iff, beq_iff_eq, decide_eq_true_iff]; omega)
  go_enter Try.func97, Try.ntmps97
  go_wp2
  go_quiet ((go_at_call 89; exact quiet_on (doorSize_any _ fx _)))
  go_wp2
  go_ret
  exact ⟨ret_bool HE.out, below_drewN (Below.refl _ _) _⟩

theorem ints_one' (w : World) (x : Int) (g : Nat) (hg : w.heap.size = g) : Ints (w.alloc (.cells #[.int .i64 x] 2)) (w.alloc (.cells #[.int .i64 x] 2)).heap.size (some ⟨g, 0, none⟩) 1 [x] := by
  subst hg; exact ints_one w x
theorem ret_own {A : Option Addr} {n c : Nat} {x y : Int} (h : x = y) : Ending.returned (.tuple #[.slice A n c, .int .i64 x]) = .returned (.tuple #[.slice A n c, .int .i64 y]) := by rw [h]

set_option maxRecDepth 100000 in
set_option maxHeartbeats 4000000 in
theorem containedIn_any (V : Option Addr) (n c : Nat) (T : List (List Int)) (x : Int) (w : World) (h : Sets w w.heap.size V n T) (hn : n + sizeL T ≤ 1048576) :
    Calls Try.prog 19 #[.slice V n c, .int .i64 x] w (GivesList w (tkE T x) (ciL T x)) := by
  have HL := Lib.hid h.len
  have HN := Lib.hid hn
  have c0 := below_boxT w (.cells #[.int .i64 x] 2)
  have cA := below_boxT (w.alloc (.cells #[.int .i64 x] 2)) (.cells #[.int .i64 x] 2)
  have c1 := below_trans' c0 cA
  have H := Lib.hid (h.on c1)
  have C0 := Lib.hid c1
  have X := Lib.hid (ints_one' (w.alloc (.cells #[.int .i64 x] 2)) x (w.heap.size + 1) (by simp))
  have hk := cellT w #[.int .i64 x] 2 0
  have hk1 := (cA.cell (p := ⟨w.heap.size, 0, none⟩) (by simp)).trans hk
  have HK1 := Lib.hid hk1
  clear h hn c0 c1 cA
  have HT := Lib.hid (tks_one T x)
  obtain ⟨z, hz⟩ : ∃ z, tksE T [x] = z := ⟨_, rfl⟩
  have HZ := Lib.hid hz
  have HE : Hid (tkE T x = z) := Lib.hid (by rw [← tks_one]; exact hz)
  rw [HE.out]
  by_cases hz0 : z = 0
  rotate_left
  · have HV : Hid (ciL T x = []) := Lib.hid (by unfold ciL; rw [HE.out, if_neg hz0])
    have ht : (z != 0) = true := by simpa using hz0
    rw [HV.out]
    clear hz hz0
    go_enter Try.func19, Try.ntmps19
    go_wp2_with fail
    refine (tableOf_any V n c T _ 1 1 [x] _ H.out HN.out X.out (by omega)).mono ?_
    rw [HZ.out]
    rintro e w1 ⟨⟨a, b, F, rfl, _⟩, b1⟩
    have C1 := Lib.hid ((below_trans' C0.out b1).alloc (below_trans' C0.out b1).size (.cells (tabA a b F) 83))
    clear b1 hk hk1
    go_wp2
    go_ret2
    exact ⟨none, 0, 0, rfl, Own.nil _ (Nat.le_refl _), by omega, by omega, by omega, C1.out⟩
  subst hz0
  obtain ⟨hb, hw⟩ := tks_hyp HL.out hz
  have hx := with_one hw
  obtain ⟨K, rfl⟩ := Int.eq_ofNat_of_zero_le hx.1
  have hK : K < n := by omega
  have hn10 : n ≤ 10 := by have := (tabB_true hb).1; have := HL.out; omega
  have HLT := Lib.hid (fun i hi => bitsT_lt (i := i) hb rfl HL.out hi)
  have HV : Hid (ciL T (K : Int) = whereL (fun i => decide (i ≠ K) && decide (bitsT T i &&& bitsT T K = bitsT T i)) n) := Lib.hid (by
    unfold ciL
    rw [HE.out, if_pos rfl, Int.toNat_natCast, HL.out]
    refine where_congr (fun i hi => ?_)
    unfold ciP bitsT
    rw [inR_bits (tab_row hb rfl HL.out hi) (tab_row hb rfl HL.out hK)])
  rw [HV.out]
  clear hz hw hx
  go_enter Try.func19, Try.ntmps19
  go_wp2_with fail
  refine (tableOf_any V n c T _ 1 1 [(K : Int)] _ H.out HN.out X.out (by omega)).mono ?_
  rw [HZ.out]
  rintro e w1 ⟨⟨a, b, F, rfl, hF⟩, b1⟩
  obtain ⟨rfl, rfl, rfl⟩ := hF rfl
  have bA := below_boxT w1 (.cells (tabA a (colT T) (bitsT T)) 83)
  have C1 := Lib.hid (below_trans' (below_trans' C0.out b1) bA)
  have G1 := Lib.hid (TBox.new w1 a (colT T) (bitsT T))
  have K1 : Hid ((w1.alloc (.cells (tabA a (colT T) (bitsT T)) 83)).cell? ⟨w.heap.size, 0, none⟩ = some (.int .i64 (K : Int))) := Lib.hid ((((below_trans' b1 bA).cell (p := ⟨w.heap.size, 0, none⟩) (by show w.heap.size < _; simp; omega)).trans HK1.out))
  have hlw : w.heap.size < (w1.alloc (.cells (tabA a (colT T) (bitsT T)) 83)).heap.size := by have := b1.size; simp at this ⊢; omega
  have HC := Lib.hid (keysWhere_any a (colT T) (bitsT T) 81 #[.pointer (some ⟨w.heap.size, 0, none⟩), .pointer (some ⟨w1.heap.size, 0, none⟩)] (fun i => decide (i ≠ K) && decide (bitsT T i &&& bitsT T K = bitsT T i)) (w1.alloc (.cells (tabA a (colT T) (bitsT T)) 83)) hn10 (enters_of Try.func81 (by kernel_rfl) rfl) (fun wv i hi hb2 => containedIn1_any a (colT T) K i w.heap.size w1.heap.size (bitsT T) wv hi hK hn10 HLT.out ((hb2.cell (p := ⟨w.heap.size, 0, none⟩) hlw).trans K1.out) (G1.out.on hb2)))
  have R1 := Lib.hid G1.out.range
  obtain ⟨dd, hU, hD⟩ := undT
  have HU := Lib.hid hU
  have HD := Lib.hid hD
  have HZ2 := Lib.hid Try.infoT
  have hmf : ∀ (fn : Fn) (first cap : Array Value) (w : World), (Instr.makeFunc fn first cap).run Try.prog w = .ok (.func fn first cap) w := fun _ _ _ _ => rfl
  clear b1 hb hU hD bA hk hk1 H X C0 hlw
  go_wp2_with (refine wpList_load_mid rfl 83 _ rfl w1.heap.size 0 rfl _ _ R1.out HU.out HD.out HZ2.out ?_)
  refine HC.out.mono ?_
  rintro e w2 ⟨A2, n2, c2, rfl, ho, h1, h2, h3, b2⟩
  have C2 := Lib.hid (below_trans' C1.out b2)
  have HO := Lib.hid (ho.more C1.out.size (Nat.le_refl _) (Nat.le_refl _))
  clear b2 ho HC R1 K1 G1 C1
  go_wp2
  go_ret2
  exact ⟨_, n2, _, rfl, HO.out, h1, h2, h3, C2.out⟩

set_option maxRecDepth 100000 in
set_option maxHeartbeats 4000000 in
theorem masterKeys_any (V : Option Addr) (n c : Nat) (T : List (List Int)) (w : World) (h : Sets w w.heap.size V n T) (hn : n + sizeL T ≤ 1048576) :
    Calls Try.prog 48 #[.slice V n c] w (GivesList w (tE T) (mkT T)) := by
  have HL := Lib.hid h.len
  have HN := Lib.hid hn
  have H := Lib.hid h
  clear h hn
  obtain ⟨z, hz⟩ : ∃ z, tksE T [] = z := ⟨_, rfl⟩
  have HZ := Lib.hid hz
  have HE : Hid (tE T = z) := Lib.hid (by rw [← tks_none]; exact hz)
  rw [HE.out]
  by_cases hz0 : z = 0
  rotate_left
  · have HV : Hid (mkT T = []) := Lib.hid (by unfold mkT; rw [HE.out, if_neg hz0])
    have ht : (z != 0) = true := by simpa using hz0
    rw [HV.out]
    clear hz hz0
    go_enter Try.func48, Try.ntmps48
    go_wp2_with fail
    refine (tableOf_any V n c T none 0 0 [] _ H.out HN.out ⟨rfl, fun h => absurd h (by omega)⟩ (by omega)).mono ?_
    rw [HZ.out]
    rintro e w1 ⟨⟨a, b, F, rfl, _⟩, b1⟩
    have C1 := Lib.hid (b1.alloc b1.size (.cells (tabA a b F) 83))
    clear b1
    go_wp2
    go_ret2
    exact ⟨none, 0, 0, rfl, Own.nil _ (Nat.le_refl _), by omega, by omega, by omega, C1.out⟩
  subst hz0
  have hb := tks_zero hz
  have hn10 : n ≤ 10 := by have := (tabB_true hb).1; have := HL.out; omega
  have HLT := Lib.hid (fun i hi => bitsT_lt (i := i) hb rfl HL.out hi)
  have HV : Hid (mkT T = whereL (fun i => decide (onesN 12 (bitsT T i) = colT T)) n) := Lib.hid (by
    unfold mkT
    rw [HE.out, if_pos rfl, HL.out]
    refine where_congr (fun i hi => ?_)
    have hr := rowB_true (tab_row hb rfl HL.out hi)
    have h1 := ones_sum (getR T i) 12 (by have := (tabB_true hb).2.1; omega) hr.2
    have h2 := (sum_full (getR T i) hr.2).1
    unfold mkP bitsT
    rw [← h2, ← h1, hr.1, Bool.eq_iff_iff, decide_eq_true_iff, decide_eq_true_iff]
    omega)
  rw [HV.out]
  clear hz
  go_enter Try.func48, Try.ntmps48
  go_wp2_with fail
  refine (tableOf_any V n c T none 0 0 [] _ H.out HN.out ⟨rfl, fun h => absurd h (by omega)⟩ (by omega)).mono ?_
  rw [HZ.out]
  rintro e w1 ⟨⟨a, b, F, rfl, hF⟩, b1⟩
  obtain ⟨rfl, rfl, rfl⟩ := hF rfl
  have bA := below_boxT w1 (.cells (tabA a (colT T) (bitsT T)) 83)
  have C1 := Lib.hid (below_trans' b1 bA)
  have G1 := Lib.hid (TBox.new w1 a (colT T) (bitsT T))
  have HC := Lib.hid (keysWhere_any a (colT T) (bitsT T) 97 #[.pointer (some ⟨w1.heap.size, 0, none⟩)] (fun i => decide (onesN 12 (bitsT T i) = colT T)) (w1.alloc (.cells (tabA a (colT T) (bitsT T)) 83)) hn10 (enters_of Try.func97 (by kernel_rfl) rfl) (fun wv i hi hb2 => masterKeys1_any a (colT T) i w1.heap.size (bitsT T) wv hi hn10 HLT.out (G1.out.on hb2)))
  have R1 := Lib.hid G1.out.range
  obtain ⟨dd, hU, hD⟩ := undT
  have HU := Lib.hid hU
  have HD := Lib.hid hD
  have HZ2 := Lib.hid Try.infoT
  have hmf : ∀ (fn : Fn) (first cap : Array Value) (w : World), (Instr.makeFunc fn first cap).run Try.prog w = .ok (.func fn first cap) w := fun _ _ _ _ => rfl
  clear b1 hb hU hD bA H
  go_wp2_with (refine wpList_load_mid rfl 83 _ rfl w1.heap.size 0 rfl _ _ R1.out HU.out HD.out HZ2.out ?_)
  refine HC.out.mono ?_
  rintro e w2 ⟨A2, n2, c2, rfl, ho, h1, h2, h3, b2⟩
  have C2 := Lib.hid (below_trans' C1.out b2)
  have HO := Lib.hid (ho.more C1.out.size (Nat.le_refl _) (Nat.le_refl _))
  clear b2 ho HC R1 G1 C1
  go_wp2
  go_ret2
  exact ⟨_, n2, _, rfl, HO.out, h1, h2, h3, C2.out⟩

end Go.Proofs.Ytidjnnooeepklaa
