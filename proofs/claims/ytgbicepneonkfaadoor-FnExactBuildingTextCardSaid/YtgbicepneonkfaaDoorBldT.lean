/- Texts of buildings: what they are, the model's BuildingText. -/
import Derived.Test.YtgbicepneonkfaaDoorBldI
import Derived.Test.YtgbicepneonkfaaDoorRow
namespace Go.Proofs.YtgbicepneonkfaaDoor
open Go Go.RowKit

theorem join_snoc (xs : List (List UInt8)) (x sep : List UInt8) (h : xs ≠ []) : Lib.join (xs ++ [x]) sep = Lib.join xs sep ++ sep ++ x := by
  rcases xs with _ | ⟨y, r⟩
  · exact absurd rfl h
  · rw [List.cons_append, Lib.join_cons, Lib.join_cons]
    unfold Lib.joinTail
    simp [List.append_assoc]
/-- the sign of a node, its word, the words of the nodes below k behind the root -/
def kindB (D : List Bool) (i : Nat) : UInt8 := if dor D i then 100 else 103
def wordB (P : List Int) (D : List Bool) (i : Nat) : List UInt8 := Lib.decDigits (par P i).toNat ++ [kindB D i]
def wordsB (P : List Int) (D : List Bool) (k : Nat) : List (List UInt8) := (List.range (k - 1)).map fun j => wordB P D (j + 1)
def bldT (P : List Int) (D : List Bool) (k : Nat) : List UInt8 := Lib.join (wordsB P D k) [32]
theorem wordsB_one (P : List Int) (D : List Bool) : wordsB P D 1 = [] := rfl
theorem wordsB_succ (P : List Int) (D : List Bool) {k : Nat} (h : 1 ≤ k) : wordsB P D (k + 1) = wordsB P D k ++ [wordB P D k] := by
  obtain ⟨j, rfl⟩ : ∃ j, k = j + 1 := ⟨k - 1, by omega⟩
  unfold wordsB
  rw [show j + 1 + 1 - 1 = j + 1 by omega, show j + 1 - 1 = j by omega, List.range_succ, List.map_append]
  rfl
theorem bldT_first (P : List Int) (D : List Bool) : bldT P D 2 = wordB P D 1 := by
  unfold bldT
  rw [wordsB_succ P D (Nat.le_refl 1), wordsB_one]
  exact Lib.join_one _ _
theorem bldT_next (P : List Int) (D : List Bool) {k : Nat} (h : 2 ≤ k) : bldT P D (k + 1) = bldT P D k ++ [32] ++ wordB P D k := by
  unfold bldT
  rw [wordsB_succ P D (by omega)]
  refine join_snoc _ _ _ ?_
  obtain ⟨j, rfl⟩ : ∃ j, k = j + 2 := ⟨k - 2, by omega⟩
  unfold wordsB
  rw [show j + 2 - 1 = j + 1 by omega]
  simp
theorem wordB_len {P : List Int} {D : List Bool} {i : Nat} (h : par P i ≤ 99) : (wordB P D i).length ≤ 14 := by
  unfold wordB
  rw [List.length_append]
  have := digits_13 (n := (par P i).toNat) (by omega)
  simp; omega
theorem bldT_len {P : List Int} {D : List Bool} {n : Nat} (h : ∀ i, 1 ≤ i → i < n → par P i ≤ 99) : ∀ k, 1 ≤ k → k ≤ n → (bldT P D k).length ≤ 15 * k := by
  intro k
  induction k with
  | zero => intro h; omega
  | succ k ih =>
    intro _ hk
    rcases Nat.lt_or_ge k 1 with h0 | h1
    · obtain rfl : k = 0 := by omega
      exact Nat.zero_le _
    · have hw := wordB_len (D := D) (h k h1 (by omega))
      rcases Nat.lt_or_ge k 2 with h2 | h2
      · obtain rfl : k = 1 := by omega
        rw [bldT_first]; omega
      · rw [bldT_next P D h2, List.length_append, List.length_append]
        have := ih h1 (by omega)
        simp only [List.length_cons, List.length_nil]; omega
theorem par_small {P : List Int} (h : Tree P) (hn : P.length ≤ 24) {i : Nat} (h1 : 1 ≤ i) (hi : i < P.length) : 0 ≤ par P i ∧ par P i ≤ 99 := by
  have := h.up i h1 hi; omega
def btT (P : List Int) (D : List Bool) : List UInt8 := if bldB P D then bldT P D P.length else []

set_option maxRecDepth 100000 in
set_option maxHeartbeats 2000000 in
theorem l09TextP_any (A B : Option Addr) (n c k d : Nat) (P : List Int) (D : List Bool) (w : World) (h : Bld w A n B k P D) (hT : ∀ i, 1 ≤ i → i < n → 0 ≤ par P i ∧ par P i ≤ 99) (hkn : k = n) (n2 : 2 ≤ n) (n24 : n ≤ 24) :
    Calls Tryd.prog 38 #[.agg #[.slice A n c, .slice B k d]] w (GivesText w (bldT P D n) 400) := by
  subst hkn
  have c0 := (Below.refl w.heap.size w).alloc (Nat.le_refl _) (.cells #[.slice A k c, .slice B k d] 27)
  have K0 := Lib.hid (Cell2.new w 27 (.slice A k c) (.slice B k d))
  have H := Lib.hid h
  have HL := Lib.hid H.out.ps.len
  have HT := Lib.hid hT
  have C0 := Lib.hid c0
  have k1 : 1 ≤ k := by omega
  have HS : Hid (∀ i, 1 ≤ i → i < k → par P i ≤ 99) := Lib.hid (fun i h1 hi => (hT i h1 hi).2)
  clear c0 h hT
  go_enter Tryd.func38, Tryd.ntmps38
  go_wp2
  go_loopw [3, 4] (fun s i wr => ∃ (j : Nat) (t : ByteArray), 1 ≤ j ∧ j ≤ k ∧ i = .int .i64 j ∧ s = .string t ∧ Hid (Txt t (bldT P D j)) ∧ t.size ≤ 15 * j ∧ Hid (Cell2 wr w.heap.size 27 (.slice A k c) (.slice B k d)) ∧ Hid (Below w.heap.size w wr)) (fun _ i _ => k - (intOf i).toNat)
  case atStart => exact ⟨1, ⟨#[]⟩, Nat.le_refl _, k1, rfl, rfl, Lib.hid rfl, Nat.zero_le _, K0, C0⟩
  case round =>
    obtain ⟨j, t, hj1, hj, rfl, rfl, ht, hz, HK, HB⟩ := hrel
    clear K0 C0
    obtain ⟨p0, p1⟩ := HK.out.cells
    by_cases hlt : j < k
    · obtain ⟨pa, rfl, hpj⟩ := (H.out.on HB.out).par_at hlt
      obtain ⟨pb, rfl, hdj⟩ := (H.out.on HB.out).dor_at hlt
      obtain ⟨v0, v1⟩ := HT.out j hj1 hlt
      obtain ⟨V, hV⟩ : ∃ V : Nat, par P j = (V : Int) := ⟨(par P j).toNat, by omega⟩
      rw [hV] at hpj
      have HV := Lib.hid hV
      have hV9 : V ≤ 99 := by omega
      have i0 : (0 : Int) ≤ (j : Int) := by omega
      have i1 : (j : Int) < (k : Int) := by omega
      obtain ⟨dd, hdd⟩ : ∃ dd, dor D j = dd := ⟨_, rfl⟩
      rw [hdd] at hdj
      have HD := Lib.hid hdd
      have HLEN := Lib.hid (bldT_len (D := D) HS.out (j + 1) (by omega) (by omega))
      clear hV hdd v0 v1
      have hzs : ({ data := #[32] } : ByteArray).size ≤ 1 := Nat.le_refl 1
      have hzd : ({ data := #[100] } : ByteArray).size ≤ 1 := Nat.le_refl 1
      have hzg : ({ data := #[103] } : ByteArray).size ≤ 1 := Nat.le_refl 1
      by_cases h1 : j = 1
      · have HJ := Lib.hid h1
        have h2 : ¬ (1 : Int) < (j : Int) := by omega
        clear h1
        cases dd
        · have ht0 : Hid (t.data.toList = []) := Lib.hid (by rw [show t.data.toList = bldT P D j from ht.out, HJ.out]; rfl)
          have hz1 : (t).size ≤ 361 := by omega
          go_wp2_with fail
          refine (l01Dec_any V _ (by omega)).mono ?_
          rintro e w2 ⟨u, rfl, hu, hzu, hbu⟩
          have hz2 : (t ++ u).size ≤ 375 := by rw [size_add]; omega
          have K2 := Lib.hid (HK.out.on hbu)
          have B2 := Lib.hid (below_trans' HB.out hbu)
          have HU := Lib.hid hu
          have T2 : Hid (Txt (t ++ u ++ ({ data := #[103] } : ByteArray)) (bldT P D (j + 1))) := Lib.hid (by
            have hw : wordB P D j = Lib.decDigits V ++ [103] := by unfold wordB kindB; rw [HV.out, HD.out]; rfl
            unfold Txt
            have e1 : bldT P D (j + 1) = wordB P D j := (by rw [HJ.out]; exact bldT_first P D); rw [text_add, text_add, ht0.out, HU.out, e1, hw]; rfl)
          have Z2 : (t ++ u ++ ({ data := #[103] } : ByteArray)).size ≤ 15 * (j + 1) := by rw [size_of T2.out]; exact HLEN.out
          have HZ2 := Lib.hid Z2
          clear hbu hu Z2 p0 p1 hpj hdj ht HK HB
          go_wp2
          go_roundw
          case rel => exact ⟨j + 1, _, by omega, by omega, by go_num, rfl, T2, HZ2.out, K2, B2⟩
          case measure => simp [intOf]; omega
        · have ht0 : Hid (t.data.toList = []) := Lib.hid (by rw [show t.data.toList = bldT P D j from ht.out, HJ.out]; rfl)
          have hz1 : (t).size ≤ 361 := by omega
          go_wp2_with fail
          refine (l01Dec_any V _ (by omega)).mono ?_
          rintro e w2 ⟨u, rfl, hu, hzu, hbu⟩
          have hz2 : (t ++ u).size ≤ 375 := by rw [size_add]; omega
          have K2 := Lib.hid (HK.out.on hbu)
          have B2 := Lib.hid (below_trans' HB.out hbu)
          have HU := Lib.hid hu
          have T2 : Hid (Txt (t ++ u ++ ({ data := #[100] } : ByteArray)) (bldT P D (j + 1))) := Lib.hid (by
            have hw : wordB P D j = Lib.decDigits V ++ [100] := by unfold wordB kindB; rw [HV.out, HD.out]; rfl
            unfold Txt
            have e1 : bldT P D (j + 1) = wordB P D j := (by rw [HJ.out]; exact bldT_first P D); rw [text_add, text_add, ht0.out, HU.out, e1, hw]; rfl)
          have Z2 : (t ++ u ++ ({ data := #[100] } : ByteArray)).size ≤ 15 * (j + 1) := by rw [size_of T2.out]; exact HLEN.out
          have HZ2 := Lib.hid Z2
          clear hbu hu Z2 p0 p1 hpj hdj ht HK HB
          go_wp2
          go_roundw
          case rel => exact ⟨j + 1, _, by omega, by omega, by go_num, rfl, T2, HZ2.out, K2, B2⟩
          case measure => simp [intOf]; omega
      · have h2 : (1 : Int) < (j : Int) := by omega
        cases dd
        · have hz1 : ((t ++ ({ data := #[32] } : ByteArray))).size ≤ 361 := by rw [size_add]; have := hzs; omega
          go_wp2_with fail
          refine (l01Dec_any V _ (by omega)).mono ?_
          rintro e w2 ⟨u, rfl, hu, hzu, hbu⟩
          have hz2 : ((t ++ ({ data := #[32] } : ByteArray)) ++ u).size ≤ 375 := by rw [size_add]; omega
          have K2 := Lib.hid (HK.out.on hbu)
          have B2 := Lib.hid (below_trans' HB.out hbu)
          have HU := Lib.hid hu
          have T2 : Hid (Txt ((t ++ ({ data := #[32] } : ByteArray)) ++ u ++ ({ data := #[103] } : ByteArray)) (bldT P D (j + 1))) := Lib.hid (by
            have hw : wordB P D j = Lib.decDigits V ++ [103] := by unfold wordB kindB; rw [HV.out, HD.out]; rfl
            unfold Txt
            rw [bldT_next P D (by omega), hw, text_add, text_add, text_add, HU.out, show t.data.toList = bldT P D j from ht.out]; simp)
          have Z2 : ((t ++ ({ data := #[32] } : ByteArray)) ++ u ++ ({ data := #[103] } : ByteArray)).size ≤ 15 * (j + 1) := by rw [size_of T2.out]; exact HLEN.out
          have HZ2 := Lib.hid Z2
          clear hbu hu Z2 p0 p1 hpj hdj ht HK HB
          go_wp2
          go_roundw
          case rel => exact ⟨j + 1, _, by omega, by omega, by go_num, rfl, T2, HZ2.out, K2, B2⟩
          case measure => simp [intOf]; omega
        · have hz1 : ((t ++ ({ data := #[32] } : ByteArray))).size ≤ 361 := by rw [size_add]; have := hzs; omega
          go_wp2_with fail
          refine (l01Dec_any V _ (by omega)).mono ?_
          rintro e w2 ⟨u, rfl, hu, hzu, hbu⟩
          have hz2 : ((t ++ ({ data := #[32] } : ByteArray)) ++ u).size ≤ 375 := by rw [size_add]; omega
          have K2 := Lib.hid (HK.out.on hbu)
          have B2 := Lib.hid (below_trans' HB.out hbu)
          have HU := Lib.hid hu
          have T2 : Hid (Txt ((t ++ ({ data := #[32] } : ByteArray)) ++ u ++ ({ data := #[100] } : ByteArray)) (bldT P D (j + 1))) := Lib.hid (by
            have hw : wordB P D j = Lib.decDigits V ++ [100] := by unfold wordB kindB; rw [HV.out, HD.out]; rfl
            unfold Txt
            rw [bldT_next P D (by omega), hw, text_add, text_add, text_add, HU.out, show t.data.toList = bldT P D j from ht.out]; simp)
          have Z2 : ((t ++ ({ data := #[32] } : ByteArray)) ++ u ++ ({ data := #[100] } : ByteArray)).size ≤ 15 * (j + 1) := by rw [size_of T2.out]; exact HLEN.out
          have HZ2 := Lib.hid Z2
          clear hbu hu Z2 p0 p1 hpj hdj ht HK HB
          go_wp2
          go_roundw
          case rel => exact ⟨j + 1, _, by omega, by omega, by go_num, rfl, T2, HZ2.out, K2, B2⟩
          case measure => simp [intOf]; omega
    · obtain rfl : j = k := by omega
      go_wp2
      go_ret
      exact ⟨t, rfl, ht.out, by omega, HB.out⟩

theorem l09Text_any (A B : Option Addr) (n c k d : Nat) (P : List Int) (D : List Bool) (w : World) (h : Bld w A n B k P D) (hT : Tree P) (hkn : k = n) (n2 : 2 ≤ n) (n24 : n ≤ 24) :
    Calls Tryd.prog 38 #[.agg #[.slice A n c, .slice B k d]] w (GivesText w (bldT P D n) 400) :=
  l09TextP_any A B n c k d P D w h (fun i h1 hi => par_small hT (by rw [h.ps.len]; exact n24) h1 (by rw [h.ps.len]; exact hi)) hkn n2 n24

theorem specBuildingText_any (A B : Option Addr) (n c k d : Nat) (P : List Int) (D : List Bool) (w : World) (h : Bld w A n B k P D) (hn : n ≤ 1048576) (hk : k ≤ 1048576) :
    Calls Tryd.prog 11 #[.agg #[.slice A n c, .slice B k d]] w (GivesTextCode w (bdE P D) (btT P D) 400) := by
  have c0 := (Below.refl w.heap.size w).alloc (Nat.le_refl _) (.cells #[.slice A n c, .slice B k d] 27)
  have h0 := Lib.hid (h.on c0)
  have C0 := Lib.hid c0
  have H := Lib.hid h
  have K0 := Lib.hid (Cell2.new w 27 (.slice A n c) (.slice B k d))
  obtain ⟨p0, p1⟩ := K0.out.cells
  clear c0 h
  rcases hb : bldB P D with _ | _
  · have HV : Hid (bdE P D = 1 ∧ btT P D = []) := Lib.hid (by unfold bdE btT; rw [hb]; exact ⟨rfl, rfl⟩)
    rw [HV.out.1, HV.out.2]
    have HB := Lib.hid hb
    clear hb
    go_enter Tryd.func11, Tryd.ntmps11
    go_wp2_with fail
    refine (specIsBuilding_any A B n c k d P D _ h0.out hn hk).mono ?_
    rw [HB.out]
    rintro e w1 ⟨rfl, b1⟩
    have C1 := Lib.hid (C0.out.trans (b1.mono C0.out.size))
    clear b1 p0 p1
    go_wp2
    go_ret2
    exact ⟨⟨#[]⟩, rfl, rfl, Nat.zero_le _, C1.out⟩
  obtain ⟨hT, n2, n24, hkn, _⟩ := bld_tree hb
  have HL := Lib.hid H.out.ps.len
  rw [HL.out] at n2 n24
  have HT := Lib.hid hT
  have HKN : Hid (k = n) := Lib.hid (by rw [← HL.out, ← H.out.ds.len]; exact hkn)
  have HV : Hid (bdE P D = 0 ∧ btT P D = bldT P D n) := Lib.hid (by unfold bdE btT; rw [hb, HL.out]; exact ⟨rfl, rfl⟩)
  rw [HV.out.1, HV.out.2]
  have HB := Lib.hid hb
  clear hb hT hkn
  go_enter Tryd.func11, Tryd.ntmps11
  go_wp2_with fail
  refine (specIsBuilding_any A B n c k d P D _ h0.out hn hk).mono ?_
  rw [HB.out]
  rintro e w1 ⟨rfl, b1⟩
  have C1 := Lib.hid (C0.out.trans (b1.mono C0.out.size))
  obtain ⟨p0', p1'⟩ := (K0.out.on b1).cells
  clear b1 p0 p1
  go_wp2_with fail
  refine (l09Text_any A B n c k d P D _ (H.out.on C1.out) HT.out HKN.out n2 n24).mono ?_
  rintro e w2 ⟨t, rfl, ht, hz, b2⟩
  have C2 := Lib.hid (below_trans' C1.out b2)
  clear b2 p0' p1'
  go_wp2
  go_ret2
  exact ⟨t, rfl, ht, hz, C2.out⟩

end Go.Proofs.YtgbicepneonkfaaDoor
