/- BuildingText of the program, by the library's contracts for FormatInt and Join; its law. -/
import Derived.Test.YtgbicepneonkfaaDoorBldT
import Derived.Test.YtgbicepneonkfaaDoorBldU
import Derived.Test.YtgbicepneonkfaaDoorText2
import Derived.Deep.Cut
import Derived.Deep.RegionHeld3
namespace Go.Proofs.YtgbicepneonkfaaDoor
open Go Go.RowKit

theorem rowAt' {w : World} {base t s g n c : Nat} {xs : List Value} (h : w.ownsRow base t s (.slice (some ⟨g, 0, none⟩) n c) n xs) : base ≤ g ∧ g < w.heap.size ∧ n ≤ c := by
  rcases h.2 with ⟨e, _⟩ | ⟨g', cap, cur, e, h1, hh, hnc, rest⟩
  · have := congrArg Value.ownBlock e; simp [Value.ownBlock] at this
  · have e1 : g = g' := by have := congrArg Value.ownBlock e; simpa [Value.ownBlock] using this
    have e2 : c = cap := congrArg capOf e
    subst e1; subst e2
    exact ⟨h1, heapLt hh, hnc⟩
def wordsA (P : List Int) (D : List Bool) (k : Nat) : List ByteArray := (wordsB P D k).map fun l => ⟨l.toArray⟩
def strV (xs : List ByteArray) : List Value := xs.map Value.string
theorem wordsA_bytes (P : List Int) (D : List Bool) (k : Nat) : (wordsA P D k).map (fun b => b.data.toList) = wordsB P D k := by
  unfold wordsA
  rw [List.map_map]
  have : ((fun b : ByteArray => b.data.toList) ∘ fun l : List UInt8 => (⟨l.toArray⟩ : ByteArray)) = id := by funext l; simp
  rw [this, List.map_id]
theorem wordsA_len (P : List Int) (D : List Bool) (k : Nat) : (wordsA P D k).length = k - 1 := by unfold wordsA wordsB; simp
theorem wordsA_succ (P : List Int) (D : List Bool) {k : Nat} (h : 1 ≤ k) {t : ByteArray} (ht : t.data.toList = wordB P D k) : strV (wordsA P D (k + 1)) = strV (wordsA P D k) ++ [.string t] := by
  unfold wordsA strV
  rw [wordsB_succ P D h, List.map_append, List.map_append]
  congr 1
  have : (⟨(wordB P D k).toArray⟩ : ByteArray) = t := text_eq (by rw [ht])
  simp [this]

set_option maxRecDepth 100000 in
set_option maxHeartbeats 4000000 in
theorem buildingText_any (A B : Option Addr) (n c k d : Nat) (P : List Int) (D : List Bool) (w : World) (h : Bld w A n B k P D) (hn : n ≤ 1048576) (hk : k ≤ 1048576) (htab : Lib.TabBelow Tryd.prog w.heap.size w "internal/strconv.uint64pow10" .u64 Lib.pow10Tab) :
    Calls Tryd.prog 10 #[.agg #[.slice A n c, .slice B k d]] w (GivesTextCode w (bdE P D) (btT P D) 400) := by
  have c0 := (Below.refl w.heap.size w).alloc (Nat.le_refl _) (.cells #[.slice A n c, .slice B k d] 27)
  have h0 := Lib.hid (h.on c0)
  have C0 := Lib.hid c0
  have H := Lib.hid h
  have HTB := Lib.hid htab
  have K0 := Lib.hid (Cell2.new w 27 (.slice A n c) (.slice B k d))
  obtain ⟨p0, p1⟩ := K0.out.cells
  have HE := Lib.hid (codB_none P D)
  clear c0 h htab
  rcases hb : bldB P D with _ | _
  · have HV : Hid (bdE P D = 1 ∧ btT P D = []) := Lib.hid (by unfold bdE btT; rw [hb]; exact ⟨rfl, rfl⟩)
    rw [HV.out.1, HV.out.2]
    rw [HV.out.1] at HE
    clear hb
    go_enter Tryd.func10, Tryd.ntmps10
    go_wp2_with fail
    refine (codeForB_any A B none n c k d 0 0 P D [] _ h0.out ⟨rfl, fun h => absurd h (by omega)⟩ hn hk (by omega)).mono ?_
    rw [HE.out]
    rintro e w1 ⟨rfl, b1⟩
    have C1 := Lib.hid (C0.out.trans (b1.mono C0.out.size))
    clear b1 p0 p1
    go_wp2
    go_ret2
    exact ⟨⟨#[]⟩, rfl, rfl, Nat.zero_le _, C1.out⟩
  obtain ⟨hT, n2, n24, hkn, _⟩ := bld_tree hb
  have HL := Lib.hid H.out.ps.len
  rw [HL.out] at n2 n24
  have hkn' : k = n := by rw [← HL.out, ← H.out.ds.len]; exact hkn
  subst hkn'
  have HT := Lib.hid hT
  have HV : Hid (bdE P D = 0 ∧ btT P D = bldT P D k) := Lib.hid (by unfold bdE btT; rw [hb, HL.out]; exact ⟨rfl, rfl⟩)
  rw [HV.out.1, HV.out.2]
  rw [HV.out.1] at HE
  have HS : Hid (∀ i, 1 ≤ i → i < k → par P i ≤ 99) := Lib.hid (fun i h1 hi => (par_small hT (by rw [HL.out]; exact n24) h1 (by rw [HL.out]; exact hi)).2)
  obtain ⟨ss, hi0, hz0, hz1, hz2⟩ := info_parts Tryd.info9'
  have HF := Lib.hid (And.intro hi0 (And.intro hz0 (And.intro hz1 hz2)))
  clear hb hT hkn hi0 hz0 hz1 hz2
  go_enter Tryd.func10, Tryd.ntmps10
  go_wp2_with fail
  refine (codeForB_any A B none k c k d 0 0 P D [] _ h0.out ⟨rfl, fun h => absurd h (by omega)⟩ hn hk (by omega)).mono ?_
  rw [HE.out]
  rintro e w1 ⟨rfl, b1⟩
  have R2 := Lib.hid (rowNil (w := w1) (t := 9) (s := 1) (base := w.heap.size + 1) (K0.out.on b1).lt)
  have bB := (Below.refl w1.heap.size w1).alloc (Nat.le_refl _) (.cells #[] 9)
  have C1 := Lib.hid (below_trans' (C0.out.trans (b1.mono C0.out.size)) bB)
  have K1 := Lib.hid ((K0.out.on b1).on bB)
  have k1 : 1 ≤ k := by omega
  clear b1 bB p0 p1 h0 C0 K0 HE
  go_wp2
  go_loopw [5, 6] (fun y i wr => ∃ (j q gg cap : Nat), 1 ≤ j ∧ j ≤ k ∧ Hid (j = q + 1) ∧ i = .int .i64 j ∧ y = .slice (some ⟨gg, 0, none⟩) q cap ∧ Hid (wr.ownsRow (w.heap.size + 1) 9 1 (.slice (some ⟨gg, 0, none⟩) q cap) q (strV (wordsA P D j))) ∧ Hid (Cell2 wr w.heap.size 27 (.slice A k c) (.slice B k d)) ∧ Hid (Below w.heap.size w wr)) (fun _ i _ => k - (intOf i).toNat)
  case atStart => exact ⟨1, 0, _, _, Nat.le_refl _, k1, Lib.hid rfl, rfl, rfl, R2, K1, C1⟩
  case round =>
    obtain ⟨j, q, gg, cap, hj1, hj, HJ, rfl, rfl, HR, HK, HB⟩ := hrel
    clear R2 K1 C1
    obtain ⟨p0, p1⟩ := HK.out.cells
    by_cases hlt : j < k
    · obtain ⟨pa, rfl, hpj⟩ := (H.out.on HB.out).par_at hlt
      obtain ⟨pb, rfl, hdj⟩ := (H.out.on HB.out).dor_at hlt
      obtain ⟨v0, v1⟩ := par_small HT.out (by rw [HL.out]; exact n24) hj1 (by rw [HL.out]; exact hlt)
      obtain ⟨V, hV⟩ : ∃ V : Nat, par P j = (V : Int) := ⟨(par P j).toNat, by omega⟩
      rw [hV] at hpj
      have HVV := Lib.hid hV
      have hV9 : V ≤ 99 := by omega
      have i0 : (0 : Int) ≤ (j : Int) := by omega
      have i1 : (j : Int) < (k : Int) := by omega
      have hq24 : q ≤ 24 := by have := HJ.out; omega
      have hwz : (wd (V : Int)).size ≤ 13 := by
        rw [size_of (wd_txt _), itoa_nat (by omega), Int.toNat_natCast]; exact digits_13 (by omega)
      obtain ⟨dd, hdd⟩ : ∃ dd, dor D j = dd := ⟨_, rfl⟩
      rw [hdd] at hdj
      have HD := Lib.hid hdd
      have hzd : ({ data := #[100] } : ByteArray).size ≤ 1 := Nat.le_refl 1
      have hzg : ({ data := #[103] } : ByteArray).size ≤ 1 := Nat.le_refl 1
      have hszw := HB.out.size
      have hlk := HK.out.lt
      clear hV hdd v0 v1
      cases dd
      · have hz2 : (wd (V : Int) ++ ({ data := #[103] } : ByteArray)).size ≤ 20 := by rw [size_add]; omega
        have HT2 : Hid ((wd (V : Int) ++ ({ data := #[103] } : ByteArray)).data.toList = wordB P D j) := Lib.hid (by
          rw [text_add, show (wd (V : Int)).data.toList = Lib.itoa (V : Int) from wd_txt _, itoa_nat (by omega)]
          unfold wordB kindB
          rw [HVV.out, HD.out]; rfl)
        have HW := Lib.hid (wordsA_succ P D hj1 HT2.out)
        go_wp2_with fail
        refine (fmt_any V (by omega) _ (tab_on HTB.out HB.out)).mono ?_
        rintro e w2 ⟨rfl, b2⟩
        have R2 := Lib.hid (rowBelow HR.out b2)
        have K2 := Lib.hid (HK.out.on b2)
        have B2 := Lib.hid (below_trans' HB.out b2)
        have HZV := Lib.hid (rowBase R2.out)
        have hsz2 := B2.out.size
        have hlk2 := K2.out.lt
        clear b2 HR HK HB p0 p1 hdj
        go_wp2_with (at_builtin; refine wpList_append_lies _ rfl _ _ 63 rfl (w.heap.size + 1) 9 ss _ 1 16 Tryd.underlying63 HF.out.1 HF.out.2.1 HF.out.2.2.1 HF.out.2.2.2 rfl (by omega) _ q _ rfl (rowBelow R2.out ((Below.refl _ _).alloc (Nat.le_refl _) _)) ⟨w2.heap.size, 0, none⟩ 1 1 [.string (wd (V : Int) ++ ({ data := #[103] } : ByteArray))] rfl rfl (World.news_of_block (cs := #[.string (wd (V : Int) ++ ({ data := #[103] } : ByteArray))]) (t := 9) (fr := (0, 0)) (heap_alloc_new w2 _)) (by simp [Value.oneCell']) (by omega) (by unfold maxLen; omega) (by omega) (by simp; omega) (w2.heap.size + 1) (by simp) ?_; intro gn capn w5 hown1 hgrow hat hlt3)
        have R5 : Hid (w5.ownsRow (w.heap.size + 1) 9 1 (.slice (some ⟨gn, 0, none⟩) (q + 1) capn) (q + 1) (strV (wordsA P D (j + 1)))) := Lib.hid (by rw [HW.out]; exact hown1)
        have K5 := Lib.hid ((K2.out.alloc (.cells #[.string (wd (V : Int) ++ ({ data := #[103] } : ByteArray))] 9)).grown hgrow (fun e => by have := HZV.out _ e.symm; omega))
        have B5 := Lib.hid ((B2.out.alloc B2.out.size (.cells #[.string (wd (V : Int) ++ ({ data := #[103] } : ByteArray))] 9)).grown hgrow (by simp; omega) (fun q e => by have := HZV.out q e; omega))
        clear hown1 hgrow hat hlt3 R2 K2 B2
        go_wp2
        go_roundw
        case rel => exact ⟨j + 1, q + 1, _, _, by omega, by omega, Lib.hid (by have := HJ.out; omega), by go_num, rfl, R5, K5, B5⟩
        case measure => simp [intOf]; omega
      · have hz2 : (wd (V : Int) ++ ({ data := #[100] } : ByteArray)).size ≤ 20 := by rw [size_add]; omega
        have HT2 : Hid ((wd (V : Int) ++ ({ data := #[100] } : ByteArray)).data.toList = wordB P D j) := Lib.hid (by
          rw [text_add, show (wd (V : Int)).data.toList = Lib.itoa (V : Int) from wd_txt _, itoa_nat (by omega)]
          unfold wordB kindB
          rw [HVV.out, HD.out]; rfl)
        have HW := Lib.hid (wordsA_succ P D hj1 HT2.out)
        go_wp2_with fail
        refine (fmt_any V (by omega) _ (tab_on HTB.out HB.out)).mono ?_
        rintro e w2 ⟨rfl, b2⟩
        have R2 := Lib.hid (rowBelow HR.out b2)
        have K2 := Lib.hid (HK.out.on b2)
        have B2 := Lib.hid (below_trans' HB.out b2)
        have HZV := Lib.hid (rowBase R2.out)
        have hsz2 := B2.out.size
        have hlk2 := K2.out.lt
        clear b2 HR HK HB p0 p1 hdj
        go_wp2_with (at_builtin; refine wpList_append_lies _ rfl _ _ 63 rfl (w.heap.size + 1) 9 ss _ 1 16 Tryd.underlying63 HF.out.1 HF.out.2.1 HF.out.2.2.1 HF.out.2.2.2 rfl (by omega) _ q _ rfl (rowBelow R2.out ((Below.refl _ _).alloc (Nat.le_refl _) _)) ⟨w2.heap.size, 0, none⟩ 1 1 [.string (wd (V : Int) ++ ({ data := #[100] } : ByteArray))] rfl rfl (World.news_of_block (cs := #[.string (wd (V : Int) ++ ({ data := #[100] } : ByteArray))]) (t := 9) (fr := (0, 0)) (heap_alloc_new w2 _)) (by simp [Value.oneCell']) (by omega) (by unfold maxLen; omega) (by omega) (by simp; omega) (w2.heap.size + 1) (by simp) ?_; intro gn capn w5 hown1 hgrow hat hlt3)
        have R5 : Hid (w5.ownsRow (w.heap.size + 1) 9 1 (.slice (some ⟨gn, 0, none⟩) (q + 1) capn) (q + 1) (strV (wordsA P D (j + 1)))) := Lib.hid (by rw [HW.out]; exact hown1)
        have K5 := Lib.hid ((K2.out.alloc (.cells #[.string (wd (V : Int) ++ ({ data := #[100] } : ByteArray))] 9)).grown hgrow (fun e => by have := HZV.out _ e.symm; omega))
        have B5 := Lib.hid ((B2.out.alloc B2.out.size (.cells #[.string (wd (V : Int) ++ ({ data := #[100] } : ByteArray))] 9)).grown hgrow (by simp; omega) (fun q e => by have := HZV.out q e; omega))
        clear hown1 hgrow hat hlt3 R2 K2 B2
        go_wp2
        go_roundw
        case rel => exact ⟨j + 1, q + 1, _, _, by omega, by omega, Lib.hid (by have := HJ.out; omega), by go_num, rfl, R5, K5, B5⟩
        case measure => simp [intOf]; omega
    · obtain rfl : j = k := by omega
      have HRL := Lib.hid (rowAt' HR.out)
      have hxl : (wordsA P D j).length = q := by rw [wordsA_len]; have := HJ.out; omega
      have HXL := Lib.hid hxl
      have HJL : Hid ((Lib.join ((wordsA P D j).map (·.data.toList)) [32]) = bldT P D j ∧ (bldT P D j).length ≤ 400) := Lib.hid (by
        have e : (wordsA P D j).map (·.data.toList) = wordsB P D j := wordsA_bytes P D j
        rw [e]
        exact ⟨rfl, by have := bldT_len (D := D) HS.out j (by omega) (Nat.le_refl _); omega⟩)
      have HJN := Lib.hid (Tryd.strings_Join gg 0 cap (wordsA P D j) ⟨#[32]⟩ wr (fun i x hx => by
        have := HR.out.cells (g := gg) rfl i (.string x) (by unfold strV; rw [List.getElem?_map, hx]; rfl)
        rw [show (⟨gg, 0, none⟩ : Addr).add i = ⟨gg, 0 + i, none⟩ by rcases i with _ | i <;> simp [Addr.add]] at this
        exact this) HRL.out.2.1 (by rw [hxl]; have := HJ.out; omega) (by rw [hxl]; exact HRL.out.2.2) (by
        have e : (⟨#[32]⟩ : ByteArray).data.toList = [32] := rfl
        rw [e, HJL.out.1]; have := HJL.out.2; omega))
      rw [hxl] at HJN
      clear hxl
      go_wp2_with fail
      refine HJN.out.mono ?_
      rintro e w2 ⟨rfl, b2⟩
      have B2 := Lib.hid (below_trans' HB.out b2)
      have e32 : (⟨#[32]⟩ : ByteArray).data.toList = [32] := rfl
      have HTX : Hid (Txt ⟨(Lib.join ((wordsA P D j).map (·.data.toList)) (⟨#[32]⟩ : ByteArray).data.toList).toArray⟩ (bldT P D j)) := Lib.hid (by unfold Txt; rw [e32, HJL.out.1])
      clear b2 HJN
      generalize (⟨(Lib.join ((wordsA P D j).map (·.data.toList)) (⟨#[32]⟩ : ByteArray).data.toList).toArray⟩ : ByteArray) = tt at HTX ⊢
      go_wp2
      go_ret2
      exact ⟨tt, rfl, HTX.out, by rw [size_of HTX.out]; exact HJL.out.2, B2.out⟩

end Go.Proofs.YtgbicepneonkfaaDoor
