/- The model's AccessOf. -/
import Derived.Test.YtnadcjclihflcaaPlU
namespace Go.Proofs.Ytnadcjclihflcaa
open Go Go.RowKit

/-- the numbers of the first t doors -/
def acTo (P ys L : List Int) (t : Nat) : List Int := (L.take t).map fun d => if anyU P ys d.toNat then 1 else 0
theorem acTo_step {P ys L : List Int} {t G : Nat} {b : Bool} (hv : L[t]? = some (G : Int)) (h : anyU P ys G = b) : acTo P ys L (t + 1) = acTo P ys L t ++ [if b then 1 else 0] := by
  unfold acTo
  obtain ⟨hl, e⟩ := List.getElem?_eq_some_iff.1 hv
  rw [List.take_succ_eq_append_getElem hl, List.map_append, e, ← h]
  rfl

set_option maxRecDepth 100000 in
set_option maxHeartbeats 4000000 in
theorem l10Access_any (A B V : Option Addr) (n c k d q e0 : Nat) (P : List Int) (D : List Bool) (R : List (List Int)) (w : World) (h : Pl w A n B k V q P D R) (hn : n ≤ 1048576) (hq : q + sizeL R ≤ 1048576) (hp : planB P D R = true) :
    Calls Try.prog 86 #[.agg #[.slice A n c, .slice B k d, .slice V q e0]] w (GivesRag w (R.map (acRow P D))) := by
  have c0 := (Below.refl w.heap.size w).alloc (Nat.le_refl _) (.cells #[.slice A n c, .slice B k d, .slice V q e0] 30)
  have h0 := Lib.hid (h.on c0)
  have C0 := Lib.hid c0
  have K0 := Lib.hid (Cell3.new w 30 (.slice A n c) (.slice B k d) (.slice V q e0))
  have H := Lib.hid h
  have HP := Lib.hid h.b.ps.len
  have HR := Lib.hid h.r.len
  have HQ := Lib.hid hq
  obtain ⟨p0, p1, p2⟩ := K0.out.cells
  clear c0 h
  obtain ⟨ii, hi0, hz0, hz1, hz2⟩ := info_parts Try.info2'
  have HF := Lib.hid (And.intro hi0 (And.intro hz0 (And.intro hz1 hz2)))
  clear hi0 hz0 hz1 hz2
  obtain ⟨jj, hj0, hy0, hy1, hy2⟩ := info_parts Try.info24'
  have HG2 := Lib.hid (And.intro hj0 (And.intro hy0 (And.intro hy1 hy2)))
  clear hj0 hy0 hy1 hy2
  obtain ⟨hT, n2, n24, hkn, q1', q10, hrig, hr⟩ := plan_facts H.out hp
  have HT := Lib.hid hT
  have HKN := Lib.hid hkn
  have HRR := Lib.hid hr
  have HNE : Hid (0 < (doorsTo P D 0 n).length) := Lib.hid (by have := doors_some (planB_true hp).1; rw [HP.out] at this; exact this)
  have HRW : Hid (∀ ys, acRow P D ys = (doorsTo P D 0 n).map fun d => if anyU P ys d.toNat then 1 else 0) := Lib.hid (fun ys => by unfold acRow; rw [HP.out]; rfl)
  clear hp hT hkn hr hrig
  go_enter Try.func86, Try.ntmps86
  go_wp2_with fail
  refine (l09Doors_any A B n c k d 0 P D _ h0.out.b HT.out HKN.out n24 (by omega)).mono ?_
  rintro e w2 ⟨A3, n3, c3, rfl, ho, h1, h2, h3, b2⟩
  have C2 := Lib.hid (below_trans' C0.out b2)
  have K2 := Lib.hid (K0.out.on b2)
  have D2 := Lib.hid ho.ints
  have L2 := Lib.hid ho.len
  have HLN : Hid (∀ x ∈ doorsTo P D 0 n, 0 ≤ x ∧ x < n) := Lib.hid (fun x hx => by
    obtain ⟨i, hi, rfl, _⟩ := doorsTo_mem.1 hx
    omega)
  have hn3 : n3 ≤ 24 := by rw [← L2.out]; exact Nat.le_trans (doorsTo_len _ _ _ _) n24
  have hn0 : 0 < n3 := by rw [← L2.out]; exact HNE.out
  have PP := Lib.hid (Pile.none_ (p := n3) (rowNil (w := w2) (t := 24) (s := 1) (base := w2.heap.size) (Nat.le_refl _)))
  have F2 := Lib.hid ((Below.refl w2.heap.size w2).alloc (Nat.le_refl _) (.cells #[] 24))
  clear b2 ho p0 p1 p2 K0 C0 h0
  generalize doorsTo P D 0 n = L at *
  go_wp2
  go_loopw [4, 5] (fun y x wr => ∃ (j : Nat) (Vr : Option Addr) (cr : Nat) (gs : List (Addr × Nat)), j ≤ q ∧ x = .int .i64 j ∧ y = .slice Vr j cr ∧ Hid (Pile wr w2.heap.size (.slice Vr j cr) j n3 gs ((R.take j).map (acRow P D))) ∧ Hid (Below w2.heap.size w2 wr)) (fun _ x _ => q - (intOf x).toNat)
  case atStart => exact ⟨0, _, _, [], Nat.zero_le _, rfl, rfl, PP, F2⟩
  case round =>
    obtain ⟨j, Vr, cr, gs, hj, rfl, rfl, HPL, HF2⟩ := hrel
    clear PP F2
    obtain ⟨W0, rfl⟩ : ∃ W0, W0 = wr := ⟨_, rfl⟩
    have KK := Lib.hid (K2.out.on HF2.out)
    have CC := Lib.hid (below_trans' C2.out HF2.out)
    obtain ⟨p0, p1, p2⟩ := KK.out.cells
    by_cases hlt : j < q
    · obtain ⟨ad, ys, A2, q2', c2, rfl, hab, hy, hc, hi, _, _⟩ := (H.out.on CC.out).r.at_ hlt
      have HG : Hid (R.getD j [] = ys) := Lib.hid (getD_list hy)
      have HYJ : Hid (R[j]? = some ys) := Lib.hid hy
      have HI := Lib.hid hi
      have HCC := Lib.hid hc
      have HAB := Lib.hid hab
      have HY0 : Hid (∀ x ∈ ys, 0 ≤ x) := Lib.hid (fun x hx => (HRR.out j hlt x (by rw [getD_list hy]; exact hx)).1)
      have hq2 : q2' ≤ 1048576 := by have := fits_at HQ.out hy; have := hi.len; omega
      have i0 : (0 : Int) ≤ (j : Int) := by omega
      have i1 : (j : Int) < (q : Int) := by omega
      clear hy hi hab
      have RI := Lib.hid (rowNil (w := W0) (t := 2) (s := 1) (base := W0.heap.size) (Nat.le_refl _))
      have B0 := Lib.hid ((Below.refl W0.heap.size W0).alloc (Nat.le_refl _) (.cells #[] 2))
      have hzw : w2.heap.size ≤ W0.heap.size := HF2.out.size
      go_wp2
      clear p0 p1 p2 hc
      go_loopw [6, 7] (fun y x wi => ∃ (t : Nat) (pv : Value), t ≤ n3 ∧ x = .int .i64 t ∧ y = pv ∧ Hid ((acTo P ys L t).length = t) ∧ Hid (wi.ownsRow W0.heap.size 2 1 pv t (intsV (acTo P ys L t))) ∧ Hid (Below W0.heap.size W0 wi)) (fun _ x _ => n3 - (intOf x).toNat)
      case atStart => exact ⟨0, _, Nat.zero_le _, rfl, rfl, Lib.hid rfl, RI, B0⟩
      case round =>
        obtain ⟨t, pv, ht, rfl, rfl, HQ2, HR2, HBI⟩ := hrel
        clear B0 RI
        obtain ⟨A1, c1, rfl, _, _, _⟩ := rowInts HR2.out HQ2.out
        have FI := Lib.hid (below_trans' HF2.out HBI.out)
        have CI := Lib.hid (below_trans' C2.out FI.out)
        have KI := Lib.hid (K2.out.on FI.out)
        obtain ⟨p0, p1, p2⟩ := KI.out.cells
        by_cases hlt2 : t < n3
        · obtain ⟨bd, v, rfl, hdb, hv, hdc⟩ := (D2.out.on FI.out).at_ hlt2
          have HV := Lib.hid hv
          have HVR : Hid (0 ≤ v ∧ v < n) := Lib.hid (HLN.out v (List.mem_of_getElem? hv))
          obtain ⟨G, rfl⟩ := Int.eq_ofNat_of_zero_le HVR.out.1
          have hG : G < n := by have := HVR.out.2; omega
          have HDB := Lib.hid hdb
          have HDC := Lib.hid hdc
          have HCI := Lib.hid ((HBI.out.cell (by rw [block_of_add]; exact HAB.out)).trans HCC.out)
          have hci := HCI.out
          have i6 : (0 : Int) ≤ (t : Int) := by omega
          have i7 : (t : Int) < (n3 : Int) := by omega
          clear hv hdb
          rcases hu : anyU P ys G with _ | _
          · have HU := Lib.hid hu
            have HN := Lib.hid (acTo_step HV.out hu)
            clear hu
            go_wp2
            go_region_held3 (fun w' => w'.cell? ⟨w.heap.size, 0, none⟩ = some (.slice A n c) ∧ w'.cell? ⟨w.heap.size, 1, none⟩ = some (.slice B k d) ∧ w'.cell? ⟨w.heap.size, 2, none⟩ = some (.slice (some ad) q e0) ∧ w'.cell? (ad.add j) = some (.slice A2 q2' c2) ∧ w'.cell? (bd.add t) = some (.int .i64 ((G : Nat) : Int)))
              (first
                | go_keep
                | (with_reducible exact E1.out))
              (first | (go_at_call 92; refine (l10May_any A B A2 n c k d q2' c2 G P D ys _ (H.out.on (below_drewN CI.out 1)).b HT.out (ints_drewN (HI.out.on HBI.out) 1) hn hq2 hG HY0.out).mono ?_; rw [HU.out]; rintro e w4 ⟨rfl, b4⟩; have bb := below_trans' (below_drewN (Below.refl _ _) 1) b4; have B3 := Lib.hid (below_trans' HBI.out bb); have E1 := Lib.hid (And.intro (KI.out.on bb).cells.1 (And.intro (KI.out.on bb).cells.2.1 (And.intro (KI.out.on bb).cells.2.2 (And.intro ((bb.cell (by rw [block_of_add]; have := HAB.out; have := HBI.out.size; omega)).trans HCI.out) ((bb.cell (by rw [block_of_add]; exact HDB.out)).trans HDC.out)))))))
            all_goals
              have R3 := Lib.hid (rowBelow HR2.out bb)
              clear p0 p1 p2 hdc hci
              have hszw := B3.out.size
              have HZV := Lib.hid (rowBase R3.out)
              go_wp2_with (at_builtin; refine wpList_append_lies _ rfl _ _ 24 rfl W0.heap.size 2 ii _ 1 8 Try.underlying24 HF.out.1 HF.out.2.1 HF.out.2.2.1 HF.out.2.2.2 rfl (by omega) _ t _ rfl (rowBelow R3.out ((Below.refl _ _).alloc (Nat.le_refl _) _)) ⟨w4.heap.size, 0, none⟩ 1 1 [.int .i64 (0)] rfl rfl (World.news_of_block (cs := #[.int .i64 (0)]) (t := 2) (fr := (0, 0)) (heap_alloc_new w4 _)) (by simp [Value.oneCell']) (by omega) (by unfold maxLen; omega) (by omega) (by simp; omega) (w4.heap.size + 1) (by simp) ?_; intro gg cap w5 hown1 hgrow hat hlt3)
              have R5 : Hid (w5.ownsRow W0.heap.size 2 1 (.slice (some ⟨gg, 0, none⟩) (t + 1) cap) (t + 1) (intsV (acTo P ys L (t + 1)))) := Lib.hid (by rw [HN.out, ← intsV_snoc]; exact hown1)
              have Q5 : Hid ((acTo P ys L (t + 1)).length = t + 1) := Lib.hid (by rw [HN.out, List.length_append, HQ2.out]; rfl)
              have F5 := Lib.hid ((B3.out.alloc B3.out.size (.cells #[.int .i64 (0)] 2)).grown hgrow (by simp; omega) (fun q e => by have := HZV.out q e; omega))
              clear hown1 hgrow hat hlt3
              have F6 := Lib.hid F5.out
              go_wp2
              go_roundw
              case rel => exact ⟨t + 1, _, by omega, by go_num, rfl, Q5, R5, F6⟩
              case measure => simp [intOf]; omega
          · have HU := Lib.hid hu
            have HN := Lib.hid (acTo_step HV.out hu)
            clear hu
            go_wp2
            go_region_held3 (fun w' => w'.cell? ⟨w.heap.size, 0, none⟩ = some (.slice A n c) ∧ w'.cell? ⟨w.heap.size, 1, none⟩ = some (.slice B k d) ∧ w'.cell? ⟨w.heap.size, 2, none⟩ = some (.slice (some ad) q e0) ∧ w'.cell? (ad.add j) = some (.slice A2 q2' c2) ∧ w'.cell? (bd.add t) = some (.int .i64 ((G : Nat) : Int)))
              (first
                | go_keep
                | (with_reducible exact E1.out))
              (first | (go_at_call 92; refine (l10May_any A B A2 n c k d q2' c2 G P D ys _ (H.out.on (below_drewN CI.out 1)).b HT.out (ints_drewN (HI.out.on HBI.out) 1) hn hq2 hG HY0.out).mono ?_; rw [HU.out]; rintro e w4 ⟨rfl, b4⟩; have bb := below_trans' (below_drewN (Below.refl _ _) 1) b4; have B3 := Lib.hid (below_trans' HBI.out bb); have E1 := Lib.hid (And.intro (KI.out.on bb).cells.1 (And.intro (KI.out.on bb).cells.2.1 (And.intro (KI.out.on bb).cells.2.2 (And.intro ((bb.cell (by rw [block_of_add]; have := HAB.out; have := HBI.out.size; omega)).trans HCI.out) ((bb.cell (by rw [block_of_add]; exact HDB.out)).trans HDC.out)))))))
            all_goals
              have R3 := Lib.hid (rowBelow HR2.out bb)
              clear p0 p1 p2 hdc hci
              have hszw := B3.out.size
              have HZV := Lib.hid (rowBase R3.out)
              go_wp2_with (at_builtin; refine wpList_append_lies _ rfl _ _ 24 rfl W0.heap.size 2 ii _ 1 8 Try.underlying24 HF.out.1 HF.out.2.1 HF.out.2.2.1 HF.out.2.2.2 rfl (by omega) _ t _ rfl (rowBelow R3.out ((Below.refl _ _).alloc (Nat.le_refl _) _)) ⟨w4.heap.size, 0, none⟩ 1 1 [.int .i64 (1)] rfl rfl (World.news_of_block (cs := #[.int .i64 (1)]) (t := 2) (fr := (0, 0)) (heap_alloc_new w4 _)) (by simp [Value.oneCell']) (by omega) (by unfold maxLen; omega) (by omega) (by simp; omega) (w4.heap.size + 1) (by simp) ?_; intro gg cap w5 hown1 hgrow hat hlt3)
              have R5 : Hid (w5.ownsRow W0.heap.size 2 1 (.slice (some ⟨gg, 0, none⟩) (t + 1) cap) (t + 1) (intsV (acTo P ys L (t + 1)))) := Lib.hid (by rw [HN.out, ← intsV_snoc]; exact hown1)
              have Q5 : Hid ((acTo P ys L (t + 1)).length = t + 1) := Lib.hid (by rw [HN.out, List.length_append, HQ2.out]; rfl)
              have F5 := Lib.hid ((B3.out.alloc B3.out.size (.cells #[.int .i64 (1)] 2)).grown hgrow (by simp; omega) (fun q e => by have := HZV.out q e; omega))
              clear hown1 hgrow hat hlt3
              have F6 := Lib.hid F5.out
              go_wp2
              go_roundw
              case rel => exact ⟨t + 1, _, by omega, by go_num, rfl, Q5, R5, F6⟩
              case measure => simp [intOf]; omega
        · obtain rfl : t = n3 := by omega
          have hAE : acTo P ys L t = acRow P D ys := by rw [HRW.out]; unfold acTo; rw [List.take_of_length_le (by have := L2.out; omega)]
          obtain ⟨A5, c5, e, OR, hcc1, hcc2⟩ := rowInts HR2.out HQ2.out
          injection e with e1 e2 e3
          subst e1; subst e3
          rw [hAE] at OR
          obtain ⟨bd, _, rfl, hlo, hhi, _⟩ := OR.at_ hn0
          have HS := Lib.hid (OR.self hn0).1
          have P7 := Lib.hid (HPL.out.on HBI.out)
          have HVA : Hid ((Value.slice Vr j cr).ownBlock ≠ some bd.block) := Lib.hid (fun e => by
            have := Pile.own_lt HPL.out _ e; omega)
          have HDA : Hid (∀ b ∈ gs, b.1.block ≠ bd.block) := Lib.hid (fun b hb e => by
            have := Pile.each_lt HPL.out b hb; omega)
          have HLO : Hid (w2.heap.size ≤ bd.block) := Lib.hid (by omega)
          have HFS := Lib.hid FI.out.size
          clear OR hlo hhi p0 p1 p2
          go_wp2_with (at_builtin; refine wpList_append_lies _ rfl _ _ 28 rfl w2.heap.size 24 jj _ 1 24 Try.underlying28 HG2.out.1 HG2.out.2.1 HG2.out.2.2.1 HG2.out.2.2.2 rfl (by omega) _ j _ rfl (P7.out.row.alloc _) ⟨wr.heap.size, 0, none⟩ 1 1 [.slice (some bd) t c1] rfl rfl (World.news_of_block (cs := #[.slice (some bd) t c1]) (t := 24) (fr := (0, 0)) (heap_alloc_new wr _)) (slice_one _ _ _) (by omega) (by unfold maxLen; omega) (by omega) (by simp; have := HFS.out; omega) (wr.heap.size + 1) (by simp) ?_; intro gg cap w8 hown1 hgrow hat hlt3)
          have P8 : Hid (Pile w8 w2.heap.size (.slice (some ⟨gg, 0, none⟩) (j + 1) cap) (j + 1) t (gs ++ [(bd, c1)]) ((R.take (j + 1)).map (acRow P D))) := Lib.hid (by
            obtain ⟨hl, e⟩ := List.getElem?_eq_some_iff.1 HYJ.out
            rw [List.take_succ_eq_append_getElem hl, List.map_append, e]
            exact P7.out.push HS.out HLO.out HVA.out hcc1 hcc2 HDA.out hown1 hgrow hat)
          have F8 := Lib.hid ((FI.out.alloc FI.out.size (.cells #[.slice (some bd) t c1] 24)).grown hgrow (by simp; have := FI.out.size; omega) (fun q e => by have := rowBase P7.out.row q e; omega))
          clear hown1 hgrow hat hlt3
          go_wp2
          go_roundw
          case rel => exact ⟨j + 1, _, _, _, by omega, by go_num, rfl, P8, F8⟩
          case measure => simp [intOf]; omega
    · obtain rfl : j = q := by omega
      have HPM : Hid ((R.take j).map (acRow P D) = R.map (acRow P D)) := Lib.hid (by rw [List.take_of_length_le (by rw [HR.out]; exact Nat.le_refl _)])
      have hcaps := HPL.out.capsP
      have hzz := HF2.out.size
      have hC2 := C2.out.size
      go_wp2
      go_ret
      have HRG := (HPL.out.rag (by omega)).more hC2
      rw [HPM.out] at HRG
      exact ⟨_, _, _, _, rfl, HRG, hcaps.1, hcaps.2, CC.out⟩

set_option maxRecDepth 100000 in
set_option maxHeartbeats 2000000 in
theorem specAccessOf_any (A B V : Option Addr) (n c k d q e0 : Nat) (P : List Int) (D : List Bool) (R : List (List Int)) (w : World) (h : Pl w A n B k V q P D R) (hn : n ≤ 1048576) (hk : k ≤ 1048576) (hq : q + sizeL R ≤ 1048576) :
    Calls Try.prog 22 #[.agg #[.slice A n c, .slice B k d, .slice V q e0]] w (GivesRagE w (pE P D R) (acL P D R)) := by
  have c0 := (Below.refl w.heap.size w).alloc (Nat.le_refl _) (.cells #[.slice A n c, .slice B k d, .slice V q e0] 30)
  have h0 := Lib.hid (h.on c0)
  have C0 := Lib.hid c0
  have K0 := Lib.hid (Cell3.new w 30 (.slice A n c) (.slice B k d) (.slice V q e0))
  have H := Lib.hid h
  have HP := Lib.hid h.b.ps.len
  have HR := Lib.hid h.r.len
  have HQ := Lib.hid hq
  obtain ⟨p0, p1, p2⟩ := K0.out.cells
  clear c0 h
  obtain ⟨z, hz⟩ : ∃ z, pE P D R = z := ⟨_, rfl⟩
  have HZ := Lib.hid hz
  by_cases hz0 : z = 0
  rotate_left
  · have HD := Lib.hid (ac_bad hz hz0)
    have HPB := Lib.hid (pE_not hz hz0)
    rw [hz, HD.out]
    clear hz hz0
    go_enter Try.func22, Try.ntmps22
    go_wp2_with fail
    refine (specIsPlan_any A B V n c k d q e0 P D R _ h0.out hn hk HQ.out).mono ?_
    rw [HPB.out.1]
    rintro e w1 ⟨rfl, b1⟩
    have C1 := Lib.hid (below_trans' C0.out b1)
    clear b1 p0 p1 p2
    go_wp2
    go_ret2
    exact ⟨none, 0, 0, [], by rw [HPB.out.2]; rfl, Rag.nil _ C1.out.size, by omega, by omega, C1.out⟩
  subst hz0
  have hp := pE_zero hz
  obtain ⟨hT, n2, n24, hkn, q1', q10, hrig, hr⟩ := plan_facts H.out hp
  have HT := Lib.hid hT
  have HKN := Lib.hid hkn
  have HRR := Lib.hid hr
  have HRG := Lib.hid hrig
  have HPL := Lib.hid hp
  have HPE := Lib.hid hz
  clear hz hp hT hkn hr hrig
  have HD : Hid (acL P D R = R.map (acRow P D)) := Lib.hid (by unfold acL; rw [HPL.out]; rfl)
  go_enter Try.func22, Try.ntmps22
  go_wp2_with fail
  refine (specIsPlan_any A B V n c k d q e0 P D R _ h0.out hn hk HQ.out).mono ?_
  rw [HPL.out]
  rintro e w1 ⟨rfl, b1⟩
  have C1 := Lib.hid (below_trans' C0.out b1)
  have K1 := Lib.hid (K0.out.on b1)
  clear b1 p0 p1 p2 K0 h0 C0
  obtain ⟨p0, p1, p2⟩ := K1.out.cells
  go_wp2_with fail
  refine (l10Access_any A B V n c k d q e0 P D R _ (H.out.on C1.out) hn HQ.out HPL.out).mono ?_
  rintro e w2 ⟨V2, n5, c5, gs, rfl, hrag, hc1, hc2, b2⟩
  have C2 := Lib.hid (below_trans' C1.out b2)
  have HO := Lib.hid (hrag.more C1.out.size)
  clear b2 hrag p0 p1 p2
  go_wp2
  go_ret2
  exact ⟨_, _, _, _, by rw [HPE.out]; rfl, by rw [HD.out]; exact HO.out, hc1, hc2, C2.out⟩

end Go.Proofs.Ytnadcjclihflcaa
