/- Lists of the model's functions on plans: doors. -/
import Derived.Test.YtnadcjclihflcaaPlS
namespace Go.Proofs.Ytnadcjclihflcaa
open Go Go.RowKit

theorem filter_yes {p : Int → Bool} {L : List Int} {j : Nat} {v : Int} (hv : L[j]? = some v) (h : p v = true) : (L.take (j + 1)).filter p = (L.take j).filter p ++ [v] := by
  obtain ⟨hl, e⟩ := List.getElem?_eq_some_iff.1 hv
  rw [List.take_succ_eq_append_getElem hl, List.filter_append, e, List.filter_cons_of_pos h]; rfl
theorem filter_no {p : Int → Bool} {L : List Int} {j : Nat} {v : Int} (hv : L[j]? = some v) (h : p v = false) : (L.take (j + 1)).filter p = (L.take j).filter p := by
  obtain ⟨hl, e⟩ := List.getElem?_eq_some_iff.1 hv
  rw [List.take_succ_eq_append_getElem hl, List.filter_append, e, List.filter_cons_of_neg (by rw [h]; simp)]; simp
theorem filter_len (p : Int → Bool) (L : List Int) (j : Nat) : ((L.take j).filter p).length ≤ j := Nat.le_trans (List.length_filter_le _ _) (by rw [List.length_take]; omega)

set_option maxRecDepth 100000 in
set_option maxHeartbeats 2000000 in
theorem l10Doors_any (A B N : Option Addr) (n c k d r e1 : Nat) (P : List Int) (D : List Bool) (xs : List Int) (w : World) (h : Bld w A n B k P D) (hT : Tree P) (hkn : k = n) (n0 : 0 < n) (n24 : n ≤ 24) (hx : Ints w w.heap.size N r xs) (hr : r ≤ 1048576) (h0 : ∀ x ∈ xs, 0 ≤ x) :
    Calls Try.prog 94 #[.agg #[.slice A n c, .slice B k d], .slice N r e1] w (GivesOne w (amD D (anyU P xs) n)) := by
  have c0 := (Below.refl w.heap.size w).alloc (Nat.le_refl _) (.cells #[.slice A n c, .slice B k d] 27)
  have K0 := Lib.hid (Cell2.new w 27 (.slice A n c) (.slice B k d))
  have C0 := Lib.hid c0
  have H := Lib.hid h
  have X := Lib.hid hx
  have HT := Lib.hid hT
  have H0 := Lib.hid h0
  have HL := Lib.hid h.ps.len
  have HKN := Lib.hid hkn
  obtain ⟨ii, hi0, hz0, hz1, hz2⟩ := info_parts Try.info2'
  have HF := Lib.hid (And.intro hi0 (And.intro hz0 (And.intro hz1 hz2)))
  clear hi0 hz0 hz1 hz2
  obtain ⟨p0, p1⟩ := K0.out.cells
  clear c0 h hx hT h0 hkn
  go_enter Try.func94, Try.ntmps94
  go_wp2_with fail
  refine (l09Doors_any A B n c k d 0 P D _ (H.out.on C0.out) HT.out HKN.out n24 n0).mono ?_
  rintro e w2 ⟨A2, n2, c2, rfl, ho, h1, h2, h3, b2⟩
  have C2 := Lib.hid (below_trans' C0.out b2)
  have K2 := Lib.hid (K0.out.on b2)
  have D2 := Lib.hid ho.ints
  have L2 := Lib.hid ho.len
  have HLN : Hid (∀ x ∈ doorsTo P D 0 n, 0 ≤ x ∧ x < n) := Lib.hid (fun x hx => by
    obtain ⟨i, hi, rfl, _⟩ := doorsTo_mem.1 hx
    omega)
  have HFL : Hid ((doorsTo P D 0 n).filter (fun v => anyU P xs v.toNat) = amD D (anyU P xs) n) := Lib.hid (by
    have := doors_filter HT.out D (anyU P xs)
    rw [HL.out] at this
    rw [doorsTo_am]; exact this)
  have hn2 : n2 ≤ 24 := by rw [← L2.out]; exact Nat.le_trans (doorsTo_len _ _ _ _) n24
  have R2 := Lib.hid (rowNil (w := w2) (t := 2) (s := 1) (base := w2.heap.size) (Nat.le_refl _))
  have F2 := Lib.hid ((Below.refl w2.heap.size w2).alloc (Nat.le_refl _) (.cells #[] 2))
  clear b2 ho p0 p1 K0 C0
  generalize doorsTo P D 0 n = L at *
  go_wp2
  go_loopw [6, 7] (fun y x wr => ∃ (j s : Nat) (pv : Value), j ≤ n2 ∧ x = .int .i64 j ∧ y = pv ∧ s ≤ j ∧ Hid (((L.take j).filter (fun v => anyU P xs v.toNat)).length = s) ∧ Hid (wr.ownsRow w2.heap.size 2 1 pv s (intsV ((L.take j).filter (fun v => anyU P xs v.toNat)))) ∧ Hid (Below w2.heap.size w2 wr)) (fun _ x _ => n2 - (intOf x).toNat)
  case atStart => exact ⟨0, 0, _, Nat.zero_le _, rfl, rfl, Nat.le_refl _, Lib.hid rfl, R2, F2⟩
  case round =>
    obtain ⟨j, s, pv, hj, rfl, rfl, hs, HQ, HR, HF2⟩ := hrel
    clear R2 F2
    obtain ⟨A1, c1, rfl, _, _, _⟩ := rowInts HR.out HQ.out
    have KK := Lib.hid (K2.out.on HF2.out)
    obtain ⟨p0, p1⟩ := KK.out.cells
    by_cases hlt : j < n2
    · obtain ⟨ad, v, rfl, hab, hv, hc⟩ := (D2.out.on HF2.out).at_ hlt
      have HV := Lib.hid hv
      have HVR : Hid (0 ≤ v ∧ v < n) := Lib.hid (HLN.out v (List.mem_of_getElem? hv))
      obtain ⟨G, rfl⟩ := Int.eq_ofNat_of_zero_le HVR.out.1
      have hG : G < n := by have := HVR.out.2; omega
      have HC := Lib.hid hc
      have HAB := Lib.hid hab
      have CC := Lib.hid (below_trans' C2.out HF2.out)
      have i0 : (0 : Int) ≤ (j : Int) := by omega
      have i1 : (j : Int) < (n2 : Int) := by omega
      clear hv hab
      rcases hu : anyU P xs G with _ | _
      · have HU := Lib.hid hu
        have HN : Hid ((L.take (j + 1)).filter (fun v => anyU P xs v.toNat) = (L.take j).filter (fun v => anyU P xs v.toNat)) := Lib.hid (filter_no HV.out hu)
        clear hu
        go_wp2
        go_region_held3 (fun w' => w'.cell? ⟨w.heap.size, 0, none⟩ = some (.slice A n c) ∧ w'.cell? ⟨w.heap.size, 1, none⟩ = some (.slice B k d) ∧ w'.cell? (ad.add j) = some (.int .i64 (G : Int)))
          (first
            | go_keep
            | (with_reducible exact E1.out))
          (first | (go_at_call 92; refine (l10May_any A B N n c k d r e1 G P D xs _ (H.out.on (below_drewN CC.out 1)) HT.out (X.out.on (below_drewN CC.out 1)) (by omega) hr hG H0.out).mono ?_; rw [HU.out]; rintro e w3 ⟨rfl, b3⟩; have bb := below_trans' (below_drewN (Below.refl _ _) 1) b3; have F3 := Lib.hid (below_trans' HF2.out bb); have E1 := Lib.hid (And.intro (KK.out.on bb).cells.1 (And.intro (KK.out.on bb).cells.2 ((bb.cell (by rw [block_of_add]; exact HAB.out)).trans HC.out)))))
        all_goals
          have R3 := Lib.hid (rowBelow HR.out bb)
          clear p0 p1 hc
          go_wp2
          go_roundw
          case rel => exact ⟨j + 1, s, _, by omega, by go_num, rfl, by omega, Lib.hid (by rw [HN.out]; exact HQ.out), Lib.hid (by rw [HN.out]; exact R3.out), F3⟩
          case measure => simp [intOf]; omega
      · have HU := Lib.hid hu
        have HN : Hid ((L.take (j + 1)).filter (fun v => anyU P xs v.toNat) = (L.take j).filter (fun v => anyU P xs v.toNat) ++ [(G : Int)]) := Lib.hid (filter_yes HV.out hu)
        clear hu
        go_wp2
        go_region_held3 (fun w' => w'.cell? ⟨w.heap.size, 0, none⟩ = some (.slice A n c) ∧ w'.cell? ⟨w.heap.size, 1, none⟩ = some (.slice B k d) ∧ w'.cell? (ad.add j) = some (.int .i64 (G : Int)))
          (first
            | go_keep
            | (with_reducible exact E1.out))
          (first | (go_at_call 92; refine (l10May_any A B N n c k d r e1 G P D xs _ (H.out.on (below_drewN CC.out 1)) HT.out (X.out.on (below_drewN CC.out 1)) (by omega) hr hG H0.out).mono ?_; rw [HU.out]; rintro e w3 ⟨rfl, b3⟩; have bb := below_trans' (below_drewN (Below.refl _ _) 1) b3; have F3 := Lib.hid (below_trans' HF2.out bb); have E1 := Lib.hid (And.intro (KK.out.on bb).cells.1 (And.intro (KK.out.on bb).cells.2 ((bb.cell (by rw [block_of_add]; exact HAB.out)).trans HC.out)))))
        all_goals
          have R3 := Lib.hid (rowBelow HR.out bb)
          have hc3 := E1.out.2.2
          clear p0 p1 hc
          have hszw := F3.out.size
          have HZV := Lib.hid (rowBase R3.out)
          go_wp2_with (at_builtin; refine wpList_append_lies _ rfl _ _ 24 rfl w2.heap.size 2 ii _ 1 8 Try.underlying24 HF.out.1 HF.out.2.1 HF.out.2.2.1 HF.out.2.2.2 rfl (by omega) _ s _ rfl (rowBelow R3.out ((Below.refl _ _).alloc (Nat.le_refl _) _)) ⟨w3.heap.size, 0, none⟩ 1 1 [.int .i64 (G : Int)] rfl rfl (World.news_of_block (cs := #[.int .i64 (G : Int)]) (t := 2) (fr := (0, 0)) (heap_alloc_new w3 _)) (by simp [Value.oneCell']) (by omega) (by unfold maxLen; omega) (by omega) (by simp; omega) (w3.heap.size + 1) (by simp) ?_; intro gg cap w5 hown1 hgrow hat hlt3)
          have R5 : Hid (w5.ownsRow w2.heap.size 2 1 (.slice (some ⟨gg, 0, none⟩) (s + 1) cap) (s + 1) (intsV ((L.take (j + 1)).filter (fun v => anyU P xs v.toNat)))) := Lib.hid (by rw [HN.out, ← intsV_snoc]; exact hown1)
          have Q5 : Hid (((L.take (j + 1)).filter (fun v => anyU P xs v.toNat)).length = s + 1) := Lib.hid (by rw [HN.out, List.length_append, HQ.out]; rfl)
          have F5 := Lib.hid ((F3.out.alloc F3.out.size (.cells #[.int .i64 (G : Int)] 2)).grown hgrow (by simp; omega) (fun q e => by have := HZV.out q e; omega))
          clear hown1 hgrow hat hlt3
          go_wp2
          go_roundw
          case rel => exact ⟨j + 1, s + 1, _, by omega, by go_num, rfl, by omega, Q5, R5, F5⟩
          case measure => simp [intOf]; omega
    · obtain rfl : j = n2 := by omega
      obtain ⟨A3, c3, e, ho, h1', h2'⟩ := rowInts HR.out HQ.out
      injection e with e1' e2' e3'
      subst e1'; subst e3'
      have HE : Hid ((L.take j).filter (fun v => anyU P xs v.toNat) = amD D (anyU P xs) n) := Lib.hid (by rw [List.take_of_length_le (by have := L2.out; omega)]; exact HFL.out)
      rw [HE.out] at ho
      have HO := Lib.hid (ho.more (show w.heap.size ≤ w2.heap.size from C2.out.size) (Nat.le_refl _) (Nat.le_refl _))
      have q1 : s ≤ 1048576 := by omega
      have CC := Lib.hid (below_trans' C2.out HF2.out)
      clear ho
      go_wp2
      go_ret
      exact ⟨_, s, _, rfl, HO.out, q1, h1', h2', CC.out⟩

end Go.Proofs.Ytnadcjclihflcaa
