/- The model's LeastKeysFor: the walk. -/
import Derived.Test.YtidjnnooeepklaaTabG
namespace Go.Proofs.Ytidjnnooeepklaa
open Go Go.RowKit

theorem lis_all {n u : Nat} : ∀ x ∈ lisU n u, x ∈ lisU n (2 ^ n - 1) := by
  intro x hx
  unfold lisU whereL at *
  obtain ⟨y, hy, rfl⟩ := List.mem_map.1 hx
  have hy1 := (List.mem_filter.1 hy).1
  have hy2 := List.mem_range.1 hy1
  refine List.mem_map.2 ⟨y, List.mem_filter.2 ⟨hy1, ?_⟩, rfl⟩
  rw [Nat.testBit_two_pow_sub_one]
  simp; omega
theorem lk_mono {T : List (List Int)} {ds : List Int} {u : Nat} (h : lkP T ds u = true) : lkP T ds (2 ^ T.length - 1) = true := by
  unfold lkP opB at *
  rw [List.all_eq_true] at *
  intro d hd
  have h1 := h d hd
  rw [List.any_eq_true] at *
  obtain ⟨k, hk, hv⟩ := h1
  exact ⟨k, lis_all k hk, hv⟩
theorem chs_has {n u : Nat} (hn : n < 11) (hu : u < 2 ^ n) : popU n u < n + 1 ∧ ∃ i : Nat, (chs n (popU n u))[i]? = some (lisU n u) := by
  have hk : popU n u < n + 1 := by
    unfold popU
    exact Nat.lt_succ_of_le (Nat.le_trans (List.length_filter_le _ _) (by simp))
  refine ⟨hk, ?_⟩
  have hm : u ∈ (descU n).filter fun v => popU n v == popU n u := List.mem_filter.2 ⟨List.mem_reverse.2 (List.mem_range.2 hu), by simp⟩
  obtain ⟨i, hi⟩ := List.getElem?_of_mem hm
  exact ⟨i, by rw [chs_desc n hn _ hk, List.getElem?_map, hi]; rfl⟩
theorem riseB_in2 {m : Int} {ds : List Int} (h : riseB m ds = true) : ∀ d ∈ ds, 0 ≤ d ∧ d < m := by
  intro d hd
  obtain ⟨k, hk, e⟩ := List.getElem_of_mem hd
  unfold riseB at h
  have h1 := List.all_eq_true.1 h k (List.mem_range.2 hk)
  unfold stepB at h1
  have hg : ds.getD k 0 = d := by rw [List.getD_eq_getElem?_getD, List.getElem?_eq_getElem hk, e]; rfl
  rw [hg] at h1
  simp at h1
  exact ⟨h1.1.1, h1.1.2⟩
def GivesListI (w : World) (code : Int) (xs : List Int) (e : Ending) (w' : World) : Prop :=
  ∃ A n c, e = .returned (.tuple #[.slice A n c, .int .i64 code]) ∧ Ints w' w'.heap.size A n xs ∧ n ≤ 1048576 ∧ Below w.heap.size w w'
theorem GivesListI.nil {w w' : World} {e : Ending} {code : Int} (he : e = .returned (.tuple #[.slice none 0 0, .int .i64 code])) (hb : Below w.heap.size w w') : GivesListI w code [] e w' := ⟨none, 0, 0, he, ⟨rfl, fun h => absurd h (by omega)⟩, by omega, hb⟩

set_option maxRecDepth 100000 in
set_option maxHeartbeats 4000000 in
theorem specLeastKeysFor_any (V : Option Addr) (n c : Nat) (T : List (List Int)) (A : Option Addr) (q cc : Nat) (ds : List Int) (w : World) (h : Sets w w.heap.size V n T) (hn : n + sizeL T ≤ 1048576) (hx : Ints w w.heap.size A q ds) (hq : q ≤ 1048576) :
    Calls Try.prog 49 #[.slice V n c, .slice A q cc] w (GivesListI w (lkE T ds) (lkL T ds)) := by
  have HL := Lib.hid h.len
  have HN := Lib.hid hn
  have H := Lib.hid h
  have X := Lib.hid hx
  have hn1 : n ≤ 1048576 := by omega
  clear h hn hx
  rcases hb : tabB T with _ | _
  · have HV : Hid (lkL T ds = [] ∧ lkE T ds = 1) := Lib.hid (by
      have e : lkE T ds = 1 := by unfold lkE; rw [hb]; rfl
      exact ⟨by unfold lkL; rw [e]; rfl, e⟩)
    rw [HV.out.1, HV.out.2]
    go_enter Try.func49, Try.ntmps49
    go_wp2_with fail
    refine (specIsTable_any V n c T _ H.out HN.out).mono ?_
    rw [hb]
    rintro e w1 ⟨rfl, b1⟩
    have C1 := Lib.hid b1
    clear b1 hb
    go_wp2
    go_ret2
    exact GivesListI.nil rfl C1.out
  have HB := Lib.hid hb
  obtain ⟨⟨n1, n10⟩, ⟨m1, m12⟩, _⟩ := tabB_true hb
  rw [HL.out] at n1 n10
  obtain ⟨m, hm⟩ : ∃ m, colT T = m := ⟨_, rfl⟩
  rw [hm] at m1 m12
  have HM := Lib.hid hm
  have hn0 : 0 < n := n1
  obtain ⟨ad, A0, c0, rfl, hab0, _, hc0, _, _, _⟩ := tab_at H.out hb hm hn0
  rw [addr_zero] at hc0
  have HC0 := Lib.hid hc0
  have HAB0 := Lib.hid hab0
  rcases hrs : riseB (m : Int) ds with _ | _
  · have HV : Hid (lkL T ds = [] ∧ lkE T ds = 2) := Lib.hid (by
      have e : lkE T ds = 2 := by unfold lkE; rw [hb, hm, hrs]; rfl
      exact ⟨by unfold lkL; rw [e]; rfl, e⟩)
    have HRS := Lib.hid hrs
    rw [HV.out.1, HV.out.2]
    clear hb hrs hm hc0 hab0
    go_enter Try.func49, Try.ntmps49
    go_wp2_with fail
    refine (specIsTable_any (some ad) n c T _ H.out HN.out).mono ?_
    rw [HB.out]
    rintro e w1 ⟨rfl, b1⟩
    have C1 := Lib.hid b1
    have hc1 := (b1.cell HAB0.out).trans HC0.out
    clear b1
    go_wp2_with fail
    refine (l01Rises_any A q cc ds _ _ (X.out.on C1.out) hq).mono ?_
    rw [HRS.out]
    rintro e w2 ⟨rfl, b2⟩
    have C2 := Lib.hid (below_trans' C1.out b2)
    clear b2 hc1
    go_wp2
    go_ret2
    exact GivesListI.nil rfl C2.out
  have HRS := Lib.hid hrs
  have HDS : Hid (∀ d ∈ ds, 0 ≤ d ∧ d < (m : Int)) := Lib.hid (riseB_in2 hrs)
  have HLE : Hid (lkE T ds = if lkP T ds (2 ^ n - 1) then 0 else 4) := Lib.hid (by unfold lkE; rw [hb, hm, hrs, HL.out]; rfl)
  clear hb hrs hm hc0 hab0
  go_enter Try.func49, Try.ntmps49
  go_wp2_with fail
  refine (specIsTable_any (some ad) n c T _ H.out HN.out).mono ?_
  rw [HB.out]
  rintro e w1 ⟨rfl, b1⟩
  have C1 := Lib.hid b1
  have hc1 := (b1.cell HAB0.out).trans HC0.out
  clear b1
  go_wp2_with fail
  refine (l01Rises_any A q cc ds _ _ (X.out.on C1.out) hq).mono ?_
  rw [HRS.out]
  rintro e w2 ⟨rfl, b2⟩
  have C2 := Lib.hid (below_trans' C1.out b2)
  clear b2 hc1
  go_wp2
  go_loopw [6] (fun i wr => ∃ k : Nat, k ≤ n + 1 ∧ i = .int .i64 k ∧ Hid (∀ (k' i' : Nat) (L : List Int), k' < k → (chs n k')[i']? = some L → opB T L ds = false) ∧ Hid (Below w.heap.size w wr)) (fun i _ => n + 1 - (intOf i).toNat)
  case atStart => exact ⟨0, Nat.zero_le _, rfl, Lib.hid (fun k' _ _ h _ => absurd h (by omega)), C2⟩
  case round =>
    obtain ⟨k, hk, rfl, hbef, HW⟩ := hrel
    clear C2
    by_cases hkn : k < n + 1
    · have i0 : (0 : Int) ≤ (k : Int) := by omega
      have i1 : (k : Int) ≤ (n : Int) := by omega
      have hk10 : k ≤ 10 := by omega
      go_wp2_with fail
      refine (l11Choices_any k n _ n10 hk10).mono ?_
      rintro e w3 ⟨V3, n3, c3, gs3, rfl, R3, _, _, b3⟩
      have S3 := Lib.hid R3.sets
      have W3 := Lib.hid (below_trans' HW.out b3)
      have L3 := Lib.hid R3.len
      have hn3 : n3 ≤ 1024 := by rw [← R3.len]; exact chs_len n10
      clear b3 R3
      go_wp2
      go_loopw [8] (fun i wr => ∃ j : Nat, j ≤ n3 ∧ i = .int .i64 j ∧ Hid (∀ (i' : Nat) (L : List Int), i' < j → (chs n k)[i']? = some L → opB T L ds = false) ∧ Hid (Below w3.heap.size w3 wr)) (fun i _ => n3 - (intOf i).toNat)
      case atStart => exact ⟨0, Nat.zero_le _, rfl, Lib.hid (fun i' _ h _ => absurd h (by omega)), Lib.hid (Below.refl _ _)⟩
      case round =>
        obtain ⟨j, hj, rfl, hbef2, HW4⟩ := hrel
        by_cases hlt : j < n3
        · obtain ⟨sd, L, A4, q4, c4, rfl, hab, hy, hc, hi, hq41, hq42⟩ := (S3.out.on HW4.out).at_ hlt
          have WW := Lib.hid (below_trans' W3.out HW4.out)
          have hrl := chs_row _ _ (List.mem_of_getElem? hy)
          have HIN : Hid (∀ x ∈ L, 0 ≤ x ∧ x < (n : Int)) := Lib.hid (by
            obtain ⟨u, rfl, _⟩ := chs_at (by omega) hkn hy
            intro x hx
            unfold lisU whereL at hx
            obtain ⟨y, hy, rfl⟩ := List.mem_map.1 hx
            have := List.mem_range.1 (List.mem_filter.1 hy).1
            omega)
          have hq4 : q4 ≤ 1048576 := by rw [← hi.len, hrl]; omega
          have HY := Lib.hid hy
          have HI := Lib.hid hi
          have HC := Lib.hid hc
          have HAB := Lib.hid hab
          have j0 : (0 : Int) ≤ (j : Int) := by omega
          have j1 : (j : Int) < (n3 : Int) := by omega
          clear hy hi hab hrl
          rcases ho : opB T L ds with _ | _
          · have HBN : Hid (∀ (i' : Nat) (L : List Int), i' < j + 1 → (chs n k)[i']? = some L → opB T L ds = false) := Lib.hid (fun i' L' h1 h2 => by
              by_cases e : i' = j
              · subst e; rw [HY.out] at h2; injection h2 with h2; subst h2; exact ho
              · exact hbef2.out i' L' (by omega) h2)
            have HO := Lib.hid ho
            clear ho
            go_wp2_with fail
            refine (l11Open_any (some ad) n c T A4 q4 c4 L A q cc m ds _ (H.out.on WW.out) HB.out HM.out HI.out (X.out.on WW.out) HIN.out HDS.out hq4 hq).mono ?_
            rw [HO.out]
            rintro e w5 ⟨rfl, b5⟩
            have W5 := Lib.hid (below_trans' HW4.out b5)
            clear b5 hc
            go_wp2
            go_roundw
            case rel => exact ⟨j + 1, by omega, by go_num, HBN, W5⟩
            case measure => simp [intOf]; omega
          · have HV : Hid (lkE T ds = 0 ∧ lkL T ds = L) := Lib.hid (by
              obtain ⟨u, hLu, hu, _⟩ := chs_at (by omega) hkn HY.out
              have hpu : lkP T ds u = true := by unfold lkP; rw [HL.out, ← hLu]; exact ho
              have hall := lk_mono hpu
              have e : lkE T ds = 0 := by rw [HLE.out]; rw [HL.out] at hall; rw [hall]; rfl
              refine ⟨e, ?_⟩
              have hbest := lk_best hall
              unfold lkL
              rw [e, if_pos rfl]
              rw [HL.out] at hbest ⊢
              refine (first_is (n := n) (by omega) (p := fun K => opB T K ds) hbest.1 ?_ (fun v hv1 hv2 => hbest.2.2 v (Nat.zero_le _) hv1 ?_) hkn HY.out ho (fun k' i' L' hlt' hL' => ?_)).symm
              · have := hbest.2.1; unfold lkP at this; rw [HL.out] at this; exact this
              · unfold lkP; rw [HL.out]; exact hv2
              · rcases hlt' with h1 | ⟨h1, h2⟩
                · exact hbef.out k' i' L' h1 hL'
                · subst h1; exact hbef2.out i' L' h2 hL')
            have HO := Lib.hid ho
            clear ho
            go_wp2_with fail
            refine (l11Open_any (some ad) n c T A4 q4 c4 L A q cc m ds _ (H.out.on WW.out) HB.out HM.out HI.out (X.out.on WW.out) HIN.out HDS.out hq4 hq).mono ?_
            rw [HO.out]
            rintro e w5 ⟨rfl, b5⟩
            have hc5 := (b5.cell (p := sd.add j) (by rw [block_of_add]; exact HAB.out)).trans HC.out
            have W5 := Lib.hid (below_trans' WW.out b5)
            have I5 := Lib.hid (HI.out.on b5)
            clear b5 hc
            go_wp2
            go_ret2
            exact ⟨A4, q4, c4, by rw [HV.out.1]; rfl, by rw [HV.out.2]; exact I5.out, hq4, W5.out⟩
        · have HBN : Hid (∀ (k' i' : Nat) (L : List Int), k' < k + 1 → (chs n k')[i']? = some L → opB T L ds = false) := Lib.hid (fun k' i' L' h1 h2 => by
            by_cases e : k' = k
            · subst e
              exact hbef2.out i' L' (by have := (List.getElem?_eq_some_iff.1 h2).1; have := L3.out; omega) h2
            · exact hbef.out k' i' L' (by omega) h2)
          go_wp2
          go_roundw
          case rel => exact ⟨k + 1, by omega, by go_num, HBN, Lib.hid (below_trans' W3.out HW4.out)⟩
          case measure => simp [intOf]; omega
    · have i1 : ¬ (k : Int) ≤ (n : Int) := by omega
      have HV : Hid (lkE T ds = 4 ∧ lkL T ds = []) := Lib.hid (by
        have hpf : lkP T ds (2 ^ n - 1) = false := by
          obtain ⟨h1, i, h2⟩ := chs_has (n := n) (u := 2 ^ n - 1) (by omega) (by have := Nat.two_pow_pos n; omega)
          have := hbef.out _ i _ (show popU n (2 ^ n - 1) < k by omega) h2
          unfold lkP; rw [HL.out]; exact this
        have e : lkE T ds = 4 := by rw [HLE.out, hpf]; rfl
        exact ⟨e, by unfold lkL; rw [e]; rfl⟩)
      go_wp2
      go_ret2
      exact ⟨none, 0, 0, by rw [HV.out.1]; rfl, by rw [HV.out.2]; exact ⟨rfl, fun h => absurd h (by omega)⟩, by omega, HW.out⟩

end Go.Proofs.Ytidjnnooeepklaa
