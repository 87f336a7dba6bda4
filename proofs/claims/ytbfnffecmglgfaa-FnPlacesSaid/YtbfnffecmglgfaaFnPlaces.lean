/- FnPlaces: the places of all depths of a set are free, and a new key is near to itself. -/
import Derived.Test.YtbfnffecmglgfaaFreeP
import Derived.Test.YtbfnffecmglgfaaSFreeP
import Derived.Test.YtbfnffecmglgfaaNeigh
import Derived.Test.YtbfnffecmglgfaaWornP
import Derived.Test.YtbfnffecmglgfaaSWorn
import Derived.Test.YtbfnffecmglgfaaDrawN
import Derived.Test.YtbfnffecmglgfaaDrawP
namespace Go.Proofs.Ytbfnffecmglgfaa
open Go Go.RowKit

theorem hasInt_here (A : Option Addr) (n c : Nat) (xs : List Int) (v : Int) (w : World) (h : Ints w w.heap.size A n xs) (hn : n ≤ 1048576) (hv : v ∈ xs) :
    Calls Try.prog 72 #[.slice A n c, .int .i64 v] w fun e w' => e = .returned (.bool true) ∧ w = w' := by
  have HL := Lib.hid h.len
  have HV := Lib.hid hv
  clear hv
  go_enter Try.func72, Try.ntmps72
  go_wp2
  go_loop [5] (fun i => ∃ k : Nat, k ≤ n ∧ i = .int .i64 k ∧ Hid (v ∉ xs.take k)) (fun i => n - (intOf i).toNat)
  case atStart => exact ⟨0, Nat.zero_le _, rfl, Lib.hid (by simp)⟩
  case round =>
    obtain ⟨k, hk, rfl, hno⟩ := hrel
    by_cases hlt : k < n
    · obtain ⟨ad, u, rfl, hab, hu, hc⟩ := h.at_ hlt
      have HU := Lib.hid hu
      clear hu
      rcases hq : (u == v) with _ | _
      · have HN : Hid (v ∉ xs.take (k + 1)) := Lib.hid (by
          obtain ⟨hkl, he⟩ := List.getElem?_eq_some_iff.1 HU.out
          rw [List.take_succ_eq_append_getElem hkl, List.mem_append]
          intro hm
          rcases hm with hm | hm
          · exact hno.out hm
          · rw [he] at hm
            have : v = u := by simpa using hm
            rw [this] at hq
            simp at hq)
        go_wp2
        go_round
        case rel => exact ⟨k + 1, by omega, by go_num, HN⟩
        case measure => simp [intOf]; omega
      · go_wp2
        go_ret
        exact ⟨rfl, rfl⟩
    · exact absurd HV.out (by have := hno.out; rwa [List.take_of_length_le (by rw [HL.out]; omega)] at this)


theorem cnt_succ (q : Nat → Bool) (n : Nat) : ((List.range (n + 1)).filter q).length = ((List.range n).filter q).length + (if q n then 1 else 0) := by
  rw [List.range_succ, List.filter_append, List.length_append, List.filter_cons]
  cases q n <;> simp
theorem cnt_mono (q : Nat → Bool) (n : Nat) : ∀ k : Nat, ((List.range n).filter q).length ≤ ((List.range (n + k)).filter q).length
  | 0 => Nat.le_refl _
  | k + 1 => by
    have h := cnt_mono q n k
    have h2 := cnt_succ q (n + k)
    rw [Nat.add_assoc] at h2
    omega
theorem cnt_ten {p q : Nat → Bool} : ∀ D : Nat, (∀ d, d ≤ D → p d = true → q (10 * d) = true) → ((List.range (D + 1)).filter p).length ≤ ((List.range (10 * D + 1)).filter q).length
  | 0, h => by
    have h0 := h 0 (Nat.le_refl _)
    rw [cnt_succ, cnt_succ]
    rcases hp : p 0 with _ | _
    · simp
    · rw [if_pos rfl, if_pos (h0 hp)]; simp
  | D + 1, h => by
    have ih := cnt_ten D (fun d hd => h d (by omega))
    have h0 := h (D + 1) (Nat.le_refl _)
    have h1 := cnt_mono q (10 * D + 1) 9
    rw [show 10 * D + 1 + 9 = 10 * (D + 1) by omega] at h1
    rw [cnt_succ p (D + 1), cnt_succ q (10 * (D + 1))]
    rcases hp : p (D + 1) with _ | _
    · rw [if_neg Bool.false_ne_true]; omega
    · rw [if_pos rfl, if_pos (h0 hp)]; omega
/-- the free places of a chamber hold those of its set -/
theorem free_all {m : Mk} {yss : List (List Int)} {ch t : Int} (h : fpE m yss ch t = 0) : ∃ cn : Nat, ch = (cn : Int) ∧ (cn : Int) < m.C ∧ (yss.length : Int) = m.C ∧ ∀ ys, yss[cn]? = some ys → ys.length ≤ (fpL m yss ch t).length ∧ ∀ (j : Nat) (v : Int), ys[j]? = some v → 0 ≤ v ∧ v ≤ 7 ∧ 10 * v ∈ fpL m yss ch t := by
  have hh : lockB m yss = true ∧ isTol t = true ∧ inB ch 0 (m.C - 1) = true := by
    unfold fpE at h
    rcases hL : lockB m yss with _ | _ <;> rcases hT : isTol t with _ | _ <;> rcases hC : inB ch 0 (m.C - 1) with _ | _ <;> simp_all
  obtain ⟨hL, hT, hC⟩ := hh
  have hf : fpL m yss ch t = freeTo (setP yss ch.toNat) t (70 + t + 1).toNat := by unfold fpL; rw [hL, hT, hC]; rfl
  obtain ⟨t0, t4⟩ := tol_facts hT
  obtain ⟨c0, c5⟩ := inB_true.1 hC
  obtain ⟨hm, hl, hs⟩ := lockB_facts hL
  obtain ⟨m1, m2, m3, m4, _⟩ := Mk.ok_true hm
  refine ⟨ch.toNat, by omega, by omega, hl, fun ys hy => ?_⟩
  have hr := (hs _ _ hy).2
  have hset := rise_set (by omega : (0 : Int) ≤ m.D) hr
  rw [← setP_at hy] at hset
  rw [hf]
  obtain ⟨D, hD⟩ : ∃ D : Nat, m.D.toNat = D + 1 := ⟨m.D.toNat - 1, by omega⟩
  rw [hD] at hset
  have h7 : D ≤ 7 := by omega
  obtain ⟨K, hK⟩ : ∃ K : Nat, (70 + t + 1).toNat = 10 * D + 1 + K := ⟨(70 + t + 1).toNat - (10 * D + 1), by omega⟩
  rw [hK]
  generalize setP yss ch.toNat = p at hset ⊢
  have hq : ∀ d, d ≤ D → p d = true → (fun (x : Nat) => freeAt p t (x : Int)) (10 * d) = true := fun d hd hp => by
    have := freeAt_here hp (by omega : d < 8) t0
    show freeAt p t ((10 * d : Nat) : Int) = true
    rw [show ((10 * d : Nat) : Int) = 10 * (d : Int) by omega]
    exact this
  constructor
  · rw [← hset]
    unfold setOf freeTo
    rw [List.length_map, List.length_map]
    exact Nat.le_trans (cnt_ten D hq) (cnt_mono _ _ K)
  · intro j v hv
    have hv2 := List.mem_of_getElem? hv
    rw [← hset] at hv2
    obtain ⟨d, hd, hp, rfl⟩ := setOf_mem.1 hv2
    refine ⟨by omega, by omega, ?_⟩
    unfold freeTo
    rw [List.mem_map]
    exact ⟨10 * d, List.mem_filter.2 ⟨List.mem_range.2 (by omega), hq d (by omega) hp⟩, by omega⟩
/-- a worn key is near to itself -/
theorem near_self {m : Mk} {xs : List Int} {wr t : Int} (h : wnE m xs wr t = 0) : 1 ≤ wnV m xs wr t := by
  have hh : m.ok = true ∧ isKeyB m xs = true ∧ isFit wr t = true := by
    unfold wnE at h
    rcases hm : m.ok with _ | _ <;> rcases hK : isKeyB m xs with _ | _ <;> rcases hF : isFit wr t with _ | _ <;> simp_all
  obtain ⟨hm, hK, hF⟩ := hh
  obtain ⟨r0, r1, t0, t1⟩ := fit_facts hF
  have hv : wnV m xs wr t = ((opAll m (nearP xs t (plc wr))).length : Int) := by simp [wnV, hK, hF]
  have hp : 0 < plc wr := by unfold plc; omega
  obtain ⟨A, hA⟩ := all_at hK
  have d7 := key_seven hK
  have hfr : frees (nearP xs t (plc wr)) 0 xs = true := by
    refine frees_yes (k := xs.length) (Nat.le_refl _) (fun j hj d hd => ?_) (fun v hv => ?_)
    · obtain ⟨u0, u1⟩ := allIn_at d7 hd
      unfold nearP
      rw [getD_at hd]
      exact some_here (p := fun e => decide (e = d)) (by simp) (by omega) t0 hp
    · obtain ⟨j, hj⟩ := List.getElem?_of_mem hv
      exact (allIn_at d7 hj).1
  have hmem : xs ∈ opAll m (nearP xs t (plc wr)) := by
    rw [op_all, List.mem_filter]
    exact ⟨by rw [hA]; simp, hfr⟩
  have := List.length_pos_of_mem hmem
  rw [hv]
  omega

theorem wlkL_small (m : Mk) (yss : List (List Int)) (wr t : Int) : (wlkL m yss wr t).length + sizeL (wlkL m yss wr t) ≤ 1048576 := by
  by_cases h : wlkE m yss wr t = 0
  · obtain ⟨hL, hF⟩ := wlkE_facts h
    have := cm_yes hL hF
    rw [this.2.1]
    exact this.2.2.2.2.2
  · rw [wlkL_not h]; simp [sizeL, sizeAt]
/-- what the law carries of its first part -/
structure PL (w w1 W : World) (m : Mk) (V : Option Addr) (k c : Nat) (zss : List (List Int)) (A1 A2 : Option Addr) (n1 n2 : Nat) (xs : List Int) : Prop where
  K : IArg w1 W m V k c
  S : Sets W W.heap.size V k zss
  P1 : Ints W W.heap.size A1 n1 xs
  P2 : Ints W W.heap.size A2 n2 xs
  C : Below w.heap.size w W
theorem PL.on {w w1 W W' : World} {m : Mk} {V : Option Addr} {k c : Nat} {zss : List (List Int)} {A1 A2 : Option Addr} {n1 n2 : Nat} {xs : List Int} (h : PL w w1 W m V k c zss A1 A2 n1 n2 xs) (b : Below W.heap.size W W') : PL w w1 W' m V k c zss A1 A2 n1 n2 xs :=
  ⟨h.K.on b, h.S.on b, h.P1.on b, h.P2.on b, below_trans' h.C b⟩

set_option maxRecDepth 100000 in
set_option maxHeartbeats 8000000 in
theorem fnPlaces_any (A : Option Addr) (n c : Nat) (w : World) (h : Bts w w.heap.size A n) :
    Calls Try.prog 9 #[.slice A n c] w fun e w' => e = .returned (.bool true) ∧ Below w.heap.size w w' := by
  by_cases hn : n ≤ 4096
  rotate_left
  · have d0 : decide (4096 < (n : Int)) = true := by simp; omega
    go_enter Try.func9, Try.ntmps9
    go_wp2_with fail
    refine (big_any _ _ _ _).mono ?_
    rintro e w' ⟨rfl, rfl⟩
    rw [d0]
    go_wp2
    go_ret
    exact ⟨rfl, Below.refl _ _⟩
  have d0 : decide (4096 < (n : Int)) = false := by simp; omega
  have HB := Lib.hid h
  clear h
  go_enter Try.func9, Try.ntmps9
  go_wp2_with fail
  refine (big_any _ _ _ _).mono ?_
  rintro e w' ⟨rfl, rfl⟩
  rw [d0]
  clear d0
  go_wp2_with fail
  refine (drawFreePlaces_any w.heap.size A n c w HB.out (Nat.le_refl _) hn).mono ?_
  rintro e w1 ⟨m, V, k, c', zss, ch, t, rfl, hSm, hF, hFew, hkc, hcm, b1⟩
  have HS := Lib.hid hF.sets
  have HN := Lib.hid (few_sizeD hFew hF.sets.len)
  have HB1 := Lib.hid b1
  have K1 := Lib.hid (IArg.new w1 m V k c')
  clear hF hFew hSm b1
  obtain ⟨q0, q1, q2, q3, q4, ck⟩ := K1.out.cells
  obtain ⟨fe, hfe⟩ : ∃ fe, fpE m zss ch t = fe := ⟨_, rfl⟩
  obtain ⟨fl, hfl⟩ : ∃ fl, fpL m zss ch t = fl := ⟨_, rfl⟩
  have HFE := Lib.hid hfe
  have HFL := Lib.hid hfl
  have HLAW : Hid (fe = 0 → ∃ cn : Nat, ch = (cn : Int) ∧ (cn : Int) < m.C ∧ (zss.length : Int) = m.C ∧ ∀ ys, zss[cn]? = some ys → ys.length ≤ fl.length ∧ ∀ (j : Nat) (v : Int), ys[j]? = some v → 0 ≤ v ∧ v ≤ 7 ∧ 10 * v ∈ fl) := Lib.hid (fun e => by rw [← hfl]; exact free_all (hfe.trans e))
  have e1 : (fe != fe) = false := by simp
  clear hfe hfl
  go_wp2_with fail
  refine (freePlaces_any m _ _ _ zss ch t _ (HS.out.on K1.out.c) HN.out).mono ?_
  rw [HFE.out, HFL.out]
  rintro e w2 ⟨A1, n1, c1, rfl, own1, hn1, hnc1, hcm1, b2⟩
  have I1 := Lib.hid own1.ints
  have K2 := Lib.hid (K1.out.on b2)
  clear q0 q1 q2 q3 q4 ck K1 b2 own1
  obtain ⟨q0, q1, q2, q3, q4, ck⟩ := K2.out.cells
  go_wp2_with fail
  refine (specFreePlaces_any m _ _ _ zss ch t _ (HS.out.on K2.out.c) HN.out).mono ?_
  rw [HFE.out, HFL.out]
  rintro e w3 ⟨A2, n2, c2, rfl, own2, hn2, hnc2, hcm2, b3⟩
  have K3 := K2.out.on b3
  have L3 : Hid (PL w w1 w3 m V k c' zss A1 A2 n1 n2 fl) := Lib.hid ⟨K3, HS.out.on K3.c, I1.out.on b3, own2.ints, below_trans' HB1.out K3.c⟩
  clear q0 q1 q2 q3 q4 ck K2 K3 b3 own2 I1 HS HB1
  go_wp2_with fail
  refine (drawWornNeighbours_any w.heap.size A n c _ (HB.out.keep (fun p hp => Below.cell L3.out.C hp)) L3.out.C.size hn).mono ?_
  rintro e w4 ⟨m2, A4, n4, c4, xs, wr, tl, rfl, hSm2, hF4, hn4, hnc4, hcm4, b4⟩
  have bX := (Below.refl w4.heap.size w4).alloc (Nat.le_refl _) (.cells #[.int .i64 m2.C, .int .i64 m2.D, .int .i64 m2.S, .int .i64 m2.M, .int .i64 m2.L] 25)
  have X4 := Lib.hid (Boxed.new w4 25 m2)
  have I4 := Lib.hid (hF4.ints.on bX)
  have L4 := Lib.hid ((L3.out.on b4).on bX)
  obtain ⟨nv, hnv⟩ : ∃ nv, wnV m2 xs wr tl = nv := ⟨_, rfl⟩
  obtain ⟨ne, hne⟩ : ∃ ne, wnE m2 xs wr tl = ne := ⟨_, rfl⟩
  have HNV := Lib.hid hnv
  have HNE := Lib.hid hne
  have HNS : Hid (ne = 0 → 1 ≤ nv) := Lib.hid (fun e => by rw [← hnv]; exact near_self (hne.trans e))
  have e3 : (ne != ne) = false := by simp
  have e4 : (nv != nv) = false := by simp
  clear hnv hne L3 b4 bX hF4 hSm2
  obtain ⟨q0, q1, q2, q3, q4⟩ := X4.out.cells
  go_wp2_with fail
  refine (wornNeighbours_any m2 _ _ _ xs wr tl _ I4.out hn4).mono ?_
  rw [HNV.out, HNE.out]
  rintro e w5 ⟨rfl, b5⟩
  have X5 := Lib.hid (X4.out.on b5)
  have I5 := Lib.hid (I4.out.on b5)
  have L5 := Lib.hid (L4.out.on b5)
  clear q0 q1 q2 q3 q4 X4 I4 L4 b5
  obtain ⟨q0, q1, q2, q3, q4⟩ := X5.out.cells
  go_wp2_with fail
  refine (specWornNeighbours_any m2 _ _ _ xs wr tl _ I5.out hn4 hnc4 hcm4).mono ?_
  rw [HNV.out, HNE.out]
  rintro e w6 ⟨rfl, b6⟩
  have L6 := Lib.hid (L5.out.on b6)
  clear q0 q1 q2 q3 q4 X5 I5 L5 b6
  go_wp2_with fail
  refine (drawWornLock_any w.heap.size A n c _ (HB.out.keep (fun p hp => Below.cell L6.out.C hp)) L6.out.C.size hn).mono ?_
  rintro e w7 ⟨m3, V3, k3, c3, yss, r, z, rfl, hSm3, hF3, hFew3, hkc3, hcm3, b7⟩
  have HS3 := Lib.hid hF3.sets
  have HN3 := Lib.hid (few_sizeD hFew3 hF3.sets.len)
  have KA := Lib.hid (IArg.new w7 m3 V3 k3 c3)
  have L7 := Lib.hid ((L6.out.on b7).on KA.out.c)
  obtain ⟨ke, hke⟩ : ∃ ke, wlkE m3 yss r z = ke := ⟨_, rfl⟩
  have HKE := Lib.hid hke
  have e5 : (ke != ke) = false := by simp
  clear hke L6 b7 hF3 hFew3 hSm3 HB
  obtain ⟨q0, q1, q2, q3, q4, ck⟩ := KA.out.cells
  go_wp2_with fail
  refine (wornLock_any m3 _ _ _ yss r z _ (HS3.out.on KA.out.c) HN3.out).mono ?_
  rw [HKE.out]
  rintro e w8 ⟨V8, n8, c8, gs8, rfl, hrag, hc8, hcm8, b8⟩
  have bZ := (Below.refl w8.heap.size w8).alloc (Nat.le_refl _) (.cells #[.slice V8 n8 c8] 30)
  have Z8 := Lib.hid (Cell1.new w8 30 (.slice V8 n8 c8))
  have S8 := Lib.hid (hrag.sets.on bZ)
  have K8 := Lib.hid ((KA.out.on b8).on bZ)
  have L8 := Lib.hid ((L7.out.on b8).on bZ)
  clear q0 q1 q2 q3 q4 ck KA L7 b8 bZ hrag
  obtain ⟨q0, q1, q2, q3, q4, ck⟩ := K8.out.cells
  go_wp2_with fail
  refine (specWornLock_any m3 _ _ _ yss r z _ (HS3.out.on K8.out.c) HN3.out).mono ?_
  rw [HKE.out]
  rintro e w9 ⟨V9, n9, c9, rfl, hs9, hc9, hcm9, b9⟩
  have bR := (Below.refl w9.heap.size w9).alloc (Nat.le_refl _) (.cells #[.slice V9 n9 c9] 30)
  have R9 := Lib.hid (Cell1.new w9 30 (.slice V9 n9 c9))
  have S9 := Lib.hid (hs9.on bR)
  have Z9 := Lib.hid ((Z8.out.on b9).on bR)
  have S89 := Lib.hid ((S8.out.on b9).on bR)
  have L9 := Lib.hid ((L8.out.on b9).on bR)
  have hl8 : n9 + sizeL (wlkL m3 yss r z) ≤ 1048576 := by have h1 := wlkL_small m3 yss r z; rw [hs9.len] at h1; exact h1
  obtain rfl : n8 = n9 := by have h1 := S89.out.len; have h2 := hs9.len; omega
  obtain rfl : n1 = n2 := by have h1 := L9.out.P1.len; have h2 := L9.out.P2.len; omega
  clear q0 q1 q2 q3 q4 ck K8 L8 Z8 S8 b9 bR hs9 HS3 HN3
  have rz := Z9.out.cell
  have rr := R9.out.cell
  go_wp2_with fail
  refine (likeInts_true _ _ _ _ _ fl _ L9.out.P1 L9.out.P2 hn1).mono ?_
  rintro e wa ⟨rfl, ba⟩
  have La := Lib.hid (L9.out.on ba)
  have Za := Lib.hid (Z9.out.on ba)
  have Ra := Lib.hid (R9.out.on ba)
  have Sa := Lib.hid (S9.out.on ba)
  have Sb := Lib.hid (S89.out.on ba)
  clear rz rr L9 Z9 R9 S9 S89 ba
  have rz := Za.out.cell
  have rr := Ra.out.cell
  go_wp2_with fail
  refine (likeLocks_true _ _ _ _ _ _ _ Sb.out Sa.out hl8).mono ?_
  rintro e wb ⟨rfl, bb⟩
  have Lb := Lib.hid (La.out.on bb)
  clear rz rr La Za Ra Sa Sb bb hl8
  by_cases hn0 : ne = 0
  rotate_left
  · have en : (ne == 0) = false := by simpa using hn0
    clear hn0 HNS
    by_cases hf0 : fe = 0
    rotate_left
    · have dn2 : (fe != 0) = true := by simpa using hf0
      have C := Lb.out.C
      clear hf0 HLAW
      go_wp2
      go_ret
      exact ⟨rfl, C⟩
    obtain ⟨cn, rfl, hcC, hlC, hset⟩ := HLAW.out hf0
    subst hf0
    have hcn : cn < k := by have := Lb.out.S.len; omega
    obtain ⟨ad, ys, Ac, qc, cc, rfl, hab, hy, hc, hin, hqc, hqm⟩ := Lb.out.S.at_ hcn
    obtain ⟨hle, hall⟩ := hset ys hy
    have ck := Lb.out.K.k.cell
    have hq2 : qc ≤ 1048576 := by have := fits_at HN.out hy; have := hin.len; omega
    have i0 : (0 : Int) ≤ (cn : Int) := by omega
    have i1 : (cn : Int) < (k : Int) := by omega
    have HALL := Lib.hid hall
    have HIN := Lib.hid hin
    have HP1 := Lib.hid Lb.out.P1
    have HC := Lib.hid Lb.out.C
    have hge : qc ≤ n1 := by have h1 := hin.len; have h2 := HP1.out.len; omega
    clear HLAW hset hlC hcC hy hle hall hin Lb e1
    go_wp2
    go_loopw [27] (fun i wr => ∃ j : Nat, j ≤ qc ∧ i = .int .i64 j ∧ wr = wb) (fun i _ => qc - (intOf i).toNat)
    case atStart => exact ⟨0, Nat.zero_le _, rfl, rfl⟩
    case round =>
      obtain ⟨j, hj, rfl, rfl⟩ := hrel
      by_cases hlt : j < qc
      · obtain ⟨ad2, u, rfl, hab2, hu, hcu⟩ := HIN.out.at_ hlt
        obtain ⟨u0, u7, hmem⟩ := HALL.out j u hu
        have g1 : IntKind.i64.wrap (10 * u) = 10 * u := IntWalk.i64_in _ (by omega)
        have HM := Lib.hid hmem
        clear hu hmem
        go_wp2_with fail
        refine (hasInt_here _ _ _ fl (10 * u) _ HP1.out hn1 HM.out).mono ?_
        rintro e w' ⟨rfl, rfl⟩
        go_wp2
        go_roundw
        case rel => exact ⟨j + 1, by omega, by go_num, by trivial⟩
        case measure => simp [intOf]; omega
      · obtain rfl : j = qc := by omega
        go_wp2
        go_ret
        exact ⟨rfl, HC.out⟩
  have dn : decide (nv < 1) = false := by have := HNS.out hn0; simp; omega
  have en : (ne == 0) = true := by simpa using hn0
  clear hn0 HNS
  by_cases hf0 : fe = 0
  rotate_left
  · have dn2 : (fe != 0) = true := by simpa using hf0
    have C := Lb.out.C
    clear hf0 HLAW
    go_wp2
    go_ret
    exact ⟨rfl, C⟩
  obtain ⟨cn, rfl, hcC, hlC, hset⟩ := HLAW.out hf0
  subst hf0
  have hcn : cn < k := by have := Lb.out.S.len; omega
  obtain ⟨ad, ys, Ac, qc, cc, rfl, hab, hy, hc, hin, hqc, hqm⟩ := Lb.out.S.at_ hcn
  obtain ⟨hle, hall⟩ := hset ys hy
  have ck := Lb.out.K.k.cell
  have hq2 : qc ≤ 1048576 := by have := fits_at HN.out hy; have := hin.len; omega
  have i0 : (0 : Int) ≤ (cn : Int) := by omega
  have i1 : (cn : Int) < (k : Int) := by omega
  have HALL := Lib.hid hall
  have HIN := Lib.hid hin
  have HP1 := Lib.hid Lb.out.P1
  have HC := Lib.hid Lb.out.C
  have hge : qc ≤ n1 := by have h1 := hin.len; have h2 := HP1.out.len; omega
  clear HLAW hset hlC hcC hy hle hall hin Lb e1
  go_wp2
  go_loopw [27] (fun i wr => ∃ j : Nat, j ≤ qc ∧ i = .int .i64 j ∧ wr = wb) (fun i _ => qc - (intOf i).toNat)
  case atStart => exact ⟨0, Nat.zero_le _, rfl, rfl⟩
  case round =>
    obtain ⟨j, hj, rfl, rfl⟩ := hrel
    by_cases hlt : j < qc
    · obtain ⟨ad2, u, rfl, hab2, hu, hcu⟩ := HIN.out.at_ hlt
      obtain ⟨u0, u7, hmem⟩ := HALL.out j u hu
      have g1 : IntKind.i64.wrap (10 * u) = 10 * u := IntWalk.i64_in _ (by omega)
      have HM := Lib.hid hmem
      clear hu hmem
      go_wp2_with fail
      refine (hasInt_here _ _ _ fl (10 * u) _ HP1.out hn1 HM.out).mono ?_
      rintro e w' ⟨rfl, rfl⟩
      go_wp2
      go_roundw
      case rel => exact ⟨j + 1, by omega, by go_num, by trivial⟩
      case measure => simp [intOf]; omega
    · obtain rfl : j = qc := by omega
      go_wp2
      go_ret
      exact ⟨rfl, HC.out⟩

end Go.Proofs.Ytbfnffecmglgfaa
