/- The law that all nodes are under their common group, and the doors are those under the root. -/
import Derived.Test.YtnadcjclihflcaaBldC
import Derived.Test.YtnadcjclihflcaaDrawBC
import Derived.Test.YtnadcjclihflcaaFnAnc
namespace Go.Proofs.Ytnadcjclihflcaa
open Go Go.RowKit

theorem node_here {P : List Int} {D : List Bool} {xs : List Int} {n : Nat} (hc : cgE P D xs = 0) (hP : P.length = n) {v : Int} (hv : v ∈ xs) : ∃ I : Nat, v = (I : Int) ∧ I < n ∧ nodE P D v = 0 ∧ anL P D v = ancI P I ∧ hasI (ancI P I) (cgV P D xs) = true := by
  have hcod : codB P D xs = 0 := by
    by_cases h : codB P D xs = 0
    · exact h
    · have := (cg_code h).1; rw [hc] at this; exact absurd this.symm h
  obtain ⟨hB, hN⟩ := cod_zero hcod
  obtain ⟨hT, n2, _⟩ := bld_tree hB
  obtain ⟨v0, v1⟩ := nodesB_at hN hv
  obtain ⟨I, rfl⟩ := Int.eq_ofNat_of_zero_le v0
  have hI : I < P.length := by omega
  have hn : nodE P D (I : Int) = 0 := by
    unfold nodE
    have : inB (I : Int) 0 ((P.length : Int) - 1) = true := by rw [inB_true]; omega
    rw [hB, this]; rfl
  refine ⟨I, rfl, by omega, hn, by unfold anL; rw [hn, if_pos rfl]; rfl, ?_⟩
  have e : cgV P D xs = (comN P xs : Int) := by unfold cgV; rw [hc, if_pos rfl]
  rw [e]
  unfold hasI ancI
  have hall := com_all hT (by omega) (xs := xs) (fun y hy => by have := nodesB_at hN hy; omega)
  have := allU_mem hall hv
  rw [Int.toNat_natCast] at this
  exact decide_eq_true (List.mem_map.2 ⟨_, this, rfl⟩)

set_option maxRecDepth 100000 in
set_option maxHeartbeats 8000000 in
theorem fnGroups_any (A : Option Addr) (n c : Nat) (w : World) (h : Bts w w.heap.size A n) :
    Calls Try.prog 18 #[.slice A n c] w fun e w' => e = .returned (.bool true) ∧ Below w.heap.size w w' := by
  by_cases hn : n ≤ 4096
  rotate_left
  · have d0 : decide (4096 < (n : Int)) = true := by simp; omega
    go_enter Try.func18, Try.ntmps18
    go_wp2_with fail
    refine (big_any _ _ _ _).mono ?_
    rintro e w' ⟨rfl, rfl⟩
    rw [d0]
    clear d0
    go_wp2
    go_ret
    exact ⟨rfl, Below.refl _ _⟩
  have d0 : decide (4096 < (n : Int)) = false := by simp; omega
  have HB := Lib.hid h
  clear h
  go_enter Try.func18, Try.ntmps18
  go_wp2_with fail
  refine (big_any _ _ _ _).mono ?_
  rintro e w' ⟨rfl, rfl⟩
  rw [d0]
  clear d0
  go_wp2_with fail
  refine (drawCommonGroup_any w.heap.size A n c w HB.out (Nat.le_refl _) hn).mono ?_
  rintro e w1 ⟨A1, m, c1, A2, k, c2, P, D, N, q, e0, xs, rfl, o1, hm, hk, hx, hq, b1⟩
  have bA := (Below.refl w1.heap.size w1).alloc (Nat.le_refl _) (.cells #[.slice A1 m c1, .slice A2 k c2] 27)
  have F1 := Lib.hid (FA.new (c1 := c1) (c2 := c2) o1 b1)
  have N1 := Lib.hid (hx.on bA)
  have hmm : m ≤ 1048576 := by omega
  have hkk : k ≤ 1048576 := by omega
  have hqq : q ≤ 1048576 := by omega
  obtain ⟨q0, q1⟩ := F1.out.q.cells
  clear o1 b1 bA hx
  go_wp2_with fail
  refine (commonGroup_any A1 A2 N m c1 k c2 q e0 P D xs _ F1.out.o N1.out hmm hkk hqq).mono ?_
  rintro e w2 ⟨rfl, b2⟩
  have F2 := Lib.hid (F1.out.on b2)
  have N2 := Lib.hid (N1.out.on b2)
  clear b2 F1 N1 q0 q1
  obtain ⟨q0, q1⟩ := F2.out.q.cells
  go_wp2_with fail
  refine (specCommonGroup_any A1 A2 N m c1 k c2 q e0 P D xs _ F2.out.o N2.out hmm hkk hqq).mono ?_
  rintro e w3 ⟨rfl, b3⟩
  have F3 := Lib.hid (F2.out.on b3)
  have N3 := Lib.hid (N2.out.on b3)
  clear b3 F2 N2 q0 q1
  have HB3 := Lib.hid (HB.out.keep (w' := w3) (fun p hp => F3.out.b.cell hp))
  go_wp2_with fail
  refine (drawDoorsOf_any w.heap.size A n c w3 HB3.out F3.out.b.size hn).mono ?_
  rintro e w4 ⟨A3, m', c3, A4, k', c4, P', D', rfl, o4, hm', hk', b4⟩
  have bA := (Below.refl w4.heap.size w4).alloc (Nat.le_refl _) (.cells #[.slice A3 m' c3, .slice A4 k' c4] 27)
  have F4 := Lib.hid ((F3.out.on b4).on bA)
  have N4 := Lib.hid ((N3.out.on b4).on bA)
  have E4 := Lib.hid (FA.new (c1 := c3) (c2 := c4) o4.bld (Below.refl w4.heap.size w4))
  have hmm' : m' ≤ 1048576 := by omega
  have hkk' : k' ≤ 1048576 := by omega
  obtain ⟨q0, q1⟩ := E4.out.q.cells
  clear o4 b4 bA F3 N3 HB3
  go_wp2_with fail
  refine (doorsOf_any A3 A4 m' c3 k' c4 P' D' _ E4.out.o hmm' hkk').mono ?_
  rintro e w5 ⟨Aa, na, ca, rfl, oa, hna, _, _, b5⟩
  have F5 := Lib.hid (F4.out.on b5)
  have N5 := Lib.hid (N4.out.on b5)
  have E5 := Lib.hid (E4.out.on b5)
  have A5 := Lib.hid oa.ints
  clear b5 oa F4 N4 E4 q0 q1
  obtain ⟨q0, q1⟩ := E5.out.q.cells
  go_wp2_with fail
  refine (specDoorsOf_any A3 A4 m' c3 k' c4 P' D' _ E5.out.o hmm' hkk').mono ?_
  rintro e w6 ⟨As, ns, cs, rfl, os, hns, _, _, b6⟩
  obtain rfl : na = ns := by rw [← A5.out.len, ← os.len]
  have F6 := Lib.hid (F5.out.on b6)
  have N6 := Lib.hid (N5.out.on b6)
  have E6 := Lib.hid (E5.out.on b6)
  have A6 := Lib.hid (A5.out.on b6)
  have S6 := Lib.hid os.ints
  clear b6 os F5 N5 E5 A5 q0 q1
  obtain ⟨q0, q1⟩ := E6.out.q.cells
  go_wp2_with fail
  refine (heightOf_any A3 A4 m' c3 k' c4 P' D' _ E6.out.o hmm' hkk').mono ?_
  rintro e w7 ⟨rfl, b7⟩
  have F7 := Lib.hid (F6.out.on b7)
  have N7 := Lib.hid (N6.out.on b7)
  have E7 := Lib.hid (E6.out.on b7)
  have A7 := Lib.hid (A6.out.on b7)
  have S7 := Lib.hid (S6.out.on b7)
  clear b7 F6 N6 E6 A6 S6 q0 q1
  obtain ⟨q0, q1⟩ := E7.out.q.cells
  go_wp2_with fail
  refine (specHeightOf_any A3 A4 m' c3 k' c4 P' D' _ E7.out.o hmm' hkk').mono ?_
  rintro e w8 ⟨rfl, b8⟩
  have F8 := Lib.hid (F7.out.on b8)
  have N8 := Lib.hid (N7.out.on b8)
  have E8 := Lib.hid (E7.out.on b8)
  have A8 := Lib.hid (A7.out.on b8)
  have S8 := Lib.hid (S7.out.on b8)
  clear b8 F7 N7 E7 A7 S7 q0 q1
  have d1 : (cgE P D xs != cgE P D xs) = false := by simp
  have d2 : (cgV P D xs != cgV P D xs) = false := by simp
  have d3 : (nodE P' D' 0 != nodE P' D' 0) = false := by simp
  have d4 : (bdE P' D' != bdE P' D') = false := by simp
  have d5 : (hgV P' D' != hgV P' D') = false := by simp
  go_wp2_with fail
  refine (likeInts_true _ _ _ _ _ _ _ A8.out S8.out hna).mono ?_
  rintro e w9 ⟨rfl, b9⟩
  have F9 := Lib.hid (F8.out.on b9)
  have N9 := Lib.hid (N8.out.on b9)
  have E9 := Lib.hid (E8.out.on b9)
  have A9 := Lib.hid (A8.out.on b9)
  clear b9 F8 N8 E8 A8 S8
  go_upto_region 13 with (fail)
  clear d1 d2 d3 d4 d5
  obtain ⟨z1, hz1⟩ : ∃ z, nodE P' D' 0 = z := ⟨_, rfl⟩
  rw [hz1]
  have HZ1 := Lib.hid hz1
  clear hz1
  go_upto_if 94 with (fail)
  go_cut [] (fun wx => FA w wx w1.heap.size A1 m c1 A2 k c2 P D ∧ Ints wx wx.heap.size N q xs)
  case first =>
    by_cases h1 : z1 = 0
    · have ht : (z1 == 0) = true := by simpa using h1
      have HZ2 : Hid (nodE P' D' 0 = 0) := Lib.hid (HZ1.out.trans h1)
      obtain ⟨q0, q1⟩ := E9.out.q.cells
      clear h1
      go_wp2_with fail
      refine (doorsUnder_any A3 A4 m' c3 k' c4 P' D' 0 _ E9.out.o hmm' hkk').mono ?_
      rw [HZ2.out]
      rintro e w10 ⟨Ar, nr, cr, rfl, or_, hnr, _, _, b10⟩
      obtain rfl : na = nr := by rw [← A9.out.len, ← or_.len]
      have F10 := Lib.hid (F9.out.on b10)
      have N10 := Lib.hid (N9.out.on b10)
      have A10 := Lib.hid (A9.out.on b10)
      have R10 := Lib.hid or_.ints
      clear b10 or_ F9 N9 E9 A9 q0 q1
      go_wp2_with fail
      refine (likeInts_true _ _ _ _ _ _ _ R10.out A10.out hna).mono ?_
      rintro e w11 ⟨rfl, b11⟩
      have F11 := F10.out.on b11
      have N11 := N10.out.on b11
      go_wp2_with fail
      go_meet
      exact ⟨F11, N11⟩
    · have ht : (z1 == 0) = false := by simpa using h1
      go_wp2_with fail
      go_meet
      exact ⟨F9.out, N9.out⟩
  case rest =>
    clear F9 N9 E9 A9 HZ1
    obtain ⟨hF, hN⟩ := hcut
    obtain ⟨w12, rfl⟩ : ∃ w12, w12 = wc := ⟨_, rfl⟩
    have F12 := Lib.hid hF
    have N12 := Lib.hid hN
    clear hF hN
    obtain ⟨z, hz⟩ : ∃ z, cgE P D xs = z := ⟨_, rfl⟩
    rw [hz]
    by_cases hz0 : z = 0
    rotate_left
    · have ht : (z != 0) = true := by simpa using hz0
      clear hz
      go_wp2
      go_ret
      exact ⟨rfl, F12.out.b⟩
    subst hz0
    have HZ := Lib.hid hz
    have HL := Lib.hid F12.out.o.ps.len
    clear hz
    go_wp2
    go_loopw [20] (fun i wr => ∃ j : Nat, j ≤ q ∧ i = .int .i64 j ∧ Hid (FA w wr w1.heap.size A1 m c1 A2 k c2 P D) ∧ Hid (Ints wr wr.heap.size N q xs)) (fun i _ => q - (intOf i).toNat)
    case atStart => exact ⟨0, Nat.zero_le _, rfl, F12, N12⟩
    case round =>
      obtain ⟨j, hj, rfl, HF, HN⟩ := hrel
      clear F12 N12
      by_cases hlt : j < q
      · obtain ⟨ad, v, rfl, hab, hv, hc⟩ := HN.out.at_ hlt
        obtain ⟨I, rfl, hI, hnI, haI, hhI⟩ := node_here HZ.out HL.out (List.mem_of_getElem? hv)
        have HNI := Lib.hid (And.intro hnI (And.intro haI hhI))
        obtain ⟨q0, q1⟩ := HF.out.q.cells
        have HC := Lib.hid hc
        have HQ := Lib.hid (And.intro q0 (And.intro q1 hc))
        have i0 : (0 : Int) ≤ (j : Int) := by omega
        have i1 : (j : Int) < (q : Int) := by omega
        clear hv hnI haI hhI
        go_wp2
        go_region_held3 (fun w' => w'.cell? ⟨w1.heap.size, 0, none⟩ = some (.slice A1 m c1) ∧ w'.cell? ⟨w1.heap.size, 1, none⟩ = some (.slice A2 k c2) ∧ w'.cell? (ad.add j) = some (.int .i64 (I : Int)))
          (first
            | go_keep
            | (with_reducible exact HQ2.out))
          (first
            | (go_at_call 72; refine (ancestorsOf_any A1 A2 m c1 k c2 P D (I : Int) _ (HF.out.o.on (below_drewN (Below.refl _ _) 1)) hmm hkk).mono ?_; rw [HNI.out.1, HNI.out.2.1]; rintro e w13 ⟨Ab, nb, cb, rfl, ob, hnb, _, _, b13⟩; have bb := below_trans' (below_drewN (Below.refl _ _) 1) b13; have F13 := Lib.hid (HF.out.on bb); have N13 := Lib.hid (HN.out.on bb); have B13 := Lib.hid ob.ints; have HQ2 : Hid (w13.cell? ⟨w1.heap.size, 0, none⟩ = some (.slice A1 m c1) ∧ w13.cell? ⟨w1.heap.size, 1, none⟩ = some (.slice A2 k c2) ∧ w13.cell? (ad.add j) = some (.int .i64 (I : Int))) := Lib.hid ⟨F13.out.q.cells.1, F13.out.q.cells.2, (bb.cell (p := ad.add j) (by rw [block_of_add]; exact hab)).trans HC.out⟩))
        all_goals
          clear HF HN q0 q1 hc
          go_wp2_with fail
          refine (hasInt_is Ab nb cb (ancI P I) (cgV P D xs) true HNI.out.2.2 _ B13.out hnb).mono ?_
          rintro e w14 ⟨rfl, rfl⟩
          go_wp2
          go_roundw
          case rel => exact ⟨j + 1, by omega, by go_num, F13, N13⟩
          case measure => simp [intOf]; omega
      · go_wp2
        go_ret
        exact ⟨rfl, HF.out.b⟩

end Go.Proofs.Ytnadcjclihflcaa
