/- The law that each door is under exactly its ancestors. -/
import Derived.Test.YtnadcjclihflcaaBldG
import Derived.Test.YtnadcjclihflcaaDrawBN
namespace Go.Proofs.Ytnadcjclihflcaa
open Go Go.RowKit

def hasI (xs : List Int) (v : Int) : Bool := decide (v ∈ xs)
theorem hasInt_any (A : Option Addr) (n c : Nat) (xs : List Int) (v : Int) (w : World) (h : Ints w w.heap.size A n xs) (hn : n ≤ 1048576) :
    Calls Try.prog 35 #[.slice A n c, .int .i64 v] w fun e w' => e = .returned (.bool (hasI xs v)) ∧ w = w' := by
  have HL := Lib.hid h.len
  go_enter Try.func35, Try.ntmps35
  go_wp2
  go_loop [5] (fun i => ∃ k : Nat, k ≤ n ∧ i = .int .i64 k ∧ Hid (hasI (xs.take k) v = false)) (fun i => n - (intOf i).toNat)
  case atStart => exact ⟨0, Nat.zero_le _, rfl, Lib.hid (by simp [hasI])⟩
  case round =>
    obtain ⟨k, hk, rfl, hno⟩ := hrel
    by_cases hlt : k < n
    · obtain ⟨ad, u, rfl, hab, hu, hc⟩ := h.at_ hlt
      have HU := Lib.hid hu
      clear hu
      rcases hq : (u == v) with _ | _
      · have HN : Hid (hasI (xs.take (k + 1)) v = false) := Lib.hid (by
          have h1 := hno.out
          unfold hasI at *
          have h2 : ¬ v ∈ xs.take k := of_decide_eq_false h1
          obtain ⟨hkl, he⟩ := List.getElem?_eq_some_iff.1 HU.out
          have hne : ¬ v = u := fun e => by rw [e] at hq; simp at hq
          refine decide_eq_false ?_
          rw [List.take_succ_eq_append_getElem hkl, List.mem_append]
          rintro (hm | hm)
          · exact h2 hm
          · rw [he] at hm
            exact hne (by simpa using hm))
        go_wp2
        go_round
        case rel => exact ⟨k + 1, by omega, by go_num, HN⟩
        case measure => simp [intOf]; omega
      · have HY : Hid (hasI xs v = true) := Lib.hid (by
          have e : u = v := by simpa using hq
          unfold hasI
          exact decide_eq_true (by rw [← e]; exact List.mem_of_getElem? HU.out))
        go_wp2
        go_ret
        exact ⟨ret_bool HY.out.symm, rfl⟩
    · have HE : Hid (hasI xs v = false) := Lib.hid (by rw [← hno.out, List.take_of_length_le (by rw [HL.out]; omega)])
      go_wp2
      go_ret
      exact ⟨ret_bool HE.out.symm, rfl⟩

theorem hasInt_is (A : Option Addr) (n c : Nat) (xs : List Int) (v : Int) (b : Bool) (hb : hasI xs v = b) (w : World) (h : Ints w w.heap.size A n xs) (hn : n ≤ 1048576) :
    Calls Try.prog 35 #[.slice A n c, .int .i64 v] w fun e w' => e = .returned (.bool b) ∧ w = w' := by
  subst hb; exact hasInt_any A n c xs v w h hn
/-- what the law keeps -/
structure FA (w W : World) (b3 : Nat) (A1 : Option Addr) (m c1 : Nat) (A2 : Option Addr) (k c2 : Nat) (P : List Int) (D : List Bool) : Prop where
  q : Cell2 W b3 27 (.slice A1 m c1) (.slice A2 k c2)
  o : Bld W A1 m A2 k P D
  b : Below w.heap.size w W
theorem FA.on {w W W' : World} {b3 : Nat} {A1 : Option Addr} {m c1 : Nat} {A2 : Option Addr} {k c2 : Nat} {P : List Int} {D : List Bool} (h : FA w W b3 A1 m c1 A2 k c2 P D) (hb : Below W.heap.size W W') : FA w W' b3 A1 m c1 A2 k c2 P D := ⟨h.q.on hb, h.o.on hb, below_trans' h.b hb⟩
theorem FA.new {w W : World} {A1 : Option Addr} {m c1 : Nat} {A2 : Option Addr} {k c2 : Nat} {P : List Int} {D : List Bool} (o : Bld W A1 m A2 k P D) (b : Below w.heap.size w W) : FA w (W.alloc (.cells #[.slice A1 m c1, .slice A2 k c2] 27)) W.heap.size A1 m c1 A2 k c2 P D :=
  ⟨Cell2.new W _ _ _, o.alloc _, b.alloc b.size _⟩

theorem door_node {P : List Int} {D : List Bool} {n : Nat} (hb : bldB P D = true) (hP : P.length = n) {v : Int} (hv : v ∈ duL P D 0) : ∃ I : Nat, v = (I : Int) ∧ I < n ∧ dor D I = true ∧ nodE P D v = 0 ∧ anL P D v = ancI P I := by
  obtain ⟨hT, n2, _⟩ := bld_tree hb
  have e0 : nodE P D 0 = 0 := by rw [nod0]; unfold bdE; rw [hb]; rfl
  unfold duL at hv
  rw [e0, if_pos rfl] at hv
  obtain ⟨I, hI, rfl, h1, _⟩ := doorsTo_mem.1 hv
  have hn : nodE P D (I : Int) = 0 := by
    unfold nodE
    have : inB (I : Int) 0 ((P.length : Int) - 1) = true := by rw [inB_true]; omega
    rw [hb, this]; rfl
  exact ⟨I, rfl, by omega, h1, hn, by unfold anL; rw [hn, if_pos rfl]; rfl⟩
theorem has_same {P : List Int} {D : List Bool} {I : Nat} {x : Int} (hx : nodE P D x = 0) (hI : I < P.length) (hd : dor D I = true) : hasI (ancI P I) x = hasI (duL P D x) (I : Int) := by
  obtain ⟨_, x0, xn⟩ := nod_zero hx
  obtain ⟨X, rfl⟩ := Int.eq_ofNat_of_zero_le x0
  rw [Int.toNat_natCast] at xn
  unfold hasI duL
  rw [hx, if_pos rfl, Int.toNat_natCast]
  congr 1
  apply propext
  rw [doorsTo_mem]
  unfold ancI
  rw [List.mem_map]
  constructor
  · rintro ⟨j, hj, e⟩
    have e' : j = X := by omega
    subst e'
    exact ⟨I, hI, rfl, hd, by simpa [und] using hj⟩
  · rintro ⟨i, _, e, _, hu⟩
    have e' : I = i := by omega
    subst e'
    exact ⟨X, by simpa [und] using hu, rfl⟩
theorem anc_high {P : List Int} {I : Nat} (hI : I < P.length) : (ancI P I).length ≤ higN P := by
  unfold ancI
  rw [List.length_map]
  exact maxTo_ge (f := depN P) P.length I hI

set_option maxRecDepth 100000 in
set_option maxHeartbeats 8000000 in
theorem fnAncestors_any (A : Option Addr) (n c : Nat) (w : World) (h : Bts w w.heap.size A n) :
    Calls Try.prog 17 #[.slice A n c] w fun e w' => e = .returned (.bool true) ∧ Below w.heap.size w w' := by
  by_cases hn : n ≤ 4096
  rotate_left
  · have d0 : decide (4096 < (n : Int)) = true := by simp; omega
    go_enter Try.func17, Try.ntmps17
    go_wp2_with fail
    refine (big_any _ _ _ _).mono ?_
    rintro e w' ⟨rfl, rfl⟩
    rw [d0]
    clear d0
    go_wp2
    go_ret
    exact ⟨rfl, Below.refl _ _⟩
  have d0 : decide (4096 < (n : Int)) = false := by simp; omega
  have HB := Lib.hid h
  clear h
  go_enter Try.func17, Try.ntmps17
  go_wp2_with fail
  refine (big_any _ _ _ _).mono ?_
  rintro e w' ⟨rfl, rfl⟩
  rw [d0]
  clear d0
  go_wp2_with fail
  refine (drawDoorsUnder_any w.heap.size A n c w HB.out (Nat.le_refl _) hn).mono ?_
  rintro e w1 ⟨A1, m, c1, A2, k, c2, P, D, x, rfl, o1, hm, hk, b1⟩
  have F1 := Lib.hid (FA.new (c1 := c1) (c2 := c2) o1.bld b1)
  have hmm : m ≤ 1048576 := by omega
  have hkk : k ≤ 1048576 := by omega
  obtain ⟨q0, q1⟩ := F1.out.q.cells
  clear o1 b1
  go_wp2_with fail
  refine (doorsUnder_any A1 A2 m c1 k c2 P D x _ F1.out.o hmm hkk).mono ?_
  rintro e w2 ⟨Ad, nd, cd, rfl, od, hnd, _, _, b2⟩
  have F2 := Lib.hid (F1.out.on b2)
  have D2 := Lib.hid od.ints
  clear b2 od F1 q0 q1
  obtain ⟨q0, q1⟩ := F2.out.q.cells
  go_wp2_with fail
  refine (specDoorsUnder_any A1 A2 m c1 k c2 P D x _ F2.out.o hmm hkk).mono ?_
  rintro e w3 ⟨Am, nm, cm, rfl, om, hnm, _, _, b3⟩
  obtain rfl : nd = nm := by rw [← D2.out.len, ← om.len]
  have F3 := Lib.hid (F2.out.on b3)
  have D3 := Lib.hid (D2.out.on b3)
  have M3 := Lib.hid om.ints
  clear b3 om F2 D2 q0 q1
  have HB3 := Lib.hid (HB.out.keep (w' := w3) (fun p hp => F3.out.b.cell hp))
  go_wp2_with fail
  refine (drawAncestorsOf_any w.heap.size A n c w3 HB3.out F3.out.b.size hn).mono ?_
  rintro e w4 ⟨A3, m', c3, A4, k', c4, P', D', y, rfl, o4, hm', hk', b4⟩
  have bA := (Below.refl w4.heap.size w4).alloc (Nat.le_refl _) (.cells #[.slice A3 m' c3, .slice A4 k' c4] 27)
  have F4 := Lib.hid ((F3.out.on b4).on bA)
  have D4 := Lib.hid ((D3.out.on b4).on bA)
  have M4 := Lib.hid ((M3.out.on b4).on bA)
  have E4 := Lib.hid (FA.new (c1 := c3) (c2 := c4) o4.bld (Below.refl w4.heap.size w4))
  have hmm' : m' ≤ 1048576 := by omega
  have hkk' : k' ≤ 1048576 := by omega
  obtain ⟨q0, q1⟩ := E4.out.q.cells
  clear o4 b4 bA F3 D3 M3 HB3
  go_wp2_with fail
  refine (ancestorsOf_any A3 A4 m' c3 k' c4 P' D' y _ E4.out.o hmm' hkk').mono ?_
  rintro e w5 ⟨Aa, na, ca, rfl, oa, hna, _, _, b5⟩
  have F5 := Lib.hid (F4.out.on b5)
  have D5 := Lib.hid (D4.out.on b5)
  have M5 := Lib.hid (M4.out.on b5)
  have E5 := Lib.hid (E4.out.on b5)
  have A5 := Lib.hid oa.ints
  clear b5 oa F4 D4 M4 E4 q0 q1
  obtain ⟨q0, q1⟩ := E5.out.q.cells
  go_wp2_with fail
  refine (specAncestorsOf_any A3 A4 m' c3 k' c4 P' D' y _ E5.out.o hmm' hkk').mono ?_
  rintro e w6 ⟨As, ns, cs, rfl, os, hns, _, _, b6⟩
  obtain rfl : na = ns := by rw [← A5.out.len, ← os.len]
  have F6 := Lib.hid (F5.out.on b6)
  have D6 := Lib.hid (D5.out.on b6)
  have M6 := Lib.hid (M5.out.on b6)
  have A6 := Lib.hid (A5.out.on b6)
  have S6 := Lib.hid os.ints
  clear b6 os F5 D5 M5 E5 A5 q0 q1
  have d1 : (nodE P D x != nodE P D x) = false := by simp
  have d2 : (nodE P' D' y != nodE P' D' y) = false := by simp
  go_wp2_with fail
  refine (likeInts_true _ _ _ _ _ _ _ D6.out M6.out hnd).mono ?_
  rintro e w7 ⟨rfl, b7⟩
  have F7 := Lib.hid (F6.out.on b7)
  have D7 := Lib.hid (D6.out.on b7)
  have A7 := Lib.hid (A6.out.on b7)
  have S7 := Lib.hid (S6.out.on b7)
  clear b7 F6 D6 M6 A6 S6
  go_wp2_with fail
  refine (likeInts_true _ _ _ _ _ _ _ A7.out S7.out hna).mono ?_
  rintro e w8 ⟨rfl, b8⟩
  have F8 := Lib.hid (F7.out.on b8)
  have D8 := Lib.hid (D7.out.on b8)
  clear b8 F7 D7 A7 S7 d1 d2
  obtain ⟨z, hz⟩ : ∃ z, nodE P D x = z := ⟨_, rfl⟩
  rw [hz]
  have HZ := Lib.hid hz
  by_cases hz0 : z = 0
  rotate_left
  · have ht : (z != 0) = true := by simpa using hz0
    clear hz
    go_wp2
    go_ret
    exact ⟨rfl, F8.out.b⟩
  subst hz0
  have HNZ := Lib.hid hz
  obtain ⟨hbB, _, _⟩ := nod_zero hz
  have HBB := Lib.hid hbB
  have HL := Lib.hid F8.out.o.ps.len
  have HE0 : Hid (nodE P D 0 = 0 ∧ bdE P D = 0 ∧ hgV P D = (higN P : Int)) := Lib.hid (by rw [nod0]; unfold bdE hgV; rw [hbB]; exact ⟨rfl, rfl, rfl⟩)
  clear hz hbB HZ
  obtain ⟨q0, q1⟩ := F8.out.q.cells
  go_wp2_with fail
  refine (doorsOf_any A1 A2 m c1 k c2 P D _ F8.out.o hmm hkk).mono ?_
  rw [HE0.out.1]
  rintro e w9 ⟨Al, nl, cl, rfl, ol, hnl, _, _, b9⟩
  have F9 := Lib.hid (F8.out.on b9)
  have D9 := Lib.hid (D8.out.on b9)
  have L9 := Lib.hid ol.ints
  clear b9 ol F8 D8 q0 q1
  obtain ⟨q0, q1⟩ := F9.out.q.cells
  go_wp2_with fail
  refine (specDoorsOf_any A1 A2 m c1 k c2 P D _ F9.out.o hmm hkk).mono ?_
  rw [HE0.out.1]
  rintro e w10 ⟨Ak, nk, ck, rfl, ok, hnk, _, _, b10⟩
  obtain rfl : nl = nk := by rw [← L9.out.len, ← ok.len]
  have F10 := Lib.hid (F9.out.on b10)
  have D10 := Lib.hid (D9.out.on b10)
  have L10 := Lib.hid (L9.out.on b10)
  have K10 := Lib.hid ok.ints
  clear b10 ok F9 D9 L9 q0 q1
  go_wp2_with fail
  refine (likeInts_true _ _ _ _ _ _ _ L10.out K10.out hnl).mono ?_
  rintro e w11 ⟨rfl, b11⟩
  have F11 := Lib.hid (F10.out.on b11)
  have D11 := Lib.hid (D10.out.on b11)
  have L11 := Lib.hid (L10.out.on b11)
  clear b11 F10 D10 L10 K10
  obtain ⟨q0, q1⟩ := F11.out.q.cells
  go_wp2_with fail
  refine (heightOf_any A1 A2 m c1 k c2 P D _ F11.out.o hmm hkk).mono ?_
  rw [HE0.out.2.1, HE0.out.2.2]
  rintro e w12 ⟨rfl, b12⟩
  have F12 := Lib.hid (F11.out.on b12)
  have D12 := Lib.hid (D11.out.on b12)
  have L12 := Lib.hid (L11.out.on b12)
  clear b12 F11 D11 L11 q0 q1
  go_wp2
  go_loopw [21] (fun i wr => ∃ j : Nat, j ≤ nl ∧ i = .int .i64 j ∧ Hid (FA w wr w1.heap.size A1 m c1 A2 k c2 P D) ∧ Hid (Ints wr wr.heap.size Ad nd (duL P D x)) ∧ Hid (Ints wr wr.heap.size Al nl (duL P D 0))) (fun i _ => nl - (intOf i).toNat)
  case atStart => exact ⟨0, Nat.zero_le _, rfl, F12, D12, L12⟩
  case round =>
    obtain ⟨j, hj, rfl, HF, HD, HLL⟩ := hrel
    clear F12 D12 L12
    by_cases hlt : j < nl
    · obtain ⟨ad, v, rfl, hab, hv, hc⟩ := HLL.out.at_ hlt
      obtain ⟨I, rfl, hI, hdI, hnI, haI⟩ := door_node HBB.out HL.out (List.mem_of_getElem? hv)
      have HS := Lib.hid (has_same HNZ.out (by rw [HL.out]; exact hI) hdI)
      have HH := Lib.hid (anc_high (P := P) (I := I) (by rw [HL.out]; exact hI))
      have HNI := Lib.hid (And.intro hnI haI)
      obtain ⟨q0, q1⟩ := HF.out.q.cells
      have HC := Lib.hid hc
      have HQ := Lib.hid (And.intro q0 (And.intro q1 hc))
      have i0 : (0 : Int) ≤ (j : Int) := by omega
      have i1 : (j : Int) < (nl : Int) := by omega
      clear hv hdI hnI haI
      go_wp2
      go_region_held3 (fun w' => w'.cell? ⟨w1.heap.size, 0, none⟩ = some (.slice A1 m c1) ∧ w'.cell? ⟨w1.heap.size, 1, none⟩ = some (.slice A2 k c2) ∧ w'.cell? (ad.add j) = some (.int .i64 (I : Int)))
        (first
          | go_keep
          | (with_reducible exact HQ2.out))
        (first
          | (go_at_call 72; refine (ancestorsOf_any A1 A2 m c1 k c2 P D (I : Int) _ (HF.out.o.on (below_drewN (Below.refl _ _) 1)) hmm hkk).mono ?_; rw [HNI.out.1, HNI.out.2]; rintro e w13 ⟨Ab, nb, cb, rfl, ob, hnb, _, _, b13⟩; have bb := below_trans' (below_drewN (Below.refl _ _) 1) b13; have F13 := Lib.hid (HF.out.on bb); have D13 := Lib.hid (HD.out.on bb); have L13 := Lib.hid (HLL.out.on bb); have B13 := Lib.hid ob.ints; have HBN := Lib.hid ob.len; have HQ2 : Hid (w13.cell? ⟨w1.heap.size, 0, none⟩ = some (.slice A1 m c1) ∧ w13.cell? ⟨w1.heap.size, 1, none⟩ = some (.slice A2 k c2) ∧ w13.cell? (ad.add j) = some (.int .i64 (I : Int))) := Lib.hid ⟨F13.out.q.cells.1, F13.out.q.cells.2, (bb.cell (p := ad.add j) (by rw [block_of_add]; exact hab)).trans HC.out⟩))
      all_goals
        clear HF HD HLL q0 q1 hc
        have hbn : (nb : Int) ≤ (higN P : Int) := by rw [← HBN.out]; have := HH.out; omega
        have hc := HQ2.out.2.2
        have hgt : ¬ (higN P : Int) < (nb : Int) := by omega
        obtain ⟨bb, hb2⟩ : ∃ bb, hasI (duL P D x) (I : Int) = bb := ⟨_, rfl⟩
        have HB2 := Lib.hid hb2
        have HB1 := Lib.hid (HS.out.trans hb2)
        have dd : (bb != bb) = false := by simp
        clear hb2
        clear HS HH HNI HQ HC HQ2 HBN
        go_wp2
        have BD := Lib.hid (show Ints w13.drew w13.drew.heap.size Ab nb (ancI P I) from B13.out)
        have DD := Lib.hid (show Ints w13.drew w13.drew.heap.size Ad nd (duL P D x) from D13.out)
        go_region_held3 (fun w' => w'.cell? (ad.add j) = some (.int .i64 (I : Int)))
          (first
            | go_keep)
          (first
            | (go_at_call 35; (with_reducible refine (hasInt_is Ab nb cb (ancI P I) x bb HB1.out _ BD.out hnb).mono ?_); rintro e w' ⟨rfl, rfl⟩)
            | (go_at_call 35; (with_reducible refine (hasInt_is Ad nd cd (duL P D x) (I : Int) bb HB2.out _ DD.out hnd).mono ?_); rintro e w' ⟨rfl, rfl⟩))
        all_goals
          have FN := Lib.hid (F13.out.on (Below.refl w13.heap.size w13).drew)
          have LD := Lib.hid (show Ints w13.drew w13.drew.heap.size (some ad) nl (duL P D 0) from L13.out)
          clear hc dd hgt
          go_wp2
          go_roundw
          case rel => exact ⟨j + 1, by omega, by go_num, FN, DD, LD⟩
          case measure => simp [intOf]; omega
    · go_wp2
      go_ret
      exact ⟨rfl, HF.out.b⟩

end Go.Proofs.Ytnadcjclihflcaa
