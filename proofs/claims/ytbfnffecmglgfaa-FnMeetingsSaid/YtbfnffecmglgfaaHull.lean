/- HullOf of the program. -/
import Derived.Test.YtbfnffecmglgfaaInLists
namespace Go.Proofs.Ytbfnffecmglgfaa
open Go Go.RowKit


set_option maxRecDepth 100000 in
set_option maxHeartbeats 2000000 in
theorem codeForS_any (m : Mk) (V : Option Addr) (n c : Nat) (yss : List (List Int)) (w : World) (h : Sets w w.heap.size V n yss) (hn : n + sizeL yss ≤ 1048576) :
    Calls Try.prog 93 #[.agg #[.int .i64 m.C, .int .i64 m.D, .int .i64 m.S, .int .i64 m.M, .int .i64 m.L], .slice V n c] w
      fun e w' => e = .returned (.int .i64 (codeF m yss)) ∧ Below w.heap.size w w' := by
  have hx := Boxed.new w 25 m
  have b0 := (Below.refl w.heap.size w).alloc (Nat.le_refl _) (.cells #[.int .i64 m.C, .int .i64 m.D, .int .i64 m.S, .int .i64 m.M, .int .i64 m.L] 25)
  have HL := Lib.hid h.1
  rcases hm : m.ok with _ | _
  · rw [code_bad hm]
    go_enter Try.func93, Try.ntmps93
    go_wp2_with fail
    refine (isMaker_any m _).mono ?_
    rw [hm]
    rintro e w1 ⟨rfl, b1⟩
    have c1 := below_trans' b0 b1
    go_wp2
    go_ret
    exact ⟨rfl, c1⟩
  have HM := Lib.hid hm
  clear hm
  have HS := Lib.hid h
  have HN := Lib.hid hn
  have hn1 : n ≤ 1048576 := by omega
  clear hn
  clear h
  go_enter Try.func93, Try.ntmps93
  go_wp2_with fail
  refine (isMaker_any m _).mono ?_
  rw [HM.out]
  rintro e w1 ⟨rfl, b1⟩
  have x1 := hx.on b1
  have c1 := below_trans' b0 b1
  clear hx b0 b1
  go_wp2
  go_loopw [12] (fun i wr => ∃ k : Nat, k ≤ n ∧ i = .int .i64 k ∧ Hid (∀ j ys, j < k → yss[j]? = some ys → isKeyB m ys = true) ∧ Boxed wr w.heap.size 25 m ∧ Below w.heap.size w wr) (fun i _ => n - (intOf i).toNat)
  case atStart => exact ⟨0, Nat.zero_le _, rfl, Lib.hid (fun j _ hj => absurd hj (by omega)), x1, c1⟩
  case round =>
    obtain ⟨k, hk, rfl, hall, hbox, hb⟩ := hrel
    clear x1 c1
    by_cases hlt : k < n
    · have hy : yss[k]? = some (yss[k]'(by rw [HL.out]; exact hlt)) := List.getElem?_eq_getElem _
      generalize yss[k]'(by rw [HL.out]; exact hlt) = ys at hy
      obtain ⟨ad, ys', A, q, cc, rfl, hab, hy', hc, hi, hqc, hqm⟩ := (HS.out.on hb).at_ hlt
      obtain rfl : ys = ys' := by rw [hy] at hy'; injection hy'
      have hq : q ≤ 1048576 := by have := fits_at HN.out hy; have := hi.len; omega
      have HY := Lib.hid hy
      have X := Lib.hid hbox
      obtain ⟨q0, q1, q2, q3, q4⟩ := hbox.cells
      clear hy hbox
      go_wp2_with fail
      clear q0 q1 q2 q3 q4 hc
      refine (isKey_any m A q cc ys _ hi hq).mono ?_
      rcases hkey : isKeyB m ys with _ | _
      · rintro e w2 ⟨rfl, b2⟩
        have HE := Lib.hid (code_no HM.out HY.out hkey)
        go_wp2
        go_ret
        exact ⟨ret_int HE.out.symm, below_trans' hb b2⟩
      · rintro e w2 ⟨rfl, b2⟩
        have X2 := Lib.hid (X.out.on b2)
        have C2 := Lib.hid (below_trans' hb b2)
        have HK := Lib.hid hkey
        clear hb b2 hi hkey
        go_wp2
        go_roundw
        case rel => exact ⟨k + 1, by omega, by go_num, Lib.hid (fun j zs hj hz => by
          rcases Nat.lt_or_ge j k with h1 | h1
          · exact hall.out j zs h1 hz
          · obtain rfl : j = k := by omega
            rw [HY.out] at hz; cases hz; exact HK.out), X2.out, C2.out⟩
        case measure => simp [intOf]; omega
    · have HE := Lib.hid (code_yes (yss := yss) HM.out (by
        rw [List.all_eq_true]
        intro ys hys
        obtain ⟨j, hj⟩ := List.getElem?_of_mem hys
        exact hall.out j ys (by have := (List.getElem?_eq_some_iff.1 hj).1; rw [HL.out] at this; omega) hj))
      go_wp2
      go_ret
      exact ⟨ret_int HE.out.symm, hb⟩



/-- the cuts of a key have come to the sets, those of its first k chambers -/
def Adm (vs us : Nat → Nat) (xs : List Int) (k : Nat) : Prop := ∀ i d, bitP us i d = (bitP vs i d || (decide (i < k) && decide (xs.getD i 0 = (d : Int))))
theorem Adm.zero (vs : Nat → Nat) (xs : List Int) : Adm vs vs xs 0 := fun i d => by simp
theorem Adm.next {vs us : Nat → Nat} {xs : List Int} {k d : Nat} (h : Adm vs us xs k) (hv : xs[k]? = some (d : Int)) : Adm vs (bitAdd us k d) xs (k + 1) := fun i e => by
  rw [bitP_add, h i e]
  by_cases hi : i = k
  · subst hi
    rw [getD_at hv]
    have e1 : decide ((d : Int) = (e : Int)) = decide (e = d) := by
      by_cases h1 : e = d
      · subst h1; simp
      · rw [decide_eq_false h1, decide_eq_false (by omega)]
    rw [e1]
    simp
  · rw [decide_eq_false hi]
    have e2 : decide (i < k + 1) = decide (i < k) := by
      by_cases h1 : i < k
      · rw [decide_eq_true h1, decide_eq_true (by omega)]
      · rw [decide_eq_false h1, decide_eq_false (by omega)]
    rw [e2]
    simp

set_option maxRecDepth 100000 in
set_option maxHeartbeats 2000000 in
theorem admit_any (m : Mk) (b : Nat) (vs : Nat → Nat) (hv : ∀ i, vs i < 256) (A : Option Addr) (n c : Nat) (xs : List Int) (w : World) (hb : BitBox w b 106 m vs) (h : Ints w b A n xs) (hn : n ≤ 6) (hd : allIn 0 7 xs = true) :
    Calls Try.prog 95 #[.pointer (some ⟨b, 0, none⟩), .slice A n c] w fun e w' => e = .returned (.tuple #[]) ∧ (∃ us, BitBox w' b 106 m us ∧ (∀ i, us i < 256) ∧ Adm vs us xs n) ∧ Below b w w' := by
  have HI := Lib.hid h
  have HD := Lib.hid hd
  have HB := Lib.hid hb
  have HV := Lib.hid hv
  clear h hd hb hv
  go_enter Try.func95, Try.ntmps95
  go_wp2
  go_loopw [8] (fun x wr => ∃ (k : Nat) (us : Nat → Nat), x = .int .i64 k ∧ k ≤ n ∧ Hid (BitBox wr b 106 m us) ∧ Hid (∀ i, us i < 256) ∧ Hid (Adm vs us xs k) ∧ Hid (Below b w wr)) (fun x _ => n - (intOf x).toNat)
  case atStart => exact ⟨0, vs, rfl, Nat.zero_le _, HB, HV, Lib.hid (Adm.zero vs xs), Lib.hid (Below.refl b w)⟩
  case round =>
    obtain ⟨k, us, rfl, hk, hbit, hu, hadm, hbel⟩ := hrel
    by_cases hlt : k < n
    · obtain ⟨ad, v, rfl, hab, hv, hc⟩ := (HI.out.below hbel.out).at_ hlt
      obtain ⟨v0, v1⟩ := allIn_at HD.out hv
      obtain ⟨d, rfl⟩ : ∃ d : Nat, v = (d : Int) := ⟨v.toNat, by omega⟩
      have HA := Lib.hid (hadm.out.next hv)
      have hst := hbit.out.bit (show k < 6 by omega)
      have hfz := hbit.out.thawed (5 + k)
      have i0 : (0 : Int) ≤ (k : Int) := by omega
      have i6 : (k : Int) < 6 := by omega
      clear hv
      go_wp2_with fail
      refine (add_any ⟨b, 5 + k, none⟩ (us k) d _ (hu.out k) (by omega) hst hfz).mono ?_
      rintro e w' ⟨rfl, r, rfl⟩
      have P2 := Lib.hid ((hbit.out.put (d := d) (show k < 6 by omega)).drewN r)
      have U2 := Lib.hid (bitAdd_lt hu.out k (show d < 8 by omega))
      have B2 := Lib.hid (below_drewN (hbel.out.setCell (p := ⟨b, 5 + k, none⟩) (Nat.le_refl _) (.int .u8 ((nxtU (us k) d : Nat) : Int))) r)
      clear hst hfz hc
      go_wp2
      go_roundw
      case rel => exact ⟨k + 1, _, by go_num, by omega, P2, U2, HA, B2⟩
      case measure => simp [intOf]; omega
    · obtain rfl : k = n := by omega
      go_wp2
      go_end0
      exact ⟨rfl, ⟨us, hbit.out, hu.out, hadm.out⟩, hbel.out⟩

/-- what frees the chambers of a hull -/
def hullP (xss : List (List Int)) (i d : Nat) : Bool := xss.any (fun xs => decide (xs.getD i 0 = (d : Int)))
def hullE (m : Mk) (xss : List (List Int)) : Int := if codeF m xss = 0 then (if inB xss.length 1 300 then 0 else 2) else codeF m xss
def hullL (m : Mk) (xss : List (List Int)) : List (List Int) := if hullE m xss = 0 then lockOf m.C.toNat m.D.toNat (hullP xss) else []
def Hulled (n : Nat) (us : Nat → Nat) (xss : List (List Int)) : Prop := ∀ i d, i < n → bitP us i d = hullP xss i d
theorem Hulled.next {n k : Nat} {us vs : Nat → Nat} {xss : List (List Int)} {xs : List Int} (h : Hulled n us (xss.take k)) (hx : xss[k]? = some xs) (ha : Adm us vs xs n) : Hulled n vs (xss.take (k + 1)) := fun i d hi => by
  obtain ⟨hl, e⟩ := List.getElem?_eq_some_iff.1 hx
  rw [ha i d, h i d hi, List.take_succ_eq_append_getElem hl, e]
  unfold hullP
  rw [List.any_append, decide_eq_true hi]
  simp

set_option maxRecDepth 100000 in
set_option maxHeartbeats 4000000 in
theorem hullOf_any (m : Mk) (V : Option Addr) (n c : Nat) (xss : List (List Int)) (w : World) (h : Sets w w.heap.size V n xss) (hn : n + sizeL xss ≤ 1048576) :
    Calls Try.prog 20 #[.agg #[.int .i64 m.C, .int .i64 m.D, .int .i64 m.S, .int .i64 m.M, .int .i64 m.L], .slice V n c] w (GivesLockE w (hullE m xss) (hullL m xss)) := by
  have c0 := ((Below.refl w.heap.size w).alloc (Nat.le_refl _) (.cells #[.int .i64 m.C, .int .i64 m.D, .int .i64 m.S, .int .i64 m.M, .int .i64 m.L] 25)).alloc (by simp) (.cells #[.slice none 0 0] 30)
  have x0 := (Boxed.new w 25 m).alloc (.cells #[.slice none 0 0] 30)
  have o0 := Cell1.new (w.alloc (.cells #[.int .i64 m.C, .int .i64 m.D, .int .i64 m.S, .int .i64 m.M, .int .i64 m.L] 25)) 30 (.slice none 0 0)
  have s0 := h.on c0
  simp only [World.size_alloc] at o0
  have HN := Lib.hid hn
  have HL := Lib.hid h.len
  have hn1 : n ≤ 1048576 := by omega
  clear h hn
  obtain ⟨q0, q1, q2, q3, q4⟩ := x0.cells
  obtain ⟨z, hz⟩ : ∃ z, codeF m xss = z := ⟨_, rfl⟩
  have HZ := Lib.hid hz
  by_cases hz0 : z = 0
  rotate_left
  · have HE : Hid (hullE m xss = z ∧ hullL m xss = []) := Lib.hid (by
      have e1 : hullE m xss = z := by unfold hullE; rw [hz, if_neg hz0]
      refine ⟨e1, ?_⟩
      unfold hullL
      rw [e1, if_neg hz0])
    rw [HE.out.1, HE.out.2]
    have htest : (z != 0) = true := by simpa using hz0
    clear hz hz0
    go_enter Try.func20, Try.ntmps20
    go_wp2_with fail
    refine (codeForS_any m _ _ _ xss _ s0 HN.out).mono ?_
    rw [HZ.out]
    rintro e w1 ⟨rfl, b1⟩
    have c1 := below_trans' c0 b1
    have o1 := o0.on b1
    have f1 := o1.thawed
    have k1 := o1.cell
    clear q0 q1 q2 q3 q4
    go_wp2
    have L1 := o1.put (.slice none 0 0)
    have r0 := L1.cell
    refine bodyPost_ret (v := .tuple #[.agg #[.slice none 0 0], .int .i64 z]) (by simp [results, Try.results20, go_sem, r0]) rfl ⟨none, 0, 0, [], rfl, Rag.nil none ?_, Nat.le_refl _, by omega, c1.setCell (by simp) _⟩
    have := c1.size
    simpa [World.setCell] using this
  subst hz0
  obtain ⟨hm, hkeys⟩ := code_zero.1 hz
  have HM := Lib.hid hm
  have HK : Hid (∀ (k : Nat) (ys : List Int), xss[k]? = some ys → isKeyB m ys = true) := Lib.hid (fun k ys hy => List.all_eq_true.1 hkeys ys (List.mem_of_getElem? hy))
  clear hz hkeys
  rcases hin : inB (n : Int) 1 300 with _ | _
  · have HE : Hid (hullE m xss = 2 ∧ hullL m xss = []) := Lib.hid (by
      have e1 : hullE m xss = 2 := by unfold hullE; rw [HZ.out, HL.out, hin]; rfl
      refine ⟨e1, ?_⟩
      unfold hullL
      rw [e1]; rfl)
    rw [HE.out.1, HE.out.2]
    go_enter Try.func20, Try.ntmps20
    go_wp2_with fail
    refine (codeForS_any m _ _ _ xss _ s0 HN.out).mono ?_
    rw [HZ.out]
    rintro e w1 ⟨rfl, b1⟩
    have c1 := below_trans' c0 b1
    have o1 := o0.on b1
    have f1 := o1.thawed
    have k1 := o1.cell
    clear q0 q1 q2 q3 q4
    go_wp2_with fail
    refine (isWithin_at _ _ _ _ false hin).mono ?_
    rintro e w' ⟨rfl, rfl⟩
    go_wp2
    have L1 := o1.put (.slice none 0 0)
    have r0 := L1.cell
    refine bodyPost_ret (v := .tuple #[.agg #[.slice none 0 0], .int .i64 2]) (by simp [results, Try.results20, go_sem, r0]) rfl ⟨none, 0, 0, [], rfl, Rag.nil none ?_, Nat.le_refl _, by omega, c1.setCell (by simp) _⟩
    have := c1.size
    simpa [World.setCell] using this
  have HE : Hid (hullE m xss = 0 ∧ hullL m xss = lockOf m.C.toNat m.D.toNat (hullP xss)) := Lib.hid (by
    have e1 : hullE m xss = 0 := by unfold hullE; rw [HZ.out, HL.out, hin]; rfl
    refine ⟨e1, ?_⟩
    unfold hullL
    rw [e1]; rfl)
  rw [HE.out.1, HE.out.2]
  obtain ⟨m1, m2, m3, m4, m5, m6, m7, m8, m9, m10, m11⟩ := Mk.ok_true hm
  have HS := Lib.hid s0
  clear hm
  go_enter Try.func20, Try.ntmps20
  go_wp2_with fail
  refine (codeForS_any m _ _ _ xss _ s0 HN.out).mono ?_
  rw [HZ.out]
  rintro e w1 ⟨rfl, b1⟩
  have c1 := below_trans' c0 b1
  have x1 := x0.on b1
  have o1 := o0.on b1
  have s1 := Lib.hid (HS.out.on b1)
  clear q0 q1 q2 q3 q4 x0 s0 o0 c0 b1 HS
  obtain ⟨q0, q1, q2, q3, q4⟩ := x1.cells
  go_wp2_with fail
  refine (isWithin_at _ _ _ _ true hin).mono ?_
  rintro e w' ⟨rfl, rfl⟩
  have X1 := Lib.hid (BitBox.zero w1 106 m rfl)
  have O1 := Lib.hid (o1.alloc (.cells #[.int .i64 m.C, .int .i64 m.D, .int .i64 m.S, .int .i64 m.M, .int .i64 m.L, .int .u8 0, .int .u8 0, .int .u8 0, .int .u8 0, .int .u8 0, .int .u8 0] 106))
  have B1 := Lib.hid (c1.alloc c1.size (.cells #[.int .i64 m.C, .int .i64 m.D, .int .i64 m.S, .int .i64 m.M, .int .i64 m.L, .int .u8 0, .int .u8 0, .int .u8 0, .int .u8 0, .int .u8 0, .int .u8 0] 106))
  have A1 := Lib.hid ((Below.refl w1.heap.size w1).alloc (Nat.le_refl _) (.cells #[.int .i64 m.C, .int .i64 m.D, .int .i64 m.S, .int .i64 m.M, .int .i64 m.L, .int .u8 0, .int .u8 0, .int .u8 0, .int .u8 0, .int .u8 0, .int .u8 0] 106))
  have E1 := Lib.hid c1
  have hsz := c1.size
  have ho1 := o1.lt
  clear x1 o1 c1
  go_wp2
  clear q0 q1 q2 q3 q4
  go_loopw [26] (fun x wr => ∃ (k : Nat) (us : Nat → Nat), x = .int .i64 k ∧ k ≤ n ∧ Hid (BitBox wr w1.heap.size 106 m us) ∧ Hid (∀ i, us i < 256) ∧ Hid (Hulled m.C.toNat us (xss.take k)) ∧ Hid (Cell1 wr (w.heap.size + 1) 30 (.slice none 0 0)) ∧ Hid (Below w1.heap.size w1 wr)) (fun x _ => n - (intOf x).toNat)
  case atStart => exact ⟨0, _, rfl, Nat.zero_le _, X1, Lib.hid (fun i => by omega), Lib.hid (fun i d _ => by unfold bitP hullP; simp), O1, A1⟩
  case round =>
    obtain ⟨k, us, rfl, hk, hbit, hu, hhul, hres, hb⟩ := hrel
    clear X1 O1 A1
    by_cases hlt : k < n
    · obtain ⟨ad, ys, A, q, cc, rfl, hab, hy, hc0, hi, hqc, hqm⟩ := s1.out.at_ hlt
      have hc := (hb.out.cell (p := ad.add k) (by rw [block_of_add]; exact hab)).trans hc0
      have hky := HK.out k ys hy
      obtain ⟨_, f2, _⟩ := key_facts hky
      have hq6 : q ≤ 6 := by have := hi.len; omega
      have hqC : Hid (m.C.toNat = q) := Lib.hid (by have := hi.len; omega)
      have H7 := Lib.hid (key_seven hky)
      have HY := Lib.hid hy
      have HI := Lib.hid (hi.below hb.out)
      clear hy hi hky hc0 f2
      go_wp2_with fail
      refine (admit_any m w1.heap.size us hu.out A q cc ys _ hbit.out HI.out hq6 H7.out).mono ?_
      rintro e w2 ⟨rfl, ⟨us', h1, h2, h3⟩, b2⟩
      have HU := Lib.hid (hhul.out.next HY.out (by rw [hqC.out]; exact h3))
      have P2 := Lib.hid h1
      have U2 := Lib.hid h2
      have B2 := Lib.hid (hb.out.trans b2)
      have O2 := Lib.hid (hres.out.below b2 ho1)
      clear h1 h2 h3 b2 hc
      go_wp2
      go_roundw
      case rel => exact ⟨k + 1, us', by go_num, by omega, P2, U2, HU, O2, B2⟩
      case measure => simp [intOf]; omega
    · obtain rfl : k = n := by omega
      have HP : Hid (lockOf m.C.toNat m.D.toNat (bitP us) = lockOf m.C.toNat m.D.toNat (hullP xss)) := Lib.hid (lockOf_congr (fun i d hi _ => by
        have := hhul.out i d hi
        rwa [List.take_of_length_le (by rw [HL.out]; exact Nat.le_refl _)] at this))
      obtain ⟨r0, r1, r2, r3, r4, r5, r6, r7, r8, r9, r10⟩ := hbit.out.cells
      go_wp2_with fail
      refine (inLists_any m HM.out us hu.out _).mono ?_
      rintro e w2 ⟨V2, n2, c2, gs, rfl, hrag, hc2, hcm2, b2⟩
      rw [HP.out] at hrag
      have o2 := hres.out.on b2
      have f2 := o2.thawed
      have g2 := o2.cell
      have hs2 := hb.out.size
      have C2 := Lib.hid (B1.out.size)
      have D2 := Lib.hid ((hb.out.mono hsz).trans (b2.mono (by omega)))
      have HR := Lib.hid hrag
      clear r0 r1 r2 r3 r4 r5 r6 r7 r8 r9 r10 hrag b2
      go_wp2
      have L1 := o2.put (.slice V2 n2 c2)
      have r0 := L1.cell
      have R2 := HR.out.asetCell (p := ⟨w.heap.size + 1, 0, none⟩) (by show w.heap.size + 1 < _; omega) (.slice V2 n2 c2)
      refine bodyPost_ret (v := .tuple #[.agg #[.slice V2 n2 c2], .int .i64 0]) (by simp [results, Try.results20, go_sem, r0]) rfl ⟨V2, n2, c2, gs, rfl, R2.more (by omega), hc2, hcm2, ?_⟩
      exact (E1.out.trans D2.out).setCell (by show w.heap.size ≤ w.heap.size + 1; omega) _

end Go.Proofs.Ytbfnffecmglgfaa
