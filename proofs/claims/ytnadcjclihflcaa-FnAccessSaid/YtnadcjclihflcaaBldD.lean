/- DoorsUnder, DoorsOf and AncestorsOf of the program. -/
import Derived.Test.YtnadcjclihflcaaBldN
import Derived.Deep.RegionHeld3
namespace Go.Proofs.Ytnadcjclihflcaa
open Go Go.RowKit

theorem nod_zero {P : List Int} {D : List Bool} {x : Int} (h : nodE P D x = 0) : bldB P D = true ∧ 0 ≤ x ∧ x.toNat < P.length := by
  unfold nodE at h
  revert h
  rcases bldB P D with _ | _
  · intro h; cases h
  · rcases hq : inB x 0 ((P.length : Int) - 1) with _ | _
    · intro h; cases h
    · intro _
      rw [inB_true] at hq
      exact ⟨rfl, hq.1, by omega⟩
theorem anc_short {P : List Int} (h : Tree P) {i : Nat} (hi : i < P.length) (hn : P.length ≤ 24) : (ancN P i).length ≤ 24 := by
  have := dep_le h i hi
  unfold depN at this
  omega

/-- what a call answers that gives a list of its own -/
def GivesOne (w : World) (xs : List Int) (e : Ending) (w' : World) : Prop :=
  ∃ A n c, e = .returned (.slice A n c) ∧ Own w' w.heap.size w'.heap.size A n xs ∧ n ≤ 1048576 ∧ n ≤ c ∧ c ≤ 9223372036854775807 ∧ Below w.heap.size w w'

set_option maxRecDepth 100000 in
set_option maxHeartbeats 2000000 in
theorem doorsAmong_any (A B : Option Addr) (n c k d : Nat) (P : List Int) (D : List Bool) (p : Nat → Bool) (w : World) (h : Bld w A n B k P D) (k24 : k ≤ 24) (k0 : 0 < k) :
    Calls Try.prog 83 #[.agg #[.slice A n c, .slice B k d], .agg (set24 p)] w (GivesOne w (amD D p k)) := by
  have c0 := (Below.refl w.heap.size w).alloc (Nat.le_refl _) (.cells #[.slice A n c, .slice B k d] 27)
  have c1 := c0.alloc (by simp) (.cells (set24 p) 89)
  have H := Lib.hid h
  obtain ⟨ii, hi0, hz0, hz1, hz2⟩ := info_parts Try.info2'
  have HF := Lib.hid (And.intro hi0 (And.intro hz0 (And.intro hz1 hz2)))
  have S0 : Set24 ((w.alloc (.cells #[.slice A n c, .slice B k d] 27)).alloc (.cells (set24 p) 89)) (w.heap.size + 1) p := by
    have := heap_alloc_new (w.alloc (.cells #[.slice A n c, .slice B k d] 27)) (.cells (set24 p) 89)
    rw [World.size_alloc] at this
    exact this
  have K0 := (Cell2.new w 27 (.slice A n c) (.slice B k d)).alloc (.cells (set24 p) 89)
  have C0 := Lib.hid c1
  obtain ⟨q0, q1⟩ := K0.cells
  have R2 := rowNil (w := (w.alloc (.cells #[.slice A n c, .slice B k d] 27)).alloc (.cells (set24 p) 89)) (t := 2) (s := 1) (base := w.heap.size + 1 + 1) (by simp)
  rw [World.size_alloc, World.size_alloc] at R2
  have R2 := Lib.hid R2
  have bB := (Below.refl ((w.alloc (.cells #[.slice A n c, .slice B k d] 27)).alloc (.cells (set24 p) 89)).heap.size ((w.alloc (.cells #[.slice A n c, .slice B k d] 27)).alloc (.cells (set24 p) 89))).alloc (Nat.le_refl _) (.cells #[] 2)
  have S3 := Lib.hid (S0.on bB)
  have C3 := Lib.hid (below_trans' C0.out bB)
  obtain ⟨pb, rfl, _⟩ := H.out.dor_at (i := 0) (by omega)
  obtain ⟨p0, p1⟩ := (K0.on bB).cells
  clear bB S0 K0 c0 c1 C0 h hi0 hz0 hz1 hz2
  go_enter Try.func83, Try.ntmps83
  go_wp2
  clear p0 p1 q0 q1
  go_loopw [5, 12] (fun y x wr => ∃ (j q : Nat) (pv : Value), j ≤ k ∧ x = .int .i64 j ∧ y = pv ∧ q ≤ j ∧ Hid ((amD D p j).length = q) ∧ Hid (wr.ownsRow (w.heap.size + 1 + 1) 2 1 pv q (intsV (amD D p j))) ∧ Hid (Set24 wr (w.heap.size + 1) p) ∧ Hid (Below w.heap.size w wr)) (fun _ x _ => k - (intOf x).toNat)
  case atStart => exact ⟨0, 0, _, Nat.zero_le _, rfl, rfl, Nat.le_refl _, Lib.hid rfl, R2, S3, C3⟩
  case round =>
    obtain ⟨j, q, pv, hj, rfl, rfl, hq, HQ, HR, HS, HB⟩ := hrel
    clear R2 S3 C3
    obtain ⟨A1, c1, rfl, _, _, _⟩ := rowInts HR.out HQ.out
    by_cases hlt : (j : Int) < (k : Int)
    · have hltn : j < k := by omega
      obtain ⟨_, e, hdj⟩ := (H.out.on HB.out).dor_at hltn
      injection e with e
      subst e
      have hcs := HS.out.cell (i := j) (by omega)
      have i0 : (0 : Int) ≤ (j : Int) := by omega
      have i1 : (j : Int) < 24 := by omega
      obtain ⟨b1, hb1⟩ : ∃ b, dor D j = b := ⟨_, rfl⟩
      obtain ⟨b2, hb2⟩ : ∃ b, p j = b := ⟨_, rfl⟩
      rw [hb1] at hdj
      rw [hb2] at hcs
      have H12 : Hid ((dor D j && p j) = (b1 && b2)) := Lib.hid (by rw [hb1, hb2])
      clear hb1 hb2
      rcases hb : (b1 && b2) with _ | _
      · have HN := Lib.hid (amD_no (H12.out.trans hb))
        cases b1
        · go_wp2
          go_roundw
          case rel => exact ⟨j + 1, q, _, by omega, by go_num, rfl, by omega, Lib.hid (by rw [HN.out]; exact HQ.out), Lib.hid (by rw [HN.out]; exact HR.out), HS, HB⟩
          case measure => simp [intOf]; omega
        · cases b2
          · go_wp2
            go_roundw
            case rel => exact ⟨j + 1, q, _, by omega, by go_num, rfl, by omega, Lib.hid (by rw [HN.out]; exact HQ.out), Lib.hid (by rw [HN.out]; exact HR.out), HS, HB⟩
            case measure => simp [intOf]; omega
          · cases hb
      · have HN := Lib.hid (amD_yes (H12.out.trans hb))
        rw [Bool.and_eq_true] at hb
        obtain ⟨e1, e2⟩ := hb
        subst e1; subst e2
        have hszw := HB.out.size
        have hls := HS.out.lt
        have HZV := Lib.hid (rowBase HR.out)
        go_wp2_with (at_builtin; refine wpList_append_lies _ rfl _ _ 24 rfl (w.heap.size + 1 + 1) 2 ii _ 1 8 Try.underlying24 HF.out.1 HF.out.2.1 HF.out.2.2.1 HF.out.2.2.2 rfl (by omega) _ q _ rfl (rowBelow HR.out ((Below.refl _ _).alloc (Nat.le_refl _) _)) ⟨wr.heap.size, 0, none⟩ 1 1 [.int .i64 (j : Int)] rfl rfl (World.news_of_block (cs := #[.int .i64 (j : Int)]) (t := 2) (fr := (0, 0)) (heap_alloc_new wr _)) (by simp [Value.oneCell']) (by omega) (by unfold maxLen; omega) (by omega) (by simp; omega) (wr.heap.size + 1) (by simp) ?_; intro gg cap w5 hown1 hgrow hat hlt3)
        have R5 : Hid (w5.ownsRow (w.heap.size + 1 + 1) 2 1 (.slice (some ⟨gg, 0, none⟩) (q + 1) cap) (q + 1) (intsV (amD D p (j + 1)))) := Lib.hid (by rw [HN.out, ← intsV_snoc]; exact hown1)
        have Q5 : Hid ((amD D p (j + 1)).length = q + 1) := Lib.hid (by rw [HN.out, List.length_append, HQ.out]; rfl)
        have S5 : Hid (Set24 w5 (w.heap.size + 1) p) := Lib.hid (by
          have s := HS.out.on ((Below.refl wr.heap.size wr).alloc (Nat.le_refl _) (.cells #[.int .i64 (j : Int)] 2))
          exact (hgrow.block _ s.lt (fun e => by have := HZV.out _ e.symm; omega)).trans s)
        have B5 := Lib.hid ((HB.out.alloc HB.out.size (.cells #[.int .i64 (j : Int)] 2)).grown hgrow (by simp; omega) (fun q e => by have := HZV.out q e; omega))
        clear hown1 hgrow hat hlt3 hdj hcs
        go_wp2
        go_roundw
        case rel => exact ⟨j + 1, q + 1, _, by omega, by go_num, rfl, by omega, Q5, R5, S5, B5⟩
        case measure => simp [intOf]; omega
    · obtain rfl : j = k := by omega
      obtain ⟨A2, c2, e, ho, h1, h2⟩ := rowInts HR.out HQ.out
      injection e with e1 e2 e3
      subst e1; subst e3
      have HO := Lib.hid (ho.more (show w.heap.size ≤ w.heap.size + 1 + 1 by omega) (Nat.le_refl _) (Nat.le_refl _))
      have q1 : q ≤ 1048576 := by omega
      clear ho
      go_wp2
      go_ret
      exact ⟨_, q, _, rfl, HO.out, q1, h1, h2, HB.out⟩

set_option maxRecDepth 100000 in
set_option maxHeartbeats 2000000 in
theorem doorsUnder_any (A B : Option Addr) (n c k d : Nat) (P : List Int) (D : List Bool) (x : Int) (w : World) (h : Bld w A n B k P D) (hn : n ≤ 1048576) (hk : k ≤ 1048576) :
    Calls Try.prog 69 #[.agg #[.slice A n c, .slice B k d], .int .i64 x] w (GivesList w (nodE P D x) (duL P D x)) := by
  have c0 := (Below.refl w.heap.size w).alloc (Nat.le_refl _) (.cells #[.slice A n c, .slice B k d] 27)
  have c1 := c0.alloc (by simp) (.cells #[.int .i64 x] 2)
  have h0 := Lib.hid (h.on c1)
  have x0 : Hid (Ints ((w.alloc (.cells #[.slice A n c, .slice B k d] 27)).alloc (.cells #[.int .i64 x] 2)) ((w.alloc (.cells #[.slice A n c, .slice B k d] 27)).alloc (.cells #[.int .i64 x] 2)).heap.size (some ⟨w.heap.size + 1, 0, none⟩) 1 [x]) := Lib.hid ⟨rfl, fun _ => ⟨_, rfl, by simp, fun j v hj => by
    rcases j with _ | j
    · have e : x = v := by simpa using hj
      subst e
      have := (Cell1.new (w.alloc (.cells #[.slice A n c, .slice B k d] 27)) 2 (.int .i64 x)).cell
      rw [World.size_alloc] at this
      exact (congrArg _ (add_zero' _)).trans this
    · simp at hj⟩⟩
  have C0 := Lib.hid c1
  have K0 := Lib.hid ((Cell2.new w 27 (.slice A n c) (.slice B k d)).alloc (.cells #[.int .i64 x] 2))
  have H := Lib.hid h
  obtain ⟨p0, p1⟩ := (Cell2.new w 27 (.slice A n c) (.slice B k d)).cells
  have HE := Lib.hid (codB_one P D x)
  clear c0 c1 h
  obtain ⟨z, hz⟩ : ∃ z, nodE P D x = z := ⟨_, rfl⟩
  by_cases hz0 : z = 0
  rotate_left
  · have HD : Hid (duL P D x = []) := Lib.hid (by unfold duL; rw [hz, if_neg hz0])
    rw [hz, HD.out]
    rw [hz] at HE
    have ht : (z != 0) = true := by simpa using hz0
    clear hz hz0
    go_enter Try.func69, Try.ntmps69
    go_wp2_with fail
    refine (codeForB_any A B _ n c k d 1 1 P D [x] _ h0.out x0.out hn hk (by omega)).mono ?_
    rw [HE.out]
    rintro e w1 ⟨rfl, b1⟩
    have C1 := Lib.hid (C0.out.trans (b1.mono C0.out.size))
    clear b1 p0 p1
    go_wp2
    go_ret2
    exact ⟨none, 0, 0, rfl, Own.nil _ (Nat.le_refl _), by omega, by omega, by omega, C1.out⟩
  subst hz0
  obtain ⟨hB, hx0, hxn⟩ := nod_zero hz
  obtain ⟨hT, n2, n24, hkn, _⟩ := bld_tree hB
  have HL := Lib.hid H.out.ps.len
  have hkn' : k = n := by rw [← HL.out, ← H.out.ds.len]; exact hkn
  subst hkn'
  rw [HL.out] at n2 n24
  rw [HL.out] at hxn
  have HT := Lib.hid hT
  obtain ⟨X, rfl⟩ := Int.eq_ofNat_of_zero_le hx0
  rw [Int.toNat_natCast] at hxn
  have HD : Hid (duL P D (X : Int) = doorsTo P D X k) := Lib.hid (by unfold duL; rw [hz, if_pos rfl, HL.out]; rfl)
  rw [hz, HD.out]
  rw [hz] at HE
  clear hz hx0 hB hT hkn
  go_enter Try.func69, Try.ntmps69
  go_wp2_with fail
  refine (codeForB_any A B _ k c k d 1 1 P D [(X : Int)] _ h0.out x0.out hn hk (by omega)).mono ?_
  rw [HE.out]
  rintro e w1 ⟨rfl, b1⟩
  have C1 := Lib.hid (C0.out.trans (b1.mono C0.out.size))
  have K1 := Lib.hid (K0.out.on b1)
  clear b1 p0 p1 h0 x0 C0 K0 HE
  obtain ⟨p0, p1⟩ := K1.out.cells
  have HAM : Hid (amD D (inN k (und P X)) k = doorsTo P D X k) := Lib.hid (by rw [doorsTo_am]; exact amD_congr (fun i hi => by unfold inN; simp [hi]))
  go_wp2
  go_region_held3 (fun w' => w'.cell? ⟨w.heap.size, 0, none⟩ = some (.slice A k c) ∧ w'.cell? ⟨w.heap.size, 1, none⟩ = some (.slice B k d))
    (first
      | go_keep
      | (with_reducible exact E1.out)
      | (with_reducible exact E2.out))
    (first
      | (go_at_call 84; refine (nodesUnder_any A B k c k d X P D _ (H.out.on (below_drewN C1.out 1)) HT.out HL.out n24 hxn).mono ?_; rintro e w2 ⟨rfl, b2⟩; have bb2 := below_trans' (below_drewN (Below.refl _ _) 1) b2; have C2 := Lib.hid (below_trans' C1.out bb2); have K2 := Lib.hid (K1.out.on bb2); have E1 := Lib.hid K2.out.cells)
      | (go_at_call 83; refine (doorsAmong_any A B k c k d P D (inN k (und P X)) _ (H.out.on C2.out) n24 (by omega)).mono ?_; rw [HAM.out]; rintro e w3 ⟨A3, n3, c3, rfl, ho, h1, h2, h3, b3⟩; have HO := Lib.hid (ho.more C2.out.size (Nat.le_refl _) (Nat.le_refl _)); have C3 := Lib.hid (below_trans' C2.out b3); have E2 := Lib.hid (K2.out.on b3).cells))
  all_goals
    clear p0 p1
    go_wp2
    go_ret2
    exact ⟨_, _, _, rfl, HO.out, h1, h2, h3, C3.out⟩

theorem doorsOf_any (A B : Option Addr) (n c k d : Nat) (P : List Int) (D : List Bool) (w : World) (h : Bld w A n B k P D) (hn : n ≤ 1048576) (hk : k ≤ 1048576) :
    Calls Try.prog 49 #[.agg #[.slice A n c, .slice B k d]] w (GivesList w (nodE P D 0) (duL P D 0)) := by
  have c0 := (Below.refl w.heap.size w).alloc (Nat.le_refl _) (.cells #[.slice A n c, .slice B k d] 27)
  have h0 := Lib.hid (h.on c0)
  have C0 := Lib.hid c0
  obtain ⟨p0, p1⟩ := (Cell2.new w 27 (.slice A n c) (.slice B k d)).cells
  clear c0
  go_enter Try.func49, Try.ntmps49
  go_wp2_with fail
  refine (doorsUnder_any A B n c k d P D 0 _ h0.out hn hk).mono ?_
  rintro e w1 ⟨A1, n1, c1, rfl, ho, h1, h2, h3, b1⟩
  have HO := Lib.hid (ho.more (show w.heap.size ≤ (w.alloc (.cells #[.slice A n c, .slice B k d] 27)).heap.size by simp) (Nat.le_refl _) (Nat.le_refl _))
  have C1 := Lib.hid (below_trans' C0.out b1)
  clear ho b1 p0 p1
  go_wp2
  go_ret2
  exact ⟨_, _, _, rfl, HO.out, h1, h2, h3, C1.out⟩

theorem anc_cons {P : List Int} (h : Tree P) {i : Nat} (hi : i < P.length) : ancN P i = i :: (if i = 0 then [] else ancN P (par P i).toNat) := by
  rcases Nat.eq_zero_or_pos i with rfl | h0
  · rw [anc_root h]; rfl
  · rw [anc_up h h0 hi, if_neg (by omega)]
def ancTail (P : List Int) (v : Int) : List Int := if v = -1 then [] else ancI P v.toNat
theorem ancTail_cons {P : List Int} (h : Tree P) {i : Nat} (hi : i < P.length) : ancTail P (i : Int) = (i : Int) :: ancTail P (par P i) := by
  have e1 : ancTail P (i : Int) = ancI P i := by unfold ancTail; rw [if_neg (by omega)]; rfl
  rw [e1]
  unfold ancI
  rw [anc_cons h hi]
  rcases Nat.eq_zero_or_pos i with rfl | h0
  · rw [h.root]; rfl
  · have hu := h.up i h0 hi
    unfold ancTail
    rw [if_neg (by omega : ¬ i = 0), if_neg (by omega : ¬ par P i = -1)]
    rfl

set_option maxRecDepth 100000 in
set_option maxHeartbeats 2000000 in
theorem ancestorsOf_any (A B : Option Addr) (n c k d : Nat) (P : List Int) (D : List Bool) (x : Int) (w : World) (h : Bld w A n B k P D) (hn : n ≤ 1048576) (hk : k ≤ 1048576) :
    Calls Try.prog 72 #[.agg #[.slice A n c, .slice B k d], .int .i64 x] w (GivesList w (nodE P D x) (anL P D x)) := by
  have c0 := (Below.refl w.heap.size w).alloc (Nat.le_refl _) (.cells #[.slice A n c, .slice B k d] 27)
  have c1 := c0.alloc (by simp) (.cells #[.int .i64 x] 2)
  have h0 := Lib.hid (h.on c1)
  have x0 : Hid (Ints ((w.alloc (.cells #[.slice A n c, .slice B k d] 27)).alloc (.cells #[.int .i64 x] 2)) ((w.alloc (.cells #[.slice A n c, .slice B k d] 27)).alloc (.cells #[.int .i64 x] 2)).heap.size (some ⟨w.heap.size + 1, 0, none⟩) 1 [x]) := Lib.hid ⟨rfl, fun _ => ⟨_, rfl, by simp, fun j v hj => by
    rcases j with _ | j
    · have e : x = v := by simpa using hj
      subst e
      have := (Cell1.new (w.alloc (.cells #[.slice A n c, .slice B k d] 27)) 2 (.int .i64 x)).cell
      rw [World.size_alloc] at this
      exact (congrArg _ (add_zero' _)).trans this
    · simp at hj⟩⟩
  have C0 := Lib.hid c1
  have K0 := Lib.hid ((Cell2.new w 27 (.slice A n c) (.slice B k d)).alloc (.cells #[.int .i64 x] 2))
  have H := Lib.hid h
  obtain ⟨p0, p1⟩ := (Cell2.new w 27 (.slice A n c) (.slice B k d)).cells
  have HE := Lib.hid (codB_one P D x)
  clear c0 c1 h
  obtain ⟨z, hz⟩ : ∃ z, nodE P D x = z := ⟨_, rfl⟩
  by_cases hz0 : z = 0
  rotate_left
  · have HD : Hid (anL P D x = []) := Lib.hid (by unfold anL; rw [hz, if_neg hz0])
    rw [hz, HD.out]
    rw [hz] at HE
    have ht : (z != 0) = true := by simpa using hz0
    clear hz hz0
    go_enter Try.func72, Try.ntmps72
    go_wp2_with fail
    refine (codeForB_any A B _ n c k d 1 1 P D [x] _ h0.out x0.out hn hk (by omega)).mono ?_
    rw [HE.out]
    rintro e w1 ⟨rfl, b1⟩
    have C1 := Lib.hid (C0.out.trans (b1.mono C0.out.size))
    clear b1 p0 p1
    go_wp2
    go_ret2
    exact ⟨none, 0, 0, rfl, Own.nil _ (Nat.le_refl _), by omega, by omega, by omega, C1.out⟩
  subst hz0
  obtain ⟨hB, hx0, hxn⟩ := nod_zero hz
  obtain ⟨hT, n2, n24, _⟩ := bld_tree hB
  have HL := Lib.hid H.out.ps.len
  rw [HL.out] at n2 n24
  rw [HL.out] at hxn
  have HT := Lib.hid hT
  obtain ⟨X, rfl⟩ := Int.eq_ofNat_of_zero_le hx0
  rw [Int.toNat_natCast] at hxn
  have HD : Hid (anL P D (X : Int) = ancI P X) := Lib.hid (by unfold anL; rw [hz, if_pos rfl]; rfl)
  have HAX : Hid (ancTail P (X : Int) = ancI P X) := Lib.hid (by unfold ancTail; rw [if_neg (by omega)]; rfl)
  have HA24 : Hid ((ancI P X).length ≤ 24) := Lib.hid (by unfold ancI; rw [List.length_map]; exact anc_short hT (by rw [HL.out]; exact hxn) (by rw [HL.out]; exact n24))
  rw [hz, HD.out]
  rw [hz] at HE
  obtain ⟨ii, hi0, hz0, hz1, hz2⟩ := info_parts Try.info2'
  have HF := Lib.hid (And.intro hi0 (And.intro hz0 (And.intro hz1 hz2)))
  clear hz hx0 hB hT hi0 hz0 hz1 hz2
  go_enter Try.func72, Try.ntmps72
  go_wp2_with fail
  refine (codeForB_any A B _ n c k d 1 1 P D [(X : Int)] _ h0.out x0.out hn hk (by omega)).mono ?_
  rw [HE.out]
  rintro e w1 ⟨rfl, b1⟩
  have R2 := Lib.hid (rowNil (w := w1) (t := 2) (s := 1) (base := w.heap.size + 1) (Nat.le_trans (by simp) b1.size))
  have bB := (Below.refl w1.heap.size w1).alloc (Nat.le_refl _) (.cells #[] 2)
  have C1 := Lib.hid (below_trans' (C0.out.trans (b1.mono C0.out.size)) bB)
  have K1 := Lib.hid ((K0.out.on b1).on bB)
  have s1 : w.heap.size + 1 ≤ w1.heap.size := (K0.out.on b1).lt
  clear b1 bB p0 p1 h0 x0 C0 K0 HE
  go_wp2
  go_loopw [1, 7] (fun v y wr => ∃ (z : Int) (q : Nat) (pv : Value) (pre : List Int), v = .int .i64 z ∧ y = pv ∧ (z = -1 ∨ 0 ≤ z ∧ z < n) ∧ Hid (pre ++ ancTail P z = ancI P X) ∧ Hid (pre.length = q) ∧ Hid (wr.ownsRow (w.heap.size + 1) 2 1 pv q (intsV pre)) ∧ Hid (Cell2 wr w.heap.size 27 (.slice A n c) (.slice B k d)) ∧ Hid (Below w.heap.size w wr)) (fun v _ _ => (intOf v + 1).toNat)
  case atStart => exact ⟨X, 0, _, [], rfl, rfl, .inr ⟨by omega, by omega⟩, Lib.hid (by rw [HAX.out]; rfl), Lib.hid rfl, R2, K1, C1⟩
  case round =>
    obtain ⟨z, q, pv, pre, rfl, rfl, hzr, HP, HQ, HR, HK, HB⟩ := hrel
    clear R2 K1 C1
    obtain ⟨A1, c1, rfl, _, _, _⟩ := rowInts HR.out HQ.out
    have hq24 : q ≤ 24 := by
      have h1 := HP.out
      have h2 := HA24.out
      rw [← h1, List.length_append, HQ.out] at h2
      omega
    by_cases hz1 : z = -1
    · subst hz1
      obtain ⟨A2, c2, e, ho, h1, h2⟩ := rowInts HR.out HQ.out
      injection e with e1 e2 e3
      subst e1; subst e3
      have HPE : Hid (pre = ancI P X) := Lib.hid (by rw [← HP.out]; unfold ancTail; simp)
      have HO := Lib.hid (ho.more (show w.heap.size ≤ w.heap.size + 1 by omega) (Nat.le_refl _) (Nat.le_refl _))
      rw [HPE.out] at HO
      have q1 : q ≤ 1048576 := by omega
      clear ho hzr
      go_wp2
      go_ret2
      exact ⟨_, q, _, rfl, HO.out, q1, h1, h2, HB.out⟩
    · have hz2 : 0 ≤ z ∧ z < n := by omega
      obtain ⟨j, rfl⟩ := Int.eq_ofNat_of_zero_le hz2.1
      have hjn : j < n := by omega
      have HT2 := Lib.hid (ancTail_cons HT.out (i := j) (by rw [HL.out]; exact hjn))
      have HPR : Hid (par P j = -1 ∨ 0 ≤ par P j ∧ par P j < n) := Lib.hid (by
        rcases Nat.eq_zero_or_pos j with rfl | h0
        · exact .inl HT.out.root
        · have := HT.out.up j h0 (by rw [HL.out]; exact hjn); omega)
      have HPM : Hid (par P j < j) := Lib.hid (by
        rcases Nat.eq_zero_or_pos j with rfl | h0
        · rw [HT.out.root]; omega
        · have := HT.out.up j h0 (by rw [HL.out]; exact hjn); omega)
      have hszw := HB.out.size
      have hlk := HK.out.lt
      have HZV := Lib.hid (rowBase HR.out)
      obtain ⟨pa, rfl, _⟩ := H.out.par_at hjn
      clear hzr hz2
      go_upto_region 6 with (at_builtin; refine wpList_append_lies _ rfl _ _ 24 rfl (w.heap.size + 1) 2 ii _ 1 8 Try.underlying24 HF.out.1 HF.out.2.1 HF.out.2.2.1 HF.out.2.2.2 rfl (by omega) _ q _ rfl (rowBelow HR.out ((Below.refl _ _).alloc (Nat.le_refl _) _)) ⟨wr.heap.size, 0, none⟩ 1 1 [.int .i64 (j : Int)] rfl rfl (World.news_of_block (cs := #[.int .i64 (j : Int)]) (t := 2) (fr := (0, 0)) (heap_alloc_new wr _)) (by simp [Value.oneCell']) (by omega) (by unfold maxLen; omega) (by omega) (by simp; omega) (wr.heap.size + 1) (by simp) ?_; intro gg cap w5 hown1 hgrow hat hlt3)
      have R5 : Hid (w5.ownsRow (w.heap.size + 1) 2 1 (.slice (some ⟨gg, 0, none⟩) (q + 1) cap) (q + 1) (intsV (pre ++ [(j : Int)]))) := Lib.hid (by rw [← intsV_snoc]; exact hown1)
      have Q5 : Hid ((pre ++ [(j : Int)]).length = q + 1) := Lib.hid (by rw [List.length_append, HQ.out]; rfl)
      have K5 := Lib.hid ((HK.out.alloc (.cells #[.int .i64 (j : Int)] 2)).grown hgrow (fun e => by have := HZV.out _ e.symm; omega))
      have B5 := Lib.hid ((HB.out.alloc HB.out.size (.cells #[.int .i64 (j : Int)] 2)).grown hgrow (by simp; omega) (fun q e => by have := HZV.out q e; omega))
      have P5 : Hid ((pre ++ [(j : Int)]) ++ ancTail P (par P j) = ancI P X) := Lib.hid (by rw [← HP.out, HT2.out]; simp)
      clear hown1 hgrow hat hlt3
      obtain ⟨p0, p1⟩ := K5.out.cells
      obtain ⟨_, e, hpj⟩ := (H.out.on B5.out).par_at hjn
      injection e with e
      subst e
      obtain ⟨z2, hz2⟩ : ∃ z2, par P j = z2 := ⟨_, rfl⟩
      rw [hz2] at hpj P5 HPR HPM
      have i0 : (0 : Int) ≤ (j : Int) := by omega
      have i1 : (j : Int) < (n : Int) := by omega
      clear hz2
      go_wp2
      go_roundw
      case rel => exact ⟨z2, q + 1, _, _, rfl, rfl, HPR.out, P5, Q5, R5, K5, B5⟩
      case measure => have := HPM.out; have := HPR.out; simp [intOf]; omega

end Go.Proofs.Ytnadcjclihflcaa
