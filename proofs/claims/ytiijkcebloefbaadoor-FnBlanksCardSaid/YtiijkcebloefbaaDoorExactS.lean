/- ExactBlank and CountExact of the model: their contracts. -/
import Derived.Test.YtiijkcebloefbaaDoorWays
import Derived.Test.YtiijkcebloefbaaDoorRise
import Derived.Test.YtiijkcebloefbaaDoorSameS
namespace Go.Proofs.YtiijkcebloefbaaDoor
open Go.RowKit

/-- the blanks that enter exactly the keyways with some indices -/
def exP (xs ys : List Int) (b : Nat) : Bool := decide (entI (b : Int) xs xs.length = ys)
def exI (xs ys : List Int) (k : Nat) : List Int := ((List.range k).filter (exP xs ys)).map (fun (b : Nat) => (b : Int))
theorem exI_len (xs ys : List Int) (k : Nat) : (exI xs ys k).length ≤ k := by
  unfold exI
  rw [List.length_map]
  exact Nat.le_trans (List.length_filter_le _ _) (by simp)
theorem exI_yes {xs ys : List Int} {k : Nat} (h : exP xs ys k = true) : exI xs ys (k + 1) = exI xs ys k ++ [(k : Int)] := by
  unfold exI
  rw [List.range_succ, List.filter_append, List.map_append]
  simp [h]
theorem exI_no {xs ys : List Int} {k : Nat} (h : exP xs ys k = false) : exI xs ys (k + 1) = exI xs ys k := by
  unfold exI
  rw [List.range_succ, List.filter_append, List.map_append]
  simp [h]
def exOk (xs ys : List Int) : Bool := waysB xs && riseB (xs.length : Int) ys
def headD0 : List Int → Int
  | [] => 0
  | x :: _ => x
def xbV (xs ys : List Int) : Int := if exOk xs ys then headD0 (exI xs ys 4096) else 0
def xbE (xs ys : List Int) : Int := if exOk xs ys then (if exI xs ys 4096 = [] then 4 else 0) else 2
def ceV (xs ys : List Int) : Int := if exOk xs ys then ((exI xs ys 4096).length : Int) else 0
def ceE (xs ys : List Int) : Int := if exOk xs ys then 0 else 2
theorem exOk_no {xs ys : List Int} {n : Nat} (hl : xs.length = n) (h : waysB xs = false ∨ riseB (n : Int) ys = false) : exOk xs ys = false := by
  subst hl
  unfold exOk
  rcases h with h | h <;> simp [h]
theorem exOk_yes {xs ys : List Int} {n : Nat} (hl : xs.length = n) (h : waysB xs = true) (h2 : riseB (n : Int) ys = true) : exOk xs ys = true := by
  subst hl
  simp [exOk, h, h2]
theorem xb_no {xs ys : List Int} (h : exOk xs ys = false) : xbV xs ys = 0 ∧ xbE xs ys = 2 := by simp [xbV, xbE, h]
theorem xb_none {xs ys : List Int} (h : exOk xs ys = true) (h2 : exI xs ys 4096 = []) : xbV xs ys = 0 ∧ xbE xs ys = 4 := by simp [xbV, xbE, h, h2, headD0]
theorem xb_yes {xs ys : List Int} {v : Int} {l : List Int} (h : exOk xs ys = true) (h2 : exI xs ys 4096 = v :: l) : xbV xs ys = v ∧ xbE xs ys = 0 := by simp [xbV, xbE, h, h2, headD0]
theorem ce_no {xs ys : List Int} (h : exOk xs ys = false) : ceV xs ys = 0 ∧ ceE xs ys = 2 := by simp [ceV, ceE, h]
theorem ce_yes {xs ys : List Int} (h : exOk xs ys = true) : ceV xs ys = (exI xs ys 4096).length ∧ ceE xs ys = 0 := by simp [ceV, ceE, h]

/-- a row of those of the first k blanks that fit -/
def ExRow (w : World) (base : Nat) (xs ys : List Int) (k : Nat) (v : Value) : Prop := ∃ (q : Nat), q ≤ k ∧ (exI xs ys k).length = q ∧ w.ownsRow base 2 1 v q (intsV (exI xs ys k))

set_option maxHeartbeats 4000000 in
theorem l06Exact_any (A : Option Addr) (n c : Nat) (xs : List Int) (A' : Option Addr) (n' c' : Nat) (ys : List Int) (w : World) (h : Ints w w.heap.size A n xs) (hn : n ≤ 8) (hall : allIn 0 4095 xs = true) (h' : Ints w w.heap.size A' n' ys) :
    Calls Tryd.prog 27 #[.slice A n c, .slice A' n' c'] w (GivesRow w (exI xs ys 4096)) := by
  have HL := Lib.hid h.len
  have HA := Lib.hid hall
  obtain ⟨i0, hi, hz0, hz1, hz2⟩ := info_parts Tryd.info2'
  have HI := Lib.hid (And.intro hi (And.intro hz0 (And.intro hz1 hz2)))
  clear hi hz0 hz1 hz2 hall
  go_enter Tryd.func27, Tryd.ntmps27
  go_wp2
  go_loopw [5, 6] (fun x i wr => ∃ k : Nat, k ≤ 4096 ∧ i = .int .i64 k ∧ ExRow wr w.heap.size xs ys k x ∧ Hid (Below w.heap.size w wr)) (fun _ i _ => 4096 - (intOf i).toNat)
  case atStart => exact ⟨0, Nat.zero_le _, rfl, ⟨0, Nat.le_refl _, rfl, rowNil (Nat.le_refl _)⟩, Lib.hid ((Below.refl _ _).alloc (Nat.le_refl _) _)⟩
  case round =>
    obtain ⟨k, hk, rfl, ⟨q, hq, hql, hx⟩, hbr⟩ := hrel
    have HQ := Lib.hid hql
    have HX := Lib.hid hx
    have hbs := hbr.out.size
    clear hql hx
    by_cases hlt : k < 4096
    · have k0 : (0 : Int) ≤ (k : Int) := by omega
      have k1 : (k : Int) ≤ 4095 := by omega
      have k2 : (k : Int) < 4096 := by omega
      go_wp2_with fail
      refine (l06Of_any (k : Int) A n c xs _ (h.on hbr.out) hn k0 k1 HA.out).mono ?_
      rintro e w1 ⟨A1, n1, c1, rfl, o1, hn1, _, _, b1⟩
      have B1 := Lib.hid (below_trans' hbr.out b1)
      have HX1 := Lib.hid (rowBelow HX.out b1)
      have i1 := o1.ints
      have i2 := h'.on B1.out
      have b1s := B1.out.size
      have HEQ : Hid (decide (entI (k : Int) xs n = ys) = exP xs ys k) := Lib.hid (by unfold exP; rw [HL.out])
      clear o1 b1 HX
      go_wp2_with fail
      refine (sameS_any A1 A' n1 n' c1 c' _ ys _ i1 i2 hn1).mono ?_
      rw [HEQ.out]
      rintro e w2 ⟨rfl, q2, rfl⟩
      clear i1 i2
      have HX2 : Hid ((w1.drewN q2).ownsRow w.heap.size 2 1 u5 q (intsV (exI xs ys k))) := HX1
      have B2 : Hid (Below w.heap.size w (w1.drewN q2)) := Lib.hid (below_drewN B1.out q2)
      have hs2 : w.heap.size ≤ (w1.drewN q2).heap.size := b1s
      generalize hW : w1.drewN q2 = w2 at *
      clear hW HX1 B1 b1s
      rcases he : exP xs ys k with _ | _
      · have HE := Lib.hid (exI_no he)
        clear he
        go_wp2
        go_roundw
        case rel => exact ⟨k + 1, by omega, by go_num, ⟨q, by omega, by rw [HE.out]; exact HQ.out, by rw [HE.out]; exact HX2.out⟩, B2⟩
        case measure => simp [intOf]; omega
      · have HE := Lib.hid (exI_yes he)
        clear he
        go_wp2_with (at_builtin; refine wpList_append_lies _ rfl _ _ 24 rfl w.heap.size 2 i0 _ 1 8 Tryd.underlying24 HI.out.1 HI.out.2.1 HI.out.2.2.1 HI.out.2.2.2 rfl (by omega) _ q _ rfl (HX2.out.alloc _) ⟨w2.heap.size, 0, none⟩ 1 1 [.int .i64 (k : Int)] rfl rfl (World.news_of_block (cs := #[.int .i64 (k : Int)]) (t := 2) (fr := (0, 0)) (heap_alloc_new w2 _)) (by simp [Value.oneCell']) (by omega) (by unfold maxLen; omega) (by omega) (by simp; omega) (w2.heap.size + 1) (by simp) ?_; intro gg cap2 w3 hown3 hgrow hat hlt3)
        go_roundw
        case rel =>
          refine ⟨k + 1, by omega, by go_num, ⟨q + 1, by omega, by rw [HE.out, List.length_append, HQ.out]; rfl, ?_⟩, ?_⟩
          · rw [HE.out, ← intsV_snoc]; exact hown3
          · exact Lib.hid ((B2.out.alloc hs2 _).grown hgrow (by simp; omega) (fun q e => rowBase HX2.out q e))
        case measure => simp [intOf]; omega
    · obtain rfl : k = 4096 := by omega
      obtain ⟨A2, c2, rfl, ho, hc1, hc2⟩ := rowInts HX.out HQ.out
      have HO := Lib.hid ho
      have q1 : q ≤ 1048576 := by omega
      clear ho
      go_wp2
      go_ret
      exact ⟨A2, q, c2, rfl, HO.out, q1, hc1, hc2, hbr.out⟩

/-- what a call answers that gives a number and a code, and turns nothing that lay -/
def GivesNum (w : World) (v code : Int) (e : Ending) (w' : World) : Prop := e = .returned (.tuple #[.int .i64 v, .int .i64 code]) ∧ Below w.heap.size w w'

set_option maxHeartbeats 2000000 in
theorem specCountExact_any (A : Option Addr) (n c : Nat) (xs : List Int) (A' : Option Addr) (n' c' : Nat) (ys : List Int) (w : World) (h : Ints w w.heap.size A n xs) (hn : n ≤ 1048576) (h' : Ints w w.heap.size A' n' ys) (hn' : n' ≤ 1048576) :
    Calls Tryd.prog 10 #[.slice A n c, .slice A' n' c'] w (GivesNum w (ceV xs ys) (ceE xs ys)) := by
  have HL := Lib.hid h.len
  rcases hq : waysB xs with _ | _
  · have HN := Lib.hid (ce_no (exOk_no HL.out (.inl hq) (ys := ys)))
    go_enter Tryd.func10, Tryd.ntmps10
    go_wp2_with (go_at_call 21; refine (l06Ways_any _ _ _ xs _ h hn).mono ?_; rintro e w' ⟨rfl, rfl⟩)
    go_ret2
    exact ⟨ret_int2 HN.out.1.symm HN.out.2.symm, Below.refl _ _⟩
  have HA := Lib.hid (waysB_true hq).2
  have hn8 : n ≤ 8 := by have := (waysB_true hq).1; rw [HL.out] at this; exact this
  rcases hr : riseB (n : Int) ys with _ | _
  · have HN := Lib.hid (ce_no (exOk_no HL.out (.inr hr)))
    go_enter Tryd.func10, Tryd.ntmps10
    go_wp2_with (first | (go_at_call 21; refine (l06Ways_any _ _ _ xs _ h hn).mono ?_; rintro e w' ⟨rfl, rfl⟩) | (go_at_call 26; refine (l01Rises_any _ _ _ ys _ _ h' hn').mono ?_; rw [hr]; rintro e w1 ⟨rfl, b1⟩))
    go_ret2
    exact ⟨ret_int2 HN.out.1.symm HN.out.2.symm, b1⟩
  · have HY := Lib.hid (ce_yes (exOk_yes HL.out hq hr))
    go_enter Tryd.func10, Tryd.ntmps10
    go_wp2_with (first | (go_at_call 21; refine (l06Ways_any _ _ _ xs _ h hn).mono ?_; rintro e w' ⟨rfl, rfl⟩) | (go_at_call 26; refine (l01Rises_any _ _ _ ys _ _ h' hn').mono ?_; rw [hr]; rintro e w1 ⟨rfl, b1⟩) | (go_at_call 27; refine (l06Exact_any A n c xs A' n' c' ys _ (h.on b1) hn8 HA.out (h'.on b1)).mono ?_; rintro e w2 ⟨A2, n2, c2, rfl, o2, hn2, _, _, b2⟩; have HO := Lib.hid o2.len; have c2' := below_trans' b1 b2; clear o2 b1 b2))
    go_ret2
    exact ⟨ret_int2 (by rw [HY.out.1, HO.out]) HY.out.2.symm, c2'⟩

set_option maxHeartbeats 2000000 in
theorem specExactBlank_any (A : Option Addr) (n c : Nat) (xs : List Int) (A' : Option Addr) (n' c' : Nat) (ys : List Int) (w : World) (h : Ints w w.heap.size A n xs) (hn : n ≤ 1048576) (h' : Ints w w.heap.size A' n' ys) (hn' : n' ≤ 1048576) :
    Calls Tryd.prog 8 #[.slice A n c, .slice A' n' c'] w (GivesNum w (xbV xs ys) (xbE xs ys)) := by
  have HL := Lib.hid h.len
  rcases hq : waysB xs with _ | _
  · have HN := Lib.hid (xb_no (exOk_no HL.out (.inl hq) (ys := ys)))
    go_enter Tryd.func8, Tryd.ntmps8
    go_wp2_with (go_at_call 21; refine (l06Ways_any _ _ _ xs _ h hn).mono ?_; rintro e w' ⟨rfl, rfl⟩)
    go_ret2
    exact ⟨ret_int2 HN.out.1.symm HN.out.2.symm, Below.refl _ _⟩
  have HA := Lib.hid (waysB_true hq).2
  have hn8 : n ≤ 8 := by have := (waysB_true hq).1; rw [HL.out] at this; exact this
  rcases hr : riseB (n : Int) ys with _ | _
  · have HN := Lib.hid (xb_no (exOk_no HL.out (.inr hr)))
    go_enter Tryd.func8, Tryd.ntmps8
    go_wp2_with (first | (go_at_call 21; refine (l06Ways_any _ _ _ xs _ h hn).mono ?_; rintro e w' ⟨rfl, rfl⟩) | (go_at_call 26; refine (l01Rises_any _ _ _ ys _ _ h' hn').mono ?_; rw [hr]; rintro e w1 ⟨rfl, b1⟩))
    go_ret2
    exact ⟨ret_int2 HN.out.1.symm HN.out.2.symm, b1⟩
  · have HOK := Lib.hid (exOk_yes HL.out hq hr)
    go_enter Tryd.func8, Tryd.ntmps8
    go_wp2_with (first | (go_at_call 21; refine (l06Ways_any _ _ _ xs _ h hn).mono ?_; rintro e w' ⟨rfl, rfl⟩) | (go_at_call 26; refine (l01Rises_any _ _ _ ys _ _ h' hn').mono ?_; rw [hr]; rintro e w1 ⟨rfl, b1⟩) | fail)
    refine (l06Exact_any A n c xs A' n' c' ys _ (h.on b1) hn8 HA.out (h'.on b1)).mono ?_
    rintro e w2 ⟨A2, n2, c2, rfl, o2, hn2, _, _, b2⟩
    have c2' := below_trans' b1 b2
    clear b1 b2
    rcases hx : exI xs ys 4096 with _ | ⟨v, l⟩
    · have HN := Lib.hid (xb_none HOK.out hx)
      have hn0 : n2 = 0 := by have := o2.len; rw [hx] at this; exact this.symm
      subst hn0
      clear o2 hx
      go_wp2
      go_ret2
      exact ⟨ret_int2 HN.out.1.symm HN.out.2.symm, c2'⟩
    · have HN := Lib.hid (xb_yes HOK.out hx)
      rw [hx] at o2
      have hn0 : 0 < n2 := by have := o2.len; rw [← this]; simp
      obtain ⟨ad, u, rfl, _, hu, hc⟩ := o2.ints.at_ hn0
      obtain rfl : u = v := by simpa using hu.symm
      have hz : ((n2 : Int) == 0) = false := by simp; omega
      have hc0 : w2.cell? ad = some (.int .i64 u) := by simpa [Addr.add] using hc
      have hp : (0 : Int) < (n2 : Int) := by omega
      clear o2 hx hu
      go_wp2
      go_ret2
      exact ⟨ret_int2 HN.out.1.symm HN.out.2.symm, c2'⟩

end Go.Proofs.YtiijkcebloefbaaDoor
