/- CommonWay and WaysOf of the program and of the model, and their laws. -/
import Derived.Test.YtiijkcebloefbaaWay
import Derived.Test.YtiijkcebloefbaaRow
namespace Go.Proofs.Ytiijkcebloefbaa
open Go.RowKit

def comN (xs : List Int) : Nat := xs.foldl (fun a v => a &&& v.toNat) 4095
theorem com_fold (xs : List Int) : ∀ a : Nat, xs.foldl (fun a v => a &&& v.toNat) a ≤ a := by
  induction xs with
  | nil => intro a; exact Nat.le_refl _
  | cons x r ih => intro a; exact Nat.le_trans (ih _) Nat.and_le_left
theorem com_le (xs : List Int) : comN xs ≤ 4095 := com_fold xs 4095
theorem com_step {xs : List Int} {k : Nat} {v : Int} (hv : xs[k]? = some v) : comN (xs.take (k + 1)) = comN (xs.take k) &&& v.toNat := by
  obtain ⟨hk, rfl⟩ := List.getElem?_eq_some_iff.1 hv
  unfold comN
  rw [List.take_succ_eq_append_getElem hk, List.foldl_append]
  rfl
def cwV (xs : List Int) : Int := if waysB xs then (comN xs : Int) else 0
def cwE (xs : List Int) : Int := if waysB xs then 0 else 2
theorem cw_no {xs : List Int} (h : waysB xs = false) : cwV xs = 0 ∧ cwE xs = 2 := by simp [cwV, cwE, h]
theorem cw_yes {xs : List Int} (h : waysB xs = true) : cwV xs = comN xs ∧ cwE xs = 0 := by simp [cwV, cwE, h]

theorem commonWay_any (A : Option Addr) (n c : Nat) (xs : List Int) (w : World) (h : Ints w w.heap.size A n xs) (hn : n ≤ 1048576) :
    Calls Try.prog 33 #[.slice A n c] w fun e w' => e = .returned (.tuple #[.int .i64 (cwV xs), .int .i64 (cwE xs)]) ∧ w = w' := by
  have HL := Lib.hid h.len
  rcases hq : waysB xs with _ | _
  · rw [(cw_no hq).1, (cw_no hq).2]
    go_enter Try.func33, Try.ntmps33
    go_wp2_with (go_at_call 43; refine (areWays_any _ _ _ xs _ h hn).mono ?_; rintro e w' ⟨rfl, rfl⟩)
    go_ret2
    exact ⟨rfl, rfl⟩
  rw [(cw_yes hq).1, (cw_yes hq).2]
  have HA := Lib.hid (waysB_true hq).2
  go_enter Try.func33, Try.ntmps33
  go_wp2_with (go_at_call 43; refine (areWays_any _ _ _ xs _ h hn).mono ?_; rintro e w' ⟨rfl, rfl⟩)
  clear hq
  go_loop [4, 12] (fun s i => ∃ k : Nat, k ≤ n ∧ i = .int .i64 k ∧ s = .int .i64 (comN (xs.take k) : Nat)) (fun _ i => n - (intOf i).toNat)
  case atStart => exact ⟨0, Nat.zero_le _, rfl, rfl⟩
  case round =>
    obtain ⟨k, hk, rfl, rfl⟩ := hrel
    have hl := HL.out
    have hcm := com_le (xs.take k)
    by_cases hlt : k < n
    · obtain ⟨ad, v, rfl, hab, hv, hc⟩ := h.at_ hlt
      obtain ⟨v0, v1⟩ := allIn_at HA.out hv
      have ha : bits .and .i64 ((comN (xs.take k) : Nat) : Int) v = ((comN (xs.take (k + 1)) : Nat) : Int) := by
        rw [and_int64 (by omega) (by omega) v0 (by omega), com_step hv, Int.toNat_natCast]
      clear hv hl
      go_wp2
      go_round
      case rel => exact ⟨k + 1, by omega, by go_num, rfl⟩
      case measure => simp [intOf]; omega
    · have HX := Lib.hid (take_end HL.out hlt)
      clear hl
      go_wp2
      go_ret2
      exact ⟨ret_int2 (by rw [HX.out]) rfl, rfl⟩

theorem specCommonWay_any (A : Option Addr) (n c : Nat) (xs : List Int) (w : World) (h : Ints w w.heap.size A n xs) (hn : n ≤ 1048576) :
    Calls Try.prog 32 #[.slice A n c] w fun e w' => e = .returned (.tuple #[.int .i64 (cwV xs), .int .i64 (cwE xs)]) ∧ w = w' := by
  have HL := Lib.hid h.len
  rcases hq : waysB xs with _ | _
  · rw [(cw_no hq).1, (cw_no hq).2]
    go_enter Try.func32, Try.ntmps32
    go_wp2_with (go_at_call 46; refine (l06Ways_any _ _ _ xs _ h hn).mono ?_; rintro e w' ⟨rfl, rfl⟩)
    go_ret2
    exact ⟨rfl, rfl⟩
  rw [(cw_yes hq).1, (cw_yes hq).2]
  have HA := Lib.hid (waysB_true hq).2
  go_enter Try.func32, Try.ntmps32
  go_wp2_with (go_at_call 46; refine (l06Ways_any _ _ _ xs _ h hn).mono ?_; rintro e w' ⟨rfl, rfl⟩)
  clear hq
  go_loop [4, 5] (fun s i => ∃ k : Nat, k ≤ n ∧ i = .int .i64 k ∧ s = .int .i64 (comN (xs.take k) : Nat)) (fun _ i => n - (intOf i).toNat)
  case atStart => exact ⟨0, Nat.zero_le _, rfl, rfl⟩
  case round =>
    obtain ⟨k, hk, rfl, rfl⟩ := hrel
    have hl := HL.out
    have hcm := com_le (xs.take k)
    by_cases hlt : k < n
    · obtain ⟨ad, v, rfl, hab, hv, hc⟩ := h.at_ hlt
      obtain ⟨v0, v1⟩ := allIn_at HA.out hv
      have ha : bits .and .i64 ((comN (xs.take k) : Nat) : Int) v = ((comN (xs.take (k + 1)) : Nat) : Int) := by
        rw [and_int64 (by omega) (by omega) v0 (by omega), com_step hv, Int.toNat_natCast]
      clear hv hl
      go_wp2
      go_round
      case rel => exact ⟨k + 1, by omega, by go_num, rfl⟩
      case measure => simp [intOf]; omega
    · have HX := Lib.hid (take_end HL.out hlt)
      clear hl
      go_wp2
      go_ret2
      exact ⟨ret_int2 (by rw [HX.out]) rfl, rfl⟩

/-- the places of the keyways, of the first k of them, that a blank enters -/
def entI (b : Int) (xs : List Int) (k : Nat) : List Int := ((List.range k).filter (fun j => entB b (xs.getD j 0))).map (fun (j : Nat) => (j : Int))
theorem entI_len (b : Int) (xs : List Int) (k : Nat) : (entI b xs k).length ≤ k := by
  unfold entI
  rw [List.length_map]
  exact Nat.le_trans (List.length_filter_le _ _) (by simp)
theorem entI_yes {b v : Int} {xs : List Int} {k : Nat} (hv : xs[k]? = some v) (h : entB b v = true) : entI b xs (k + 1) = entI b xs k ++ [(k : Int)] := by
  unfold entI
  rw [List.range_succ, List.filter_append, List.map_append]
  have : xs[k]?.getD 0 = v := by rw [hv]; rfl
  simp [this, h]
theorem entI_no {b v : Int} {xs : List Int} {k : Nat} (hv : xs[k]? = some v) (h : entB b v = false) : entI b xs (k + 1) = entI b xs k := by
  unfold entI
  rw [List.range_succ, List.filter_append, List.map_append]
  have : xs[k]?.getD 0 = v := by rw [hv]; rfl
  simp [this, h]
def woOk (b : Int) (xs : List Int) : Bool := inB b 0 4095 && waysB xs
def woL (b : Int) (xs : List Int) : List Int := if woOk b xs then entI b xs xs.length else []
def woE (b : Int) (xs : List Int) : Int := if woOk b xs then 0 else 2
theorem wo_no {b : Int} {xs : List Int} (h : inB b 0 4095 = false ∨ waysB xs = false) : woL b xs = [] ∧ woE b xs = 2 := by
  have : woOk b xs = false := by rcases h with h | h <;> simp [woOk, h]
  simp [woL, woE, this]
theorem wo_yes {b : Int} {xs : List Int} {n : Nat} (hl : xs.length = n) (h : inB b 0 4095 = true) (h2 : waysB xs = true) : woL b xs = entI b xs n ∧ woE b xs = 0 := by
  subst hl
  have : woOk b xs = true := by simp [woOk, h, h2]
  simp [woL, woE, this]

/-- what a call answers that gives a list of its own -/
def GivesRow (w : World) (zs : List Int) (e : Ending) (w' : World) : Prop :=
  ∃ A n c, e = .returned (.slice A n c) ∧ Own w' w.heap.size w'.heap.size A n zs ∧ n ≤ 1048576 ∧ n ≤ c ∧ c ≤ 9223372036854775807 ∧ Below w.heap.size w w'
/-- a row of some of the first k numbers, in a block from base on -/
def SomeRow (w : World) (base : Nat) (b : Int) (xs : List Int) (k : Nat) (v : Value) : Prop := ∃ (q : Nat), q ≤ k ∧ (entI b xs k).length = q ∧ w.ownsRow base 2 1 v q (intsV (entI b xs k))

set_option maxHeartbeats 2000000 in
theorem l06Of_any (b : Int) (A : Option Addr) (n c : Nat) (xs : List Int) (w : World) (h : Ints w w.heap.size A n xs) (hn : n ≤ 8) (hb0 : 0 ≤ b) (hb1 : b ≤ 4095) (hall : allIn 0 4095 xs = true) :
    Calls Try.prog 47 #[.int .i64 b, .slice A n c] w (GivesRow w (entI b xs n)) := by
  have HL := Lib.hid h.len
  have HA := Lib.hid hall
  obtain ⟨i0, hi, hz0, hz1, hz2⟩ := info_parts Try.info2'
  have HI := Lib.hid (And.intro hi (And.intro hz0 (And.intro hz1 hz2)))
  clear hi hz0 hz1 hz2 hall
  go_enter Try.func47, Try.ntmps47
  go_wp2
  go_loopw [5, 6] (fun x i wr => ∃ k : Nat, k ≤ n ∧ i = .int .i64 k ∧ SomeRow wr w.heap.size b xs k x ∧ Hid (Below w.heap.size w wr)) (fun _ i _ => n - (intOf i).toNat)
  case atStart => exact ⟨0, Nat.zero_le _, rfl, ⟨0, Nat.le_refl _, rfl, rowNil (Nat.le_refl _)⟩, Lib.hid ((Below.refl _ _).alloc (Nat.le_refl _) _)⟩
  case round =>
    obtain ⟨k, hk, rfl, ⟨q, hq, hql, hx⟩, hbr⟩ := hrel
    have HQ := Lib.hid hql
    have HX := Lib.hid hx
    have hbs := hbr.out.size
    have hin := h.below hbr.out
    clear hql hx
    by_cases hlt : k < n
    · obtain ⟨ad, v, rfl, hab, hv, hc⟩ := hin.at_ hlt
      obtain ⟨v0, v1⟩ := allIn_at HA.out hv
      have HV := Lib.hid hv
      have ho := ent64 hb0 hb1 v0 v1
      clear hv
      rcases he : entB b v with _ | _
      · rw [he] at ho
        have HE := Lib.hid (entI_no HV.out he)
        clear he
        go_wp2
        go_roundw
        case rel => exact ⟨k + 1, by omega, by go_num, ⟨q, by omega, by rw [HE.out]; exact HQ.out, by rw [HE.out]; exact HX.out⟩, hbr⟩
        case measure => simp [intOf]; omega
      · rw [he] at ho
        have HE := Lib.hid (entI_yes HV.out he)
        clear he
        go_wp2_with (at_builtin; refine wpList_append_lies _ rfl _ _ 24 rfl w.heap.size 2 i0 _ 1 8 Try.underlying24 HI.out.1 HI.out.2.1 HI.out.2.2.1 HI.out.2.2.2 rfl (by omega) _ q _ rfl (HX.out.alloc _) ⟨wr.heap.size, 0, none⟩ 1 1 [.int .i64 (k : Int)] rfl rfl (World.news_of_block (cs := #[.int .i64 (k : Int)]) (t := 2) (fr := (0, 0)) (heap_alloc_new wr _)) (by simp [Value.oneCell']) (by omega) (by unfold maxLen; omega) (by omega) (by simp; omega) (wr.heap.size + 1) (by simp) ?_; intro gg cap2 w3 hown3 hgrow hat hlt3)
        go_roundw
        case rel =>
          refine ⟨k + 1, by omega, by go_num, ⟨q + 1, by omega, by rw [HE.out, List.length_append, HQ.out]; rfl, ?_⟩, ?_⟩
          · rw [HE.out, ← intsV_snoc]; exact hown3
          · exact Lib.hid ((hbr.out.alloc hbs _).grown hgrow (by simp; omega) (fun q e => rowBase HX.out q e))
        case measure => simp [intOf]; omega
    · obtain rfl : k = n := by omega
      obtain ⟨A', c', rfl, ho, hc1, hc2⟩ := rowInts HX.out HQ.out
      have HO := Lib.hid ho
      have q1 : q ≤ 1048576 := by omega
      clear ho
      go_wp2
      go_ret
      exact ⟨A', q, c', rfl, HO.out, q1, hc1, hc2, hbr.out⟩

set_option maxHeartbeats 2000000 in
theorem waysOf_any (b : Int) (A : Option Addr) (n c : Nat) (xs : List Int) (w : World) (h : Ints w w.heap.size A n xs) (hn : n ≤ 1048576) :
    Calls Try.prog 13 #[.int .i64 b, .slice A n c] w (GivesList w (woE b xs) (woL b xs)) := by
  have HL := Lib.hid h.len
  rcases hb : inB b 0 4095 with _ | _
  · rw [(wo_no (xs := xs) (.inl hb)).1, (wo_no (xs := xs) (.inl hb)).2]
    go_enter Try.func13, Try.ntmps13
    go_wp2_with (go_at_call 42; refine (isProfile_any _ _).mono ?_; rintro e w' ⟨rfl, rfl⟩)
    go_ret2
    exact ⟨none, 0, 0, rfl, Own.nil _ (Nat.le_refl _), by omega, by omega, by omega, Below.refl _ _⟩
  rcases hq : waysB xs with _ | _
  · rw [(wo_no (b := b) (.inr hq)).1, (wo_no (b := b) (.inr hq)).2]
    go_enter Try.func13, Try.ntmps13
    go_wp2_with (first | (go_at_call 42; refine (isProfile_any _ _).mono ?_; rintro e w' ⟨rfl, rfl⟩) | (go_at_call 43; refine (areWays_any _ _ _ xs _ h hn).mono ?_; rintro e w' ⟨rfl, rfl⟩))
    go_ret2
    exact ⟨none, 0, 0, rfl, Own.nil _ (Nat.le_refl _), by omega, by omega, by omega, Below.refl _ _⟩
  rw [(wo_yes HL.out hb hq).1, (wo_yes HL.out hb hq).2]
  obtain ⟨hb0, hb1⟩ := inB_true.1 hb
  have HA := Lib.hid (waysB_true hq).2
  have hn8 : n ≤ 8 := by have := (waysB_true hq).1; rw [HL.out] at this; exact this
  obtain ⟨i0, hi, hz0, hz1, hz2⟩ := info_parts Try.info2'
  have HI := Lib.hid (And.intro hi (And.intro hz0 (And.intro hz1 hz2)))
  clear hi hz0 hz1 hz2
  go_enter Try.func13, Try.ntmps13
  go_wp2_with (first | (go_at_call 42; refine (isProfile_any _ _).mono ?_; rintro e w' ⟨rfl, rfl⟩) | (go_at_call 43; refine (areWays_any _ _ _ xs _ h hn).mono ?_; rintro e w' ⟨rfl, rfl⟩))
  clear hb hq
  go_loopw [6, 20] (fun x i wr => ∃ k : Nat, k ≤ n ∧ i = .int .i64 k ∧ SomeRow wr w.heap.size b xs k x ∧ Hid (Below w.heap.size w wr)) (fun _ i _ => n - (intOf i).toNat)
  case atStart => exact ⟨0, Nat.zero_le _, rfl, ⟨0, Nat.le_refl _, rfl, rowNil (Nat.le_refl _)⟩, Lib.hid ((Below.refl _ _).alloc (Nat.le_refl _) _)⟩
  case round =>
    obtain ⟨k, hk, rfl, ⟨q, hq, hql, hx⟩, hbr⟩ := hrel
    have HQ := Lib.hid hql
    have HX := Lib.hid hx
    have hbs := hbr.out.size
    have hin := h.below hbr.out
    clear hql hx
    by_cases hlt : k < n
    · obtain ⟨ad, v, rfl, hab, hv, hc⟩ := hin.at_ hlt
      obtain ⟨v0, v1⟩ := allIn_at HA.out hv
      have HV := Lib.hid hv
      clear hv
      rcases he : entB b v with _ | _
      · have HE := Lib.hid (entI_no HV.out he)
        go_wp2_with (go_at_call 44; refine (enters_any b v _ hb0 hb1 v0 v1).mono ?_; rw [he]; rintro e w' ⟨rfl, rfl⟩)
        go_roundw
        case rel => exact ⟨k + 1, by omega, by go_num, ⟨q, by omega, by rw [HE.out]; exact HQ.out, by rw [HE.out]; exact HX.out⟩, hbr⟩
        case measure => simp [intOf]; omega
      · have HE := Lib.hid (entI_yes HV.out he)
        go_wp2_with (first | (go_at_call 44; refine (enters_any b v _ hb0 hb1 v0 v1).mono ?_; rw [he]; rintro e w' ⟨rfl, rfl⟩) | (at_builtin; refine wpList_append_lies _ rfl _ _ 24 rfl w.heap.size 2 i0 _ 1 8 Try.underlying24 HI.out.1 HI.out.2.1 HI.out.2.2.1 HI.out.2.2.2 rfl (by omega) _ q _ rfl (HX.out.alloc _) ⟨wr.heap.size, 0, none⟩ 1 1 [.int .i64 (k : Int)] rfl rfl (World.news_of_block (cs := #[.int .i64 (k : Int)]) (t := 2) (fr := (0, 0)) (heap_alloc_new wr _)) (by simp [Value.oneCell']) (by omega) (by unfold maxLen; omega) (by omega) (by simp; omega) (wr.heap.size + 1) (by simp) ?_; intro gg cap2 w3 hown3 hgrow hat hlt3))
        go_roundw
        case rel =>
          refine ⟨k + 1, by omega, by go_num, ⟨q + 1, by omega, by rw [HE.out, List.length_append, HQ.out]; rfl, ?_⟩, ?_⟩
          · rw [HE.out, ← intsV_snoc]; exact hown3
          · exact Lib.hid ((hbr.out.alloc hbs _).grown hgrow (by simp; omega) (fun q e => rowBase HX.out q e))
        case measure => simp [intOf]; omega
    · obtain rfl : k = n := by omega
      obtain ⟨A', c', rfl, ho, hc1, hc2⟩ := rowInts HX.out HQ.out
      have HO := Lib.hid ho
      have q1 : q ≤ 1048576 := by omega
      clear ho
      go_wp2
      go_ret2
      exact ⟨A', q, c', rfl, HO.out, q1, hc1, hc2, hbr.out⟩

theorem specWaysOf_any (b : Int) (A : Option Addr) (n c : Nat) (xs : List Int) (w : World) (h : Ints w w.heap.size A n xs) (hn : n ≤ 1048576) :
    Calls Try.prog 14 #[.int .i64 b, .slice A n c] w (GivesList w (woE b xs) (woL b xs)) := by
  have HL := Lib.hid h.len
  rcases hb : inB b 0 4095 with _ | _
  · rw [(wo_no (xs := xs) (.inl hb)).1, (wo_no (xs := xs) (.inl hb)).2]
    go_enter Try.func14, Try.ntmps14
    go_wp2_with (go_at_call 45; refine (l06Profile_any _ _).mono ?_; rintro e w' ⟨rfl, rfl⟩)
    go_ret2
    exact ⟨none, 0, 0, rfl, Own.nil _ (Nat.le_refl _), by omega, by omega, by omega, Below.refl _ _⟩
  rcases hq : waysB xs with _ | _
  · rw [(wo_no (b := b) (.inr hq)).1, (wo_no (b := b) (.inr hq)).2]
    go_enter Try.func14, Try.ntmps14
    go_wp2_with (first | (go_at_call 45; refine (l06Profile_any _ _).mono ?_; rintro e w' ⟨rfl, rfl⟩) | (go_at_call 46; refine (l06Ways_any _ _ _ xs _ h hn).mono ?_; rintro e w' ⟨rfl, rfl⟩))
    go_ret2
    exact ⟨none, 0, 0, rfl, Own.nil _ (Nat.le_refl _), by omega, by omega, by omega, Below.refl _ _⟩
  rw [(wo_yes HL.out hb hq).1, (wo_yes HL.out hb hq).2]
  obtain ⟨hb0, hb1⟩ := inB_true.1 hb
  have HA := Lib.hid (waysB_true hq).2
  have hn8 : n ≤ 8 := by have := (waysB_true hq).1; rw [HL.out] at this; exact this
  go_enter Try.func14, Try.ntmps14
  go_wp2_with (first | (go_at_call 45; refine (l06Profile_any _ _).mono ?_; rintro e w' ⟨rfl, rfl⟩) | (go_at_call 46; refine (l06Ways_any _ _ _ xs _ h hn).mono ?_; rintro e w' ⟨rfl, rfl⟩) | (go_at_call 47; refine (l06Of_any b _ _ _ xs _ h hn8 hb0 hb1 HA.out).mono ?_; rintro e w' ⟨A', q, c', rfl, ho, h1, h2, h3, hbl⟩))
  have HO := Lib.hid ho
  clear ho
  go_ret2
  exact ⟨A', q, c', rfl, HO.out, h1, h2, h3, hbl⟩

theorem lawCommonWay_any (A : Option Addr) (n c : Nat) (xs : List Int) (w : World) (h : Ints w w.heap.size A n xs) :
    Calls Try.prog 6 #[.slice A n c] w fun e w' => e = .returned (.bool true) ∧ Below w.heap.size w w' := by
  by_cases hn : n ≤ 1048576
  · have d1 : (cwV xs != cwV xs) = false := by simp
    have d2 : (cwE xs != cwE xs) = false := by simp
    go_enter Try.func6, Try.ntmps6
    go_wp2_with fail
    refine (toInt64S_any _ _ _ xs _ h hn).mono ?_
    rintro e w1 ⟨g1, rfl, _, r1, b1⟩
    have i1 := Ints.of_row r1 h.len
    have h1 := h.on b1
    clear r1
    go_wp2_with fail
    refine (specCommonWay_any _ _ _ xs _ i1 hn).mono ?_
    rintro e w' ⟨rfl, rfl⟩
    go_wp2_with fail
    refine (toInt64S_any _ _ _ xs _ h1 hn).mono ?_
    rintro e w2 ⟨g2, rfl, _, r2, b2⟩
    have i2 := Ints.of_row r2 h.len
    have h2 := h1.on b2
    have b2' := below_trans' b1 b2
    clear r2 i1 b1 b2 h1
    go_wp2_with fail
    refine (commonWay_any _ _ _ xs _ i2 hn).mono ?_
    rintro e w' ⟨rfl, rfl⟩
    go_wp2_with fail
    refine (toInt64S_any _ _ _ xs _ h2 hn).mono ?_
    rintro e w3 ⟨g3, rfl, _, r3, b3⟩
    have i3 := Ints.of_row r3 h.len
    have i2' := i2.on b3
    have b3' := below_trans' b2' b3
    clear r3 b3 i2 h2 b2'
    go_wp2_with fail
    refine (eqInts_true _ _ _ _ _ xs _ i2' i3 hn).mono ?_
    rintro e w4 ⟨rfl, b4⟩
    have b4' := below_trans' b3' b4
    go_wp2
    go_ret
    exact ⟨rfl, b4'⟩
  · go_enter Try.func6, Try.ntmps6
    go_wp2
    go_ret
    exact ⟨rfl, Below.refl _ _⟩

set_option maxHeartbeats 1000000 in
theorem lawWaysOf_any (m : Int) (A : Option Addr) (n c : Nat) (xs : List Int) (W : World) (h : Ints W W.heap.size A n xs) :
    Calls Try.prog 5 #[.int .i64 m, .slice A n c] W fun e w' => e = .returned (.bool true) ∧ Below W.heap.size W w' := by
  by_cases hn : n ≤ 1048576
  · go_enter Try.func5, Try.ntmps5
    go_wp2_with fail
    refine (toInt64S_any _ _ _ xs _ h hn).mono ?_
    rintro e w1 ⟨g1, rfl, _, r1, c1⟩
    have i1 := Ints.of_row r1 h.len
    clear r1
    go_wp2_with fail
    refine (specWaysOf_any m _ _ _ xs _ i1 hn).mono ?_
    rintro e w2 ⟨Aw, nw, cw, rfl, ow2, hnw, _, _, b2⟩
    have c2 := below_trans' c1 b2
    have ow2size := c2.size
    clear i1 c1 b2
    go_wp2_with fail
    refine (toInt64S_any _ _ _ xs _ (h.on c2) hn).mono ?_
    rintro e w3 ⟨g3, rfl, hg3, r3, b3⟩
    have ox3 := Own.of_row r3 h.len hg3
    have ow3 := ow2.below b3
    have c3 := below_trans' c2 b3
    have s3 := b3.size
    clear r3 c2 b3 hg3
    go_wp2_with fail
    refine (waysOf_any m _ _ _ xs _ ox3.ints hn).mono ?_
    rintro e w4 ⟨Ag, ng, cg, rfl, og4, hng, _, _, b4⟩
    obtain rfl : nw = ng := by rw [← ow2.len, ← og4.len]
    have ox4 := ox3.below b4
    have ow4 := ow3.below b4
    have c4 := below_trans' c3 b4
    have s4 := b4.size
    clear c3 b4 ox3 ow3 ow2
    go_wp2_with fail
    refine (eqInts_true _ _ _ _ _ _ _ og4.ints ow4.ints hnw).mono ?_
    rintro e w5 ⟨rfl, b5⟩
    have ox5 := ox4.below b5
    have ow5 := ow4.below b5
    have og5 := og4.below b5
    have c5 := below_trans' c4 b5
    clear c4 b5 ox4 ow4 og4
    go_wp2_with fail
    refine (toInt64S_any _ _ _ xs _ (h.on c5) hn).mono ?_
    rintro e w6 ⟨g6, rfl, _, r6, b6⟩
    have i6 := Ints.of_row r6 h.len
    have ox6 := ox5.below b6
    have ow6 := ow5.below b6
    have og6 := og5.below b6
    have c6 := below_trans' c5 b6
    clear r6 c5 b6 ox5 ow5 og5
    go_wp2_with fail
    refine (eqInts_true _ _ _ _ _ _ _ ox6.ints i6 hn).mono ?_
    rintro e w7 ⟨rfl, b7⟩
    have ox7 := ox6.below b7
    have ow7 := ow6.below b7
    have og7 := og6.below b7
    have c7 := below_trans' c6 b7
    clear c6 b7 ox6 ow6 og6 i6
    go_wp2_with fail
    refine (markInts_any _ _ _ _ 1 _ _ _ ox7 hn (by omega) (by omega)).mono ?_
    rintro e w8 ⟨rfl, _, row, hgr, hrow⟩
    have ow8 := ow7.apart hgr (fun g e => .inr (hrow g e).1)
    have og8 := og7.apart hgr (fun g e => .inl (hrow g e).2)
    have c8 := below_grown c7 hgr (fun g e => by have := (hrow g e).1; omega)
    clear hgr hrow row c7 ox7 ow7 og7
    go_wp2_with fail
    refine (eqInts_true _ _ _ _ _ _ _ og8.ints ow8.ints hnw).mono ?_
    rintro e w9 ⟨rfl, b9⟩
    have ow9 := ow8.below b9
    have og9 := og8.below b9
    have c9 := below_trans' c8 b9
    clear b9 ow8 og8 c8
    go_wp2_with fail
    refine (markInts_any _ _ _ _ 1 _ _ _ og9 hnw (by omega) (by omega)).mono ?_
    rintro e w10 ⟨rfl, og10, row, hgr, hrow⟩
    have ow10 := ow9.apart hgr (fun g e => .inr (by have := (hrow g e).1; omega))
    have c10 := below_grown c9 hgr (fun g e => by have := (hrow g e).1; omega)
    clear hgr hrow row c9 ow9 og9
    go_wp2_with fail
    refine (heldInts_any _ _ _ 1 _ og10.ints hnw (by omega) (by omega)).mono ?_
    rintro e w' ⟨rfl, rfl⟩
    have q1 : ((1 + (nw : Int)) != (1 + (nw : Int))) = false := by simp
    go_wp2_with fail
    refine (toInt64S_any _ _ _ xs _ (h.on c10) hn).mono ?_
    rintro e w11 ⟨g11, rfl, _, r11, b11⟩
    have i11 := Ints.of_row r11 h.len
    have ow11 := ow10.below b11
    have og11 := og10.below b11
    have c11 := below_trans' c10 b11
    clear r11 b11 c10 ow10 og10
    go_wp2_with fail
    refine (waysOf_any m _ _ _ xs _ i11 hn).mono ?_
    rintro e w12 ⟨Ah, nh, ch, rfl, oh12, hnh, _, _, b12⟩
    obtain rfl : nw = nh := by rw [← ow11.len, ← oh12.len]
    have ow12 := ow11.below b12
    have og12 := og11.below b12
    have c12 := below_trans' c11 b12
    clear b12 c11 ow11 og11 i11
    go_wp2_with fail
    refine (eqInts_true _ _ _ _ _ _ _ oh12.ints ow12.ints hnw).mono ?_
    rintro e w13 ⟨rfl, b13⟩
    have og13 := og12.below b13
    have c13 := below_trans' c12 b13
    clear b13 c12 ow12 og12 oh12
    go_wp2_with fail
    refine (heldInts_any _ _ _ 1 _ og13.ints hnw (by omega) (by omega)).mono ?_
    rintro e w' ⟨rfl, rfl⟩
    go_wp2
    go_ret
    exact ⟨rfl, c13⟩
  · go_enter Try.func5, Try.ntmps5
    go_wp2
    go_ret
    exact ⟨rfl, Below.refl _ _⟩

end Go.Proofs.Ytiijkcebloefbaa
