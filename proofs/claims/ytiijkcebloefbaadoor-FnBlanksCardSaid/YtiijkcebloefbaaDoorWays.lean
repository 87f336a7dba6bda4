/- CommonWay and WaysOf of the program and of the model, and their laws. -/
import Derived.Test.YtiijkcebloefbaaDoorWay
import Derived.Test.YtiijkcebloefbaaDoorRow
namespace Go.Proofs.YtiijkcebloefbaaDoor
open Go.RowKit

def comN (xs : List Int) : Nat := xs.foldl (fun a v => a &&& v.toNat) 4095
theorem com_fold (xs : List Int) : ∀ a : Nat, xs.foldl (fun a v => a &&& v.toNat) a ≤ a := by
  induction xs with
  | nil => intro a; exact Nat.le_refl _
  | cons x r ih => intro a; exact Nat.le_trans (ih _) Nat.and_le_left
theorem com_le (xs : List Int) : comN xs ≤ 4095 := com_fold xs 4095
theorem com_step {xs : List Int} {k : Nat} {v : Int} (hv : xs[k]? = some v) : comN (xs.take (k + 1)) = comN (xs.take k) &&& v.toNat := by
  obtain ⟨hk, rfl⟩ := List.getElem?_eq_some_iff.1 hv
  unfold comN
  rw [List.take_succ_eq_append_getElem hk, List.foldl_append]
  rfl
def cwV (xs : List Int) : Int := if waysB xs then (comN xs : Int) else 0
def cwE (xs : List Int) : Int := if waysB xs then 0 else 2
theorem cw_no {xs : List Int} (h : waysB xs = false) : cwV xs = 0 ∧ cwE xs = 2 := by simp [cwV, cwE, h]
theorem cw_yes {xs : List Int} (h : waysB xs = true) : cwV xs = comN xs ∧ cwE xs = 0 := by simp [cwV, cwE, h]

theorem commonWay_any (A : Option Addr) (n c : Nat) (xs : List Int) (w : World) (h : Ints w w.heap.size A n xs) (hn : n ≤ 1048576) :
    Calls Tryd.prog 11 #[.slice A n c] w fun e w' => e = .returned (.tuple #[.int .i64 (cwV xs), .int .i64 (cwE xs)]) ∧ w = w' := by
  have HL := Lib.hid h.len
  rcases hq : waysB xs with _ | _
  · rw [(cw_no hq).1, (cw_no hq).2]
    go_enter Tryd.func11, Tryd.ntmps11
    go_wp2_with (go_at_call 28; refine (areWays_any _ _ _ xs _ h hn).mono ?_; rintro e w' ⟨rfl, rfl⟩)
    go_ret2
    exact ⟨rfl, rfl⟩
  rw [(cw_yes hq).1, (cw_yes hq).2]
  have HA := Lib.hid (waysB_true hq).2
  go_enter Tryd.func11, Tryd.ntmps11
  go_wp2_with (go_at_call 28; refine (areWays_any _ _ _ xs _ h hn).mono ?_; rintro e w' ⟨rfl, rfl⟩)
  clear hq
  go_loop [4, 12] (fun s i => ∃ k : Nat, k ≤ n ∧ i = .int .i64 k ∧ s = .int .i64 (comN (xs.take k) : Nat)) (fun _ i => n - (intOf i).toNat)
  case atStart => exact ⟨0, Nat.zero_le _, rfl, rfl⟩
  case round =>
    obtain ⟨k, hk, rfl, rfl⟩ := hrel
    have hl := HL.out
    have hcm := com_le (xs.take k)
    by_cases hlt : k < n
    · obtain ⟨ad, v, rfl, hab, hv, hc⟩ := h.at_ hlt
      obtain ⟨v0, v1⟩ := allIn_at HA.out hv
      have ha : bits .and .i64 ((comN (xs.take k) : Nat) : Int) v = ((comN (xs.take (k + 1)) : Nat) : Int) := by
        rw [and_int64 (by omega) (by omega) v0 (by omega), com_step hv, Int.toNat_natCast]
      clear hv hl
      go_wp2
      go_round
      case rel => exact ⟨k + 1, by omega, by go_num, rfl⟩
      case measure => simp [intOf]; omega
    · have HX := Lib.hid (take_end HL.out hlt)
      clear hl
      go_wp2
      go_ret2
      exact ⟨ret_int2 (by rw [HX.out]) rfl, rfl⟩

theorem specCommonWay_any (A : Option Addr) (n c : Nat) (xs : List Int) (w : World) (h : Ints w w.heap.size A n xs) (hn : n ≤ 1048576) :
    Calls Tryd.prog 12 #[.slice A n c] w fun e w' => e = .returned (.tuple #[.int .i64 (cwV xs), .int .i64 (cwE xs)]) ∧ w = w' := by
  have HL := Lib.hid h.len
  rcases hq : waysB xs with _ | _
  · rw [(cw_no hq).1, (cw_no hq).2]
    go_enter Tryd.func12, Tryd.ntmps12
    go_wp2_with (go_at_call 21; refine (l06Ways_any _ _ _ xs _ h hn).mono ?_; rintro e w' ⟨rfl, rfl⟩)
    go_ret2
    exact ⟨rfl, rfl⟩
  rw [(cw_yes hq).1, (cw_yes hq).2]
  have HA := Lib.hid (waysB_true hq).2
  go_enter Tryd.func12, Tryd.ntmps12
  go_wp2_with (go_at_call 21; refine (l06Ways_any _ _ _ xs _ h hn).mono ?_; rintro e w' ⟨rfl, rfl⟩)
  clear hq
  go_loop [4, 5] (fun s i => ∃ k : Nat, k ≤ n ∧ i = .int .i64 k ∧ s = .int .i64 (comN (xs.take k) : Nat)) (fun _ i => n - (intOf i).toNat)
  case atStart => exact ⟨0, Nat.zero_le _, rfl, rfl⟩
  case round =>
    obtain ⟨k, hk, rfl, rfl⟩ := hrel
    have hl := HL.out
    have hcm := com_le (xs.take k)
    by_cases hlt : k < n
    · obtain ⟨ad, v, rfl, hab, hv, hc⟩ := h.at_ hlt
      obtain ⟨v0, v1⟩ := allIn_at HA.out hv
      have ha : bits .and .i64 ((comN (xs.take k) : Nat) : Int) v = ((comN (xs.take (k + 1)) : Nat) : Int) := by
        rw [and_int64 (by omega) (by omega) v0 (by omega), com_step hv, Int.toNat_natCast]
      clear hv hl
      go_wp2
      go_round
      case rel => exact ⟨k + 1, by omega, by go_num, rfl⟩
      case measure => simp [intOf]; omega
    · have HX := Lib.hid (take_end HL.out hlt)
      clear hl
      go_wp2
      go_ret2
      exact ⟨ret_int2 (by rw [HX.out]) rfl, rfl⟩

/-- the places of the keyways, of the first k of them, that a blank enters -/
def entI (b : Int) (xs : List Int) (k : Nat) : List Int := ((List.range k).filter (fun j => entB b (xs.getD j 0))).map (fun (j : Nat) => (j : Int))
theorem entI_len (b : Int) (xs : List Int) (k : Nat) : (entI b xs k).length ≤ k := by
  unfold entI
  rw [List.length_map]
  exact Nat.le_trans (List.length_filter_le _ _) (by simp)
theorem entI_yes {b v : Int} {xs : List Int} {k : Nat} (hv : xs[k]? = some v) (h : entB b v = true) : entI b xs (k + 1) = entI b xs k ++ [(k : Int)] := by
  unfold entI
  rw [List.range_succ, List.filter_append, List.map_append]
  have : xs[k]?.getD 0 = v := by rw [hv]; rfl
  simp [this, h]
theorem entI_no {b v : Int} {xs : List Int} {k : Nat} (hv : xs[k]? = some v) (h : entB b v = false) : entI b xs (k + 1) = entI b xs k := by
  unfold entI
  rw [List.range_succ, List.filter_append, List.map_append]
  have : xs[k]?.getD 0 = v := by rw [hv]; rfl
  simp [this, h]
def woOk (b : Int) (xs : List Int) : Bool := inB b 0 4095 && waysB xs
def woL (b : Int) (xs : List Int) : List Int := if woOk b xs then entI b xs xs.length else []
def woE (b : Int) (xs : List Int) : Int := if woOk b xs then 0 else 2
theorem wo_no {b : Int} {xs : List Int} (h : inB b 0 4095 = false ∨ waysB xs = false) : woL b xs = [] ∧ woE b xs = 2 := by
  have : woOk b xs = false := by rcases h with h | h <;> simp [woOk, h]
  simp [woL, woE, this]
theorem wo_yes {b : Int} {xs : List Int} {n : Nat} (hl : xs.length = n) (h : inB b 0 4095 = true) (h2 : waysB xs = true) : woL b xs = entI b xs n ∧ woE b xs = 0 := by
  subst hl
  have : woOk b xs = true := by simp [woOk, h, h2]
  simp [woL, woE, this]

/-- what a call answers that gives a list of its own -/
def GivesRow (w : World) (zs : List Int) (e : Ending) (w' : World) : Prop :=
  ∃ A n c, e = .returned (.slice A n c) ∧ Own w' w.heap.size w'.heap.size A n zs ∧ n ≤ 1048576 ∧ n ≤ c ∧ c ≤ 9223372036854775807 ∧ Below w.heap.size w w'
/-- a row of some of the first k numbers, in a block from base on -/
def SomeRow (w : World) (base : Nat) (b : Int) (xs : List Int) (k : Nat) (v : Value) : Prop := ∃ (q : Nat), q ≤ k ∧ (entI b xs k).length = q ∧ w.ownsRow base 2 1 v q (intsV (entI b xs k))

set_option maxHeartbeats 2000000 in
theorem l06Of_any (b : Int) (A : Option Addr) (n c : Nat) (xs : List Int) (w : World) (h : Ints w w.heap.size A n xs) (hn : n ≤ 8) (hb0 : 0 ≤ b) (hb1 : b ≤ 4095) (hall : allIn 0 4095 xs = true) :
    Calls Tryd.prog 23 #[.int .i64 b, .slice A n c] w (GivesRow w (entI b xs n)) := by
  have HL := Lib.hid h.len
  have HA := Lib.hid hall
  obtain ⟨i0, hi, hz0, hz1, hz2⟩ := info_parts Tryd.info2'
  have HI := Lib.hid (And.intro hi (And.intro hz0 (And.intro hz1 hz2)))
  clear hi hz0 hz1 hz2 hall
  go_enter Tryd.func23, Tryd.ntmps23
  go_wp2
  go_loopw [5, 6] (fun x i wr => ∃ k : Nat, k ≤ n ∧ i = .int .i64 k ∧ SomeRow wr w.heap.size b xs k x ∧ Hid (Below w.heap.size w wr)) (fun _ i _ => n - (intOf i).toNat)
  case atStart => exact ⟨0, Nat.zero_le _, rfl, ⟨0, Nat.le_refl _, rfl, rowNil (Nat.le_refl _)⟩, Lib.hid ((Below.refl _ _).alloc (Nat.le_refl _) _)⟩
  case round =>
    obtain ⟨k, hk, rfl, ⟨q, hq, hql, hx⟩, hbr⟩ := hrel
    have HQ := Lib.hid hql
    have HX := Lib.hid hx
    have hbs := hbr.out.size
    have hin := h.below hbr.out
    clear hql hx
    by_cases hlt : k < n
    · obtain ⟨ad, v, rfl, hab, hv, hc⟩ := hin.at_ hlt
      obtain ⟨v0, v1⟩ := allIn_at HA.out hv
      have HV := Lib.hid hv
      have ho := ent64 hb0 hb1 v0 v1
      clear hv
      rcases he : entB b v with _ | _
      · rw [he] at ho
        have HE := Lib.hid (entI_no HV.out he)
        clear he
        go_wp2
        go_roundw
        case rel => exact ⟨k + 1, by omega, by go_num, ⟨q, by omega, by rw [HE.out]; exact HQ.out, by rw [HE.out]; exact HX.out⟩, hbr⟩
        case measure => simp [intOf]; omega
      · rw [he] at ho
        have HE := Lib.hid (entI_yes HV.out he)
        clear he
        go_wp2_with (at_builtin; refine wpList_append_lies _ rfl _ _ 24 rfl w.heap.size 2 i0 _ 1 8 Tryd.underlying24 HI.out.1 HI.out.2.1 HI.out.2.2.1 HI.out.2.2.2 rfl (by omega) _ q _ rfl (HX.out.alloc _) ⟨wr.heap.size, 0, none⟩ 1 1 [.int .i64 (k : Int)] rfl rfl (World.news_of_block (cs := #[.int .i64 (k : Int)]) (t := 2) (fr := (0, 0)) (heap_alloc_new wr _)) (by simp [Value.oneCell']) (by omega) (by unfold maxLen; omega) (by omega) (by simp; omega) (wr.heap.size + 1) (by simp) ?_; intro gg cap2 w3 hown3 hgrow hat hlt3)
        go_roundw
        case rel =>
          refine ⟨k + 1, by omega, by go_num, ⟨q + 1, by omega, by rw [HE.out, List.length_append, HQ.out]; rfl, ?_⟩, ?_⟩
          · rw [HE.out, ← intsV_snoc]; exact hown3
          · exact Lib.hid ((hbr.out.alloc hbs _).grown hgrow (by simp; omega) (fun q e => rowBase HX.out q e))
        case measure => simp [intOf]; omega
    · obtain rfl : k = n := by omega
      obtain ⟨A', c', rfl, ho, hc1, hc2⟩ := rowInts HX.out HQ.out
      have HO := Lib.hid ho
      have q1 : q ≤ 1048576 := by omega
      clear ho
      go_wp2
      go_ret
      exact ⟨A', q, c', rfl, HO.out, q1, hc1, hc2, hbr.out⟩

set_option maxHeartbeats 2000000 in
theorem waysOf_any (b : Int) (A : Option Addr) (n c : Nat) (xs : List Int) (w : World) (h : Ints w w.heap.size A n xs) (hn : n ≤ 1048576) :
    Calls Tryd.prog 17 #[.int .i64 b, .slice A n c] w (GivesList w (woE b xs) (woL b xs)) := by
  have HL := Lib.hid h.len
  rcases hb : inB b 0 4095 with _ | _
  · rw [(wo_no (xs := xs) (.inl hb)).1, (wo_no (xs := xs) (.inl hb)).2]
    go_enter Tryd.func17, Tryd.ntmps17
    go_wp2_with (go_at_call 30; refine (isProfile_any _ _).mono ?_; rintro e w' ⟨rfl, rfl⟩)
    go_ret2
    exact ⟨none, 0, 0, rfl, Own.nil _ (Nat.le_refl _), by omega, by omega, by omega, Below.refl _ _⟩
  rcases hq : waysB xs with _ | _
  · rw [(wo_no (b := b) (.inr hq)).1, (wo_no (b := b) (.inr hq)).2]
    go_enter Tryd.func17, Tryd.ntmps17
    go_wp2_with (first | (go_at_call 30; refine (isProfile_any _ _).mono ?_; rintro e w' ⟨rfl, rfl⟩) | (go_at_call 28; refine (areWays_any _ _ _ xs _ h hn).mono ?_; rintro e w' ⟨rfl, rfl⟩))
    go_ret2
    exact ⟨none, 0, 0, rfl, Own.nil _ (Nat.le_refl _), by omega, by omega, by omega, Below.refl _ _⟩
  rw [(wo_yes HL.out hb hq).1, (wo_yes HL.out hb hq).2]
  obtain ⟨hb0, hb1⟩ := inB_true.1 hb
  have HA := Lib.hid (waysB_true hq).2
  have hn8 : n ≤ 8 := by have := (waysB_true hq).1; rw [HL.out] at this; exact this
  obtain ⟨i0, hi, hz0, hz1, hz2⟩ := info_parts Tryd.info2'
  have HI := Lib.hid (And.intro hi (And.intro hz0 (And.intro hz1 hz2)))
  clear hi hz0 hz1 hz2
  go_enter Tryd.func17, Tryd.ntmps17
  go_wp2_with (first | (go_at_call 30; refine (isProfile_any _ _).mono ?_; rintro e w' ⟨rfl, rfl⟩) | (go_at_call 28; refine (areWays_any _ _ _ xs _ h hn).mono ?_; rintro e w' ⟨rfl, rfl⟩))
  clear hb hq
  go_loopw [6, 20] (fun x i wr => ∃ k : Nat, k ≤ n ∧ i = .int .i64 k ∧ SomeRow wr w.heap.size b xs k x ∧ Hid (Below w.heap.size w wr)) (fun _ i _ => n - (intOf i).toNat)
  case atStart => exact ⟨0, Nat.zero_le _, rfl, ⟨0, Nat.le_refl _, rfl, rowNil (Nat.le_refl _)⟩, Lib.hid ((Below.refl _ _).alloc (Nat.le_refl _) _)⟩
  case round =>
    obtain ⟨k, hk, rfl, ⟨q, hq, hql, hx⟩, hbr⟩ := hrel
    have HQ := Lib.hid hql
    have HX := Lib.hid hx
    have hbs := hbr.out.size
    have hin := h.below hbr.out
    clear hql hx
    by_cases hlt : k < n
    · obtain ⟨ad, v, rfl, hab, hv, hc⟩ := hin.at_ hlt
      obtain ⟨v0, v1⟩ := allIn_at HA.out hv
      have HV := Lib.hid hv
      clear hv
      rcases he : entB b v with _ | _
      · have HE := Lib.hid (entI_no HV.out he)
        go_wp2_with (go_at_call 33; refine (enters_any b v _ hb0 hb1 v0 v1).mono ?_; rw [he]; rintro e w' ⟨rfl, rfl⟩)
        go_roundw
        case rel => exact ⟨k + 1, by omega, by go_num, ⟨q, by omega, by rw [HE.out]; exact HQ.out, by rw [HE.out]; exact HX.out⟩, hbr⟩
        case measure => simp [intOf]; omega
      · have HE := Lib.hid (entI_yes HV.out he)
        go_wp2_with (first | (go_at_call 33; refine (enters_any b v _ hb0 hb1 v0 v1).mono ?_; rw [he]; rintro e w' ⟨rfl, rfl⟩) | (at_builtin; refine wpList_append_lies _ rfl _ _ 24 rfl w.heap.size 2 i0 _ 1 8 Tryd.underlying24 HI.out.1 HI.out.2.1 HI.out.2.2.1 HI.out.2.2.2 rfl (by omega) _ q _ rfl (HX.out.alloc _) ⟨wr.heap.size, 0, none⟩ 1 1 [.int .i64 (k : Int)] rfl rfl (World.news_of_block (cs := #[.int .i64 (k : Int)]) (t := 2) (fr := (0, 0)) (heap_alloc_new wr _)) (by simp [Value.oneCell']) (by omega) (by unfold maxLen; omega) (by omega) (by simp; omega) (wr.heap.size + 1) (by simp) ?_; intro gg cap2 w3 hown3 hgrow hat hlt3))
        go_roundw
        case rel =>
          refine ⟨k + 1, by omega, by go_num, ⟨q + 1, by omega, by rw [HE.out, List.length_append, HQ.out]; rfl, ?_⟩, ?_⟩
          · rw [HE.out, ← intsV_snoc]; exact hown3
          · exact Lib.hid ((hbr.out.alloc hbs _).grown hgrow (by simp; omega) (fun q e => rowBase HX.out q e))
        case measure => simp [intOf]; omega
    · obtain rfl : k = n := by omega
      obtain ⟨A', c', rfl, ho, hc1, hc2⟩ := rowInts HX.out HQ.out
      have HO := Lib.hid ho
      have q1 : q ≤ 1048576 := by omega
      clear ho
      go_wp2
      go_ret2
      exact ⟨A', q, c', rfl, HO.out, q1, hc1, hc2, hbr.out⟩

end Go.Proofs.YtiijkcebloefbaaDoor
