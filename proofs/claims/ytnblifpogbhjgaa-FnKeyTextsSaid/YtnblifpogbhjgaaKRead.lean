/- ReadKey of the program and of the model, and the law. -/
import Derived.Test.YtnblifpogbhjgaaKText2
import Derived.Test.YtnblifpogbhjgaaRead
namespace Go.Proofs.Ytnblifpogbhjgaa
open Go.RowKit

/-- the numbers that the bytes of a text are as digits -/
def bytesI (l : List UInt8) : List Int := l.map (fun b => (b.toNat : Int) - 48)
theorem bytesI_len (l : List UInt8) : (bytesI l).length = l.length := by simp [bytesI]
theorem bytesI_at {s : ByteArray} {k : Nat} (hk : k < s.size) : (bytesI s.data.toList)[k]? = some ((s[k].toNat : Int) - 48) := by
  unfold bytesI
  rw [List.getElem?_map]
  have : s.data.toList[k]? = some s[k] := by
    rw [List.getElem?_eq_getElem (by rw [bytes_len]; exact hk)]; rfl
  rw [this]; rfl
def rkL (m : Mk) (l : List UInt8) : List Int := if isKeyB m (bytesI l) then bytesI l else []
def rkE (m : Mk) (l : List UInt8) : Int := if m.ok then (if isKeyB m (bytesI l) then 0 else 6) else 1
theorem rk_bad {m : Mk} {l : List UInt8} (h : m.ok = false) : rkL m l = [] ∧ rkE m l = 1 := by simp [rkL, rkE, isKeyB, h]
theorem rk_no {m : Mk} {l : List UInt8} (h : m.ok = true) (h2 : isKeyB m (bytesI l) = false) : rkL m l = [] ∧ rkE m l = 6 := by simp [rkL, rkE, h, h2]
theorem rk_yes {m : Mk} {l : List UInt8} (h : m.ok = true) (h2 : isKeyB m (bytesI l) = true) : rkL m l = bytesI l ∧ rkE m l = 0 := by simp [rkL, rkE, h, h2]
theorem notkey_len {m : Mk} {xs : List Int} (h : (xs.length : Int) ≠ m.C) : isKeyB m xs = false := by
  unfold isKeyB; rw [fault1 h]; simp
theorem notkey_depth {m : Mk} {xs : List Int} (h : allIn 0 (m.D - 1) xs = false) : isKeyB m xs = false := by
  by_cases h1 : (xs.length : Int) = m.C
  · unfold isKeyB; rw [fault2 h1 h]; simp
  · exact notkey_len h1

/-- the row of the numbers after k bytes -/
def byteRow (xs : List Int) (k : Nat) (j : Nat) : Value := .int .i64 (if j < k then xs.getD j 0 else 0)
theorem byteRow_set {xs : List Int} {k : Nat} {v : Int} (hv : xs[k]? = some v) (j : Nat) : (if j = k then Value.int .i64 v else byteRow xs k j) = byteRow xs (k + 1) j := by
  unfold byteRow
  by_cases h : j = k
  · subst h
    rw [if_pos rfl, if_pos (by omega), getD_at hv]
  · rw [if_neg h]
    by_cases h2 : j < k
    · rw [if_pos h2, if_pos (by omega)]
    · rw [if_neg h2, if_neg (by omega)]

set_option maxRecDepth 100000 in
set_option maxHeartbeats 2000000 in
theorem readKey_any (m : Mk) (s : ByteArray) (w : World) (hs : s.size ≤ 1048576) :
    Calls Try.prog 39 #[.agg #[.int .i64 m.C, .int .i64 m.D, .int .i64 m.S, .int .i64 m.M, .int .i64 m.L], .string s] w
      (GivesList w (rkE m s.data.toList) (rkL m s.data.toList)) := by
  have b0 := (Below.refl w.heap.size w).alloc (Nat.le_refl _) (.cells #[.int .i64 m.C, .int .i64 m.D, .int .i64 m.S, .int .i64 m.M, .int .i64 m.L] 25)
  have hx := Boxed.new w 25 m
  rcases hm : m.ok with _ | _
  · obtain ⟨e1, e2⟩ := rk_bad (l := s.data.toList) hm
    rw [e1, e2]; clear e1 e2
    go_enter Try.func39, Try.ntmps39
    go_wp2_with fail
    refine (isMaker_any m _).mono ?_
    rw [hm]
    rintro e w1 ⟨rfl, b1⟩
    have c1 := below_trans' b0 b1
    go_wp2
    go_ret2
    exact ⟨none, 0, 0, rfl, Own.nil _ (Nat.le_refl _), by omega, by omega, by omega, c1⟩
  have HM := Lib.hid hm
  clear hm
  obtain ⟨m1, m2, m3, m4, m5, m6, m7, m8, m9, m10, m11⟩ := Mk.ok_true HM.out
  rcases hsz : ((s.size : Int) == m.C) with _ | _
  · have hk : isKeyB m (bytesI s.data.toList) = false := notkey_len (by rw [bytesI_len, bytes_len]; simpa using hsz)
    obtain ⟨e1, e2⟩ := rk_no HM.out hk
    rw [e1, e2]; clear e1 e2 hk
    have hsz' : ((s.size : Int) != m.C) = true := by rw [bne, hsz]; rfl
    clear hsz
    go_enter Try.func39, Try.ntmps39
    go_wp2_with fail
    refine (isMaker_any m _).mono ?_
    rw [HM.out]
    rintro e w1 ⟨rfl, b1⟩
    have x1 := hx.on b1
    have c1 := below_trans' b0 b1
    obtain ⟨q0, q1, q2, q3, q4⟩ := x1.cells
    clear hx b0 b1 x1
    go_wp2
    go_ret2
    exact ⟨none, 0, 0, rfl, Own.nil _ (Nat.le_refl _), by omega, by omega, by omega, c1⟩
  have hs6 : s.size ≤ 6 := by have : (s.size : Int) = m.C := by simpa using hsz
                              omega
  have hsz' : ((s.size : Int) != m.C) = false := by rw [bne, hsz]; rfl
  clear hsz
  have hmk := run_make_row' (P := Try.prog) 29 2 (.int .i64 0) 8 Try.underlying29 Try.info2' rfl .i64 .i64 s.size (by omega) (by omega)
  go_enter Try.func39, Try.ntmps39
  go_wp2_with fail
  refine (isMaker_any m _).mono ?_
  rw [HM.out]
  rintro e w1 ⟨rfl, b1⟩
  have x1 := hx.on b1
  have c1 := below_trans' b0 b1
  have s1 := c1.size
  obtain ⟨q0, q1, q2, q3, q4⟩ := x1.cells
  clear hx b0 b1
  go_wp2
  clear hmk q0 q1 q2 q3 q4 hsz'
  go_loopw [21] (fun i wr => ∃ k : Nat, k ≤ s.size ∧ i = .int .i64 k ∧ wr.rowIs w1.heap.size 2 s.size (byteRow (bytesI s.data.toList) k) ∧ Boxed wr w.heap.size 25 m ∧ Below w.heap.size w wr) (fun i _ => s.size - (intOf i).toNat)
  case atStart =>
    exact ⟨0, Nat.zero_le _, rfl, (World.rowIs_made w1 (.int .i64 0) s.size 2).congr (fun i _ => by simp [byteRow]), x1.alloc _, c1.alloc s1 _⟩
  case round =>
    obtain ⟨k, hk, rfl, hrow, hbox, hb⟩ := hrel
    have hne := x1.lt
    clear x1 c1
    by_cases hlt : k < s.size
    · have hc := UInt8.toNat_lt s[k]
      have hst := hrow.cell hlt
      have hfz := hrow.frozen k
      have HV := Lib.hid (bytesI_at hlt)
      have HR := Lib.hid hrow
      have HX := Lib.hid (hbox.grown (grown_set (p := ⟨w1.heap.size, k, none⟩) (World.grownBy.refl wr _) rfl (.int .i64 ((s[k].toNat : Int) - 48))) (by simp; omega))
      clear hrow hbox
      go_wp2
      go_roundw
      case rel => exact ⟨k + 1, by omega, by go_num, (HR.out.set k (.int .i64 ((s[k].toNat : Int) - 48))).congr (fun j _ => byteRow_set HV.out j), HX.out, hb.setCell (by simp; omega) _⟩
      case measure => simp [intOf]; omega
    · have hrow' : wr.rowIs w1.heap.size 2 s.size (fun j => .int .i64 ((bytesI s.data.toList).getD j 0)) := hrow.congr (fun j hj => by unfold byteRow; rw [if_pos (by omega)])
      have hi := Ints.of_row hrow' (by rw [bytesI_len, bytes_len])
      have HO := Lib.hid (Own.of_row (lo := w.heap.size) hrow' (by rw [bytesI_len, bytes_len]) s1)
      obtain ⟨q0, q1, q2, q3, q4⟩ := hbox.cells
      clear hrow hrow' hbox
      rcases hky : isKeyB m (bytesI s.data.toList) with _ | _
      · obtain ⟨e1, e2⟩ := rk_no HM.out hky
        have E := Lib.hid (And.intro e1 e2)
        clear e1 e2
        have HK := Lib.hid hky
        clear hky
        go_wp2_with fail
        refine (isKey_any m _ _ _ (bytesI s.data.toList) _ hi (by omega)).mono ?_
        rw [HK.out]
        rintro e w2 ⟨rfl, b2⟩
        have c2 := hb.trans (b2.mono hb.size)
        clear q0 q1 q2 q3 q4 hb b2 hi
        go_wp2
        go_ret2
        refine ⟨none, 0, 0, ret_si E.out.2.symm, ?_, by omega, by omega, by omega, c2⟩
        rw [E.out.1]
        exact Own.nil _ (Nat.le_refl _)
      · obtain ⟨e1, e2⟩ := rk_yes HM.out hky
        have E := Lib.hid (And.intro e1 e2)
        clear e1 e2
        have HK := Lib.hid hky
        clear hky
        go_wp2_with fail
        refine (isKey_any m _ _ _ (bytesI s.data.toList) _ hi (by omega)).mono ?_
        rw [HK.out]
        rintro e w2 ⟨rfl, b2⟩
        have c2 := hb.trans (b2.mono hb.size)
        have o2 := Lib.hid ((HO.out.below b2).more (Nat.le_refl _) b2.size (Nat.le_refl _))
        clear q0 q1 q2 q3 q4 hb b2 hi
        go_wp2
        go_ret2
        refine ⟨some ⟨w1.heap.size, 0, none⟩, s.size, s.size, ret_si E.out.2.symm, ?_, by omega, Nat.le_refl _, by omega, c2⟩
        rw [E.out.1]
        exact o2.out

def digB (l : List UInt8) : Bool := l.all isDig
def digI (l : List UInt8) : List Int := if digB l then bytesI l else []
theorem digI_no {l : List UInt8} (h : digB l = false) : digI l = [] := by simp [digI, h]
theorem digI_yes {l : List UInt8} (h : digB l = true) : digI l = bytesI l := by simp [digI, h]
/-- what a call answers that gives a list of its own and a yes or no -/
def GivesOk (w : World) (ok : Bool) (xs : List Int) (e : Ending) (w' : World) : Prop :=
  ∃ A n c, e = .returned (.tuple #[.slice A n c, .bool ok]) ∧ Own w' w.heap.size w'.heap.size A n xs ∧ n ≤ 1048576 ∧ n ≤ c ∧ c ≤ 9223372036854775807 ∧ Below w.heap.size w w'
theorem ret_so {A : Option Addr} {n c : Nat} {a b : Bool} (h : a = b) : Ending.returned (.tuple #[.slice A n c, .bool a]) = .returned (.tuple #[.slice A n c, .bool b]) := by rw [h]
theorem digB_bad {s : ByteArray} {k : Nat} (hk : k < s.size) (h : isDig s[k] = false) : digB s.data.toList = false := by
  unfold digB
  rw [List.all_eq_false]
  exact ⟨s[k], List.getElem_mem (l := s.data.toList) (by rw [bytes_len]; exact hk), by simp [h]⟩
theorem bytesI_step {s : ByteArray} {k : Nat} (hk : k < s.size) : intsV (bytesI (s.data.toList.take k)) ++ [.int .i64 ((s[k].toNat : Int) - 48)] = intsV (bytesI (s.data.toList.take (k + 1))) := by
  rw [take_byte s k hk, intsV_snoc]
  simp [bytesI]

set_option maxRecDepth 100000 in
set_option maxHeartbeats 2000000 in
theorem l02Read_any (s : ByteArray) (w : World) (hs : s.size ≤ 1048576) :
    Calls Try.prog 76 #[.string s] w (GivesOk w (digB s.data.toList) (digI s.data.toList)) := by
  obtain ⟨i0, hi, hz0, hz1, hz2⟩ := info_parts Try.info2'
  have HI := Lib.hid (And.intro hi (And.intro hz0 (And.intro hz1 hz2)))
  clear hi hz0 hz1 hz2
  go_enter Try.func76, Try.ntmps76
  go_wp2
  go_loopw [4, 5] (fun x i wr => ∃ k : Nat, k ≤ s.size ∧ i = .int .i64 k ∧ wr.ownsRow w.heap.size 2 1 x k (intsV (bytesI (s.data.toList.take k))) ∧ Hid ((s.data.toList.take k).all isDig = true) ∧ Below w.heap.size w wr) (fun _ i _ => s.size - (intOf i).toNat)
  case atStart => exact ⟨0, Nat.zero_le _, rfl, rowNil (Nat.le_refl _), Lib.hid rfl, (Below.refl _ _).alloc (Nat.le_refl _) _⟩
  case round =>
    obtain ⟨k, hk, rfl, hown, hall, hb⟩ := hrel
    have hsz := hb.size
    by_cases hlt : k < s.size
    · have hc := UInt8.toNat_lt s[k]
      by_cases h3 : s[k].toNat < 48
      · have HY := Lib.hid (digB_bad hlt (by unfold isDig; rw [decide_eq_false (by omega)]; rfl))
        go_wp2
        go_ret2
        refine ⟨none, 0, 0, ret_so HY.out.symm, ?_, by omega, by omega, by omega, hb⟩
        rw [digI_no HY.out]
        exact Own.nil _ (Nat.le_refl _)
      by_cases h4 : 57 < s[k].toNat
      · have HY := Lib.hid (digB_bad hlt (by unfold isDig; rw [decide_eq_false (p := s[k].toNat ≤ 57) (by omega), Bool.and_false]))
        go_wp2
        go_ret2
        refine ⟨none, 0, 0, ret_so HY.out.symm, ?_, by omega, by omega, by omega, hb⟩
        rw [digI_no HY.out]
        exact Own.nil _ (Nat.le_refl _)
      · have HV := Lib.hid (bytesI_step hlt)
        have HA : Hid ((s.data.toList.take (k + 1)).all isDig = true) := Lib.hid (by
          rw [take_byte s k hlt, List.all_append, hall.out]
          simp [isDig]; omega)
        have HO := Lib.hid hown
        have HB := Lib.hid hb
        clear hown hb hall
        go_wp2_with (at_builtin; refine wpList_append_lies _ rfl _ _ 29 rfl w.heap.size 2 i0 _ 1 8 Try.underlying29 HI.out.1 HI.out.2.1 HI.out.2.2.1 HI.out.2.2.2 rfl (by omega) _ k _ rfl (HO.out.alloc _) ⟨wr.heap.size, 0, none⟩ 1 1 [.int .i64 ((s[k].toNat : Int) - 48)] rfl rfl (World.news_of_block (cs := #[.int .i64 ((s[k].toNat : Int) - 48)]) (t := 2) (fr := (0, 0)) (heap_alloc_new wr _)) (by simp [Value.oneCell']) (by omega) (by unfold maxLen; omega) (by omega) (by simp; omega) (wr.heap.size + 1) (by simp) ?_; intro gg cap w5 hown1 hgrow hat hlt3)
        have R5 := Lib.hid hown1
        have B5 := Lib.hid ((HB.out.alloc hsz (.cells #[.int .i64 ((s[k].toNat : Int) - 48)] 2)).grown hgrow (by simp; omega) (fun q e => by have := rowBase HO.out q e; omega))
        clear hown1 hgrow hat hlt3 HO HB
        go_wp2
        go_roundw
        case rel => exact ⟨k + 1, by omega, by go_num, by rw [← HV.out]; exact R5.out, HA, B5.out⟩
        case measure => simp [intOf]; omega
    · have HX := Lib.hid (take_bytes s k hlt)
      have HA : Hid (digB s.data.toList = true) := Lib.hid (by unfold digB; rw [← HX.out]; exact hall.out)
      have hks : k = s.size := by omega
      rw [HX.out] at hown
      obtain ⟨A', c', rfl, ho, hc1, hc2⟩ := rowInts hown (by rw [bytesI_len, bytes_len, hks])
      have HO := Lib.hid ho
      clear ho hown hall hks
      go_wp2
      go_ret2
      refine ⟨A', k, c', ret_so HA.out.symm, ?_, by omega, hc1, hc2, hb⟩
      rw [digI_yes HA.out]
      exact HO.out

theorem isDig_vals {l : List UInt8} {D : Int} (hD : D ≤ 8) (h : digB l = false) : allIn 0 (D - 1) (bytesI l) = false := by
  unfold digB at h
  rw [List.all_eq_false] at h
  obtain ⟨b, hb, hq⟩ := h
  unfold allIn bytesI
  rw [List.all_eq_false]
  refine ⟨_, List.mem_map.2 ⟨b, hb, rfl⟩, ?_⟩
  intro e
  have := inB_true.1 e
  exact hq (isDig_iff.2 (by omega))

set_option maxRecDepth 100000 in
set_option maxHeartbeats 2000000 in
theorem specReadKey_any (m : Mk) (s : ByteArray) (w : World) (hs : s.size ≤ 1048576) :
    Calls Try.prog 40 #[.agg #[.int .i64 m.C, .int .i64 m.D, .int .i64 m.S, .int .i64 m.M, .int .i64 m.L], .string s] w
      (GivesList w (rkE m s.data.toList) (rkL m s.data.toList)) := by
  have b0 := (Below.refl w.heap.size w).alloc (Nat.le_refl _) (.cells #[.int .i64 m.C, .int .i64 m.D, .int .i64 m.S, .int .i64 m.M, .int .i64 m.L] 25)
  have hx := Boxed.new w 25 m
  rcases hm : m.ok with _ | _
  · obtain ⟨e1, e2⟩ := rk_bad (l := s.data.toList) hm
    rw [e1, e2]; clear e1 e2
    go_enter Try.func40, Try.ntmps40
    go_wp2_with fail
    refine (specIsMaker_any m _).mono ?_
    rw [hm]
    rintro e w1 ⟨rfl, b1⟩
    have c1 := below_trans' b0 b1
    go_wp2
    go_ret2
    exact ⟨none, 0, 0, rfl, Own.nil _ (Nat.le_refl _), by omega, by omega, by omega, c1⟩
  have HM := Lib.hid hm
  clear hm
  obtain ⟨m1, m2, m3, m4, m5, m6, m7, m8, m9, m10, m11⟩ := Mk.ok_true HM.out
  rcases hd : digB s.data.toList with _ | _
  · have hk : isKeyB m (bytesI s.data.toList) = false := notkey_depth (isDig_vals m4 hd)
    obtain ⟨e1, e2⟩ := rk_no HM.out hk
    rw [e1, e2]; clear e1 e2 hk
    have HD := Lib.hid hd
    clear hd
    go_enter Try.func40, Try.ntmps40
    go_wp2_with fail
    refine (specIsMaker_any m _).mono ?_
    rw [HM.out]
    rintro e w1 ⟨rfl, b1⟩
    have c1 := below_trans' b0 b1
    clear b0 b1 hx
    go_wp2_with fail
    refine (l02Read_any s _ hs).mono ?_
    rw [HD.out]
    rintro e w2 ⟨A2, n2, cc2, rfl, o2, hn2, hc2, hm2, b2⟩
    have c2 := below_trans' c1 b2
    clear o2 b2
    go_wp2
    go_ret2
    exact ⟨none, 0, 0, rfl, Own.nil _ (Nat.le_refl _), by omega, by omega, by omega, c2⟩
  have HD := Lib.hid hd
  clear hd
  rcases hk : isKeyB m (bytesI s.data.toList) with _ | _
  all_goals
    first
      | (obtain ⟨e1, e2⟩ := rk_no HM.out hk; rw [e1, e2]; have hf : (faultV m (bytesI s.data.toList) != 0) = true := by (unfold isKeyB at hk; rw [HM.out] at hk; simpa using hk))
      | (obtain ⟨e1, e2⟩ := rk_yes HM.out hk; rw [e1, e2]; have hf : (faultV m (bytesI s.data.toList) != 0) = false := by (unfold isKeyB at hk; rw [HM.out] at hk; simpa using hk))
    clear hk e1 e2
    go_enter Try.func40, Try.ntmps40
    go_wp2_with fail
    refine (specIsMaker_any m _).mono ?_
    rw [HM.out]
    rintro e w1 ⟨rfl, b1⟩
    have x1 := hx.on b1
    have c1 := below_trans' b0 b1
    clear b0 b1 hx
    go_wp2_with fail
    refine (l02Read_any s _ hs).mono ?_
    rw [HD.out]
    rintro e w2 ⟨A2, n2, cc2, rfl, o2, hn2, hc2, hm2, b2⟩
    have x2 := x1.on b2
    have c2 := below_trans' c1 b2
    have s1 := c1.size
    clear b2 c1 x1
    rw [digI_yes HD.out] at o2
    obtain ⟨q0, q1, q2, q3, q4⟩ := x2.cells
    go_wp2_with fail
    clear q0 q1 q2 q3 q4
    refine (l02Fault_any m _ _ _ (bytesI s.data.toList) _ o2.ints hn2 hc2 hm2 HM.out).mono ?_
    rintro e w3 ⟨rfl, b3⟩
    have c3 := below_trans' c2 b3
    have o3 := Lib.hid (((o2.below b3).more (Nat.le_refl _) b3.size (Nat.le_refl _)).widen s1)
    clear b3 c2 o2 x2
    go_wp2
    go_ret2
    first
      | exact ⟨A2, n2, cc2, rfl, o3.out, hn2, hc2, hm2, c3⟩
      | exact ⟨none, 0, 0, rfl, Own.nil _ (Nat.le_refl _), by omega, by omega, by omega, c3⟩

set_option maxHeartbeats 1000000 in
theorem lawReadKey_any (m : Mk) (s : ByteArray) (w : World) :
    Calls Try.prog 14 #[.agg #[.int .i64 m.C, .int .i64 m.D, .int .i64 m.S, .int .i64 m.M, .int .i64 m.L], .string s] w fun e w' => e = .returned (.bool true) ∧ Below w.heap.size w w' := by
  have hx0 := Boxed.new w 50 m
  have c0 := (Below.refl w.heap.size w).alloc (Nat.le_refl _) (.cells #[.int .i64 m.C, .int .i64 m.D, .int .i64 m.S, .int .i64 m.M, .int .i64 m.L] 50)
  by_cases hs : s.size ≤ 1048576
  · go_enter Try.func14, Try.ntmps14
    go_wp2_with fail
    refine (toMaker_any m _).mono ?_
    rintro e w1 ⟨rfl, b1⟩
    have x1 := hx0.on b1
    have c1 := below_trans' c0 b1
    clear hx0 c0 b1
    go_wp2_with fail
    refine (specReadKey_any m s _ hs).mono ?_
    rintro e w2 ⟨Aw, nw, cw, rfl, ow2, hnw, _, _, b2⟩
    have x2 := x1.on b2
    have c2 := below_trans' c1 b2
    clear b2 c1 x1
    obtain ⟨q0, q1, q2, q3, q4⟩ := x2.cells
    go_wp2_with fail
    clear q0 q1 q2 q3 q4
    refine (toMaker_any m _).mono ?_
    rintro e w3 ⟨rfl, b3⟩
    have ow3 := ow2.below b3
    have x3 := x2.on b3
    have c3 := below_trans' c2 b3
    have s3 := b3.size
    have l3 := x3.lt
    clear b3 c2 x2
    go_wp2_with fail
    refine (readKey_any m s _ hs).mono ?_
    rintro e w4 ⟨Ag, ng, cg, rfl, og4, hng, _, _, b4⟩
    obtain rfl : nw = ng := by rw [← ow2.len, ← og4.len]
    have ow4 := ow3.below b4
    have x4 := x3.on b4
    have c4 := below_trans' c3 b4
    have s4 := c3.size
    clear b4 c3 ow3 x3 ow2
    have d2 : (rkE m s.data.toList != rkE m s.data.toList) = false := by simp
    go_wp2_with fail
    refine (eqInts_true _ _ _ _ _ _ _ og4.ints ow4.ints hnw).mono ?_
    rintro e w5 ⟨rfl, b5⟩
    have ow5 := ow4.below b5
    have og5 := og4.below b5
    have x5 := x4.on b5
    have c5 := below_trans' c4 b5
    clear b5 c4 ow4 og4 x4
    go_wp2_with fail
    refine (markInts_any _ _ _ _ 1 _ _ _ og5 hnw (by omega) (by omega)).mono ?_
    rintro e w6 ⟨rfl, og6, row, hgr, hrow⟩
    have ow6 := ow5.apart hgr (fun g e => .inr (by have := (hrow g e).1; omega))
    have x6 := x5.grown hgr (fun e => by have := hrow _ e.symm; omega)
    have c6 := below_grown c5 hgr (fun g e => by have := (hrow g e).1; omega)
    clear hgr hrow row c5 ow5 og5 x5
    go_wp2_with fail
    refine (heldInts_any _ _ _ 1 _ og6.ints hnw (by omega) (by omega)).mono ?_
    rintro e w' ⟨rfl, rfl⟩
    have q1 : ((1 + (nw : Int)) != (1 + (nw : Int))) = false := by simp
    obtain ⟨q0, q1', q2, q3, q4⟩ := x6.cells
    go_wp2_with fail
    clear q0 q1' q2 q3 q4
    refine (toMaker_any m _).mono ?_
    rintro e w7 ⟨rfl, b7⟩
    have ow7 := ow6.below b7
    have og7 := og6.below b7
    have c7 := below_trans' c6 b7
    clear b7 c6 ow6 og6 x6
    go_wp2_with fail
    refine (readKey_any m s _ hs).mono ?_
    rintro e w8 ⟨Ah, nh, ch, rfl, oh8, hnh, _, _, b8⟩
    obtain rfl : nw = nh := by rw [← ow7.len, ← oh8.len]
    have ow8 := ow7.below b8
    have og8 := og7.below b8
    have c8 := below_trans' c7 b8
    clear b8 c7 ow7 og7
    go_wp2_with fail
    refine (eqInts_true _ _ _ _ _ _ _ oh8.ints ow8.ints hnw).mono ?_
    rintro e w9 ⟨rfl, b9⟩
    have og9 := og8.below b9
    have c9 := below_trans' c8 b9
    clear b9 c8 ow8 og8 oh8
    go_wp2_with fail
    refine (heldInts_any _ _ _ 1 _ og9.ints hnw (by omega) (by omega)).mono ?_
    rintro e w' ⟨rfl, rfl⟩
    go_wp2
    go_ret
    exact ⟨rfl, c9⟩
  · go_enter Try.func14, Try.ntmps14
    go_wp2
    go_ret
    exact ⟨rfl, c0⟩

end Go.Proofs.Ytnblifpogbhjgaa
