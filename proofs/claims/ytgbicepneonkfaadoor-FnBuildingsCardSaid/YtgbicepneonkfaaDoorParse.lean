/- ReadList of the program, by the library's contracts for Count, Split, ParseInt and FormatInt. -/
import Derived.Test.YtgbicepneonkfaaDoorReadL
import Derived.Test.YtgbicepneonkfaaDoorText2
import Derived.Test.YtgbicepneonkfaaDoorShelf2
import Derived.ChangeAgain
namespace Go.Proofs.YtgbicepneonkfaaDoor
open Go.RowKit

/-- what stays true of the library's variables while the call works on blocks of its own -/
def Env (P : Program) (w : World) : Prop :=
  w.ShapedOpen P ∧ Lib.TabBelow P w.heap.size w "internal/strconv.uint64pow10" .u64 Lib.pow10Tab ∧
  (∃ tp p, ∀ w', Below w.heap.size w w' → w'.var? P "strconv.ErrSyntax" = some #[.iface tp p]) ∧ (∃ tp p, ∀ w', Below w.heap.size w w' → w'.var? P "strconv.ErrRange" = some #[.iface tp p])
theorem Env.on {P : Program} {w w1 : World} (h : Env P w) (hb : Below w.heap.size w w1) : Env P w1 := by
  obtain ⟨h1, h2, ⟨tp, p, h3⟩, ⟨tq, q, h4⟩⟩ := h
  exact ⟨h1.keptBut (hb.frame (fun _ => False)) (fun _ hp => hp.elim), tab_on h2 hb, ⟨tp, p, fun w' h' => h3 w' (below_trans' hb h')⟩, ⟨tq, q, fun w' h' => h4 w' (below_trans' hb h')⟩⟩

theorem dig8_isDig {d : Nat} (hd : d < 10) : isDig (dig8 d) = true ∧ (dig8 d).toNat - 48 = d := by
  have e : (dig8 d).toNat = 48 + d := by have := dig8_nat hd; omega
  refine ⟨isDig_iff.2 (by omega), by omega⟩
theorem dec_props (n : Nat) : (Lib.decDigits n).all isDig = true ∧ valD (Lib.decDigits n) = n ∧ 1 ≤ (Lib.decDigits n).length := by
  induction n using Nat.strongRecOn with
  | _ n ih =>
    by_cases h : n < 10
    · obtain ⟨h1, h2⟩ := dig8_isDig h
      rw [digits_small h]
      exact ⟨by simp [h1], by simp [valD, h2], Nat.le_refl 1⟩
    · obtain ⟨h1, h2⟩ := dig8_isDig (d := n % 10) (by omega)
      obtain ⟨i1, i2, i3⟩ := ih (n / 10) (by omega)
      rw [digits_big h]
      refine ⟨by rw [List.all_append, i1]; simp [h1], by rw [valD_snoc, i2, h2]; omega, by rw [List.length_append]; omega⟩

theorem parse_digits (Mx : Nat) (l : List UInt8) : ∀ (acc : Nat), l.all isDig = true → (acc + 1) * 10 ^ l.length ≤ 100000000000000 → 100000000000000 ≤ Mx →
    Lib.parseUintM Mx acc l = .ok (l.foldl (fun a c => 10 * a + (c.toNat - 48)) acc) := by
  induction l with
  | nil => intro acc _ _ _; rfl
  | cons c r ih =>
    intro acc h hb hM
    rw [List.all_cons, Bool.and_eq_true] at h
    have hc := isDig_iff.1 h.1
    rw [List.length_cons, Nat.pow_succ] at hb
    have hp : 1 ≤ 10 ^ r.length := Nat.one_le_pow _ _ (by decide)
    have e1 : (acc + 1) * (10 ^ r.length * 10) = (10 * acc + 10) * 10 ^ r.length := by
      rw [Nat.mul_comm (10 ^ r.length) 10, ← Nat.mul_assoc, Nat.add_mul, Nat.mul_comm acc 10]
    rw [e1] at hb
    have h1 : (10 * acc + 10) * 1 ≤ (10 * acc + 10) * 10 ^ r.length := Nat.mul_le_mul_left _ hp
    have h2 : (10 * acc + (c.toNat - 48) + 1) * 10 ^ r.length ≤ (10 * acc + 10) * 10 ^ r.length := Nat.mul_le_mul_right _ (by omega)
    unfold Lib.parseUintM
    rw [if_pos hc, if_neg (by omega), if_neg (by omega), List.foldl_cons, Nat.mul_comm acc 10]
    exact ih _ h.2 (by omega) hM

def rdM (l : List UInt8) : Bool := rdB l && decide (valD l ≤ 1000000000000)
def valM (l : List UInt8) : Int := if rdM l then valD l else 0
theorem digs_of_rdB {l : List UInt8} (h : rdB l = true) : l.all isDig = true ∧ 1 ≤ l.length ∧ l.length ≤ 13 ∧ Lib.decDigits (valD l) = l := by
  unfold rdB digsOk at h
  simp only [Bool.and_eq_true, decide_eq_true_eq] at h
  exact ⟨h.1.2, h.1.1.1, h.1.1.2, h.2⟩
theorem parse_of_rdB {l : List UInt8} (h : rdB l = true) : Lib.parseIntB 64 l = .ok (valD l) := by
  obtain ⟨h1, h2, h3, _⟩ := digs_of_rdB h
  have hv := valD_lt l h1
  have hp := pow_13 h3
  cases l with
  | nil => simp at h2
  | cons c r =>
    have hd := h1
    rw [List.all_cons, Bool.and_eq_true] at hd
    have hc := isDig_iff.1 hd.1
    have e : Lib.parseUintB 64 (c :: r) = .ok (valD (c :: r)) := by
      unfold Lib.parseUintB
      rw [if_neg (by simp)]
      exact parse_digits _ _ 0 h1 (by omega) (by decide)
    unfold Lib.parseIntB
    simp only [if_neg (show ¬ (c.toNat = 43 ∨ c.toNat = 45) by omega), e]
    rw [if_neg (by have : (2 : Nat) ^ (64 - 1) = 9223372036854775808 := by decide
                   omega), if_neg (by omega), if_neg (by omega)]
theorem rdM_of_text {l : List UInt8} {n : Nat} (hn : n ≤ 1000000000000) (h : Lib.decDigits n = l) : rdM l = true ∧ valD l = n := by
  obtain ⟨h1, h2, h3⟩ := dec_props n
  have h4 := digits_13 (n := n) (by omega)
  subst h
  refine ⟨?_, h2⟩
  unfold rdM rdB digsOk
  rw [h1, h2, decide_eq_true h3, decide_eq_true h4, decide_eq_true hn]
  simp

theorem wd_nat (V : Nat) : (wd V).data.toList = Lib.decDigits V := itoa_nat (Int.natCast_nonneg V)
theorem below_bytes (w : World) (e : TypeId) (t : ByteArray) : Below w.heap.size w (Lib.bytesWorld w e t) :=
  ⟨rfl, rfl, rfl, by rw [Lib.bytesWorld_size]; omega, fun k hk => Lib.bytesWorld_at_old w e t k hk⟩
theorem parseInt_ok (s : ByteArray) (hs : s.size ≤ 1048576) (v : Int) (h : Lib.parseIntB 64 s.data.toList = .ok v) (w : World) :
    Calls Tryd.prog 109 #[.string s, .int .i64 10, .int .i64 64] w fun e w' => e = .returned (.tuple #[.int .i64 v, .nilIface]) ∧ Below w.heap.size w w' :=
  (Tryd.strconv_ParseInt_10_at64_ok s (by omega) v h w).mono fun _ _ ⟨he, hw⟩ => ⟨he, by
    rcases hw with rfl | ⟨t, rfl⟩
    · exact Below.refl _ _
    · exact below_bytes _ _ _⟩
theorem parseInt_bad (s : ByteArray) (hs : s.size ≤ 1048576) (h : ∀ v, Lib.parseIntB 64 s.data.toList ≠ .ok v) (w : World) (env : Env Tryd.prog w) :
    Calls Tryd.prog 109 #[.string s, .int .i64 10, .int .i64 64] w fun e w' => ∃ (n : Int) (t : TypeId) (a : Addr), e = .returned (.tuple #[.int .i64 n, .iface t (.pointer (some a))]) ∧ Below w.heap.size w w' := by
  obtain ⟨_, _, ⟨tp, p, h3⟩, ⟨tq, q, h4⟩⟩ := env
  rcases hp : Lib.parseIntB 64 s.data.toList with v | _ | _
  · exact absurd hp (h v)
  · exact (Any.strconv_ParseInt_10_at64_syntax_var Tryd.laysC174 s (by omega) hp tp p w (h3 w (Below.refl _ _))).mono fun _ _ ⟨_, he, _, _, hb⟩ => ⟨_, _, _, he, hb⟩
  · exact (Any.strconv_ParseInt_10_at64_range_var Tryd.laysC174 s (by omega) hp tq q w (h4 w (Below.refl _ _))).mono fun _ _ ⟨_, he, _, _, hb⟩ => ⟨_, _, _, he, hb⟩
theorem valM_no {l : List UInt8} (h : rdM l = false) : valM l = 0 := by simp [valM, h]
theorem valM_yes {l : List UInt8} (h : rdM l = true) : valM l = valD l := by simp [valM, h]
theorem rdM_parse {l : List UInt8} (h : rdM l = true) : Lib.parseIntB 64 l = .ok (valD l) ∧ valD l ≤ 1000000000000 ∧ Lib.decDigits (valD l) = l := by
  unfold rdM at h
  rw [Bool.and_eq_true] at h
  exact ⟨parse_of_rdB h.1, of_decide_eq_true h.2, (digs_of_rdB h.1).2.2.2⟩

set_option maxHeartbeats 1000000 in
theorem readNumber_any (s : ByteArray) (w : World) (hs : s.size ≤ 1048576) (env : Env Tryd.prog w) :
    Calls Tryd.prog 88 #[.string s] w (GivesNum w (valM s.data.toList) (rdM s.data.toList)) := by
  have HE := Lib.hid env
  clear env
  by_cases hok : ∃ v, Lib.parseIntB 64 s.data.toList = .ok v
  · obtain ⟨v, hv⟩ := hok
    have HV := Lib.hid hv
    clear hv
    rcases hr : inB v 0 1000000000000 with _ | _
    · have hm : rdM s.data.toList = false := by
        rw [← Bool.not_eq_true]
        intro hm
        obtain ⟨h1, h2, _⟩ := rdM_parse hm
        rw [HV.out] at h1
        injection h1 with h1
        have := inB_true.2 (show 0 ≤ v ∧ v ≤ 1000000000000 by omega)
        rw [hr] at this
        cases this
      have HY := Lib.hid hm
      have HR := Lib.hid hr
      clear hm hr
      go_enter Tryd.func88, Tryd.ntmps88
      go_wp2_with fail
      refine (parseInt_ok s hs v HV.out _).mono ?_
      rintro e w1 ⟨rfl, hb⟩
      go_wp2_with fail
      refine (isNumber_any _ _).mono ?_
      rintro e w' ⟨rfl, rfl⟩
      rw [HR.out]
      go_wp2
      go_ret2
      exact ⟨ret_nb (valM_no HY.out).symm HY.out.symm, hb⟩
    · obtain ⟨v0, v1⟩ := inB_true.1 hr
      obtain ⟨V, rfl⟩ := Int.eq_ofNat_of_zero_le v0
      have HR := Lib.hid hr
      clear hr
      by_cases hd : Lib.decDigits V = s.data.toList
      · have hm := rdM_of_text (show V ≤ 1000000000000 by omega) hd
        have HM := Lib.hid hm
        have hse : s = wd V := text_eq (by rw [← hd, wd_nat])
        subst hse
        clear hm hd
        go_enter Tryd.func88, Tryd.ntmps88
        go_wp2_with fail
        refine (parseInt_ok _ hs _ HV.out _).mono ?_
        rintro e w1 ⟨rfl, hb⟩
        go_wp2_with fail
        refine (isNumber_any _ _).mono ?_
        rintro e w' ⟨rfl, rfl⟩
        rw [HR.out]
        go_wp2_with fail
        refine (fmt_any V (by omega) _ (HE.out.on hb).2.1).mono ?_
        rintro e w2 ⟨rfl, hb2⟩
        go_wp2
        go_ret2
        exact ⟨ret_nb (by rw [valM_yes HM.out.1, HM.out.2]) HM.out.1.symm, below_trans' hb hb2⟩
      · have hm : rdM s.data.toList = false := by
          rw [← Bool.not_eq_true]
          intro hm
          obtain ⟨h1, _, h3⟩ := rdM_parse hm
          rw [HV.out] at h1
          injection h1 with h1
          have h1' : V = valD s.data.toList := by omega
          rw [← h1'] at h3
          exact hd h3
        have hne : ((wd V).toList == s.toList) = false := by
          rw [ByteArray.toList_eq, ByteArray.toList_eq, beq_eq_false_iff_ne]
          intro e
          exact hd (by rw [← e, wd_nat])
        have hne2 : ((wd V).toList != s.toList) = true := by simp [bne, hne]
        have HY := Lib.hid hm
        clear hm hd
        go_enter Tryd.func88, Tryd.ntmps88
        go_wp2_with fail
        refine (parseInt_ok _ hs _ HV.out _).mono ?_
        rintro e w1 ⟨rfl, hb⟩
        go_wp2_with fail
        refine (isNumber_any _ _).mono ?_
        rintro e w' ⟨rfl, rfl⟩
        rw [HR.out]
        go_wp2_with fail
        refine (fmt_any V (by omega) _ (HE.out.on hb).2.1).mono ?_
        rintro e w2 ⟨rfl, hb2⟩
        go_wp2
        go_ret2
        exact ⟨ret_nb (valM_no HY.out).symm HY.out.symm, below_trans' hb hb2⟩
  · have hbad : ∀ v, Lib.parseIntB 64 s.data.toList ≠ .ok v := fun v h => hok ⟨v, h⟩
    have hm : rdM s.data.toList = false := by
      rw [← Bool.not_eq_true]
      intro hm
      exact hbad _ (rdM_parse hm).1
    have HY := Lib.hid hm
    have HB := Lib.hid hbad
    clear hm hok hbad
    go_enter Tryd.func88, Tryd.ntmps88
    go_wp2_with fail
    refine (parseInt_bad s hs HB.out _ HE.out).mono ?_
    rintro e w1 ⟨n, t, a, rfl, hb⟩
    go_wp2
    go_ret2
    exact ⟨ret_nb (valM_no HY.out).symm HY.out.symm, hb⟩

end Go.Proofs.YtgbicepneonkfaaDoor
