/- LockOfPins of the model: its parts. LockOfPins of the model. The law of LockOfPins. -/
import Derived.Test.YtjoknbknhfnggaaStacksP
import Derived.Test.YtjoknbknhfnggaaLopP
import Derived.Deep.LoopGhost
import Derived.BigQuiet
import Derived.Test.YtjoknbknhfnggaaSameS
import Derived.Test.YtjoknbknhfnggaaSHull
import Derived.Test.YtjoknbknhfnggaaLockLaw
namespace Go.Proofs.Ytjoknbknhfnggaa
open Go Go.RowKit

theorem stkF_sums (D : Int) : ∀ (a : Int) (xs : List Int), stkF D a (sums a xs) = xs ++ [D - 1 - (a + total xs)]
  | a, [] => by simp [stkF, sums, total]
  | a, x :: r => by
    show (a + x - a) :: stkF D (a + x) (sums (a + x) r) = x :: (r ++ _)
    rw [stkF_sums D (a + x) r]
    have e1 : a + x - a = x := by omega
    have e2 : a + x + total r = a + total (x :: r) := by show _ = a + (x + total r); omega
    rw [e1, e2]
theorem stkF_le {D : Int} : ∀ (below : Int) (ys : List Int), 0 ≤ below → (∀ v ∈ ys, 0 ≤ v ∧ v < D) → ∀ v ∈ stkF D below ys, v ≤ D - 1
  | below, [], hb, _, v, hv => by
    simp [stkF] at hv; omega
  | below, y :: r, hb, h, v, hv => by
    have hy := h y (by simp)
    unfold stkF at hv
    rcases List.mem_cons.1 hv with rfl | hv
    · omega
    · exact stkF_le y r hy.1 (fun u hu => h u (List.mem_cons_of_mem _ hu)) v hv
def smallB (pss : List (List Int)) : Bool := pss.all (allIn 0 8)
theorem stk_sos (D : Int) {ps : List Int} : stk D (sosL ps) = ps.take (ps.length - 1) ++ [D - 1 - total (ps.take (ps.length - 1))] := by
  unfold stk sosL
  rw [stkF_sums]
  simp
theorem sos_len (ps : List Int) : (sosL ps).length = ps.length - 1 := by
  unfold sosL
  rw [sums_len, List.length_take]; omega
theorem rise_few {D : Int} (hD : 0 ≤ D) {s : List Int} (h : riseB D s = true) : s.length ≤ D.toNat := by
  have e := congrArg List.length (rise_set hD h)
  unfold setOf at e
  rw [List.length_map] at e
  have := List.length_filter_le (fun d : Nat => s.any (fun v => decide (v = (d : Int)))) (List.range D.toNat)
  rw [List.length_range] at this
  omega
/-- a stack tells a set just where the set's stack is the stack -/
theorem sos_iff {m : Mk} (d0 : 2 ≤ m.D) (d1 : m.D ≤ 8) {ps : List Int} (hs : allIn 0 8 ps = true) : sosB m ps = (decide ((sosL ps).length ≠ 0) && riseB m.D (sosL ps) && decide (stk m.D (sosL ps) = ps)) := by
  rw [sos_len]
  by_cases h2 : ps.length < 2
  · rw [sos_short h2]
    have : decide (ps.length - 1 ≠ 0) = false := decide_eq_false (by omega)
    rw [this]; rfl
  have hne : decide (ps.length - 1 ≠ 0) = true := decide_eq_true (by omega)
  rcases hr : riseB m.D (sosL ps) with _ | _
  · rw [sos_flat hr]; simp
  rw [hne]
  obtain ⟨p, hp⟩ : ∃ p, ps.length = p + 1 := ⟨ps.length - 1, by omega⟩
  have hsplit : ps = ps.take p ++ [ps.getD p 0] := by
    have h3 : ps[p]? = some (ps.getD p 0) := by
      rw [List.getD_eq_getElem?_getD, List.getElem?_eq_getElem (by omega : p < ps.length)]; rfl
    have := take_at h3
    rw [List.take_of_length_le (by omega)] at this
    exact this
  have hdec : decide (stk m.D (sosL ps) = ps) = decide (ps.getD (ps.length - 1) 0 = m.D - 1 - total (ps.take (ps.length - 1))) := by
    rw [stk_sos]
    have e : ps.length - 1 = p := by omega
    rw [e]
    refine decide_eq_decide.2 ⟨fun h => ?_, fun h => ?_⟩
    · rw [hsplit] at h
      have h4 := congrArg List.reverse h
      have h5 : ((ps.take p ++ [ps.getD p 0]).take p) = ps.take p := by rw [← hsplit]
      rw [h5] at h4
      simp at h4
      simp [h4]
    · conv => rhs; rw [hsplit]
      rw [h]
  rw [hdec]
  rcases hl : decide (ps.getD (ps.length - 1) 0 = m.D - 1 - total (ps.take (ps.length - 1))) with _ | _
  · unfold sosB; rw [hl]; simp
  · have hw : withB 0 (m.D - 1) ps = true := by
      have he : stk m.D (sosL ps) = ps := by rw [hl] at hdec; exact of_decide_eq_true hdec
      have hfew := rise_few (by omega) hr
      rw [sos_len] at hfew
      unfold withB
      have hle := stkF_le (D := m.D) 0 (sosL ps) (Int.le_refl _) (rise_facts hr).1
      have hall : allIn 0 (m.D - 1) ps = true := by
        unfold allIn at *
        rw [List.all_eq_true] at *
        intro v hv
        have h6 := inB_true.1 (hs v hv)
        have h7 := hle v (by show v ∈ stk m.D (sosL ps); rw [he]; exact hv)
        exact inB_true.2 ⟨h6.1, h7⟩
      rw [hall, decide_eq_true (by omega : ps.length ≤ 100)]; rfl
    rw [sos_in h2 hw hr, hl]; rfl
theorem small_of {m : Mk} (d1 : m.D ≤ 8) {ps : List Int} (h : sosB m ps = true) : allIn 0 8 ps = true := by
  unfold sosB at h
  simp only [Bool.and_eq_true] at h
  have h2 := (withB_true h.2.1).2
  unfold allIn at *
  rw [List.all_eq_true] at *
  intro v hv
  have h6 := inB_true.1 (h2 v hv)
  exact inB_true.2 ⟨h6.1, by omega⟩
theorem all_same {m : Mk} (d0 : 2 ≤ m.D) (d1 : m.D ≤ 8) : ∀ (pss : List (List Int)), smallB pss = true → pss.all (sosB m) = ((pss.map sosL).all (fun s => decide (s.length ≠ 0) && riseB m.D s) && decide ((pss.map sosL).map (stk m.D) = pss))
  | [], _ => by simp
  | ps :: r, h => by
    have h1 : allIn 0 8 ps = true ∧ smallB r = true := by unfold smallB at *; simpa using h
    rw [List.all_cons, all_same d0 d1 r h1.2, sos_iff d0 d1 h1.1]
    simp only [List.map_cons, List.all_cons, List.cons.injEq, Bool.decide_and]
    rcases decide ((sosL ps).length ≠ 0) && riseB m.D (sosL ps) with _ | _ <;> rcases decide (stk m.D (sosL ps) = ps) with _ | _ <;> simp
theorem lpB_model {m : Mk} (hm : m.ok = true) (pss : List (List Int)) : lpB m pss = (smallB pss && (lockB m (pss.map sosL) && decide ((pss.map sosL).map (stk m.D) = pss))) := by
  obtain ⟨m1, m2, m3, m4, _⟩ := Mk.ok_true hm
  rcases hs : smallB pss with _ | _
  · have : pss.all (sosB m) = false := by
      rw [← Bool.not_eq_true]
      intro h
      have h2 : smallB pss = true := by
        unfold smallB
        rw [List.all_eq_true] at *
        exact fun ps hp => small_of m4 (h ps hp)
      rw [h2] at hs; cases hs
    unfold lpB
    rw [this]; simp
  · unfold lpB lockB
    rw [all_same m3 m4 pss hs, hm, List.length_map]
    simp [Bool.and_assoc]

set_option maxRecDepth 100000 in
set_option maxHeartbeats 4000000 in
theorem l05Small_any (V : Option Addr) (n c : Nat) (pss : List (List Int)) (w : World) (h : Sets w w.heap.size V n pss) (hn : n + sizeL pss ≤ 1048576) :
    Calls Try.prog 103 #[.slice V n c] w fun e w' => e = .returned (.bool (smallB pss)) ∧ w = w' := by
  have HS := Lib.hid h
  have HN := Lib.hid hn
  have HL := Lib.hid h.len
  have hn1 : n ≤ 1048576 := by omega
  clear h hn
  go_enter Try.func103, Try.ntmps103
  go_wp2
  go_loopg [3] n (fun gh x wr => ∃ i : Nat, x = .int .i64 i ∧ i + gh = n ∧ wr = w ∧ Hid (∀ (j : Nat) (ps : List Int), j < i → pss[j]? = some ps → allIn 0 8 ps = true))
  case atStart => exact ⟨0, rfl, by omega, rfl, Lib.hid (fun j ps h => absurd h (by omega))⟩
  case round =>
    obtain ⟨i, rfl, hi, rfl, hall⟩ := hrel
    by_cases hlt : (i : Int) < (n : Int)
    · obtain ⟨ad, ps, A, q, cc, rfl, hab, hy, hc, hi1, hqc, hqm⟩ := HS.out.at_ (show i < n by omega)
      have hq1 : q ≤ 1048576 := by have := fits_at HN.out hy; have := hi1.len; omega
      have HI := Lib.hid hi1
      have HY := Lib.hid hy
      have i0 : (0 : Int) ≤ (i : Int) := by omega
      clear hy hi1
      go_wp2
      go_loopg [4] q (fun gh x wx => ∃ k : Nat, x = .int .i64 k ∧ k + gh = q ∧ wx = wr ∧ Hid (∀ (r : Nat) (v : Int), r < k → ps[r]? = some v → inB v 0 8 = true))
      case atStart => exact ⟨0, rfl, by omega, rfl, Lib.hid (fun r v h => absurd h (by omega))⟩
      case round =>
        obtain ⟨k, rfl, hk, rfl, hin⟩ := hrel
        by_cases hltk : (k : Int) < (q : Int)
        · obtain ⟨ad2, v, rfl, hab2, hv, hcv⟩ := HI.out.at_ (show k < q by omega)
          have HV := Lib.hid hv
          have k0 : (0 : Int) ≤ (k : Int) := by omega
          obtain ⟨b, hb⟩ : ∃ b, inB v 0 8 = b := ⟨_, rfl⟩
          have HB := Lib.hid hb
          clear hv hb
          cases b with
          | false =>
            have HE : Hid (smallB pss = false) := Lib.hid (List.all_eq_false.2 ⟨ps, List.mem_of_getElem? HY.out, by rw [allIn_no HV.out HB.out]; simp⟩)
            go_wp2_with fail
            refine (l01In_any v 0 8 _).mono ?_
            rw [HB.out]
            rintro e w' ⟨rfl, rfl⟩
            go_wp2
            go_ret
            exact ⟨ret_bool HE.out.symm, rfl⟩
          | true =>
            go_wp2_with fail
            refine (l01In_any v 0 8 _).mono ?_
            rw [HB.out]
            rintro e w' ⟨rfl, rfl⟩
            go_wp2
            go_roundg (q - (k + 1))
            case measure => omega
            case rel => exact ⟨k + 1, by go_num, by omega, rfl, Lib.hid (fun r u h1 h2 => by
              rcases Nat.lt_or_ge r k with h3 | h3
              · exact hin.out r u h3 h2
              · obtain rfl : r = k := by omega
                rw [HV.out] at h2; injection h2 with h2; subst h2; exact HB.out)⟩
        · have HA : Hid (allIn 0 8 ps = true) := Lib.hid (by
            unfold allIn
            rw [List.all_eq_true]
            intro v hv
            obtain ⟨r, hr⟩ := List.getElem?_of_mem hv
            have hrl := (List.getElem?_eq_some_iff.1 hr).1
            exact hin.out r v (by have := HI.out.len; omega) hr)
          go_wp2
          go_roundg (n - (i + 1))
          case measure => omega
          case rel => exact ⟨i + 1, by go_num, by omega, rfl, Lib.hid (fun j qs h1 h2 => by
            rcases Nat.lt_or_ge j i with h3 | h3
            · exact hall.out j qs h3 h2
            · obtain rfl : j = i := by omega
              rw [HY.out] at h2; injection h2 with h2; subst h2; exact HA.out)⟩
    · have HE : Hid (smallB pss = true) := Lib.hid (by
        unfold smallB
        rw [List.all_eq_true]
        intro ps hp
        obtain ⟨j, hj⟩ := List.getElem?_of_mem hp
        have hjl := (List.getElem?_eq_some_iff.1 hj).1
        exact hall.out j ps (by have := HL.out; omega) hj)
      go_wp2
      go_ret
      exact ⟨ret_bool HE.out.symm, rfl⟩

theorem sameS_quiet (A A' : Option Addr) (n n' c c' : Nat) (xs ys : List Int) (w : World) (b : Bool) (h : Ints w w.heap.size A n xs) (h' : Ints w w.heap.size A' n' ys) (hn : n ≤ 1048576) (hb : decide (xs = ys) = b) :
    Calls Try.prog 123 #[.slice A n c, .slice A' n' c'] w fun e w' => e = .returned (.bool b) ∧ ∃ q, w' = w.drewN q := by
  subst hb
  exact sameS_any A A' n n' c c' xs ys w h h' hn
set_option maxRecDepth 100000 in
set_option maxHeartbeats 4000000 in
theorem l05Same_any (V V' : Option Addr) (n n' c c' : Nat) (pss qss : List (List Int)) (w : World) (h : Sets w w.heap.size V n pss) (h' : Sets w w.heap.size V' n' qss) (hn : n + sizeL pss ≤ 1048576) :
    Calls Try.prog 105 #[.slice V n c, .slice V' n' c'] w fun e w' => e = .returned (.bool (decide (pss = qss))) ∧ Below w.heap.size w w' := by
  have HS := Lib.hid h
  have HS' := Lib.hid h'
  have HN := Lib.hid hn
  have HL := Lib.hid h.len
  have HL' := Lib.hid h'.len
  have hn1 : n ≤ 1048576 := by omega
  clear h h' hn
  by_cases hnn : n = n'
  rotate_left
  · have ht : ((n : Int) != (n' : Int)) = true := by simp; omega
    have HE : Hid (decide (pss = qss) = false) := Lib.hid (decide_eq_false (fun e => hnn (by rw [← HL.out, ← HL'.out, e])))
    rw [HE.out]
    go_enter Try.func105, Try.ntmps105
    go_wp2
    go_ret
    exact ⟨rfl, Below.refl _ _⟩
  subst hnn
  have ht : ((n : Int) != (n : Int)) = false := by simp
  have B0 := Lib.hid (Below.refl w.heap.size w)
  go_enter Try.func105, Try.ntmps105
  go_wp2
  go_loopg [5] n (fun gh x wr => ∃ i : Nat, x = .int .i64 i ∧ i + gh = n ∧ Hid (pss.take i = qss.take i) ∧ Hid (Below w.heap.size w wr))
  case atStart => exact ⟨0, rfl, by omega, Lib.hid rfl, B0⟩
  case round =>
    obtain ⟨i, rfl, hi, htk, hb⟩ := hrel
    clear B0
    by_cases hlt : (i : Int) < (n : Int)
    · obtain ⟨ad, ps, A, q, cc, rfl, hab, hy, hc, hi1, hqc, hqm⟩ := (HS.out.on hb.out).at_ (show i < n by omega)
      obtain ⟨ad', qs, A', q', cc', rfl, hab', hy', hc', hi1', hqc', hqm'⟩ := (HS'.out.on hb.out).at_ (show i < n by omega)
      have hq1 : q ≤ 1048576 := by have := fits_at HN.out hy; have := hi1.len; omega
      have HI := Lib.hid hi1
      have HY := Lib.hid hy
      have HI' := Lib.hid hi1'
      have HY' := Lib.hid hy'
      have i0 : (0 : Int) ≤ (i : Int) := by omega
      clear hy hi1 hy' hi1'
      obtain ⟨b, he⟩ : ∃ b, decide (ps = qs) = b := ⟨_, rfl⟩
      have HEB := Lib.hid he
      have HB := Lib.hid hb
      clear hb
      cases b with
      | true =>
        have HT : Hid (pss.take (i + 1) = qss.take (i + 1)) := Lib.hid (by
          obtain ⟨h1, e1⟩ := List.getElem?_eq_some_iff.1 HY.out
          obtain ⟨h2, e2⟩ := List.getElem?_eq_some_iff.1 HY'.out
          rw [List.take_succ_eq_append_getElem h1, List.take_succ_eq_append_getElem h2, htk.out, e1, e2, of_decide_eq_true HEB.out])
        clear he
        go_wp2
        go_quiet ((go_at_call 123; exact quiet_on (sameS_quiet _ _ _ _ _ _ ps qs _ _ (ints_drewN HI.out _) (ints_drewN HI'.out _) hq1 HEB.out)))
        have B2 := Lib.hid (below_drewN HB.out.out nq)
        clear hc hc'
        go_wp2
        go_roundg (n - (i + 1))
        case measure => omega
        case rel => exact ⟨i + 1, by go_num, by omega, HT, B2⟩
      | false =>
        have HE : Hid (decide (pss = qss) = false) := Lib.hid (decide_eq_false (fun e => by
          subst e
          have h1 := HY.out.symm.trans HY'.out
          injection h1 with h1
          exact of_decide_eq_false HEB.out h1))
        clear he
        go_wp2
        go_quiet ((go_at_call 123; exact quiet_on (sameS_quiet _ _ _ _ _ _ ps qs _ _ (ints_drewN HI.out _) (ints_drewN HI'.out _) hq1 HEB.out)))
        have B2 := Lib.hid (below_drewN HB.out.out nq)
        clear hc hc'
        go_wp2
        go_ret
        exact ⟨ret_bool HE.out.symm, B2.out⟩
    · have HE : Hid (decide (pss = qss) = true) := Lib.hid (decide_eq_true (by
        have h1 := htk.out
        rw [List.take_of_length_le (by rw [HL.out]; omega), List.take_of_length_le (by rw [HL'.out]; omega)] at h1
        exact h1))
      go_wp2
      go_ret
      exact ⟨ret_bool HE.out.symm, hb.out⟩

end Go.Proofs.Ytjoknbknhfnggaa

namespace Go.Proofs.Ytjoknbknhfnggaa
open Go Go.RowKit

theorem small_take {ps : List Int} (h : allIn 0 8 ps = true) (k : Nat) : allIn 0 8 (ps.take k) = true := by
  unfold allIn at *
  rw [List.all_eq_true] at *
  exact fun v hv => h v (List.mem_of_mem_take hv)
def GivesLk (w : World) (yss : List (List Int)) (e : Ending) (w' : World) : Prop :=
  ∃ V n c, e = .returned (.agg #[.slice V n c]) ∧ Sets w' w'.heap.size V n yss ∧ (∀ ad, V = some ad → w.heap.size ≤ ad.block) ∧ n ≤ c ∧ c ≤ 9223372036854775807 ∧ Below w.heap.size w w'

set_option maxRecDepth 100000 in
set_option maxHeartbeats 8000000 in
theorem l05Lock_any (V : Option Addr) (n c : Nat) (pss : List (List Int)) (w : World) (h : Sets w w.heap.size V n pss) (hn : n + sizeL pss ≤ 1048576) (hsm : smallB pss = true) :
    Calls Try.prog 104 #[.slice V n c] w (GivesLk w (pss.map sosL)) := by
  have c0 := below_alloc2 w (.cells #[.slice none 0 0] 30)
  have o0 := Cell1.new w 30 (.slice none 0 0)
  have HN := Lib.hid hn
  have HLN := Lib.hid h.len
  have hn1 : n ≤ 1048576 := by omega
  have HS := Lib.hid h
  have H8 : Hid (∀ (k : Nat) (ps : List Int), pss[k]? = some ps → allIn 0 8 ps = true) := Lib.hid (fun k ps hk => List.all_eq_true.1 hsm ps (List.mem_of_getElem? hk))
  obtain ⟨ii, hi0, hz0, hz1, hz2⟩ := info_parts Try.info2'
  have HF := Lib.hid (And.intro hi0 (And.intro hz0 (And.intro hz1 hz2)))
  obtain ⟨jj, hj0, hy0, hy1, hy2⟩ := info_parts Try.info39'
  have HG := Lib.hid (And.intro hj0 (And.intro hy0 (And.intro hy1 hy2)))
  have bA := below_alloc2 (w.alloc (.cells #[.slice none 0 0] 30)) (.cells #[] 39)
  have O0 := Lib.hid (o0.on bA)
  have C0 := Lib.hid (below_trans' c0 bA)
  have R0 := Lib.hid (Stack.none_ (rowNil (w := w.alloc (.cells #[.slice none 0 0] 30)) (t := 39) (s := 1) (base := w.heap.size + 1) (by simp)))
  simp only [World.size_alloc] at R0
  clear hi0 hz0 hz1 hz2 hj0 hy0 hy1 hy2 h hn hsm c0 o0 bA
  go_enter Try.func104, Try.ntmps104
  go_wp2
  go_loopg [3, 4] n (fun gh y x wr => ∃ (i : Nat) (vals : List Value) (z : Value), z = y ∧ x = .int .i64 i ∧ i + gh = n ∧ Hid (Stack wr (w.heap.size + 1) z i vals ((pss.take i).map sosL)) ∧ Hid (Cell1 wr w.heap.size 30 (.slice none 0 0)) ∧ Hid (Below w.heap.size w wr))
  case atStart => exact ⟨0, [], _, rfl, rfl, by omega, R0, O0, C0⟩
  case round =>
    obtain ⟨i, vals, z, rfl, rfl, hi, hst, hres, hbel⟩ := hrel
    clear R0 O0 C0
    obtain ⟨wo, rfl⟩ : ∃ wo, wo = wr := ⟨_, rfl⟩
    have hoz := hres.out.lt
    have hin : i ≤ n := by omega
    by_cases hlt : (i : Int) < (n : Int)
    · have hltn : i < n := by omega
      obtain ⟨ad, ps, A, q, cc, rfl, hab, hy, hc, hi1, hqc, hqm⟩ := (HS.out.on hbel.out).at_ hltn
      have hq1 : q ≤ 1048576 := by have := fits_at HN.out hy; have := hi1.len; omega
      have HY := Lib.hid hy
      have HI := Lib.hid hi1
      have HA8 := Lib.hid (H8.out i ps hy)
      have HC0 := Lib.hid hc
      have i0 : (0 : Int) ≤ (i : Int) := by omega
      have P0 : Hid ((wo.alloc (.cells #[] 2)).ownsRow wo.heap.size 2 1 (.slice (some ⟨wo.heap.size, 0, none⟩) 0 0) 0 (intsV (sums 0 (ps.take 0)))) := Lib.hid (rowNil (w := wo) (t := 2) (s := 1) (base := wo.heap.size) (Nat.le_refl _))
      have E0 := Lib.hid (below_alloc2 wo (.cells #[] 2))
      have T0 : Hid (total (ps.take 0) = 0) := Lib.hid rfl
      clear hy hi1
      go_wp2
      clear hc
      go_loopg [5, 6, 7] (q - 1) (fun gh u a x wr => ∃ (k : Nat) (T : Int) (uv : Value), x = .int .i64 k ∧ k + gh = q - 1 ∧ u = uv ∧ a = .int .i64 T ∧ Hid (total (ps.take k) = T) ∧ Hid (wr.ownsRow wo.heap.size 2 1 uv k (intsV (sums 0 (ps.take k)))) ∧ Hid (Below wo.heap.size wo wr))
      case atStart => exact ⟨0, 0, _, rfl, by omega, rfl, rfl, T0, P0, E0⟩
      case round =>
        obtain ⟨k, T, uv, rfl, hk, rfl, rfl, hT, hrow, hb⟩ := hrel
        clear P0 E0 T0
        have hc : wr.cell? (ad.add i) = some (.slice A q cc) := (hb.out.cell (p := ad.add i) (by rw [block_of_add]; exact hab)).trans HC0.out
        have hkq : k ≤ 1048576 := by omega
        have hlk : k ≤ q := by omega
        have HLK : Hid ((sums 0 (ps.take k)).length = k) := Lib.hid (by rw [sums_len, List.length_take, HI.out.len]; omega)
        obtain ⟨A1, c1, rfl, ho1, hc1, hm1⟩ := rowInts hrow.out HLK.out
        have HO1 := Lib.hid ho1
        have hbd := total_bound (ps.take k) (small_take HA8.out k) (by omega)
        rw [hT.out, List.length_take, HI.out.len] at hbd
        have hmin : min k q = k := by omega
        rw [hmin] at hbd
        obtain ⟨t0, t1⟩ := hbd
        have hsz := hb.out.size
        clear ho1 hmin
        by_cases hltk : (k : Int) + 1 < (q : Int)
        · obtain ⟨ad2, v, rfl, _, hv, hcv⟩ := (HI.out.below hb.out).at_ (show k < q by omega)
          obtain ⟨v0, v8⟩ := allIn_at HA8.out hv
          have HT2 := Lib.hid (total_take hv)
          have HS2 := Lib.hid (sums_take hv)
          have k0 : (0 : Int) ≤ (k : Int) := by omega
          have k1 : (k : Int) < (q : Int) := by omega
          have sw : IntKind.i64.wrap (T + v) = T + v := IntWalk.i64_in _ (by omega)
          have HZV := Lib.hid (rowBase hrow.out)
          clear hv
          go_wp2_with (at_builtin; refine wpList_append_lies _ rfl _ _ 39 rfl wo.heap.size 2 ii _ 1 8 Try.underlying39 HF.out.1 HF.out.2.1 HF.out.2.2.1 HF.out.2.2.2 rfl (by omega) _ k _ rfl (hrow.out.alloc _) ⟨wr.heap.size, 0, none⟩ 1 1 [.int .i64 (T + v)] rfl rfl (World.news_of_block (cs := #[.int .i64 (T + v)]) (t := 2) (fr := (0, 0)) (heap_alloc_new wr _)) (by simp [Value.oneCell']) (by omega) (by unfold maxLen; omega) (by omega) (by simp; omega) (wr.heap.size + 1) (by simp) ?_; intro gg cap w5 hown1 hgrow hat hlt3)
          have R5 : Hid (w5.ownsRow wo.heap.size 2 1 (.slice (some ⟨gg, 0, none⟩) (k + 1) cap) (k + 1) (intsV (sums 0 (ps.take (k + 1))))) := Lib.hid (by rw [HS2.out, hT.out, ← intsV_snoc]; exact hown1)
          have T5 : Hid (total (ps.take (k + 1)) = T + v) := Lib.hid (by rw [HT2.out, hT.out])
          have B5 := Lib.hid ((hb.out.alloc hsz (.cells #[.int .i64 (T + v)] 2)).grown hgrow (by simp; omega) (fun q e => by have := HZV.out q e; omega))
          clear hown1 hgrow hat hlt3 sw hc hcv
          go_wp2
          go_roundg (q - 1 - (k + 1))
          case measure => omega
          case rel => exact ⟨k + 1, T + v, _, by go_num, by omega, rfl, rfl, T5, R5, B5⟩
        · have HTE : Hid (sosL ps = sums 0 (ps.take k)) := Lib.hid (by
            have e : ps.length - 1 = k := by rw [HI.out.len]; omega
            unfold sosL; rw [e])
          have HST := Lib.hid (hst.out.on hb.out)
          have B2 := Lib.hid (below_trans' hbel.out hb.out)
          have O2 := Lib.hid (hres.out.on hb.out)
          have hzv : ∀ k, z.ownBlock = some k → w.heap.size + 1 ≤ k := rowBase hst.out.row
          have HZV := Lib.hid hzv
          have HNE : Hid (0 < k → ∀ ad, A1 = some ad → z.ownBlock ≠ some ad.block) := Lib.hid (by
            intro hp ad' e' e2
            obtain ⟨ad3, e3, h1, h2, _⟩ := HO1.out.2.2 hp
            rw [e'] at e3
            injection e3 with e3
            subst e3
            have := rowTop hst.out.row _ e2
            omega)
          have hszw := hbel.out.size
          have HY2 := Lib.hid (take_map' (f := sosL) HY.out)
          have HI3 := Lib.hid HO1.out.ints
          clear hzv hT
          go_wp2_with (at_builtin; refine wpList_append_lies _ rfl _ _ 26 rfl (w.heap.size + 1) 39 jj _ 1 24 Try.underlying26 HG.out.1 HG.out.2.1 HG.out.2.2.1 HG.out.2.2.2 rfl (by omega) _ i _ rfl (HST.out.row.alloc _) ⟨wr.heap.size, 0, none⟩ 1 1 [.slice A1 k c1] rfl rfl (World.news_of_block (cs := #[.slice A1 k c1]) (t := 39) (fr := (0, 0)) (heap_alloc_new wr _)) (by simp [Value.oneCell']) (by omega) (by unfold maxLen; omega) (by omega) (by simp; omega) (wr.heap.size + 1) (by simp) ?_; intro gg cap w5 hown1 hgrow hat hlt3)
          have P5 : Hid (Stack w5 (w.heap.size + 1) (.slice (some ⟨gg, 0, none⟩) (i + 1) cap) (i + 1) (vals ++ [.slice A1 k c1]) ((pss.take (i + 1)).map sosL)) := Lib.hid (by
            rw [HY2.out, HTE.out]
            exact HST.out.push HI3.out hc1 hm1 HNE.out hown1 hgrow (hat.imp id (fun e => by rw [e]; omega)))
          have O5 := Lib.hid ((O2.out.alloc (.cells #[.slice A1 k c1] 39)).grown hgrow (fun e => by have := HZV.out _ e.symm; omega))
          have B5 := Lib.hid ((B2.out.alloc (by omega) (.cells #[.slice A1 k c1] 39)).grown hgrow (by simp; omega) (fun q e => by have := HZV.out q e; omega))
          clear hown1 hgrow hat hlt3 hc
          go_wp2
          go_roundg (n - (i + 1))
          case measure => omega
          case rel => exact ⟨i + 1, _, _, rfl, by go_num, by omega, P5, O5, B5⟩
    · obtain rfl : i = n := by omega
      have HTA : Hid ((pss.take i).map sosL = pss.map sosL) := Lib.hid (by rw [List.take_of_length_le (by rw [HLN.out]; exact Nat.le_refl _)])
      have hst2 := hst.out
      rw [HTA.out] at hst2
      obtain ⟨VV, cV, e2, hsets, hc1, hc2⟩ := hst2.sets
      subst e2
      have f2 := hres.out.thawed
      have g2 := hres.out.cell
      have HSS := Lib.hid hsets
      have hblk : Hid (∀ ad, VV = some ad → ad.block ≠ w.heap.size) := Lib.hid (fun ad e => by
        have := rowBase hst2.row ad.block (by rw [e]; rfl)
        omega)
      have HLO : Hid (∀ ad, VV = some ad → w.heap.size ≤ ad.block) := Lib.hid (fun ad e => by
        have := rowBase hst2.row ad.block (by rw [e]; rfl)
        omega)
      clear hst hst2 hsets
      go_wp2
      have r0 := (hres.out.put (.slice VV i cV)).cell
      have S2 := HSS.out.past (p := ⟨w.heap.size, 0, none⟩) hres.out hblk.out (.slice VV i cV)
      exact bodyPost_ret (v := .agg #[.slice VV i cV]) (by simp [results, Try.results104, go_sem, r0]) rfl ⟨VV, i, cV, rfl, S2, HLO.out, hc1, hc2, hbel.out.setCell (Nat.le_refl _) _⟩

theorem sizeAt_map2 {f : List Int → List Int} {yss : List (List Int)} (h : ∀ ys, (f ys).length ≤ ys.length) : ∀ k, sizeAt (yss.map f) k ≤ sizeAt yss k
  | 0 => Nat.le_refl _
  | k + 1 => by
    have h1 := sizeAt_map2 (yss := yss) h k
    have h2 : ((yss.map f).getD k []).length ≤ (yss.getD k []).length := by
      rw [List.getD_eq_getElem?_getD, List.getD_eq_getElem?_getD, List.getElem?_map]
      rcases yss[k]? with _ | ys
      · exact Nat.le_refl _
      · exact h ys
    show sizeAt (yss.map f) k + _ ≤ sizeAt yss k + _
    omega
theorem sizeAt_bound2 {yss : List (List Int)} {b : Nat} (h : ∀ i, (yss.getD i []).length ≤ b) : ∀ k, sizeAt yss k ≤ k * b
  | 0 => Nat.zero_le _
  | k + 1 => by
    have h1 := sizeAt_bound2 h k
    have h2 := h k
    show sizeAt yss k + _ ≤ (k + 1) * b
    rw [Nat.add_mul, Nat.one_mul]
    omega
theorem stk_size {m : Mk} {L : List (List Int)} {q : Nat} (hL : lockB m L = true) (hq : L.length = q) : q + sizeL (L.map (stk m.D)) ≤ 1048576 := by
  obtain ⟨hm, hC, hs⟩ := lockB_facts hL
  obtain ⟨m1, m2, m3, m4, _⟩ := Mk.ok_true hm
  have h1 : ∀ i, ((L.map (stk m.D)).getD i []).length ≤ 9 := by
    intro i
    rw [List.getD_eq_getElem?_getD, List.getElem?_map]
    rcases hi : L[i]? with _ | ys
    · exact Nat.zero_le _
    · have := rise_few (by omega) (hs i ys hi).2
      show (stk m.D ys).length ≤ 9
      rw [stk_len]; omega
  have h2 := sizeAt_bound2 h1 (L.map (stk m.D)).length
  unfold sizeL
  rw [List.length_map] at *
  omega

set_option maxRecDepth 100000 in
set_option maxHeartbeats 8000000 in
theorem specLockOfPins_any (m : Mk) (V : Option Addr) (n c : Nat) (pss : List (List Int)) (w : World) (h : Sets w w.heap.size V n pss) (hn : n + sizeL pss ≤ 1048576) :
    Calls Try.prog 56 #[.agg #[.int .i64 m.C, .int .i64 m.D, .int .i64 m.S, .int .i64 m.M, .int .i64 m.L], .slice V n c] w (GivesSetsE w (lpE m pss) (lpL m pss)) := by
  have c0 := ((Below.refl w.heap.size w).alloc (Nat.le_refl _) (.cells #[.int .i64 m.C, .int .i64 m.D, .int .i64 m.S, .int .i64 m.M, .int .i64 m.L] 25)).alloc (by simp) (.cells #[.slice none 0 0] 30)
  have hx := (Boxed.new w 25 m).alloc (.cells #[.slice none 0 0] 30)
  have o0 := Cell1.new (w.alloc (.cells #[.int .i64 m.C, .int .i64 m.D, .int .i64 m.S, .int .i64 m.M, .int .i64 m.L] 25)) 30 (.slice none 0 0)
  simp only [World.size_alloc] at o0
  have HN := Lib.hid hn
  have hs := h.on c0
  have HX := Lib.hid hx
  have HO := Lib.hid o0
  have HC := Lib.hid c0
  have HS := Lib.hid hs
  have hzw : w.heap.size ≤ w.heap.size := Nat.le_refl _
  obtain ⟨q0, q1, q2, q3, q4⟩ := hx.cells
  clear h hn hs hx o0 c0
  rcases hm : m.ok with _ | _
  · obtain ⟨e1, e2⟩ := lp_bad (pss := pss) hm
    rw [e1, e2]
    have HM := Lib.hid hm
    clear hm e1 e2
    go_enter Try.func56, Try.ntmps56
    go_wp2_with fail
    refine (specIsMaker_any m _).mono ?_
    rw [HM.out]
    rintro e w1 ⟨rfl, b1⟩
    have CC := Lib.hid (below_trans' HC.out b1)
    have o1 := HO.out.on b1
    have f1 := o1.thawed
    have k1 := o1.cell
    clear q0 q1 q2 q3 q4
    go_wp2
    have r0 := (o1.put (.slice none 0 0)).cell
    exact bodyPost_ret (v := .tuple #[.agg #[.slice none 0 0], .int .i64 1]) (by simp [results, Try.results56, go_sem, r0]) rfl ⟨none, 0, 0, rfl, Sets.nil none, Nat.le_refl _, by omega, CC.out.setCell (by simp) _⟩
  obtain ⟨m1, m2, m3, m4, _⟩ := Mk.ok_true hm
  have HM := Lib.hid hm
  have HB := Lib.hid (lpB_model hm pss)
  rcases hsm : smallB pss with _ | _
  · have HE := Lib.hid (lp_no (pss := pss) hm (by rw [HB.out, hsm]; rfl))
    rw [HE.out.1, HE.out.2]
    have HSM := Lib.hid hsm
    clear hm hsm
    go_enter Try.func56, Try.ntmps56
    go_wp2_with fail
    refine (specIsMaker_any m _).mono ?_
    rw [HM.out]
    rintro e w1 ⟨rfl, b1⟩
    have CC := Lib.hid (below_trans' HC.out b1)
    have o1 := HO.out.on b1
    have f1 := o1.thawed
    have k1 := o1.cell
    clear q0 q1 q2 q3 q4
    go_wp2_with fail
    refine (l05Small_any _ _ _ pss _ (HS.out.on b1) HN.out).mono ?_
    rw [HSM.out]
    rintro e w2 ⟨rfl, rfl⟩
    go_wp2
    have r0 := (o1.put (.slice none 0 0)).cell
    exact bodyPost_ret (v := .tuple #[.agg #[.slice none 0 0], .int .i64 2]) (by simp [results, Try.results56, go_sem, r0]) rfl ⟨none, 0, 0, rfl, Sets.nil none, Nat.le_refl _, by omega, CC.out.setCell (by simp) _⟩
  have HSM := Lib.hid hsm
  have HLS : Hid ((pss.map sosL).length + sizeL (pss.map sosL) ≤ 1048576) := Lib.hid (by
    have h1 := sizeAt_map2 (f := sosL) (yss := pss) (fun ys => by rw [sos_len]; omega) pss.length
    have e : sizeL (pss.map sosL) = sizeAt (pss.map sosL) pss.length := by unfold sizeL; rw [List.length_map]
    have h2 : sizeL pss = sizeAt pss pss.length := rfl
    rw [e, List.length_map]
    have := HN.out
    have := HS.out.len
    omega)
  obtain ⟨b, hb⟩ : ∃ b, lockB m (pss.map sosL) = b := ⟨_, rfl⟩
  have HLB := Lib.hid hb
  rw [hb, hsm, Bool.true_and] at HB
  obtain ⟨b2, hb2⟩ : ∃ b2, decide ((pss.map sosL).map (stk m.D) = pss) = b2 := ⟨_, rfl⟩
  have HSB := Lib.hid hb2
  rw [hb2] at HB
  clear hb hb2 hsm
  have HM2 := Lib.hid hm
  clear hm
  cases b with
  | false =>
    have HE := Lib.hid (lp_no (pss := pss) HM2.out (by rw [HB.out]; rfl))
    rw [HE.out.1, HE.out.2]
    go_enter Try.func56, Try.ntmps56
    go_wp2_with fail
    refine (specIsMaker_any m _).mono ?_
    rw [HM.out]
    rintro e w1 ⟨rfl, b1⟩
    have C1 := Lib.hid (below_trans' HC.out b1)
    have O1 := Lib.hid (HO.out.on b1)
    have X1 := Lib.hid (HX.out.on b1)
    clear q0 q1 q2 q3 q4
    go_wp2_with fail
    refine (l05Small_any _ _ _ pss _ (HS.out.on b1) HN.out).mono ?_
    rw [HSM.out]
    rintro e w2 ⟨rfl, rfl⟩
    go_wp2_with fail
    refine (l05Lock_any _ _ _ pss _ (HS.out.on b1) HN.out HSM.out).mono ?_
    rintro e w3 ⟨V3, n3, c3, rfl, S3, hv3, hc3, hm3, b3⟩
    have bA := below_trans' b3 (below_alloc2 w3 (.cells #[.slice V3 n3 c3] 30))
    have Y3 := Lib.hid (Cell1.new w3 30 (.slice V3 n3 c3))
    have C3 := Lib.hid (below_trans' C1.out bA)
    have O3 := Lib.hid (O1.out.on bA)
    have X3 := Lib.hid (X1.out.on bA)
    have S4 := Lib.hid (S3.on (below_alloc2 w3 (.cells #[.slice V3 n3 c3] 30)))
    have hz3 := O3.out.lt
    have N3 : Hid (n3 + sizeL (pss.map sosL) ≤ 1048576) := Lib.hid (by rw [← S3.len]; exact HLS.out)
    obtain ⟨q0, q1, q2, q3, q4⟩ := X3.out.cells
    have cy := Y3.out.cell
    clear S3 b3 bA b1
    go_wp2_with fail
    refine (specIsLock_any m _ _ _ (pss.map sosL) _ S4.out N3.out).mono ?_
    rw [HLB.out]
    rintro e w5 ⟨rfl, b5⟩
    have CC := Lib.hid (below_trans' C3.out b5)
    have o1 := O3.out.on b5
    have f1 := o1.thawed
    have k1 := o1.cell
    clear q0 q1 q2 q3 q4 cy
    go_wp2
    have r0 := (o1.put (.slice none 0 0)).cell
    exact bodyPost_ret (v := .tuple #[.agg #[.slice none 0 0], .int .i64 2]) (by simp [results, Try.results56, go_sem, r0]) rfl ⟨none, 0, 0, rfl, Sets.nil none, Nat.le_refl _, by omega, CC.out.setCell (by simp) _⟩
  | true =>
    obtain ⟨hm0, hCn, hfs⟩ := lockB_facts HLB.out
    have H7 : Hid (∀ (k : Nat) (ys : List Int), (pss.map sosL)[k]? = some ys → ys.length ≠ 0 ∧ allIn 0 7 ys = true) := Lib.hid (fun k ys hy => ⟨(hfs k ys hy).1, rise_seven (hfs k ys hy).2 m4⟩)
    clear hm0 hCn hfs
    cases b2 with
    | false =>
      have HE := Lib.hid (lp_no (pss := pss) HM2.out (by rw [HB.out]; rfl))
      rw [HE.out.1, HE.out.2]
      go_enter Try.func56, Try.ntmps56
      go_wp2_with fail
      refine (specIsMaker_any m _).mono ?_
      rw [HM.out]
      rintro e w1 ⟨rfl, b1⟩
      have C1 := Lib.hid (below_trans' HC.out b1)
      have O1 := Lib.hid (HO.out.on b1)
      have ho1 := O1.out.lt
      have X1 := Lib.hid (HX.out.on b1)
      have S1 := Lib.hid (HS.out.on b1)
      clear q0 q1 q2 q3 q4
      go_wp2_with fail
      refine (l05Small_any _ _ _ pss _ S1.out HN.out).mono ?_
      rw [HSM.out]
      rintro e w2 ⟨rfl, rfl⟩
      go_wp2_with fail
      refine (l05Lock_any _ _ _ pss _ S1.out HN.out HSM.out).mono ?_
      rintro e w3 ⟨V3, n3, c3, rfl, S3, hv3, hc3, hm3, b3⟩
      have bA := below_trans' b3 (below_alloc2 w3 (.cells #[.slice V3 n3 c3] 30))
      have Y3 := Lib.hid (Cell1.new w3 30 (.slice V3 n3 c3))
      have C3 := Lib.hid (below_trans' C1.out bA)
      have O3 := Lib.hid (O1.out.on bA)
      have X3 := Lib.hid (X1.out.on bA)
      have G3 := Lib.hid (S1.out.on bA)
      have S4 := Lib.hid (S3.on (below_alloc2 w3 (.cells #[.slice V3 n3 c3] 30)))
      have hz3 := O3.out.lt
      have HV3 := Lib.hid hv3
      clear hv3
      have N3 : Hid (n3 + sizeL (pss.map sosL) ≤ 1048576) := Lib.hid (by rw [← S3.len]; exact HLS.out)
      obtain ⟨q0, q1, q2, q3, q4⟩ := X3.out.cells
      have cy := Y3.out.cell
      clear S3 b3 bA b1
      go_wp2_with fail
      refine (specIsLock_any m _ _ _ (pss.map sosL) _ S4.out N3.out).mono ?_
      rw [HLB.out]
      rintro e w5 ⟨rfl, b5⟩
      have C5 := Lib.hid (below_trans' C3.out b5)
      have O5 := Lib.hid (O3.out.on b5)
      have Y5 := Lib.hid (Y3.out.on b5)
      have X5 := Lib.hid (X3.out.on b5)
      have G5 := Lib.hid (G3.out.on b5)
      have S5 := Lib.hid (S4.out.on b5)
      clear q0 q1 q2 q3 q4 cy
      obtain ⟨q0, q1, q2, q3, q4⟩ := X5.out.cells
      have cy := Y5.out.cell
      go_wp2_with fail
      refine (l05Pins_any m _ _ _ (pss.map sosL) _ S5.out N3.out H7.out m3 m4).mono ?_
      rintro e w6 ⟨V6, n6, c6, rfl, S6, hc6, hm6, b6⟩
      have C6 := Lib.hid (below_trans' C5.out b6)
      have O6 := Lib.hid (O5.out.on b6)
      have Y6 := Lib.hid (Y5.out.on b6)
      have G6 := Lib.hid (G5.out.on b6)
      have N6 : Hid (n6 + sizeL ((pss.map sosL).map (stk m.D)) ≤ 1048576) := Lib.hid (by
        have e := S6.len
        rw [List.length_map] at e
        exact stk_size HLB.out e)
      have H6 := Lib.hid S6
      clear q0 q1 q2 q3 q4 cy S6
      go_wp2_with fail
      refine (l05Same_any _ _ _ _ _ _ _ pss _ H6.out G6.out N6.out).mono ?_
      rw [HSB.out]
      rintro e w7 ⟨rfl, b7⟩
      have CC := Lib.hid (below_trans' C6.out b7)
      have o1 := O6.out.on b7
      have f1 := o1.thawed
      have k1 := o1.cell
      go_wp2
      have r0 := (o1.put (.slice none 0 0)).cell
      exact bodyPost_ret (v := .tuple #[.agg #[.slice none 0 0], .int .i64 2]) (by simp [results, Try.results56, go_sem, r0]) rfl ⟨none, 0, 0, rfl, Sets.nil none, Nat.le_refl _, by omega, CC.out.setCell (by simp) _⟩
    | true =>
      have HE := Lib.hid (lp_yes (pss := pss) HM2.out (by rw [HB.out]; rfl))
      rw [HE.out.1, HE.out.2]
      go_enter Try.func56, Try.ntmps56
      go_wp2_with fail
      refine (specIsMaker_any m _).mono ?_
      rw [HM.out]
      rintro e w1 ⟨rfl, b1⟩
      have C1 := Lib.hid (below_trans' HC.out b1)
      have O1 := Lib.hid (HO.out.on b1)
      have ho1 := O1.out.lt
      have X1 := Lib.hid (HX.out.on b1)
      have S1 := Lib.hid (HS.out.on b1)
      clear q0 q1 q2 q3 q4
      go_wp2_with fail
      refine (l05Small_any _ _ _ pss _ S1.out HN.out).mono ?_
      rw [HSM.out]
      rintro e w2 ⟨rfl, rfl⟩
      go_wp2_with fail
      refine (l05Lock_any _ _ _ pss _ S1.out HN.out HSM.out).mono ?_
      rintro e w3 ⟨V3, n3, c3, rfl, S3, hv3, hc3, hm3, b3⟩
      have bA := below_trans' b3 (below_alloc2 w3 (.cells #[.slice V3 n3 c3] 30))
      have Y3 := Lib.hid (Cell1.new w3 30 (.slice V3 n3 c3))
      have C3 := Lib.hid (below_trans' C1.out bA)
      have O3 := Lib.hid (O1.out.on bA)
      have X3 := Lib.hid (X1.out.on bA)
      have G3 := Lib.hid (S1.out.on bA)
      have S4 := Lib.hid (S3.on (below_alloc2 w3 (.cells #[.slice V3 n3 c3] 30)))
      have hz3 := O3.out.lt
      have HV3 := Lib.hid hv3
      clear hv3
      have N3 : Hid (n3 + sizeL (pss.map sosL) ≤ 1048576) := Lib.hid (by rw [← S3.len]; exact HLS.out)
      obtain ⟨q0, q1, q2, q3, q4⟩ := X3.out.cells
      have cy := Y3.out.cell
      clear S3 b3 bA b1
      go_wp2_with fail
      refine (specIsLock_any m _ _ _ (pss.map sosL) _ S4.out N3.out).mono ?_
      rw [HLB.out]
      rintro e w5 ⟨rfl, b5⟩
      have C5 := Lib.hid (below_trans' C3.out b5)
      have O5 := Lib.hid (O3.out.on b5)
      have Y5 := Lib.hid (Y3.out.on b5)
      have X5 := Lib.hid (X3.out.on b5)
      have G5 := Lib.hid (G3.out.on b5)
      have S5 := Lib.hid (S4.out.on b5)
      clear q0 q1 q2 q3 q4 cy
      obtain ⟨q0, q1, q2, q3, q4⟩ := X5.out.cells
      have cy := Y5.out.cell
      go_wp2_with fail
      refine (l05Pins_any m _ _ _ (pss.map sosL) _ S5.out N3.out H7.out m3 m4).mono ?_
      rintro e w6 ⟨V6, n6, c6, rfl, S6, hc6, hm6, b6⟩
      have C6 := Lib.hid (below_trans' C5.out b6)
      have O6 := Lib.hid (O5.out.on b6)
      have Y6 := Lib.hid (Y5.out.on b6)
      have G6 := Lib.hid (G5.out.on b6)
      have T6 := Lib.hid (S5.out.on b6)
      have N6 : Hid (n6 + sizeL ((pss.map sosL).map (stk m.D)) ≤ 1048576) := Lib.hid (by
        have e := S6.len
        rw [List.length_map] at e
        exact stk_size HLB.out e)
      have H6 := Lib.hid S6
      clear q0 q1 q2 q3 q4 cy S6
      go_wp2_with fail
      refine (l05Same_any _ _ _ _ _ _ _ pss _ H6.out G6.out N6.out).mono ?_
      rw [HSB.out]
      rintro e w7 ⟨rfl, b7⟩
      have CC := Lib.hid (below_trans' C6.out b7)
      have T7 := Lib.hid (T6.out.on b7)
      have o1 := O6.out.on b7
      have y1 := Y6.out.on b7
      have f1 := o1.thawed
      have k1 := o1.cell
      have cy := y1.cell
      go_wp2
      have r0 := (o1.put (.slice V3 n3 c3)).cell
      have U := T7.out.past (p := ⟨w.heap.size + 1, 0, none⟩) o1 (fun ad e => by have := HV3.out ad e; have := ho1; show ad.block ≠ w.heap.size + 1; omega) (.slice V3 n3 c3)
      exact bodyPost_ret (v := .tuple #[.agg #[.slice V3 n3 c3], .int .i64 0]) (by simp [results, Try.results56, go_sem, r0]) rfl ⟨V3, n3, c3, rfl, U, hc3, hm3, CC.out.setCell (by simp) _⟩

end Go.Proofs.Ytjoknbknhfnggaa

namespace Go.Proofs.Ytjoknbknhfnggaa
open Go Go.RowKit

theorem lp_parts {m : Mk} {pss : List (List Int)} (h : lpE m pss = 0) : m.ok = true ∧ (pss.length : Int) = m.C ∧ ∀ ps ∈ pss, sosB m ps = true := by
  unfold lpE at h
  rcases hm : m.ok with _ | _
  · rw [hm] at h; simp at h
  · rcases hb : lpB m pss with _ | _
    · rw [hm, hb] at h; simp at h
    · unfold lpB at hb
      rw [Bool.and_eq_true] at hb
      exact ⟨rfl, of_decide_eq_true hb.1, fun ps hp => List.all_eq_true.1 hb.2 ps hp⟩
theorem sos_parts {m : Mk} {ps : List Int} (h : sosB m ps = true) : 2 ≤ ps.length ∧ riseB m.D (sosL ps) = true := by
  unfold sosB at h
  simp only [Bool.and_eq_true] at h
  have h1 := h.1
  simp at h1
  exact ⟨h1, h.2.2.1⟩
theorem lp_size (m : Mk) (pss : List (List Int)) : (lpL m pss).length + sizeL (lpL m pss) ≤ 1048576 := by
  unfold lpL
  by_cases h : lpE m pss = 0
  · rw [if_pos h]
    obtain ⟨hm, hC, hs⟩ := lp_parts h
    obtain ⟨m1, m2, m3, m4, _⟩ := Mk.ok_true hm
    have h1 : ∀ i, ((pss.map sosL).getD i []).length ≤ 8 := by
      intro i
      rw [List.getD_eq_getElem?_getD, List.getElem?_map]
      rcases hi : pss[i]? with _ | ps
      · exact Nat.zero_le _
      · have := rise_few (by omega) (sos_parts (hs ps (List.mem_of_getElem? hi))).2
        show (sosL ps).length ≤ 8
        omega
    have h2 := sizeAt_bound2 h1 (pss.map sosL).length
    unfold sizeL
    rw [List.length_map] at *
    omega
  · rw [if_neg h]; simp [sizeL, sizeAt]
theorem lp_ne (m : Mk) (pss : List (List Int)) : ∀ ys ∈ lpL m pss, ys.length ≠ 0 := by
  intro ys hy
  unfold lpL at hy
  by_cases h : lpE m pss = 0
  · rw [if_pos h] at hy
    obtain ⟨ps, hp, rfl⟩ := List.mem_map.1 hy
    obtain ⟨_, _, hs⟩ := lp_parts h
    have := (sos_parts (hs ps hp)).1
    rw [sos_len]; omega
  · rw [if_neg h] at hy; cases hy

set_option linter.unusedSimpArgs false in
set_option linter.unusedVariables false in
set_option maxRecDepth 100000 in
set_option maxHeartbeats 16000000 in
theorem lawLockOfPins_any (m : Mk) (V : Option Addr) (n c : Nat) (pss : List (List Int)) (w : World) (h0 : Sets w w.heap.size V n pss) (hcm0 : n ≤ 9223372036854775807) :
    Calls Try.prog 8 #[.agg #[.int .i64 m.C, .int .i64 m.D, .int .i64 m.S, .int .i64 m.M, .int .i64 m.L], .slice V n c] w fun e w' => e = .returned (.bool true) ∧ Below w.heap.size w w' := by
  have B_0' := Boxed.new w 62 m
  have C_0' := (Below.refl w.heap.size w).alloc (Nat.le_refl _) (.cells #[.int .i64 m.C, .int .i64 m.D, .int .i64 m.S, .int .i64 m.M, .int .i64 m.L] 62)
  have B_0 := Lib.hid B_0'
  have C_0 := Lib.hid C_0'
  have H0 := Lib.hid h0
  have HL0 := Lib.hid h0.len
  clear B_0' C_0' h0
  go_enter Try.func8, Try.ntmps8
  go_wp2_with fail
  refine (szLists_any _ _ _ pss 1048576 _ (H0.out.on C_0.out) (by omega) (by omega) hcm0).mono ?_
  rintro e ws0 ⟨⟨r0, rfl, hr0⟩, rfl⟩
  rcases hr0 with rfl | ⟨hr0, hr00⟩
  · go_wp2
    go_ret
    exact ⟨rfl, C_0.out⟩
  have hneg0 : ¬ r0 < 0 := by omega
  have HN0 : Hid (n + sizeL pss ≤ 1048576) := Lib.hid (by omega)
  have hn0 : n ≤ 1048576 := by omega
  have hlo0 : 0 ≤ r0 := by omega
  have hup0 : r0 ≤ 1048576 := by omega
  clear hr0 hr00
  obtain ⟨ws9, hws9⟩ : ∃ W, W = (w.alloc (.cells #[.int .i64 m.C, .int .i64 m.D, .int .i64 m.S, .int .i64 m.M, .int .i64 m.L] 62)) := ⟨_, rfl⟩
  rw [← hws9] at B_0 C_0
  have HW9 := Lib.hid hws9
  clear hws9
  have HNL := Lib.hid (lp_size m pss)
  have HNE := Lib.hid (lp_ne m pss)
  have hzw := B_0.out.lt
  obtain ⟨qa0, qa1, qa2, qa3, qa4⟩ := B_0.out.cells
  rw [← HW9.out]
  go_wp2_with fail
  refine (toMaker_any m _).mono ?_
  rintro e w1 ⟨rfl, b1⟩
  have hs1 := b1.size
  clear qa0 qa1 qa2 qa3 qa4
  have B_1 := Lib.hid (B_0.out.on b1)
  have C_1 := Lib.hid (below_trans' C_0.out b1)
  clear B_0 C_0 b1
  go_wp2_with fail
  refine (toLists_any _ _ _ pss _ (H0.out.on C_1.out) HN0.out).mono ?_
  rintro e w2 ⟨V2, n2, c2, gs2, rfl, R2', z2, y2, b2⟩
  obtain rfl : n = n2 := (R2'.len.symm.trans HL0.out).symm
  have Sa0 := Lib.hid R2'.sets
  have hs2 := b2.size
  clear R2'
  have B_2 := Lib.hid (B_1.out.on b2)
  have C_2 := Lib.hid (below_trans' C_1.out b2)
  clear B_1 C_1 b2
  go_wp2_with fail
  refine (specLockOfPins_any m _ _ _ pss _ Sa0.out HN0.out).mono ?_
  rintro e w3 ⟨Va, na, ca, rfl, S1', z3, y3, b3⟩
  have hs3 := b3.size
  clear Sa0
  have B_3 := Lib.hid (B_2.out.on b3)
  have C_3 := Lib.hid (below_trans' C_2.out b3)
  clear B_2 C_2 b3
  have Y := Cell1.new w3 30 (.slice Va na ca)
  have o4 := (Below.refl w3.heap.size w3).alloc (Nat.le_refl _) (.cells #[.slice Va na ca] 30)
  have S4 := S1'.on o4
  obtain ⟨w4, hw4⟩ : ∃ W, W = w3.alloc (.cells #[.slice Va na ca] 30) := ⟨_, rfl⟩
  have hsz4 : w4.heap.size = w3.heap.size + 1 := by rw [hw4]; simp
  rw [← hw4] at Y o4 S4
  have HW4 := Lib.hid hw4
  clear hw4 S1'
  have B_4 := Lib.hid (B_3.out.on o4)
  have C_4 := Lib.hid (below_trans' C_3.out o4)
  clear B_3 C_3 o4
  have S4h := Lib.hid S4
  have T_4 := Lib.hid Y
  clear S4 Y
  have HL4 := Lib.hid S4h.out.len
  have hz4 := T_4.out.lt
  have D_4 := Lib.hid (Below.refl w4.heap.size w4)
  go_wp2_with fail
  rw [← HW4.out]
  refine (toLists_any _ _ _ pss _ (H0.out.on C_4.out) HN0.out).mono ?_
  rintro e w5 ⟨V5, n5, c5, gs5, rfl, R5', z5, y5, b5⟩
  obtain rfl : n = n5 := (R5'.len.symm.trans HL0.out).symm
  have R0_5 := Lib.hid R5'
  have TX0 := Lib.hid R5'.top
  have hzx0 := b5.size
  clear R5'
  have B_5 := Lib.hid (B_4.out.on b5)
  have C_5 := Lib.hid (below_trans' C_4.out b5)
  have T_5 := Lib.hid (T_4.out.on b5)
  have D_5 := Lib.hid (below_trans' D_4.out b5)
  clear B_4 C_4 T_4 D_4 b5
  obtain ⟨qb0, qb1, qb2, qb3, qb4⟩ := B_5.out.cells
  go_wp2_with fail
  refine (toMaker_any m _).mono ?_
  rintro e w6 ⟨rfl, b6⟩
  have hs6 := b6.size
  clear qb0 qb1 qb2 qb3 qb4
  have B_6 := Lib.hid (B_5.out.on b6)
  have C_6 := Lib.hid (below_trans' C_5.out b6)
  have T_6 := Lib.hid (T_5.out.on b6)
  have D_6 := Lib.hid (below_trans' D_5.out b6)
  have R0_6 := Lib.hid (R0_5.out.on b6)
  clear B_5 C_5 T_5 D_5 R0_5 b6
  go_wp2_with fail
  refine (lockOfPins_any m _ _ _ pss _ R0_6.out.sets HN0.out).mono ?_
  rintro e w7 ⟨Vb, nb, cb, gsb, rfl, G1', z7, y7, b7⟩
  have hs7 := b7.size
  have B_7 := Lib.hid (B_6.out.on b7)
  have C_7 := Lib.hid (below_trans' C_6.out b7)
  have T_7 := Lib.hid (T_6.out.on b7)
  have D_7 := Lib.hid (below_trans' D_6.out b7)
  have R0_7 := Lib.hid (R0_6.out.on b7)
  clear B_6 C_6 T_6 D_6 R0_6 b7
  have Y := Cell1.new w7 30 (.slice Vb nb cb)
  have o8 := (Below.refl w7.heap.size w7).alloc (Nat.le_refl _) (.cells #[.slice Vb nb cb] 30)
  have G4 := G1'.on o8
  have TGb' := G1'.top
  obtain ⟨w8, hw8⟩ : ∃ W, W = w7.alloc (.cells #[.slice Vb nb cb] 30) := ⟨_, rfl⟩
  have hsz8 : w8.heap.size = w7.heap.size + 1 := by rw [hw8]; simp
  rw [← hw8] at Y o8 G4
  have HW8 := Lib.hid hw8
  clear hw8 G1'
  have B_8 := Lib.hid (B_7.out.on o8)
  have C_8 := Lib.hid (below_trans' C_7.out o8)
  have T_8 := Lib.hid (T_7.out.on o8)
  have D_8 := Lib.hid (below_trans' D_7.out o8)
  have R0_8 := Lib.hid (R0_7.out.on o8)
  clear B_7 C_7 T_7 D_7 R0_7 o8
  obtain rfl : na = nb := (G4.len.symm.trans HL4.out).symm
  have G_8 := Lib.hid G4
  have M_8 := Lib.hid Y
  have TG := Lib.hid TGb'
  clear G4 Y TGb'
  have d1 : (lpE m pss != lpE m pss) = false := by simp
  have HDD := Lib.hid d1
  have cm := M_8.out.cell
  have ct := T_8.out.cell
  rw [HW8.out] at cm ct
  go_wp2_with fail
  clear cm ct
  rw [← HW8.out]
  refine (eqLock_true _ _ _ _ _ (lpL m pss) _ G_8.out.sets (S4h.out.on D_8.out) (by have := HL4.out; have := HNL.out; omega)).mono ?_
  rintro e w9 ⟨rfl, b9⟩
  have B_9 := Lib.hid (B_8.out.on b9)
  have C_9 := Lib.hid (below_trans' C_8.out b9)
  have T_9 := Lib.hid (T_8.out.on b9)
  have D_9 := Lib.hid (below_trans' D_8.out b9)
  have R0_9 := Lib.hid (R0_8.out.on b9)
  have G_9 := Lib.hid (G_8.out.on b9)
  have M_9 := Lib.hid (M_8.out.on b9)
  clear B_8 C_8 T_8 D_8 R0_8 G_8 M_8 b9
  go_wp2_with fail
  refine (toLists_any _ _ _ pss _ (H0.out.on C_9.out) HN0.out).mono ?_
  rintro e w10 ⟨V10, n10, c10, gs10, rfl, P10', z10, y10, b10⟩
  obtain rfl : n = n10 := (P10'.len.symm.trans HL0.out).symm
  have P10 := Lib.hid P10'.sets
  clear P10'
  have B_10 := Lib.hid (B_9.out.on b10)
  have C_10 := Lib.hid (below_trans' C_9.out b10)
  have T_10 := Lib.hid (T_9.out.on b10)
  have D_10 := Lib.hid (below_trans' D_9.out b10)
  have R0_10 := Lib.hid (R0_9.out.on b10)
  have G_10 := Lib.hid (G_9.out.on b10)
  have M_10 := Lib.hid (M_9.out.on b10)
  clear B_9 C_9 T_9 D_9 R0_9 G_9 M_9 b10
  go_wp2_with fail
  refine (eqSets_true _ _ _ _ _ pss _ R0_10.out.sets P10.out HN0.out).mono ?_
  rintro e w11 ⟨rfl, k11, hw11⟩
  have b11 := below_of_drewN hw11
  clear hw11 P10
  have B_11 := Lib.hid (B_10.out.on b11)
  have C_11 := Lib.hid (below_trans' C_10.out b11)
  have T_11 := Lib.hid (T_10.out.on b11)
  have D_11 := Lib.hid (below_trans' D_10.out b11)
  have R0_11 := Lib.hid (R0_10.out.on b11)
  have G_11 := Lib.hid (G_10.out.on b11)
  have M_11 := Lib.hid (M_10.out.on b11)
  clear B_10 C_10 T_10 D_10 R0_10 G_10 M_10 b11
  go_wp2_with fail
  refine (markRag_any _ _ _ _ gs5 pss (1) _ R0_11.out HN0.out (by omega) (by omega)).mono ?_
  rintro e w12 ⟨rfl, _, hap⟩
  have ap := hap _ TX0.out
  have bl := ap.below R0_11.out.low
  have B_12 := Lib.hid (B_11.out.below bl (by omega))
  have C_12 := Lib.hid (C_11.out.trans (bl.mono (by omega)))
  have T_12 := Lib.hid (T_11.out.below bl (by omega))
  have D_12 := Lib.hid (D_11.out.trans (bl.mono (by omega)))
  have G_12 := Lib.hid (G_11.out.past ap (by omega))
  have M_12 : Hid (Cell1 w12 w7.heap.size 30 (.slice Vb na cb)) := Lib.hid ((ap.block _ M_11.out.lt (.inr (by omega))).trans M_11.out)
  have hrk0 := rAt_range (k := 1) (yss := pss) (i := n) (by omega) (by omega) (by have := HN0.out; omega) (by rw [HL0.out]; exact Nat.le_refl _)
  have hnk0 : ¬ rAt (1) pss n < 0 := by omega
  clear hap ap bl B_11 C_11 T_11 D_11 R0_11 G_11 M_11
  have cm := M_12.out.cell
  have ct := T_12.out.cell
  go_wp2_with fail
  clear cm ct
  refine (eqLock_true _ _ _ _ _ (lpL m pss) _ G_12.out.sets (S4h.out.on D_12.out) (by have := HL4.out; have := HNL.out; omega)).mono ?_
  rintro e w13 ⟨rfl, b13⟩
  have B_13 := Lib.hid (B_12.out.on b13)
  have C_13 := Lib.hid (below_trans' C_12.out b13)
  have T_13 := Lib.hid (T_12.out.on b13)
  have D_13 := Lib.hid (below_trans' D_12.out b13)
  have G_13 := Lib.hid (G_12.out.on b13)
  have M_13 := Lib.hid (M_12.out.on b13)
  clear B_12 C_12 T_12 D_12 G_12 M_12 b13
  have cm := M_13.out.cell
  go_wp2_with fail
  clear cm
  refine (markLock_any _ _ _ _ gsb (lpL m pss) 1 _ G_13.out (by have := HL4.out; have := HNL.out; omega) (by omega) (by omega)).mono ?_
  rintro e w14 ⟨rfl, G14', hap⟩
  have ap := hap _ TG.out
  have bl := ap.below G_13.out.low
  have B_14 := Lib.hid (B_13.out.below bl (by omega))
  have C_14 := Lib.hid (C_13.out.trans (bl.mono (by omega)))
  have T_14 := Lib.hid (T_13.out.below bl (by omega))
  have D_14 := Lib.hid (D_13.out.trans (bl.mono (by omega)))
  have G_14 := Lib.hid G14'
  have M_14 : Hid (Cell1 w14 w7.heap.size 30 (.slice Vb na cb)) := Lib.hid ((ap.block _ M_13.out.lt (by omega)).trans M_13.out)
  clear hap ap bl G14' B_13 C_13 T_13 D_13 G_13 M_13
  have hr15 := rAt_range (k := 1) (yss := lpL m pss) (i := na) (by omega) (by omega) (by have := HNL.out; omega) (by rw [HL4.out]; exact Nat.le_refl _)
  have hn15 : ¬ rAt 1 (lpL m pss) na < 0 := by omega
  have hd15 : (rAt 1 (lpL m pss) na != rAt 1 (lpL m pss) na) = false := by simp
  clear hr15
  have cm := M_14.out.cell
  go_wp2_with fail
  clear cm
  refine (heldLock_any _ _ _ (lpL m pss) 1 _ G_14.out.sets HL4.out (by have := HL4.out; have := HNL.out; omega) (by omega) (by omega)).mono ?_
  rintro e w15 ⟨rfl, b15⟩
  have B_15 := Lib.hid (B_14.out.on b15)
  have C_15 := Lib.hid (below_trans' C_14.out b15)
  have T_15 := Lib.hid (T_14.out.on b15)
  have D_15 := Lib.hid (below_trans' D_14.out b15)
  have G_15 := Lib.hid (G_14.out.on b15)
  have M_15 := Lib.hid (M_14.out.on b15)
  clear B_14 C_14 T_14 D_14 G_14 M_14 b15
  obtain ⟨qc0, qc1, qc2, qc3, qc4⟩ := B_15.out.cells
  go_wp2_with fail
  refine (toMaker_any m _).mono ?_
  rintro e w16 ⟨rfl, b16⟩
  have hs16 := b16.size
  clear qc0 qc1 qc2 qc3 qc4
  have B_16 := Lib.hid (B_15.out.on b16)
  have C_16 := Lib.hid (below_trans' C_15.out b16)
  have T_16 := Lib.hid (T_15.out.on b16)
  have D_16 := Lib.hid (below_trans' D_15.out b16)
  have G_16 := Lib.hid (G_15.out.on b16)
  have M_16 := Lib.hid (M_15.out.on b16)
  clear B_15 C_15 T_15 D_15 G_15 M_15 b16
  go_wp2_with fail
  refine (toLists_any _ _ _ pss _ (H0.out.on C_16.out) HN0.out).mono ?_
  rintro e w17 ⟨V17, n17, c17, gs17, rfl, R17', z17, y17, b17⟩
  obtain rfl : n = n17 := (R17'.len.symm.trans HL0.out).symm
  have Sc0 := Lib.hid R17'.sets
  have hs17 := b17.size
  clear R17'
  have B_17 := Lib.hid (B_16.out.on b17)
  have C_17 := Lib.hid (below_trans' C_16.out b17)
  have T_17 := Lib.hid (T_16.out.on b17)
  have D_17 := Lib.hid (below_trans' D_16.out b17)
  have G_17 := Lib.hid (G_16.out.on b17)
  have M_17 := Lib.hid (M_16.out.on b17)
  clear B_16 C_16 T_16 D_16 G_16 M_16 b17
  go_wp2_with fail
  refine (lockOfPins_any m _ _ _ pss _ Sc0.out HN0.out).mono ?_
  rintro e w18 ⟨Vc, nc, cc, gsc, rfl, G1', z18, y18, b18⟩
  have hs18 := b18.size
  clear Sc0
  have B_18 := Lib.hid (B_17.out.on b18)
  have C_18 := Lib.hid (below_trans' C_17.out b18)
  have T_18 := Lib.hid (T_17.out.on b18)
  have D_18 := Lib.hid (below_trans' D_17.out b18)
  have G_18 := Lib.hid (G_17.out.on b18)
  have M_18 := Lib.hid (M_17.out.on b18)
  clear B_17 C_17 T_17 D_17 G_17 M_17 b18
  have Y := Cell1.new w18 30 (.slice Vc nc cc)
  have o19 := (Below.refl w18.heap.size w18).alloc (Nat.le_refl _) (.cells #[.slice Vc nc cc] 30)
  have G4 := G1'.on o19
  have TGc' := G1'.top
  obtain ⟨w19, hw19⟩ : ∃ W, W = w18.alloc (.cells #[.slice Vc nc cc] 30) := ⟨_, rfl⟩
  have hsz19 : w19.heap.size = w18.heap.size + 1 := by rw [hw19]; simp
  rw [← hw19] at Y o19 G4
  have HW19 := Lib.hid hw19
  clear hw19 G1'
  have B_19 := Lib.hid (B_18.out.on o19)
  have C_19 := Lib.hid (below_trans' C_18.out o19)
  have T_19 := Lib.hid (T_18.out.on o19)
  have D_19 := Lib.hid (below_trans' D_18.out o19)
  have G_19 := Lib.hid (G_18.out.on o19)
  have M_19 := Lib.hid (M_18.out.on o19)
  clear B_18 C_18 T_18 D_18 G_18 M_18 o19
  obtain rfl : na = nc := (G4.len.symm.trans HL4.out).symm
  have Q_19 := Lib.hid G4
  have Z_19 := Lib.hid Y
  clear G4 Y
  have cm := Z_19.out.cell
  have ct := T_19.out.cell
  rw [HW19.out] at cm ct
  go_wp2_with fail
  clear cm ct
  rw [← HW19.out]
  refine (eqLock_true _ _ _ _ _ (lpL m pss) _ Q_19.out.sets (S4h.out.on D_19.out) (by have := HL4.out; have := HNL.out; omega)).mono ?_
  rintro e w20 ⟨rfl, b20⟩
  have B_20 := Lib.hid (B_19.out.on b20)
  have C_20 := Lib.hid (below_trans' C_19.out b20)
  have T_20 := Lib.hid (T_19.out.on b20)
  have D_20 := Lib.hid (below_trans' D_19.out b20)
  have G_20 := Lib.hid (G_19.out.on b20)
  have M_20 := Lib.hid (M_19.out.on b20)
  have Q_20 := Lib.hid (Q_19.out.on b20)
  have Z_20 := Lib.hid (Z_19.out.on b20)
  clear B_19 C_19 T_19 D_19 G_19 M_19 Q_19 Z_19 b20
  have cm := M_20.out.cell
  go_wp2_with fail
  clear cm
  refine (heldLock_any _ _ _ (lpL m pss) 1 _ G_20.out.sets HL4.out (by have := HL4.out; have := HNL.out; omega) (by omega) (by omega)).mono ?_
  rintro e w21 ⟨rfl, b21⟩
  have B_21 := Lib.hid (B_20.out.on b21)
  have C_21 := Lib.hid (below_trans' C_20.out b21)
  have T_21 := Lib.hid (T_20.out.on b21)
  have D_21 := Lib.hid (below_trans' D_20.out b21)
  have G_21 := Lib.hid (G_20.out.on b21)
  have M_21 := Lib.hid (M_20.out.on b21)
  have Q_21 := Lib.hid (Q_20.out.on b21)
  have Z_21 := Lib.hid (Z_20.out.on b21)
  clear B_20 C_20 T_20 D_20 G_20 M_20 Q_20 Z_20 b21
  have CE := C_21.out
  clear B_21 C_21 T_21 D_21 G_21 M_21 Q_21 Z_21
  go_wp2
  go_ret
  exact ⟨rfl, CE⟩

end Go.Proofs.Ytjoknbknhfnggaa
