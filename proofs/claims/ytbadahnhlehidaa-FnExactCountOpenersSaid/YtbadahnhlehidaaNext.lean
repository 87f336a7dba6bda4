/- NextKey and FirstKey of the program. NextKey and FirstKey of the program: their walks. -/
import Derived.Test.YtbadahnhlehidaaFill
import Derived.Lib.SliceRun
namespace Go.Proofs.Ytbadahnhlehidaa
open Go.RowKit

/-- whether cuts keep the rules 1 and 2 -/
def cutsB (m : Mk) (xs : List Int) : Bool := allIn 0 (m.D - 1) xs && decide ((xs.length : Int) = m.C)
def nextOk (m : Mk) (xs : List Int) : Bool := m.ok && cutsB m xs
def nextL (m : Mk) (xs : List Int) : List Int := if nextOk m xs then headL (nextAll m xs) else []
def nextE (m : Mk) (xs : List Int) : Int := if m.ok then (if cutsB m xs then (if (nextAll m xs).isEmpty then 4 else 0) else 2) else 1
theorem next_bad {m : Mk} {xs : List Int} (h : m.ok = false) : nextL m xs = [] ∧ nextE m xs = 1 := by simp [nextL, nextE, nextOk, h]
theorem next_no {m : Mk} {xs : List Int} (h : m.ok = true) (h2 : cutsB m xs = false) : nextL m xs = [] ∧ nextE m xs = 2 := by simp [nextL, nextE, nextOk, h, h2]
theorem next_none {m : Mk} {xs : List Int} (h : m.ok = true) (h2 : cutsB m xs = true) (h3 : nextAll m xs = []) : nextL m xs = [] ∧ nextE m xs = 4 := by simp [nextL, nextE, nextOk, h, h2, h3, headL]
theorem next_yes {m : Mk} {xs ys : List Int} (h : m.ok = true) (h2 : cutsB m xs = true) (h3 : (nextAll m xs).head? = some ys) : nextL m xs = ys ∧ nextE m xs = 0 := by
  have h4 : (nextAll m xs).isEmpty = false := by
    cases hn : nextAll m xs with
    | nil => rw [hn] at h3; cases h3
    | cons a b => rfl
  simp [nextL, nextE, nextOk, h, h2, headL, h3, h4]
theorem cuts_no1 {m : Mk} {xs : List Int} (h : (xs.length : Int) ≠ m.C) : cutsB m xs = false := by simp [cutsB, h]
theorem cuts_no2 {m : Mk} {xs : List Int} (h : allIn 0 (m.D - 1) xs = false) : cutsB m xs = false := by simp [cutsB, h]
theorem cuts_yes {m : Mk} {xs : List Int} (h1 : (xs.length : Int) = m.C) (h : allIn 0 (m.D - 1) xs = true) : cutsB m xs = true := by simp [cutsB, h, h1]

/-- what a copy of a list answers -/
def Copied (w : World) (n : Nat) (xs : List Int) (e : Ending) (w' : World) : Prop :=
  ∃ A c, e = .returned (.slice A n c) ∧ Own w' w.heap.size w'.heap.size A n xs ∧ n ≤ c ∧ c ≤ 9223372036854775807 ∧ Below w.heap.size w w'
theorem ints_news {w : World} {B n : Nat} {ad : Addr} {xs : List Int} (h : Ints w B (some ad) n xs) (hn : 0 < n) : ∀ j u, (intsV xs)[j]? = some u → w.cell? (ad.add j) = some u := by
  intro j u hu
  unfold intsV at hu
  rw [List.getElem?_map] at hu
  rcases hv : xs[j]? with _ | v
  · rw [hv] at hu; cases hu
  · rw [hv] at hu
    obtain ⟨ad', e, _, hc⟩ := h.2 hn
    injection e with e
    subst e
    have hu' : Value.int .i64 v = u := by simpa using hu
    rw [← hu']
    exact hc _ _ hv

set_option maxRecDepth 100000 in
set_option maxHeartbeats 1000000 in
theorem clone_any (ad : Addr) (n c : Nat) (xs : List Int) (w : World) (h : Ints w w.heap.size (some ad) n xs) (hn : n ≤ 1048576) (hp : 0 < n) :
    Calls Try.prog 99 #[.slice (some ad) n c] w (Copied w n xs) := by
  obtain ⟨i0, hi, hz0, hz1, hz2⟩ := info_parts Try.info2'
  have HI := Lib.hid (And.intro hi (And.intro hz0 (And.intro hz1 hz2)))
  clear hi hz0 hz1 hz2
  have HL := Lib.hid h.len
  have hb0 := (Below.refl w.heap.size w).alloc (Nat.le_refl _) (.cells #[] 2)
  have HN := Lib.hid (ints_news (h.below hb0) hp)
  have HB := Lib.hid hb0
  clear hb0
  have HO := Lib.hid (rowNil (w := w) (t := 2) (s := 1) (Nat.le_refl w.heap.size))
  have hcmp : ∀ W : World, (binOp .eql 42 (.slice (some ad) n c) (.slice none 0 0)).run Try.prog W = .ok (.bool false) W := fun W => Lib.run_eql_slice_nil W 42 2 (some ad) n c 0 0 Try.underlying42
  go_enter Try.func99, Try.ntmps99
  go_wp2_with (at_builtin; refine wpList_append_lies _ rfl _ _ 42 rfl w.heap.size 2 i0 _ 1 8 Try.underlying42 HI.out.1 HI.out.2.1 HI.out.2.2.1 HI.out.2.2.2 rfl (by omega) _ 0 _ rfl HO.out ad n c (intsV xs) rfl (by rw [intsV_len, HL.out]; omega) HN.out (intsV_one _) hp (by unfold maxLen; omega) (by omega) (by simp) (w.heap.size + 1) (by simp) ?_; intro gg cap w5 hown1 hgrow hat hlt3)
  rw [show 0 + n = n by omega, List.nil_append] at hown1
  obtain ⟨ho, hc1, hc2⟩ := rowIntsAt hown1 HL.out
  have B5 := Lib.hid (HB.out.grown hgrow (by simp) (fun q e => by have := rowBase HO.out q e; omega))
  have O5 := Lib.hid ho
  clear ho hown1 hgrow hat
  go_wp2
  go_ret
  exact ⟨some ⟨gg, 0, none⟩, cap, by simp, O5.out, hc1, hc2, B5.out⟩

end Go.Proofs.Ytbadahnhlehidaa

namespace Go.Proofs.Ytbadahnhlehidaa
open Go.RowKit

theorem below_grown' {B : Nat} {a w w' : World} {row : Option Nat} (h : Below B a w) (hB : B ≤ w.heap.size) (hg : w.grownBy w' row) (hr : ∀ g, row = some g → B ≤ g) : Below B a w' := h.grown hg hB hr

set_option maxRecDepth 100000 in
set_option maxHeartbeats 4000000 in
theorem nextKey_any (m : Mk) (A : Option Addr) (n c : Nat) (xs : List Int) (w : World) (h : Ints w w.heap.size A n xs) (hn : n ≤ 1048576) :
    Calls Try.prog 73 #[.agg #[.int .i64 m.C, .int .i64 m.D, .int .i64 m.S, .int .i64 m.M, .int .i64 m.L], .slice A n c] w
      (GivesList w (nextE m xs) (nextL m xs)) := by
  have HL := Lib.hid h.len
  have b0 := (Below.refl w.heap.size w).alloc (Nat.le_refl _) (.cells #[.int .i64 m.C, .int .i64 m.D, .int .i64 m.S, .int .i64 m.M, .int .i64 m.L] 29)
  have hx := Boxed.new w 29 m
  rcases hm : m.ok with _ | _
  · obtain ⟨e1, e2⟩ := next_bad (xs := xs) hm
    rw [e1, e2]; clear e1 e2
    go_enter Try.func73, Try.ntmps73
    go_wp2_with fail
    refine (isMaker_any m _).mono ?_
    rw [hm]
    rintro e w1 ⟨rfl, b1⟩
    have c1 := below_trans' b0 b1
    go_wp2
    go_ret2
    exact ⟨none, 0, 0, rfl, Own.nil _ (Nat.le_refl _), by omega, by omega, by omega, c1⟩
  have HM := Lib.hid hm
  clear hm
  obtain ⟨m1, m2, m3, m4, m5, m6, m7, m8, m9, m10, m11⟩ := Mk.ok_true HM.out
  rcases hq1 : ((n : Int) == m.C) with _ | _
  · obtain ⟨e1, e2⟩ := next_no (xs := xs) HM.out (cuts_no1 (by rw [HL.out]; simpa using hq1))
    rw [e1, e2]; clear e1 e2
    go_enter Try.func73, Try.ntmps73
    go_wp2_with fail
    refine (isMaker_any m _).mono ?_
    rw [HM.out]
    rintro e w1 ⟨rfl, b1⟩
    have x1 := hx.on b1
    have c1 := below_trans' b0 b1
    obtain ⟨q0, q1, q2, q3, q4⟩ := x1.cells
    clear hx b0 b1 x1
    go_wp2_with fail
    clear q0 q1 q2 q3 q4
    refine (hasAllChambers_any m _ _ _ _).mono ?_
    rw [hq1]
    rintro e w2 ⟨rfl, b2⟩
    have c2 := below_trans' c1 b2
    go_wp2
    go_ret2
    exact ⟨none, 0, 0, rfl, Own.nil _ (Nat.le_refl _), by omega, by omega, by omega, c2⟩
  have HN : Hid ((n : Int) = m.C) := Lib.hid (by simpa using hq1)
  have hn6 : (n : Int) ≤ 6 := by have := HN.out; omega
  have hp : 0 < n := by have := HN.out; omega
  have HQ1 := Lib.hid hq1
  clear hq1
  rcases hq2 : allIn 0 (m.D - 1) xs with _ | _
  · obtain ⟨e1, e2⟩ := next_no (xs := xs) HM.out (cuts_no2 hq2)
    rw [e1, e2]; clear e1 e2
    have HQ2 := Lib.hid hq2
    clear hq2
    go_enter Try.func73, Try.ntmps73
    go_wp2_with fail
    refine (isMaker_any m _).mono ?_
    rw [HM.out]
    rintro e w1 ⟨rfl, b1⟩
    have x1 := hx.on b1
    have c1 := below_trans' b0 b1
    obtain ⟨q0, q1, q2, q3, q4⟩ := x1.cells
    clear hx b0 b1
    go_wp2_with fail
    clear q0 q1 q2 q3 q4
    refine (hasAllChambers_any m _ _ _ _).mono ?_
    rw [HQ1.out]
    rintro e w2 ⟨rfl, b2⟩
    have x2 := x1.on b2
    have c2 := below_trans' c1 b2
    obtain ⟨q0, q1, q2, q3, q4⟩ := x2.cells
    clear x1 b2 c1
    go_wp2_with fail
    clear q0 q1 q2 q3 q4
    refine (hasOnlyDepths_any m _ _ _ xs _ (h.on c2) hn m3 m4).mono ?_
    rw [HQ2.out]
    rintro e w3 ⟨rfl, b3⟩
    have c3 := below_trans' c2 b3
    go_wp2
    go_ret2
    exact ⟨none, 0, 0, rfl, Own.nil _ (Nat.le_refl _), by omega, by omega, by omega, c3⟩
  have HD := Lib.hid hq2
  clear hq2
  have HCU := Lib.hid (cuts_yes (m := m) (xs := xs) (by rw [HL.out]; exact HN.out) HD.out)
  go_enter Try.func73, Try.ntmps73
  go_wp2_with fail
  refine (isMaker_any m _).mono ?_
  rw [HM.out]
  rintro e w1 ⟨rfl, b1⟩
  have x1 := hx.on b1
  have c1 := below_trans' b0 b1
  obtain ⟨q0, q1, q2, q3, q4⟩ := x1.cells
  clear hx b0 b1
  go_wp2_with fail
  clear q0 q1 q2 q3 q4
  refine (hasAllChambers_any m _ _ _ _).mono ?_
  rw [HQ1.out]
  rintro e w2 ⟨rfl, b2⟩
  have x2 := x1.on b2
  have c2 := below_trans' c1 b2
  obtain ⟨q0, q1, q2, q3, q4⟩ := x2.cells
  clear x1 b2 c1
  go_wp2_with fail
  clear q0 q1 q2 q3 q4
  refine (hasOnlyDepths_any m _ _ _ xs _ (h.on c2) hn m3 m4).mono ?_
  rw [HD.out]
  rintro e w3 ⟨rfl, b3⟩
  have x3 := x2.on b3
  have c3 := below_trans' c2 b3
  have h3 := h.on c3
  obtain ⟨ad, _, rfl, hab, _, _⟩ := h.at_ hp
  clear x2 b3 c2
  go_wp2_with fail
  refine (clone_any ad n c xs _ h3 hn hp).mono ?_
  rintro e w4 ⟨A4, ck, rfl, ho4, hck, hckm, b4⟩
  have x4 := x3.on b4
  have c4 := below_trans' c3 b4
  have s3 := c3.size
  have s4 := c4.size
  have l3 := x3.lt
  obtain ⟨adk, _, rfl, hlo, hhi, _, _, _⟩ := ho4.at_ hp
  clear x3 b4 c3 h3
  obtain ⟨q0, q1, q2, q3, q4⟩ := x4.cells
  go_wp2
  clear q0 q1 q2 q3 q4
  go_loopw [7] (fun x wr => ∃ (r : Nat) (y : Int) (zs : List Int), x = .int .i64 y ∧ r ≤ n ∧ y + 1 = r ∧ Own wr w3.heap.size w4.heap.size (some adk) n zs ∧ Hid (zs.take r = xs.take r) ∧ Hid ((nextAll m xs).head? = (down m xs 0 r).head?) ∧ Boxed wr w.heap.size 29 m ∧ Below w.heap.size w wr) (fun x _ => (intOf x + 1).toNat)
  case atStart => exact ⟨n, _, xs, rfl, Nat.le_refl _, by have := HN.out; omega, ho4, Lib.hid rfl, Lib.hid (by unfold nextAll; rw [HL.out]), x4, c4⟩
  case round =>
    obtain ⟨r, y, zs, rfl, hr, hy, hown, hpz, hall, hbox, hb⟩ := hrel
    clear ho4 x4 c4
    rcases r with _ | q
    · have hE : nextAll m xs = [] := List.head?_eq_none_iff.1 hall.out
      obtain ⟨e1, e2⟩ := next_none HM.out HCU.out hE
      have E := Lib.hid (And.intro e1 e2)
      clear e1 e2 hE
      have hneg : y < 0 := by omega
      go_wp2
      go_ret2
      refine ⟨none, 0, 0, ret_si E.out.2.symm, ?_, by omega, by omega, by omega, hb⟩
      rw [E.out.1]
      exact Own.nil _ (Nat.le_refl _)
    · obtain rfl : y = (q : Int) := by omega
      have hqn : q < n := by omega
      obtain ⟨_, v, e0, _, hv, hc⟩ := (h.below hb).at_ hqn
      obtain rfl := (by injection e0 : ad = _)
      clear e0
      obtain ⟨v0, v1⟩ := allIn_at HD.out hv
      obtain ⟨u, rfl⟩ := Int.eq_ofNat_of_zero_le v0
      have HZ := Lib.hid hown.len
      have HPQ : Hid (zs.take q = xs.take q) := Lib.hid (by
        have := congrArg (List.take q) hpz.out
        rwa [List.take_take, Nat.min_eq_left (by omega), List.take_take, Nat.min_eq_left (by omega)] at this)
      have HA : Hid (down m xs 0 (q + 1) = tails m (n - 1 - q) (xs.take q) (u + 1) ++ down m xs 0 q) := Lib.hid (by
        show afterAt m xs (0 + q) ++ _ = _
        unfold afterAt
        rw [Nat.zero_add, HL.out, getD_at hv]; rfl)
      have HDQ : Hid (allIn 0 (m.D - 1) (zs.take q) = true) := Lib.hid (by
        rw [HPQ.out]
        have := HD.out
        unfold allIn at *
        rw [List.all_eq_true] at *
        exact fun v hv => this v (List.mem_of_mem_take hv))
      have HF := fillKey_any m HM.out w3.heap.size w4.heap.size n ck adk HN.out hck (n - 1 - q) q (u + 1) zs
      rw [HPQ.out, show ((u + 1 : Nat) : Int) = (u : Int) + 1 by omega] at HF
      have HF' := Lib.hid HF
      have HO := Lib.hid hown
      have HX := Lib.hid hbox
      have HB := Lib.hid hb
      obtain ⟨q0, q1, q2, q3, q4⟩ := hbox.cells
      have hus : u + 1 ≤ 8 := by omega
      clear hv HF hown hbox hb
      have i0 : (0 : Int) ≤ (q : Int) := by omega
      have i1 : (q : Int) < (n : Int) := by omega
      have s1 : IntKind.i64.wrap ((u : Int) + 1) = (u : Int) + 1 := IntWalk.i64_in _ (by omega)
      go_wp2
      go_region_held3 (fun w' => w'.cell? ⟨w.heap.size, 0, none⟩ = some (.int .i64 m.C) ∧ w'.cell? ⟨w.heap.size, 1, none⟩ = some (.int .i64 m.D) ∧ w'.cell? ⟨w.heap.size, 2, none⟩ = some (.int .i64 m.S) ∧ w'.cell? ⟨w.heap.size, 3, none⟩ = some (.int .i64 m.M) ∧ w'.cell? ⟨w.heap.size, 4, none⟩ = some (.int .i64 m.L) ∧ w'.cell? (ad.add q) = some (.int .i64 (u : Int)))
        (first | go_keep | exact ⟨g5.cell (a := ⟨w.heap.size, 0, none⟩) q0 (by simp; omega), g5.cell (a := ⟨w.heap.size, 1, none⟩) q1 (by simp; omega), g5.cell (a := ⟨w.heap.size, 2, none⟩) q2 (by simp; omega), g5.cell (a := ⟨w.heap.size, 3, none⟩) q3 (by simp; omega), g5.cell (a := ⟨w.heap.size, 4, none⟩) q4 (by simp; omega), g5.cell (a := ad.add q) hc (by rw [block_of_add]; simp; omega)⟩)
        (first | (go_at_call 125; refine (HF'.out _ (by omega) (HO.out.dn 1) (by rw [← HPQ.out]; exact HDQ.out) hus).mono ?_; rintro e w5 ⟨ok, vs, rfl, o5, g5, p5, t5⟩))
      have X5 := Lib.hid ((HX.out.drewN 1).grown g5 (by intro e; injection e with e; omega))
      have B5 := Lib.hid (below_grown' (below_drewN HB.out 1) HB.out.size g5 (fun g e => by injection e with e; omega))
      have O5 := Lib.hid o5
      have P5 : Hid (vs.take q = xs.take q) := Lib.hid (by rw [p5]; exact HPQ.out)
      clear s1 q0 q1 q2 q3 q4 hc o5 g5 p5
      rcases t5 with ⟨rfl, t5⟩ | ⟨rfl, t5⟩
      · obtain ⟨e1, e2⟩ := next_yes (m := m) (xs := xs) (ys := vs) HM.out HCU.out (by rw [hall.out, HA.out, List.head?_append, t5]; rfl)
        have E := Lib.hid (And.intro e1 e2)
        clear e1 e2 t5
        go_wp2
        go_ret2
        refine ⟨some adk, n, ck, ret_si E.out.2.symm, ?_, by omega, hck, hckm, B5.out⟩
        rw [E.out.1]
        exact O5.out.more s3 O5.out.size (Nat.le_refl _)
      · have HT := Lib.hid t5
        clear t5
        go_wp2
        go_roundw
        case rel => exact ⟨q, _, vs, rfl, by omega, by omega, O5.out, P5, Lib.hid (by rw [hall.out, HA.out, HT.out]; rfl), X5.out, B5.out⟩
        case measure => simp [intOf] <;> omega

def firstL (m : Mk) : List Int := if m.ok then headL (allKeys m) else []
def firstE (m : Mk) : Int := if m.ok then 0 else 1
theorem first_bad {m : Mk} (h : m.ok = false) : firstL m = [] ∧ firstE m = 1 := by simp [firstL, firstE, h]
theorem first_yes {m : Mk} {ys : List Int} (h : m.ok = true) (h3 : (allKeys m).head? = some ys) : firstL m = ys ∧ firstE m = 0 := by simp [firstL, firstE, h, headL, h3]

end Go.Proofs.Ytbadahnhlehidaa
