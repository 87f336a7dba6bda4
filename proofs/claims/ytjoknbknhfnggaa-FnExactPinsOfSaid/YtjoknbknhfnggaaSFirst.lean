/- l02First of the model: its contract. l02First of the model: its walk. -/
import Derived.Test.YtjoknbknhfnggaaSBeg
import Derived.Test.YtjoknbknhfnggaaNext
import Derived.Laws.AppendOwnNone
import Derived.Deep.RegionHeld3
namespace Go.Proofs.Ytjoknbknhfnggaa
open Go.RowKit

/-- a row of its own that reads as a list -/
def OwnRow (w : World) (n : Nat) (xs : List Int) (e : Ending) (w' : World) : Prop := ∃ v, e = .returned v ∧ w'.ownsRow w.heap.size 2 1 v n (intsV xs) ∧ Below w.heap.size w w'

set_option maxHeartbeats 1000000 in
theorem l01Own_nil (w : World) : Calls Try.prog 120 #[.slice none 0 0] w (OwnRow w 0 []) := by
  obtain ⟨i0, hi, hz0, hz1, hz2⟩ := info_parts Try.info2'
  have HI := Lib.hid (And.intro hi (And.intro hz0 (And.intro hz1 hz2)))
  clear hi hz0 hz1 hz2
  have HO := Lib.hid (rowNil (w := w) (t := 2) (s := 1) (Nat.le_refl w.heap.size))
  go_enter Try.func120, Try.ntmps120
  go_wp2_with (at_builtin; refine wpList_append_own_none _ rfl _ _ 39 rfl w.heap.size 2 i0 1 Try.underlying39 HI.out.1 _ 0 _ rfl HO.out rfl ?_)
  go_ret
  exact ⟨_, rfl, HO.out, (Below.refl _ _).alloc (Nat.le_refl _) _⟩

set_option maxHeartbeats 1000000 in
theorem l01Own_some (ad : Addr) (n c : Nat) (xs : List Int) (w : World) (h : Ints w w.heap.size (some ad) n xs) (hn : n ≤ 1048576) :
    Calls Try.prog 120 #[.slice (some ad) n c] w (OwnRow w n xs) := by
  obtain ⟨i0, hi, hz0, hz1, hz2⟩ := info_parts Try.info2'
  have HI := Lib.hid (And.intro hi (And.intro hz0 (And.intro hz1 hz2)))
  clear hi hz0 hz1 hz2
  have HL := Lib.hid h.len
  have hb0 := (Below.refl w.heap.size w).alloc (Nat.le_refl _) (.cells #[] 2)
  have HN : Hid (∀ j u, (intsV xs)[j]? = some u → (w.alloc (.cells #[] 2)).cell? (ad.add j) = some u) := by
    rcases Nat.eq_zero_or_pos n with h0 | h0
    · refine Lib.hid (fun j u hu => ?_)
      have : xs = [] := List.eq_nil_of_length_eq_zero (by rw [h.len, h0])
      subst this
      simp [intsV] at hu
    · exact Lib.hid (ints_news (h.below hb0) h0)
  have HB := Lib.hid hb0
  clear hb0
  have HO := Lib.hid (rowNil (w := w) (t := 2) (s := 1) (Nat.le_refl w.heap.size))
  go_enter Try.func120, Try.ntmps120
  go_wp2_with (at_builtin; refine wpList_append_own_at _ rfl _ _ 39 rfl w.heap.size 2 i0 _ 1 8 Try.underlying39 HI.out.1 HI.out.2.1 HI.out.2.2.1 HI.out.2.2.2 rfl (by omega) _ 0 _ rfl HO.out ad n c (intsV xs) rfl (by rw [intsV_len, HL.out]; omega) HN.out (intsV_one _) (by unfold maxLen; omega) (by omega) (by simp) ?_; intro v5 w5 hown1 hgrow _ _)
  rw [show 0 + n = n by omega, List.nil_append] at hown1
  have R5 := Lib.hid hown1
  have B5 := Lib.hid (HB.out.grown hgrow (by simp) (fun q e => by have := rowBase HO.out q e; omega))
  clear hown1 hgrow
  go_wp2
  go_ret
  exact ⟨v5, rfl, R5.out, B5.out⟩

theorem l01Own_any (A : Option Addr) (n c : Nat) (xs : List Int) (w : World) (h : Ints w w.heap.size A n xs) (hn : n ≤ 1048576) (hA : A = none → n = 0 ∧ c = 0) :
    Calls Try.prog 120 #[.slice A n c] w (OwnRow w n xs) := by
  rcases A with _ | ad
  · obtain ⟨rfl, rfl⟩ := hA rfl
    have : xs = [] := List.eq_nil_of_length_eq_zero h.len
    subst this
    exact l01Own_nil w
  · exact l01Own_some ad n c xs w h hn

end Go.Proofs.Ytjoknbknhfnggaa

namespace Go.Proofs.Ytjoknbknhfnggaa
open Go.RowKit

/-- what l02First answers: res are the keys that it looks for the first of -/
def FirstOk (w : World) (lo : Nat) (res : List (List Int)) (e : Ending) (w' : World) : Prop :=
  ∃ A n c ok ys, e = .returned (.tuple #[.slice A n c, .bool ok]) ∧ Own w' lo w'.heap.size A n ys ∧ n ≤ 1048576 ∧ n ≤ c ∧ c ≤ 9223372036854775807 ∧ Below w.heap.size w w' ∧ ((ok = true ∧ res.head? = some ys) ∨ (ok = false ∧ res = []))
def FirstAll (m : Mk) (k : Nat) : Prop :=
  ∀ (A : Option Addr) (n c : Nat) (xs : List Int) (lo : Nat) (w : World), ((n + k : Nat) : Int) = m.C → Own w lo w.heap.size A n xs → lo ≤ w.heap.size → n ≤ c → c ≤ 9223372036854775807 → (A = none → n = 0 ∧ c = 0) → allIn 0 (m.D - 1) xs = true →
    Calls Try.prog 111 #[.agg #[.int .i64 m.C, .int .i64 m.D, .int .i64 m.S, .int .i64 m.M, .int .i64 m.L], .slice A n c] w (FirstOk w lo (keysFrom m k xs))

theorem Ints.alloc {w : World} {B n : Nat} {A : Option Addr} {xs : List Int} (h : Ints w B A n xs) (hB : B ≤ w.heap.size) (o : Obj) : Ints (w.alloc o) (w.alloc o).heap.size A n xs :=
  (h.below ((Below.refl B w).alloc hB o)).more (by simp; omega)
/-- a block made before a call is still there behind it -/
theorem news_behind {w w2 : World} {d : Int} {t : TypeId} (hb : Below (w.alloc (.cells #[.int .i64 d] t)).drew.heap.size (w.alloc (.cells #[.int .i64 d] t)).drew w2) : ∀ (j : Nat) (u : Value), [Value.int .i64 d][j]? = some u → w2.cell? ((⟨w.heap.size, 0, none⟩ : Addr).add j) = some u := by
  intro j u hu
  have h1 := World.news_of_block (cs := #[.int .i64 d]) (t := t) (fr := (0, 0)) (heap_alloc_new w _) j u hu
  refine (hb.cell ?_).trans h1
  rw [block_of_add]
  show w.heap.size < (w.alloc _).heap.size
  simp

set_option maxRecDepth 100000 in
set_option maxHeartbeats 8000000 in
theorem l02First_step (m : Mk) (hm : m.ok = true) (k : Nat) (IH : ∀ j, k = j + 1 → FirstAll m j) : FirstAll m k := by
  intro A n c xs lo w hnk ho hlo hc hcm hA hd
  obtain ⟨m1, m2, m3, m4, m5, m6, m7, m8, m9, m10, m11⟩ := Mk.ok_true hm
  have HM := Lib.hid hm
  have HNK := Lib.hid hnk
  have hn6 : n ≤ 6 := by omega
  have HD := Lib.hid hd
  have HI := Lib.hid IH
  have HA := Lib.hid hA
  have HL := Lib.hid ho.len
  clear hm hnk hd IH hA
  have b0 := (Below.refl w.heap.size w).alloc (Nat.le_refl _) (.cells #[.int .i64 m.C, .int .i64 m.D, .int .i64 m.S, .int .i64 m.M, .int .i64 m.L] 25)
  have hx := Boxed.new w 25 m
  have h := ho.ints
  have HO := Lib.hid ho
  clear ho
  generalize hT : keysFrom m k xs = T
  have HT := Lib.hid hT
  clear hT
  obtain ⟨i0, hi, hz0, hz1, hz2⟩ := info_parts Try.info2'
  have HF := Lib.hid (And.intro hi (And.intro hz0 (And.intro hz1 hz2)))
  clear hi hz0 hz1 hz2
  go_enter Try.func111, Try.ntmps111
  go_wp2_with fail
  refine (l02Begins_any m _ _ _ xs _ (h.on b0) (by omega) HM.out HD.out).mono ?_
  rcases hb : beginsB m xs with _ | _
  · rintro e w1 ⟨rfl, b1⟩
    have c1 := below_trans' b0 b1
    have HE : Hid (T = []) := Lib.hid (by rw [← HT.out]; exact keys_stop hb)
    clear b0 b1 hb hx
    go_wp2
    go_ret2
    exact ⟨none, 0, 0, false, [], rfl, Own.nil _ (Nat.le_refl _), by omega, by omega, by omega, c1, .inr ⟨rfl, HE.out⟩⟩
  rintro e w1 ⟨rfl, b1⟩
  have HB := Lib.hid hb
  have c1 := below_trans' b0 b1
  have x1 := hx.on b1
  clear b0 b1 hb hx
  obtain ⟨q0, q1, q2, q3, q4⟩ := x1.cells
  rcases k with _ | j
  · have htest : ((n : Int) == m.C) = true := by have := HNK.out; simp; omega
    have O1 := Lib.hid ((HO.out.below c1).more (Nat.le_refl _) c1.size (Nat.le_refl _))
    have hi1 := h.on c1
    by_cases hL : m.L ≤ (kinds xs : Int)
    · have dL : decide (m.L ≤ (kinds xs : Int)) = true := by simpa using hL
      have HE : Hid (T = [xs]) := Lib.hid (by rw [← HT.out]; exact keys_zero_yes HB.out hL)
      clear hL
      go_wp2
      go_quiet ((go_at_call 119; exact quiet_on (l02Kinds_any _ _ _ xs _ (ints_drewN hi1 _) (by omega) hc hcm)))
      go_wp2
      go_ret2
      exact ⟨A, n, c, true, xs, rfl, O1.out.dn _, by omega, hc, hcm, below_drewN c1 _, .inl ⟨rfl, by rw [HE.out]; rfl⟩⟩
    · have dL : decide (m.L ≤ (kinds xs : Int)) = false := by simpa using hL
      have HE : Hid (T = []) := Lib.hid (by rw [← HT.out]; exact keys_zero_no HB.out hL)
      clear hL
      go_wp2
      go_quiet ((go_at_call 119; exact quiet_on (l02Kinds_any _ _ _ xs _ (ints_drewN hi1 _) (by omega) hc hcm)))
      go_wp2
      go_ret2
      exact ⟨A, n, c, false, xs, rfl, O1.out.dn _, by omega, hc, hcm, below_drewN c1 _, .inr ⟨rfl, HE.out⟩⟩
  · have htest : ((n : Int) == m.C) = false := by have := HNK.out; simp; omega
    have HS := Lib.hid (keys_succ (k := j) HB.out)
    go_wp2
    clear q0 q1 q2 q3 q4
    go_loopw [6] (fun x wr => ∃ d : Nat, x = .int .i64 d ∧ d ≤ 8 ∧ Hid (T.head? = (tails m j xs d).head?) ∧ Boxed wr w.heap.size 25 m ∧ Below w.heap.size w wr) (fun x _ => 9 - (intOf x).toNat)
    case atStart => exact ⟨0, rfl, by omega, Lib.hid (by rw [← HT.out, HS.out]), x1, c1⟩
    case round =>
      obtain ⟨d, rfl, hd8, hall, hbox, hbl⟩ := hrel
      clear x1 c1
      obtain ⟨q0, q1, q2, q3, q4⟩ := hbox.cells
      have hsz := hbl.size
      by_cases hlt : (d : Int) < m.D
      · have hI := h.below hbl
        have HX := Lib.hid hbox
        have HBL := Lib.hid hbl
        have hlw := hbox.lt
        clear hbox hbl
        have e0 := World.new_ne wr ⟨w.heap.size, 0, none⟩ q0
        have e1 := World.new_ne wr ⟨w.heap.size, 1, none⟩ q1
        have e2 := World.new_ne wr ⟨w.heap.size, 2, none⟩ q2
        have e3 := World.new_ne wr ⟨w.heap.size, 3, none⟩ q3
        have e4 := World.new_ne wr ⟨w.heap.size, 4, none⟩ q4
        go_wp2
        go_region_held3 (fun w' => w'.cell? ⟨w.heap.size, 0, none⟩ = some (.int .i64 m.C) ∧ w'.cell? ⟨w.heap.size, 1, none⟩ = some (.int .i64 m.D) ∧ w'.cell? ⟨w.heap.size, 2, none⟩ = some (.int .i64 m.S) ∧ w'.cell? ⟨w.heap.size, 3, none⟩ = some (.int .i64 m.M) ∧ w'.cell? ⟨w.heap.size, 4, none⟩ = some (.int .i64 m.L))
          (first
            | go_keep
            | exact ⟨(b2.cell (p := ⟨w.heap.size, 0, none⟩) hlw).trans q0, (b2.cell (p := ⟨w.heap.size, 1, none⟩) hlw).trans q1, (b2.cell (p := ⟨w.heap.size, 2, none⟩) hlw).trans q2, (b2.cell (p := ⟨w.heap.size, 3, none⟩) hlw).trans q3, (b2.cell (p := ⟨w.heap.size, 4, none⟩) hlw).trans q4⟩
            | exact XZ.out.cells
            | exact X5.out.cells
            | exact X6.out.cells)
          (first
            | (go_at_call 120; refine (l01Own_any A n c xs _ (ints_drewN (hI.more (Nat.le_of_lt hlw)) 1) (by omega) HA.out).mono ?_; rintro e w2 ⟨v2, rfl, r2, b2⟩; have X2 := Lib.hid ((HX.out.drewN 1).on b2))
            | (refine step_append_lies _ (by rfl) _ _ _ (by rfl) wr.heap.size 2 i0 _ 1 8 Try.underlying39 HF.out.1 HF.out.2.1 HF.out.2.2.1 HF.out.2.2.2 rfl (by omega) v2 n (intsV xs) (by rfl) (r2.alloc _) ⟨w2.heap.size, 0, none⟩ 1 1 [.int .i64 (d : Int)] (by rfl) (by rfl) (World.news_of_block (cs := #[.int .i64 (d : Int)]) (t := 2) (fr := (0, 0)) (heap_alloc_new w2 _)) (by simp [Value.oneCell']) (by omega) (by unfold maxLen; omega) (by omega) (by have := b2.size; simp at this ⊢; omega) (w2.heap.size + 1) (by simp) ?_; intro gg cap w5 hown1 hgrow hat hlt3; have X5 := Lib.hid ((X2.out.alloc (.cells #[.int .i64 (d : Int)] 2)).grown hgrow (by intro e; have := rowBase r2 _ e.symm; simp at this; omega)); have B5 := Lib.hid ((((below_drewN HBL.out 1).trans (b2.mono HBL.out.size)).alloc (by have := b2.size; simp at this; omega) (.cells #[.int .i64 (d : Int)] 2)).grown hgrow (by have := b2.size; simp at this ⊢; omega) (fun q e => by have := rowBase r2 q e; simp at this; omega)))
            | (go_at_call 111; have hrow5 := hown1; rw [intsV_snoc] at hrow5; obtain ⟨ho5, hc5, hm5⟩ := rowIntsAt hrow5 (by rw [List.length_append, HL.out]; rfl); refine (HI.out j rfl (some ⟨gg, 0, none⟩) (n + 1) cap (xs ++ [(d : Int)]) wr.heap.size w5 (by have := HNK.out; omega) ho5 (by have := hgrow.size; have := b2.size; simp at *; omega) hc5 hm5 (by simp) (depth_snoc HD.out hlt)).mono ?_; rintro e w6 ⟨A6, n6, c6, ok, ys, rfl, o6, hn6', hc6, hm6, b6, t6⟩; have X6 := Lib.hid (X5.out.on b6))
            | (go_at_call 120; refine (l01Own_any A n c xs _ (ints_drewN (hI.alloc (Nat.le_of_lt hlw) (.cells #[.int .i64 (d : Int)] 2)) 1) (by omega) HA.out).mono ?_; rintro e wz ⟨vz, rfl, rz, bz⟩; have XZ := Lib.hid (((HX.out.alloc (.cells #[.int .i64 (d : Int)] 2)).drewN 1).on bz))
            | (refine step_append_lies _ (by rfl) _ _ _ (by rfl) wr.heap.size 2 i0 _ 1 8 Try.underlying39 HF.out.1 HF.out.2.1 HF.out.2.2.1 HF.out.2.2.2 rfl (by omega) vz n (intsV xs) (by rfl) (rowMore rz (by simp)) ⟨wr.heap.size, 0, none⟩ 1 1 [.int .i64 (d : Int)] (by rfl) (by rfl) (news_behind bz) (by simp [Value.oneCell']) (by omega) (by unfold maxLen; omega) (by omega) (by have := bz.size; simp at this ⊢; omega) wz.heap.size rfl ?_; intro gg cap w5 hown1 hgrow hat hlt3; have X5 := Lib.hid (XZ.out.grown hgrow (by intro e; have := rowBase rz _ e.symm; simp at this; omega)); have B5 := Lib.hid (((below_drewN (HBL.out.alloc HBL.out.size (.cells #[.int .i64 (d : Int)] 2)) 1).trans (bz.mono (by simp; omega))).grown hgrow (by have := bz.size; simp at this ⊢; omega) (fun q e => by have := rowBase rz q e; simp at this; omega)))
            | (go_at_call 111; have hrow5 := hown1; rw [intsV_snoc] at hrow5; obtain ⟨ho5, hc5, hm5⟩ := rowIntsAt hrow5 (by rw [List.length_append, HL.out]; rfl); refine (HI.out j rfl (some ⟨gg, 0, none⟩) (n + 1) cap (xs ++ [(d : Int)]) wr.heap.size w5 (by have := HNK.out; omega) ho5 (by have := hgrow.size; have := bz.size; simp at *; omega) hc5 hm5 (by simp) (depth_snoc HD.out hlt)).mono ?_; rintro e w6 ⟨A6, n6, c6, ok, ys, rfl, o6, hn6', hc6, hm6, b6, t6⟩; have X6 := Lib.hid (X5.out.on b6)))
        all_goals
          have B6 := Lib.hid (B5.out.trans (b6.mono (by have := B5.out.size; exact this)))
          have O6 := Lib.hid (o6.more (show lo ≤ wr.heap.size by omega) (Nat.le_refl _) (Nat.le_refl _))
          have HTS := Lib.hid (tails_step (m := m) (k := j) (xs := xs) (d := d) (by omega))
          clear q0 q1 q2 q3 q4 e0 e1 e2 e3 e4 hown1 hgrow hat hlt3 b6 o6 X5 B5
          rcases t6 with ⟨rfl, t6⟩ | ⟨rfl, t6⟩
          · have HG : Hid (T.head? = some ys) := Lib.hid (by rw [hall.out, HTS.out, List.head?_append, t6]; rfl)
            clear t6
            go_wp2
            go_ret2
            exact ⟨A6, n6, c6, true, ys, rfl, O6.out, hn6', hc6, hm6, B6.out, .inl ⟨rfl, HG.out⟩⟩
          · have HG := Lib.hid t6
            clear t6
            go_wp2
            go_roundw
            case rel => exact ⟨d + 1, by go_num, by omega, Lib.hid (by rw [hall.out, HTS.out, HG.out]; rfl), X6.out, B6.out⟩
            case measure => simp [intOf]; omega
      · have HE : Hid (T = []) := Lib.hid (by
          have h1 := hall.out
          rw [tails_end (m := m) (k := j) (xs := xs) (d := d) (by omega)] at h1
          exact List.head?_eq_none_iff.1 h1)
        clear hall
        go_wp2
        go_ret2
        exact ⟨none, 0, 0, false, [], rfl, Own.nil _ (Nat.le_refl _), by omega, by omega, by omega, hbl, .inr ⟨rfl, HE.out⟩⟩

theorem l02First_any (m : Mk) (hm : m.ok = true) : ∀ k, FirstAll m k
  | 0 => l02First_step m hm 0 (fun j h => by omega)
  | k + 1 => l02First_step m hm (k + 1) (fun j h => by
    have e : k = j := by omega
    subst e
    exact l02First_any m hm k)

end Go.Proofs.Ytjoknbknhfnggaa
