/- The program's sets of doors. -/
import Derived.Test.YtidjnnooeepklaaTabP
import Derived.Lib.ItoaWalk
namespace Go.Proofs.Ytidjnnooeepklaa
open Go Go.RowKit

theorem doorIsIn_any (a b : Nat) (ha : a < 4096) (hb : b < 4096) (w : World) :
    Calls Try.prog 82 #[.int .u16 (a : Int), .int .u16 (b : Int)] w fun e w' => e = .returned (.bool (decide (a &&& b = a))) ∧ w = w' := by
  have h := nat_and16 a b (by omega) (by omega)
  have HE : Hid ((((a &&& b : Nat) : Int) == (a : Int)) = decide (a &&& b = a)) := Lib.hid (by
    rw [Bool.eq_iff_iff, beq_iff_eq, decide_eq_true_iff]; omega)
  go_enter Try.func82, Try.ntmps82
  go_wp2
  go_ret
  exact ⟨ret_bool HE.out, rfl⟩

/-- do two rows overlap, none of them in the other one -/
def ovB (a b : Nat) : Bool := !(decide (a &&& b = 0)) && (!(decide (a &&& b = a)) && !(decide (b &&& a = b)))
theorem overlaps_any (a b : Nat) (ha : a < 4096) (hb : b < 4096) (w : World) :
    Calls Try.prog 91 #[.int .u16 (a : Int), .int .u16 (b : Int)] w fun e w' => e = .returned (.bool (ovB a b)) ∧ w = w' := by
  have h := nat_and16 a b (by omega) (by omega)
  have HN : Hid ((((a &&& b : Nat) : Int) != 0) = !(decide (a &&& b = 0))) := Lib.hid (by
    rw [Bool.eq_iff_iff]; simp)
  have hn := HN.out
  rcases q1 : decide (a &&& b = 0) with _ | _ <;> rcases q2 : decide (a &&& b = a) with _ | _ <;> rcases q3 : decide (b &&& a = b) with _ | _ <;> rw [q1] at hn <;>
  · have HV := Lib.hid (show ovB a b = _ by unfold ovB; rw [q1, q2, q3])
    have Q2 := Lib.hid q2
    have Q3 := Lib.hid q3
    clear q1 q2 q3
    go_enter Try.func91, Try.ntmps91
    go_wp2_with (first
      | (go_at_call 82; (with_reducible refine (doorIsIn_any a b ha hb _).mono ?_); rw [Q2.out]; rintro e w' ⟨rfl, rfl⟩)
      | (go_at_call 82; (with_reducible refine (doorIsIn_any b a hb ha _).mono ?_); rw [Q3.out]; rintro e w' ⟨rfl, rfl⟩))
    go_ret
    exact ⟨ret_bool HV.out.symm, rfl⟩

theorem ones_split : ∀ u, u < 4096 → onesN 8 (u / 256) + onesN 8 (u % 256) = onesN 12 u ∧ onesN 8 (u / 256) ≤ 8 ∧ onesN 8 (u % 256) ≤ 8 := by
  intro u hu
  have h : ∀ q, q < 16 → ∀ r, r < 256 → onesN 8 q + onesN 8 r = onesN 12 (256 * q + r) ∧ onesN 8 q ≤ 8 ∧ onesN 8 r ≤ 8 := by decide +kernel
  have h2 := h (u / 256) (by omega) (u % 256) (by omega)
  rwa [Nat.div_add_mod] at h2
theorem idx_bytes {P : Program} (t : TypeId) (ht : P.underlying t = some .string) (k : IntKind) (z : Int) (i v : Nat) (s : ByteArray) (hz : z = (i : Int)) (hi : i < 256) (hs : s.size = 256) (hv : s.data.toList.getD i 0 = UInt8.ofNat v) (hv8 : v < 256) (w : World) :
    (Instr.index t (.string s) (.int k z)).run P w = .ok (.int .u8 (v : Int)) w := by
  subst hz
  rw [run_index_string w t s k _ ht, dif_pos ⟨by omega, by omega⟩]
  have e : ((i : Int)).toNat = i := by omega
  simp only [e]
  rw [Lib.getD_at s i (by omega), hv]
  have : (UInt8.ofNat v).toNat = v := by simp [UInt8.toNat_ofNat']; omega
  rw [this]
theorem onesCount16_any (u : Nat) (hu : u < 4096) (w : World) :
    Calls Try.prog 139 #[.int .u16 (u : Int)] w fun e w' => e = .returned (.int .i64 (onesN 12 u)) ∧ ∃ q, w' = w.drewN q := by
  obtain ⟨h1, h2, h3⟩ := ones_split u hu
  have H1 := Lib.hid h1
  have hand : bits .and .u16 (u : Int) 255 = ((u % 256 : Nat) : Int) := by
    have h := nat_and16 u 255 (by omega) (by omega)
    have e : u &&& 255 = u % 256 := Nat.and_two_pow_sub_one_eq_mod u 8
    rw [e] at h
    exact h
  have hdiv : (u : Int) / 256 = ((u / 256 : Nat) : Int) := by omega
  have hb1 : u / 256 < 256 := by omega
  have hb2 : u % 256 < 256 := by omega
  have hst : Try.prog.underlying 9 = some .string := by kernel_rfl
  go_enter Try.func139, Try.ntmps139
  go_wp2
  go_name_bytes s hs
  have hsz : s.size = 256 := by rw [← hs]; decide +kernel
  have hbt : ∀ i, i < 256 → s.data.toList.getD i 0 = UInt8.ofNat (onesN 8 i) := by rw [← hs]; decide +kernel
  have f1 := idx_bytes (P := Try.prog) 9 hst .u16 _ (u / 256) (onesN 8 (u / 256)) s rfl hb1 hsz (hbt _ hb1) (by omega)
  have f2 := idx_bytes (P := Try.prog) 9 hst .u16 _ (u % 256) (onesN 8 (u % 256)) s rfl hb2 hsz (hbt _ hb2) (by omega)
  clear hs hbt h1
  generalize u / 256 = x1 at *
  generalize u % 256 = x2 at *
  generalize onesN 8 x1 = a at *
  generalize onesN 8 x2 = b at *
  have e3 : ((a : Int) + (b : Int)) % 256 = (a : Int) + (b : Int) := by omega
  have e4 : IntKind.u8.wrap ((a : Int) + (b : Int)) = (a : Int) + (b : Int) := by rw [IntKind.wrap_u8]; omega
  go_region
  go_wp2
  go_ret
  exact ⟨ret_int (by rw [← H1.out]; simp), 1, rfl⟩

theorem doorSize_any (u : Nat) (hu : u < 4096) (w : World) :
    Calls Try.prog 89 #[.int .u16 (u : Int)] w fun e w' => e = .returned (.int .i64 (onesN 12 u)) ∧ ∃ q, w' = w.drewN q := by
  go_enter Try.func89, Try.ntmps89
  go_wp2_with fail
  refine (onesCount16_any u hu _).mono ?_
  rintro e w1 ⟨rfl, q, rfl⟩
  go_wp2
  go_ret
  exact ⟨rfl, q, rfl⟩

theorem bitT16 (u d : Nat) (hu : u < 4096) : (bits .and .u16 ((u : Int) / 2 ^ d) 1 == 1) = u.testBit d := by
  have e : (u : Int) / 2 ^ d = ((u / 2 ^ d : Nat) : Int) := by rw [Int.natCast_ediv, Int.natCast_pow]; rfl
  have hle : u / 2 ^ d ≤ u := Nat.div_le_self _ _
  have h := nat_and16 (u / 2 ^ d) 1 (by omega) (by omega)
  rw [e]
  rw [show ((1 : Nat) : Int) = 1 from rfl] at h
  rw [h, Nat.testBit_eq_decide_div_mod_eq, Nat.and_one_is_mod]
  by_cases h : u / 2 ^ d % 2 = 1
  · rw [h]; rfl
  · have : u / 2 ^ d % 2 = 0 := by omega
    rw [this]; rfl

set_option maxRecDepth 100000 in
set_option maxHeartbeats 4000000 in
theorem doorList_any (u : Nat) (hu : u < 4096) (w : World) :
    Calls Try.prog 90 #[.int .u16 (u : Int)] w (GivesRow w (lisN u 12)) := by
  obtain ⟨ii, hi0, hz0, hz1, hz2⟩ := info_parts Try.info2'
  have HF := Lib.hid (And.intro hi0 (And.intro hz0 (And.intro hz1 hz2)))
  clear hi0 hz0 hz1 hz2
  have R2 := Lib.hid (rowNil (w := w) (t := 2) (s := 1) (base := w.heap.size) (Nat.le_refl _))
  have C2 := Lib.hid ((Below.refl w.heap.size w).alloc (Nat.le_refl _) (.cells #[] 2))
  go_enter Try.func90, Try.ntmps90
  go_wp2
  go_loopw [3, 6] (fun y x wr => ∃ (j s : Nat) (pv : Value), j ≤ 12 ∧ x = .int .i64 j ∧ y = pv ∧ s ≤ j ∧ Hid ((lisN u j).length = s) ∧ Hid (wr.ownsRow w.heap.size 2 1 pv s (intsV (lisN u j))) ∧ Hid (Below w.heap.size w wr)) (fun _ x _ => 12 - (intOf x).toNat)
  case atStart => exact ⟨0, 0, _, by omega, rfl, rfl, Nat.le_refl _, Lib.hid rfl, R2, C2⟩
  case round =>
    obtain ⟨j, s, pv, hj, rfl, rfl, hs, HQ, HR, HB⟩ := hrel
    clear R2 C2
    obtain ⟨A1, c1, rfl, _, _, _⟩ := rowInts HR.out HQ.out
    by_cases hlt : j < 12
    · have i0 : (0 : Int) ≤ (j : Int) := by omega
      have i1 : (j : Int) < 12 := by omega
      have hbt := bitT16 u j hu
      rcases ht : u.testBit j with _ | _
      · have HN := Lib.hid (lisN_no ht)
        rw [ht] at hbt
        clear ht
        go_wp2
        go_roundw
        case rel => exact ⟨j + 1, s, _, by omega, by go_num, rfl, by omega, Lib.hid (by rw [HN.out]; exact HQ.out), Lib.hid (by rw [HN.out]; exact HR.out), HB⟩
        case measure => simp [intOf]; omega
      · have HN := Lib.hid (lisN_yes ht)
        rw [ht] at hbt
        clear ht
        have hszw := HB.out.size
        have HZV := Lib.hid (rowBase HR.out)
        go_wp2_with (at_builtin; refine wpList_append_lies _ rfl _ _ 27 rfl w.heap.size 2 ii _ 1 8 Try.underlying27 HF.out.1 HF.out.2.1 HF.out.2.2.1 HF.out.2.2.2 rfl (by omega) _ s _ rfl (rowBelow HR.out ((Below.refl _ _).alloc (Nat.le_refl _) _)) ⟨wr.heap.size, 0, none⟩ 1 1 [(.int .i64 (j : Int))] rfl rfl (World.news_of_block (cs := #[(.int .i64 (j : Int))]) (t := 2) (fr := (0, 0)) (heap_alloc_new wr _)) (by simp [Value.oneCell']) (by omega) (by unfold maxLen; omega) (by omega) (by simp; omega) (wr.heap.size + 1) (by simp) ?_; intro gg cap w5 hown1 hgrow hat hlt3)
        have R5 : Hid (w5.ownsRow w.heap.size 2 1 (.slice (some ⟨gg, 0, none⟩) (s + 1) cap) (s + 1) (intsV (lisN u (j + 1)))) := Lib.hid (by rw [HN.out, ← intsV_snoc]; exact hown1)
        have Q5 : Hid ((lisN u (j + 1)).length = s + 1) := Lib.hid (by rw [HN.out, List.length_append, HQ.out]; rfl)
        have B5 := Lib.hid ((HB.out.alloc HB.out.size (.cells #[.int .i64 (j : Int)] 2)).grown hgrow (by simp; omega) (fun q e => by have := HZV.out q e; omega))
        clear hown1 hgrow hat hlt3
        go_wp2
        go_roundw
        case rel => exact ⟨j + 1, s + 1, _, by omega, by go_num, rfl, by omega, Q5, R5, B5⟩
        case measure => simp [intOf]; omega
    · obtain rfl : j = 12 := by omega
      obtain ⟨A2, c2, e, ho, h1, h2⟩ := rowInts HR.out HQ.out
      injection e with e1 e2 e3
      subst e1; subst e3
      have HO := Lib.hid ho
      have q1 : s ≤ 1048576 := by omega
      clear ho
      go_wp2
      go_ret
      exact ⟨_, s, _, rfl, HO.out, q1, h1, h2, HB.out⟩

theorem cellT (w : World) (cs : Array Value) (t : TypeId) (i : Nat) : (w.alloc (.cells cs t)).cell? ⟨w.heap.size, i, none⟩ = cs[i]? := by
  have h := heap_alloc_new w (.cells cs t)
  unfold World.cell?
  rw [h]
  rfl
/-- one number and two numbers, as a call's list of arguments -/
theorem ints_one (w : World) (x : Int) : Ints (w.alloc (.cells #[.int .i64 x] 2)) (w.alloc (.cells #[.int .i64 x] 2)).heap.size (some ⟨w.heap.size, 0, none⟩) 1 [x] :=
  ⟨rfl, fun _ => ⟨_, rfl, by simp, fun j v hv => by
    rcases j with _ | j
    · simp at hv; subst hv; exact cellT w _ _ 0
    · simp at hv⟩⟩
theorem ints_two (w : World) (x y : Int) : Ints (w.alloc (.cells #[.int .i64 x, .int .i64 y] 2)) (w.alloc (.cells #[.int .i64 x, .int .i64 y] 2)).heap.size (some ⟨w.heap.size, 0, none⟩) 2 [x, y] :=
  ⟨rfl, fun _ => ⟨_, rfl, by simp, fun j v hv => by
    rcases j with _ | _ | j
    · simp at hv; subst hv; exact cellT w _ _ 0
    · simp at hv; subst hv; exact cellT w _ _ 1
    · simp at hv⟩⟩
theorem bitsT_lt {T : List (List Int)} {m i n : Nat} (hT : tabB T = true) (hm : colT T = m) (hl : T.length = n) (hi : i < n) : bitsT T i < 4096 := by
  have h := (rowB_true (tab_row hT hm hl hi)).1
  exact bitN_12 (by have := (tabB_true hT).2.1; show (getR T i).length ≤ 12; omega)

end Go.Proofs.Ytidjnnooeepklaa
