/- CountKeys of the program: a state is carried on. -/
import Derived.Test.YtnblifpogbhjgaaCount
import Derived.Test.YtnblifpogbhjgaaFill
namespace Go.Proofs.Ytnblifpogbhjgaa
open Go.RowKit

/-- what addLonger answers -/
def Added (w : World) (g : Nat) (F : Nat → Int) (e : Ending) (w' : World) : Prop := e = .returned (.tuple #[]) ∧ Table w' g F ∧ w.grownBy w' (some g)

set_option maxRecDepth 100000 in
set_option maxHeartbeats 4000000 in
theorem addLonger_any (m : Mk) (hm : m.ok = true) (g : Nat) (F : Nat → Int) (l r u : Nat) (x : Int) (w : World) (hT : Table w g F) (hl : (l : Int) < m.D) (hr1 : 1 ≤ r) (hr2 : (r : Int) ≤ m.M) (hu : u < 256) (hx : 0 ≤ x) (hx2 : x ≤ 300000) (hF : NonNeg F) (hb : totS F one3 m.M.toNat m.D.toNat ≤ 1000000) :
    Calls Try.prog 78 #[.pointer (some ⟨g, 0, none⟩), .agg #[.int .i64 m.C, .int .i64 m.D, .int .i64 m.S, .int .i64 m.M, .int .i64 m.L], .int .i64 (l : Int), .int .i64 (r : Int), .int .i64 (u : Int), .int .i64 x] w
      (Added w g (addsN m F l r u x m.D.toNat)) := by
  obtain ⟨m1, m2, m3, m4, m5, m6, m7, m8, m9, m10, m11⟩ := Mk.ok_true hm
  have HM := Lib.hid hm
  have HNN := Lib.hid hF
  have HBB := Lib.hid hb
  clear hm hF hb
  have hgw := hT.lt
  have hx0 := Lib.hid (Boxed.new w 25 m)
  have HT := Lib.hid (hT.on ((Below.refl w.heap.size w).alloc (Nat.le_refl _) (.cells #[.int .i64 m.C, .int .i64 m.D, .int .i64 m.S, .int .i64 m.M, .int .i64 m.L] 25)))
  have HG0 := Lib.hid (show w.grownBy (w.alloc (.cells #[.int .i64 m.C, .int .i64 m.D, .int .i64 m.S, .int .i64 m.M, .int .i64 m.L] 25)) (some g) from ⟨((Below.refl w.heap.size w).alloc (Nat.le_refl _) _).os, ((Below.refl w.heap.size w).alloc (Nat.le_refl _) _).tape, ((Below.refl w.heap.size w).alloc (Nat.le_refl _) _).output, ((Below.refl w.heap.size w).alloc (Nat.le_refl _) _).size, fun i hi _ => ((Below.refl w.heap.size w).alloc (Nat.le_refl _) _).block i hi⟩)
  clear hT
  go_enter Try.func78, Try.ntmps78
  go_wp2
  go_loopw [16] (fun z wr => ∃ c : Nat, z = .int .i64 c ∧ (c : Int) ≤ m.D ∧ Table wr g (addsN m F l r u x c) ∧ Boxed wr w.heap.size 25 m ∧ w.grownBy wr (some g)) (fun z _ => 9 - (intOf z).toNat)
  case atStart => exact ⟨0, rfl, by omega, HT.out, hx0.out, HG0.out⟩
  case round =>
    obtain ⟨c, rfl, hcD, htab, hbox, hgr⟩ := hrel
    by_cases hlt : (c : Int) < m.D
    · obtain ⟨q0, q1, q2, q3, q4⟩ := hbox.cells
      have Hpart : Hid (totS (addsN m F l r u x c) one3 m.M.toNat m.D.toNat ≤ 1000000 + 8 * 300000) := Lib.hid (by
        rw [totS_adds (by omega) (by omega) hu m4 c (by omega)]
        have h1 : sumN c (fun c => if nxtOk m l r c then one3 c (nxtR l r c) (nxtU u c) else 0) ≤ 8 := by
          have h2 : ∀ n, sumN n (fun c => if nxtOk m l r c then one3 c (nxtR l r c) (nxtU u c) else 0) ≤ n := by
            intro n
            induction n with
            | zero => simp [sumN]
            | succ n ih =>
              show sumN n _ + (if nxtOk m l r n then one3 n (nxtR l r n) (nxtU u n) else 0) ≤ _
              have : (if nxtOk m l r n then one3 n (nxtR l r n) (nxtU u n) else 0) ≤ 1 := by unfold one3; split <;> omega
              omega
          have := h2 c
          omega
        have h3 : 0 ≤ sumN c (fun c => if nxtOk m l r c then one3 c (nxtR l r c) (nxtU u c) else 0) := sumN_nonneg (fun i _ => by unfold one3; split <;> omega)
        have h4 := Int.mul_le_mul hx2 h1 h3 (by omega)
        have := HBB.out
        omega)
      have HX := Lib.hid hbox
      have HG := Lib.hid hgr
      have hgw2 := hgr.size
      clear hbox hgr
      rcases hstep : inB ((c : Int) - (l : Int)) (-m.S) m.S with _ | _
      · have HA : Hid (addsN m F l r u x (c + 1) = addsN m F l r u x c) := Lib.hid (by
          show (if nxtOk m l r c = true then _ else addsN m F l r u x c) = _
          rw [if_neg]
          unfold nxtOk
          rw [hstep]; simp)
        go_wp2_with fail
        refine (isStep_at m l c _ _ hstep (by omega) (by omega) (by omega) (by omega) (by omega) (by omega)).mono ?_
        rintro e w3 ⟨rfl, b3⟩
        have HT3 := Lib.hid (htab.on b3)
        have HX3 := Lib.hid (HX.out.on b3)
        have HG3 := Lib.hid (grown_below HG.out b3)
        clear q0 q1 q2 q3 q4 b3 htab hstep
        go_wp2
        go_roundw
        case rel => exact ⟨c + 1, by go_num, by omega, by rw [HA.out]; exact HT3.out, HX3.out, HG3.out⟩
        case measure => simp [intOf]; omega
      · go_wp2_with fail
        refine (isStep_at m l c _ _ hstep (by omega) (by omega) (by omega) (by omega) (by omega) (by omega)).mono ?_
        rintro e w3 ⟨rfl, b3⟩
        have htab3 := htab.on b3
        have HX3 := Lib.hid (HX.out.on b3)
        have HG3 := Lib.hid (grown_below HG.out b3)
        clear q0 q1 q2 q3 q4 b3 htab
        obtain ⟨q0, q1, q2, q3, q4⟩ := HX3.out.cells
        by_cases hcl : c = l
        · by_cases hle : (r : Int) + 1 ≤ m.M
          · have HOK : Hid (nxtOk m l r c = true) := Lib.hid (by unfold nxtOk nxtR; rw [hstep, if_pos hcl]; simp; omega)
            have HA : Hid (addsN m F l r u x (c + 1) = upd (addsN m F l r u x c) (idx c (r + 1) (nxtU u c)) x) := Lib.hid (by
              show (if nxtOk m l r c = true then upd (addsN m F l r u x c) (idx c (nxtR l r c) (nxtU u c)) x else addsN m F l r u x c) = _
              rw [if_pos HOK.out]
              unfold nxtR
              rw [if_pos hcl])
            have hv := nxtU_lt hu (show c < 8 by omega)
            obtain ⟨hw, hsh⟩ := two_pow (show c < 8 by omega)
            have hor : bits .or .i64 (u : Int) ((1 <<< c : Nat) : Int) = ((nxtU u c : Nat) : Int) := or_i64 u (1 <<< c) hu hsh
            have hin := idx_lt (l := c) (r := r + 1) (u := nxtU u c) (by omega) (by omega) hv
            have hent := entry_le (F := addsN m F l r u x c) (M := m.M.toNat) (D := m.D.toNat) (l := c) (r := r + 1) (u := nxtU u c) (adds_nonneg HNN.out hx c) (by omega) (by omega) (by omega) hv
            have hpart := Hpart.out
            have hst := htab3.cell hin
            have hfz := htab3.frozen (idx c (r + 1) (nxtU u c))
            have HP := Table.put (i := idx c (r + 1) (nxtU u c)) htab3 x
            rw [← HA.out] at HP
            have hy0 := adds_nonneg (m := m) (F := F) (l := l) (r := r) (u := u) HNN.out hx c (idx c (r + 1) (nxtU u c))
            generalize addsN m F l r u x c (idx c (r + 1) (nxtU u c)) = y at hst HP hent hy0
            have hi : idx c (r + 1) (nxtU u c) = c * 1792 + (r + 1) * 256 + nxtU u c := by unfold idx; omega
            rw [hi] at hst hfz HP
            clear hi hin HA HOK
            generalize nxtU u c = v at *
            generalize 1 <<< c = sh at *
            have HX4 := Lib.hid ((HX3.out.grown (grown_set (p := ⟨g, c * 1792 + (r + 1) * 256 + v, none⟩) (World.grownBy.refl w3 (some g)) rfl (.int .i64 (y + x))) (by intro e; injection e with e; omega)).drewN 1)
            have HG4 := Lib.hid (grown_dn (grown_set HG3.out (p := ⟨g, c * 1792 + (r + 1) * 256 + v, none⟩) rfl (.int .i64 (y + x))) 1)
            have HP' := Lib.hid HP
            have j0 : (0 : Int) ≤ (v : Int) := by omega
            have j1 : (v : Int) < 256 := by omega
            have j2 : (0 : Int) ≤ (c : Int) := by omega
            have j3 : (c : Int) < 8 := by omega
            have yx : y + x ≤ 4000000 := by omega
            clear HP htab3 hpart hent hstep
            have hcb : ((c : Int) == (l : Int)) = true := by simp; omega
            clear hcl
            go_wp2
            go_region
            clear hw hst hfz hor q0 q1 q2 q3 q4
            go_wp2
            go_roundw
            case rel => exact ⟨c + 1, by go_num, by omega, HP'.out, HX4.out, HG4.out⟩
            case measure => simp [intOf]; omega
          · have HA : Hid (addsN m F l r u x (c + 1) = addsN m F l r u x c) := Lib.hid (by
              show (if nxtOk m l r c = true then _ else addsN m F l r u x c) = _
              rw [if_neg]
              unfold nxtOk nxtR
              rw [if_pos hcl]; simp; omega)
            have HT3 := Lib.hid htab3
            have hcb : ((c : Int) == (l : Int)) = true := by simp; omega
            clear htab3 hstep hcl
            go_wp2
            go_roundw
            case rel => exact ⟨c + 1, by go_num, by omega, by rw [HA.out]; exact HT3.out, HX3.out, HG3.out⟩
            case measure => simp [intOf]; omega
        · have HOK : Hid (nxtOk m l r c = true) := Lib.hid (by unfold nxtOk nxtR; rw [hstep, if_neg hcl]; simp; omega)
          have HA : Hid (addsN m F l r u x (c + 1) = upd (addsN m F l r u x c) (idx c (1) (nxtU u c)) x) := Lib.hid (by
            show (if nxtOk m l r c = true then upd (addsN m F l r u x c) (idx c (nxtR l r c) (nxtU u c)) x else addsN m F l r u x c) = _
            rw [if_pos HOK.out]
            unfold nxtR
            rw [if_neg hcl])
          have hv := nxtU_lt hu (show c < 8 by omega)
          obtain ⟨hw, hsh⟩ := two_pow (show c < 8 by omega)
          have hor : bits .or .i64 (u : Int) ((1 <<< c : Nat) : Int) = ((nxtU u c : Nat) : Int) := or_i64 u (1 <<< c) hu hsh
          have hin := idx_lt (l := c) (r := 1) (u := nxtU u c) (by omega) (by omega) hv
          have hent := entry_le (F := addsN m F l r u x c) (M := m.M.toNat) (D := m.D.toNat) (l := c) (r := 1) (u := nxtU u c) (adds_nonneg HNN.out hx c) (by omega) (by omega) (by omega) hv
          have hpart := Hpart.out
          have hst := htab3.cell hin
          have hfz := htab3.frozen (idx c (1) (nxtU u c))
          have HP := Table.put (i := idx c (1) (nxtU u c)) htab3 x
          rw [← HA.out] at HP
          have hy0 := adds_nonneg (m := m) (F := F) (l := l) (r := r) (u := u) HNN.out hx c (idx c (1) (nxtU u c))
          generalize addsN m F l r u x c (idx c (1) (nxtU u c)) = y at hst HP hent hy0
          have hi : idx c (1) (nxtU u c) = c * 1792 + 256 + nxtU u c := by unfold idx; omega
          rw [hi] at hst hfz HP
          clear hi hin HA HOK
          generalize nxtU u c = v at *
          generalize 1 <<< c = sh at *
          have HX4 := Lib.hid ((HX3.out.grown (grown_set (p := ⟨g, c * 1792 + 256 + v, none⟩) (World.grownBy.refl w3 (some g)) rfl (.int .i64 (y + x))) (by intro e; injection e with e; omega)).drewN 1)
          have HG4 := Lib.hid (grown_dn (grown_set HG3.out (p := ⟨g, c * 1792 + 256 + v, none⟩) rfl (.int .i64 (y + x))) 1)
          have HP' := Lib.hid HP
          have j0 : (0 : Int) ≤ (v : Int) := by omega
          have j1 : (v : Int) < 256 := by omega
          have j2 : (0 : Int) ≤ (c : Int) := by omega
          have j3 : (c : Int) < 8 := by omega
          have yx : y + x ≤ 4000000 := by omega
          clear HP htab3 hpart hent hstep
          have hcb : ((c : Int) == (l : Int)) = false := by simp; omega
          clear hcl
          go_wp2
          go_region
          clear hw hst hfz hor q0 q1 q2 q3 q4
          go_wp2
          go_roundw
          case rel => exact ⟨c + 1, by go_num, by omega, HP'.out, HX4.out, HG4.out⟩
          case measure => simp [intOf]; omega
    · have HC := Lib.hid (show c = m.D.toNat by omega)
      go_wp2
      go_end0
      exact ⟨rfl, by rw [← HC.out]; exact htab, hgr⟩

end Go.Proofs.Ytnblifpogbhjgaa
