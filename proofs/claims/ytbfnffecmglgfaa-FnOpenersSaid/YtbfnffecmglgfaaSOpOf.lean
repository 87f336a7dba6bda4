/- OpenersOf of the model. -/
import Derived.Test.YtbfnffecmglgfaaSCntOp
namespace Go.Proofs.Ytbfnffecmglgfaa
open Go Go.RowKit

def ooE (m : Mk) (yss : List (List Int)) (most : Int) : Int := if lockB m yss then (if inB most 0 300 then 0 else 2) else 1
def ooL (m : Mk) (yss : List (List Int)) (most : Int) : List (List Int) := if ooE m yss most = 0 then (opAll m (setP yss)).take most.toNat else []
theorem oo_no {m : Mk} {yss : List (List Int)} {most : Int} (h : lockB m yss = false) : ooE m yss most = 1 ∧ ooL m yss most = [] := by
  have e : ooE m yss most = 1 := by simp [ooE, h]
  exact ⟨e, by unfold ooL; rw [e]; rfl⟩
theorem oo_out {m : Mk} {yss : List (List Int)} {most : Int} (h : lockB m yss = true) (h2 : inB most 0 300 = false) : ooE m yss most = 2 ∧ ooL m yss most = [] := by
  have e : ooE m yss most = 2 := by simp [ooE, h, h2]
  exact ⟨e, by unfold ooL; rw [e]; rfl⟩
theorem oo_yes {m : Mk} {yss : List (List Int)} {most : Int} (h : lockB m yss = true) (h2 : inB most 0 300 = true) : ooE m yss most = 0 ∧ ooL m yss most = (opAll m (setP yss)).take most.toNat := by
  have e : ooE m yss most = 0 := by simp [ooE, h, h2]
  exact ⟨e, by unfold ooL; rw [e]; rfl⟩
/-- what a call answers that gives lists which are only read, and a code -/
def GivesReadE (w : World) (code : Int) (yss : List (List Int)) (e : Ending) (w' : World) : Prop :=
  ∃ V n c, e = .returned (.tuple #[.slice V n c, .int .i64 code]) ∧ Sets w' w'.heap.size V n yss ∧ n ≤ c ∧ c ≤ 9223372036854775807 ∧ Below w.heap.size w w'

set_option maxHeartbeats 2000000 in
theorem specOpenersOf_any (m : Mk) (V : Option Addr) (n c : Nat) (yss : List (List Int)) (most : Int) (w : World) (h : Sets w w.heap.size V n yss) (hn : n + sizeL yss ≤ 1048576) :
    Calls Try.prog 29 #[.agg #[.int .i64 m.C, .int .i64 m.D, .int .i64 m.S, .int .i64 m.M, .int .i64 m.L], .agg #[.slice V n c], .int .i64 most] w (GivesReadE w (ooE m yss most) (ooL m yss most)) := by
  have c0 := ((Below.refl w.heap.size w).alloc (Nat.le_refl _) (.cells #[.int .i64 m.C, .int .i64 m.D, .int .i64 m.S, .int .i64 m.M, .int .i64 m.L] 25)).alloc (by simp) (.cells #[.slice V n c] 30)
  have hx := (Boxed.new w 25 m).alloc (.cells #[.slice V n c] 30)
  have k0 := Cell1.new (w.alloc (.cells #[.int .i64 m.C, .int .i64 m.D, .int .i64 m.S, .int .i64 m.M, .int .i64 m.L] 25)) 30 (.slice V n c)
  rw [World.size_alloc] at k0
  have hs := h.on c0
  have HN := Lib.hid hn
  clear h hn
  obtain ⟨q0, q1, q2, q3, q4⟩ := hx.cells
  have ck := k0.cell
  rcases hL : lockB m yss with _ | _
  · rw [(oo_no hL).1, (oo_no hL).2]
    go_enter Try.func29, Try.ntmps29
    go_wp2_with fail
    refine (specIsLock_any m _ _ _ yss _ hs HN.out).mono ?_
    rw [hL]
    rintro e w1 ⟨rfl, b1⟩
    have c1 := below_trans' c0 b1
    go_wp2
    go_ret2
    exact ⟨none, 0, 0, rfl, Sets.nil none, Nat.le_refl _, by omega, c1⟩
  have HL := Lib.hid hL
  rcases hin : inB most 0 300 with _ | _
  · rw [(oo_out hL hin).1, (oo_out hL hin).2]
    go_enter Try.func29, Try.ntmps29
    go_wp2_with fail
    refine (specIsLock_any m _ _ _ yss _ hs HN.out).mono ?_
    rw [hL]
    rintro e w1 ⟨rfl, b1⟩
    have c1 := below_trans' c0 b1
    clear q0 q1 q2 q3 q4 ck
    go_wp2_with fail
    refine (l01In_at _ _ _ _ false hin).mono ?_
    rintro e w' ⟨rfl, rfl⟩
    go_wp2
    go_ret2
    exact ⟨none, 0, 0, rfl, Sets.nil none, Nat.le_refl _, by omega, c1⟩
  rw [(oo_yes hL hin).1, (oo_yes hL hin).2]
  obtain ⟨hm, _⟩ := lockB_facts hL
  have HM := Lib.hid hm
  have hb := inB_true.1 hin
  clear hm hL
  go_enter Try.func29, Try.ntmps29
  go_wp2_with fail
  refine (specIsLock_any m _ _ _ yss _ hs HN.out).mono ?_
  rw [HL.out]
  rintro e w1 ⟨rfl, b1⟩
  have c1 := below_trans' c0 b1
  have x1 := hx.on b1
  have k1 := k0.on b1
  have s1 := hs.on b1
  clear q0 q1 q2 q3 q4 ck c0 hx k0 hs b1
  go_wp2_with fail
  refine (l01In_at _ _ _ _ true hin).mono ?_
  rintro e w' ⟨rfl, rfl⟩
  obtain ⟨q0, q1, q2, q3, q4⟩ := x1.cells
  have ck := k1.cell
  go_wp2_with fail
  refine (openers_all m HM.out _ _ _ yss HL.out most _ s1 (by omega) (by omega)).mono ?_
  rintro e w2 ⟨V2, n2, c2, vals, rfl, P, b2⟩
  have c3 := below_trans' c1 b2
  have HP := Lib.hid P
  clear P q0 q1 q2 q3 q4 ck x1 k1 s1 b2 c1
  go_wp2
  go_ret2
  exact ⟨V2, n2, c2, rfl, HP.out.sets, HP.out.nc, HP.out.cm, c3⟩

end Go.Proofs.Ytbfnffecmglgfaa
