/- keys of the program: what it lends. -/
import Derived.Test.YtlgaocjcfdfhmaaWalk
namespace Go.Proofs.Ytlgaocjcfdfhmaa
open Go Go.RowKit
attribute [local go_sem] Oper.semAt_some

theorem keysFrom_any (m : Mk) (hm : m.ok = true) (l n B : Nat) (ad : Addr) (hnC : (n : Int) = m.C) (Mid : List (List Int) → Prop) (J Jx : List (List Int) → World → Prop) (hJ : Under B J) (hY : EachKey l n B Mid J Jx) : ∀ k, WalkOk m l n B ad Mid J Jx k
  | 0 => keysFrom_zero m hm l n B ad hnC Mid J Jx hJ hY
  | k + 1 => keysFrom_step m hm l n B ad hnC Mid J Jx hJ k (keysFrom_any m hm l n B ad hnC Mid J Jx hJ hY k)
theorem all_behind {m : Mk} (hm : m.ok = true) : behind m [] m.C.toNat = allKeys m := by
  obtain ⟨m1, _⟩ := Mk.ok_true hm
  obtain ⟨k, hk⟩ : ∃ k, m.C.toNat = k + 1 := ⟨m.C.toNat - 1, by omega⟩
  unfold allKeys
  rw [hk]
  exact (keys_succ rfl).symm
/-- the first keys -/
def Among (m : Mk) (q : List (List Int)) : Prop := ∃ R, allKeys m = q ++ R
/-- some keys have come, not all perhaps, the last of them is x -/
def Partly (m : Mk) (pre : List (List Int)) : Prop := ∃ p x R, allKeys m = p ++ x :: R ∧ pre = p ++ [x]

set_option maxRecDepth 100000 in
set_option maxHeartbeats 4000000 in
theorem keys_lend (m : Mk) (hm : m.ok = true) (q : Nat) (w : World) :
    Lends Fence.wide q Try.prog 51 #[.agg #[.int .i64 m.C, .int .i64 m.D, .int .i64 m.S, .int .i64 m.M, .int .i64 m.L]] #[] m.C.toNat (Among m) (fun xs => xs = allKeys m) (Partly m) w := by
  intro l J Jx W hW hJ hY h0
  obtain ⟨m1, m2, m3, m4, m5, m6, m7, m8, m9, m10, m11⟩ := Mk.ok_true hm
  have HW := Lib.hid (all_behind hm)
  obtain ⟨n, hn⟩ : ∃ n : Nat, m.C.toNat = n := ⟨_, rfl⟩
  rw [hn] at hY HW
  have hnC : (n : Int) = m.C := by omega
  have HK : ∀ ad, WalkOk m l n W.heap.size ad (Among m) J Jx n := fun ad => keysFrom_any m hm l n W.heap.size ad hnC (Among m) J Jx hJ (fun q' pre x v W1 hj hm' hl => yield_free q' (hY pre x v W1 hj hm' hl)) n
  have HKH := Lib.hid HK
  have hx := Boxed.new W 25 m
  have hj1 := hJ _ _ _ h0 ((Below.refl W.heap.size W).alloc (Nat.le_refl _) (.cells #[.int .i64 m.C, .int .i64 m.D, .int .i64 m.S, .int .i64 m.M, .int .i64 m.L] 25))
  have HJ := Lib.hid hJ
  have HJ1 := Lib.hid hj1
  have HN := Lib.hid hn
  have HX := Lib.hid hx
  obtain ⟨q0, q1, q2, q3, q4⟩ := hx.cells
  have hmk := run_make_row' (P := Try.prog) 26 2 (.int .i64 0) 8 Try.underlying26 Try.info2' rfl .i64 .i64 n (by omega) (by omega)
  rw [hnC] at hmk
  have e0 := World.new_ne _ ⟨W.heap.size, 0, none⟩ q0
  have e1 := World.new_ne _ ⟨W.heap.size, 1, none⟩ q1
  have e2 := World.new_ne _ ⟨W.heap.size, 2, none⟩ q2
  have e3 := World.new_ne _ ⟨W.heap.size, 3, none⟩ q3
  have e4 := World.new_ne _ ⟨W.heap.size, 4, none⟩ q4
  have hmade := World.rowIs_made (W.alloc (.cells #[.int .i64 m.C, .int .i64 m.D, .int .i64 m.S, .int .i64 m.M, .int .i64 m.L] 25)) (.int .i64 0) n 2
  rw [World.size_alloc] at hmade
  have hzero : ∀ j, j < n → Value.int .i64 0 = Value.int .i64 ((List.replicate n (0 : Int)).getD j 0) := fun j hj => by
    rw [List.getD_eq_getElem?_getD, List.getElem?_replicate, if_pos hj]; rfl
  have hrow := hmade.congr hzero
  obtain ⟨W1, hW1⟩ : ∃ W1 : World, W1 = ((W.alloc (.cells #[.int .i64 m.C, .int .i64 m.D, .int .i64 m.S, .int .i64 m.M, .int .i64 m.L] 25)).alloc (.cells (madeCells #[.int .i64 0] n) 2)).drew := ⟨_, rfl⟩
  have ho1 : Own W1 W.heap.size W1.heap.size (some ⟨W.heap.size + 1, 0, none⟩) n (List.replicate n (0 : Int)) := by
    subst hW1
    exact Own.of_row hrow (by simp) (by omega)
  have hjw : J [] W1 := by
    subst hW1
    exact hJ _ _ _ hj1 (((Below.refl _ _).alloc (by simp) _).drew)
  have hxw : Boxed W1 W.heap.size 25 m := by
    subst hW1
    exact hx.alloc _
  have HC := Lib.hid (HK ⟨W.heap.size + 1, 0, none⟩ 0 [] (List.replicate n (0 : Int)) W1 (by omega) ho1 rfl (fun p R e => ⟨R, by rw [← HW.out]; exact e⟩) hjw)
  have HXW := Lib.hid hxw
  have HW1 := Lib.hid hW1
  clear hm hn hnC HK hJ hY h0 hj1 hx hW hrow hmade hzero ho1 hjw hxw hW1 HKH HJ HJ1
  refine callsIn_wide.2 ?_
  show Calls Try.prog 51 #[.agg #[.int .i64 m.C, .int .i64 m.D, .int .i64 m.S, .int .i64 m.M, .int .i64 m.L], .func (.yield l) #[] #[]] W _
  go_enter Try.func51, Try.ntmps51
  go_wp2
  go_region_held3 (fun w' => w'.cell? ⟨W.heap.size, 0, none⟩ = some (.int .i64 m.C) ∧ w'.cell? ⟨W.heap.size, 1, none⟩ = some (.int .i64 m.D) ∧ w'.cell? ⟨W.heap.size, 2, none⟩ = some (.int .i64 m.S) ∧ w'.cell? ⟨W.heap.size, 3, none⟩ = some (.int .i64 m.M) ∧ w'.cell? ⟨W.heap.size, 4, none⟩ = some (.int .i64 m.L))
    (first | go_keep | exact X2.out.cells)
    (first
      | (go_at_call 84; rw [← HW1.out]; have h1 := HC.out; rw [show ((0 : Nat) : Int) = 0 from rfl] at h1; refine h1.mono ?_; rintro e w2 ⟨ok, rfl, g2, h2⟩; clear h1; have X2 := Lib.hid (HXW.out.beside g2 (Nat.le_refl _) (by simp)); have H2 := Lib.hid h2; clear h2 g2))
  clear q0 q1 q2 q3 q4 e0 e1 e2 e3 e4 hmk
  go_wp2
  go_end0
  refine ⟨⟨_, rfl⟩, ?_⟩
  rcases H2.out with ⟨_, zs, _, _, hj⟩ | ⟨_, p, x, R, e, hj⟩
  · refine .inl ⟨_, rfl, ?_⟩
    have e2 : behind m ((List.replicate n (0 : Int)).take 0) n = allKeys m := HW.out
    rw [e2] at hj
    simpa using hj
  · have e2 : behind m ((List.replicate n (0 : Int)).take 0) n = allKeys m := HW.out
    rw [e2] at e
    exact .inr ⟨p ++ [x], ⟨p, x, R, e, rfl⟩, by simpa using hj⟩

end Go.Proofs.Ytlgaocjcfdfhmaa
