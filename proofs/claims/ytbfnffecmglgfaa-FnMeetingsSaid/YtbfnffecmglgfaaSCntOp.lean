/- CountOpeners and OpenersOf of the model. -/
import Derived.Test.YtbfnffecmglgfaaSOpen
namespace Go.Proofs.Ytbfnffecmglgfaa
open Go Go.RowKit

theorem openers_any (m : Mk) (hm : m.ok = true) (V : Option Addr) (n c : Nat) (yss : List (List Int)) (hL : lockB m yss = true) : ∀ j, OpenOk m V n c yss j
  | 0 => openers_step m hm V n c yss hL 0 (fun i h => by omega)
  | j + 1 => openers_step m hm V n c yss hL (j + 1) (fun i h => by
    have e : j = i := by omega
    subst e
    exact openers_any m hm V n c yss hL j)
/-- .. from no cuts on -/
theorem openers_all (m : Mk) (hm : m.ok = true) (V : Option Addr) (n c : Nat) (yss : List (List Int)) (hL : lockB m yss = true) (most : Int) (w : World) (h : Sets w w.heap.size V n yss) (h1 : most ≤ 1000000) (h0 : 0 ≤ most) :
    Calls Try.prog 110 #[.agg #[.int .i64 m.C, .int .i64 m.D, .int .i64 m.S, .int .i64 m.M, .int .i64 m.L], .agg #[.slice V n c], .slice none 0 0, .int .i64 most] w (GivesOps w none ((opAll m (setP yss)).take most.toNat)) := by
  obtain ⟨m1, _⟩ := Mk.ok_true hm
  exact openers_any m hm V n c yss hL m.C.toNat none 0 0 [] most w h ⟨rfl, fun h => absurd h (by omega)⟩ (Nat.le_refl _) (by omega) (fun _ => ⟨rfl, rfl⟩) (by simp; omega) rfl h1 h0

set_option maxHeartbeats 2000000 in
theorem specCountOpeners_any (m : Mk) (V : Option Addr) (n c : Nat) (yss : List (List Int)) (w : World) (h : Sets w w.heap.size V n yss) (hn : n + sizeL yss ≤ 1048576) :
    Calls Try.prog 31 #[.agg #[.int .i64 m.C, .int .i64 m.D, .int .i64 m.S, .int .i64 m.M, .int .i64 m.L], .agg #[.slice V n c]] w fun e w' => e = .returned (.tuple #[.int .i64 (coV m yss), .int .i64 (lkE m yss)]) ∧ Below w.heap.size w w' := by
  have c0 := ((Below.refl w.heap.size w).alloc (Nat.le_refl _) (.cells #[.int .i64 m.C, .int .i64 m.D, .int .i64 m.S, .int .i64 m.M, .int .i64 m.L] 25)).alloc (by simp) (.cells #[.slice V n c] 30)
  have hx := (Boxed.new w 25 m).alloc (.cells #[.slice V n c] 30)
  have k0 := Cell1.new (w.alloc (.cells #[.int .i64 m.C, .int .i64 m.D, .int .i64 m.S, .int .i64 m.M, .int .i64 m.L] 25)) 30 (.slice V n c)
  rw [World.size_alloc] at k0
  have hs := h.on c0
  have HN := Lib.hid hn
  clear h hn
  obtain ⟨q0, q1, q2, q3, q4⟩ := hx.cells
  have ck := k0.cell
  rcases hL : lockB m yss with _ | _
  · rw [(co_no hL).1, (co_no hL).2]
    go_enter Try.func31, Try.ntmps31
    go_wp2_with fail
    refine (specIsLock_any m _ _ _ yss _ hs HN.out).mono ?_
    rw [hL]
    rintro e w1 ⟨rfl, b1⟩
    have c1 := below_trans' c0 b1
    go_wp2
    go_ret2
    exact ⟨rfl, c1⟩
  rw [(co_yes hL).1, (co_yes hL).2]
  have HL := Lib.hid hL
  obtain ⟨hm, _⟩ := lockB_facts hL
  obtain ⟨m1, m2, m3, m4, m5, m6, m7, m8, m9, m10, m11⟩ := Mk.ok_true hm
  have HM := Lib.hid hm
  have hop : (opAll m (setP yss)).length ≤ 262144 := by
    refine Nat.le_trans (op_count m _) ?_
    have := Nat.le_trans (keys_count m4 m.C.toNat []) (pow8 (by omega))
    unfold allKeys
    omega
  have HTK : Hid ((opAll m (setP yss)).take (1000000 : Int).toNat = opAll m (setP yss)) := Lib.hid (List.take_of_length_le (by
    show _ ≤ 1000000
    omega))
  clear hm hL
  go_enter Try.func31, Try.ntmps31
  go_wp2_with fail
  refine (specIsLock_any m _ _ _ yss _ hs HN.out).mono ?_
  rw [HL.out]
  rintro e w1 ⟨rfl, b1⟩
  have c1 := below_trans' c0 b1
  have x1 := hx.on b1
  have k1 := k0.on b1
  have s1 := hs.on b1
  clear q0 q1 q2 q3 q4 ck c0 hx k0 hs b1
  obtain ⟨q0, q1, q2, q3, q4⟩ := x1.cells
  have ck := k1.cell
  go_wp2_with fail
  refine (openers_all m HM.out _ _ _ yss HL.out 1000000 _ s1 (by omega) (by omega)).mono ?_
  rw [HTK.out]
  rintro e w2 ⟨V2, n2, c2, vals, rfl, P, b2⟩
  have c3 := below_trans' c1 b2
  obtain rfl : n2 = (opAll m (setP yss)).length := P.len.symm
  clear P q0 q1 q2 q3 q4 ck x1 k1 s1 b2 c1
  go_wp2
  go_ret2
  exact ⟨rfl, c3⟩

end Go.Proofs.Ytbfnffecmglgfaa
