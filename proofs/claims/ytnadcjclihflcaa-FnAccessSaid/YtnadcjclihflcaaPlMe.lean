/- MayEnter of the program. -/
import Derived.Test.YtnadcjclihflcaaPlF
namespace Go.Proofs.Ytnadcjclihflcaa
open Go Go.RowKit

set_option maxRecDepth 100000 in
set_option maxHeartbeats 2000000 in
theorem mayEnter_any (A B V : Option Addr) (n c k d q e0 : Nat) (P : List Int) (D : List Bool) (R : List (List Int)) (x : Int) (y : Int) (w : World) (h : Pl w A n B k V q P D R) (hn : n ≤ 1048576) (hk : k ≤ 1048576) (hq : q + sizeL R ≤ 1048576) :
    Calls Try.prog 24 #[.agg #[.slice A n c, .slice B k d, .slice V q e0], .int .i64 x, .int .i64 y] w fun e w' => e = .returned (.tuple #[.bool (meV P D R x y), .int .i64 (meE P D R x y)]) ∧ Below w.heap.size w w' := by
  have c1 := ((Below.refl w.heap.size w).alloc (Nat.le_refl _) (.cells #[.slice A n c, .slice B k d, .slice V q e0] 30)).alloc (by simp) (.cells #[.int .i64 x] 2)
  have h0 := Lib.hid (h.on c1)
  have x0 : Hid (Ints ((w.alloc (.cells #[.slice A n c, .slice B k d, .slice V q e0] 30)).alloc (.cells #[.int .i64 x] 2)) ((w.alloc (.cells #[.slice A n c, .slice B k d, .slice V q e0] 30)).alloc (.cells #[.int .i64 x] 2)).heap.size (some ⟨w.heap.size + 1, 0, none⟩) 1 [x]) := Lib.hid ⟨rfl, fun _ => ⟨_, rfl, by simp, fun j v hj => by
    rcases j with _ | j
    · have e : x = v := by simpa using hj
      subst e
      have := (Cell1.new (w.alloc (.cells #[.slice A n c, .slice B k d, .slice V q e0] 30)) 2 (.int .i64 x)).cell
      rw [World.size_alloc] at this
      exact (congrArg _ (add_zero' _)).trans this
    · simp at hj⟩⟩
  obtain ⟨p0, p1, p2⟩ := (Cell3.new w 30 (.slice A n c) (.slice B k d) (.slice V q e0)).cells
  have C0 := Lib.hid c1
  have H := Lib.hid h
  clear c1 h
  obtain ⟨z, hz⟩ : ∃ z, pkE P D R x = z := ⟨_, rfl⟩
  have HZ := Lib.hid hz
  by_cases hz0 : z = 0
  rotate_left
  · have HD : Hid (meE P D R x y = z ∧ meV P D R x y = false) := Lib.hid (me_bad hz hz0)
    rw [HD.out.1, HD.out.2]
    have ht : (z != 0) = true := by simpa using hz0
    go_enter Try.func24, Try.ntmps24
    go_wp2_with fail
    refine (sheetOf_any A B V _ n c k d q e0 1 1 P D R [x] _ h0.out x0.out hn hk hq (by omega)).mono ?_
    rw [shE_one, HZ.out]
    rintro e w1 ⟨⟨s1, s2, s3, rfl, hs, hs'⟩, b1⟩
    obtain ⟨rfl, rfl, rfl⟩ := hs' hz0
    have C2 := Lib.hid ((below_trans' C0.out b1).alloc (below_trans' C0.out b1).size (.cells #[.slice none 0 0, .slice none 0 0, .slice none 0 0] 84))
    clear b1 p0 p1 p2 hz hs hs' hz0
    go_wp2
    go_ret2
    exact ⟨rfl, C2.out⟩
  subst hz0
  obtain ⟨hp, K, rfl, hK⟩ := pk_zero H.out.r.len hz
  obtain ⟨hT, n2, n24, hkn, q1, q10, hrig, hr⟩ := plan_facts H.out hp
  subst hkn
  have HT := Lib.hid hT
  have HL := Lib.hid H.out.b.ps.len
  have HG := Lib.hid hrig
  have HR := Lib.hid hr
  have HQ := Lib.hid H.out.r.len
  have HP := Lib.hid hp
  have HQS := Lib.hid hq
  clear hT hr hrig hp hz
  go_enter Try.func24, Try.ntmps24
  go_wp2_with fail
  refine (sheetOf_any A B V _ k c k d q e0 1 1 P D R [(K : Int)] _ h0.out x0.out hn hk hq (by omega)).mono ?_
  rw [shE_one, HZ.out]
  rintro e w1 ⟨⟨s1, s2, s3, rfl, hs, hs'⟩, b1⟩
  obtain ⟨rfl, rfl, rfl⟩ := hs rfl
  have C1 := Lib.hid (below_trans' C0.out b1)
  have C2 := Lib.hid (C1.out.alloc C1.out.size (.cells #[.slice A k c, .slice B k d, .slice V q e0] 84))
  have K2 := Lib.hid (Cell3.new w1 84 (.slice A k c) (.slice B k d) (.slice V q e0))
  clear hs hs' b1 p0 p1 p2 C0 x0 h0
  obtain ⟨p0, p1, p2⟩ := K2.out.cells
  go_wp2_with fail
  refine (isDoor_any A B V k c k d q e0 P D y _ (H.out.on C2.out).b hk).mono ?_
  obtain ⟨hme, hmv⟩ := me_at (y := y) HP.out HQ.out HL.out hK
  rcases hd : (inB y 0 ((k : Int) - 1) && dor D y.toNat) with _ | _
  · have HM : Hid (meE P D R (K : Int) y = 2 ∧ meV P D R (K : Int) y = false) := Lib.hid ⟨by rw [hme, hd]; rfl, by rw [hmv, hd]; rfl⟩
    rintro e w3 ⟨rfl, b3⟩
    have C3 := Lib.hid (below_trans' C2.out b3)
    clear b3 hd hme hmv p0 p1 p2
    go_wp2
    go_ret2
    exact ⟨by rw [HM.out.1, HM.out.2]; rfl, C3.out⟩
  · have HM : Hid (meE P D R (K : Int) y = 0 ∧ meV P D R (K : Int) y = anyU P (R.getD K []) y.toNat) := Lib.hid ⟨by rw [hme, hd]; rfl, by rw [hmv, hd]; rfl⟩
    have hy := (Bool.and_eq_true _ _ ▸ hd).1
    rw [inB_true] at hy
    obtain ⟨Y, rfl⟩ := Int.eq_ofNat_of_zero_le hy.1
    have hY : Y < k := by omega
    rintro e w3 ⟨rfl, b3⟩
    have C3 := Lib.hid (below_trans' C2.out b3)
    have K3 := Lib.hid (K2.out.on b3)
    obtain ⟨q0, q1', q2⟩ := K3.out.cells
    clear b3 hd hme hmv hy p0 p1 p2
    go_wp2_with fail
    obtain ⟨ys, hys⟩ : ∃ ys, ys = R.getD K [] := ⟨_, rfl⟩
    have HYS := Lib.hid hys
    refine (reach_any A B V k c k d q e0 K P D R _ (H.out.on C3.out) HT.out (by omega) n24 hK HQS.out (HR.out K hK)).mono ?_
    rw [← hys]
    clear hys
    rintro e w4 ⟨rfl, b4⟩
    have C4 := Lib.hid (below_trans' C3.out b4)
    have hx : ∀ w', (Instr.index 89 (.agg (set24 (inN k (anyU P ys)))) (.int .i64 (Y : Int))).run Try.prog w' = .ok (.bool (anyU P ys Y)) w' := fun w' => (run_index24 w' _ Y (by omega)).trans (by unfold inN; simp [hY])
    clear b4 q0 q1' q2
    go_wp2
    go_ret2
    exact ⟨by rw [HM.out.1, HM.out.2, ← HYS.out]; rfl, C4.out⟩

end Go.Proofs.Ytnadcjclihflcaa
