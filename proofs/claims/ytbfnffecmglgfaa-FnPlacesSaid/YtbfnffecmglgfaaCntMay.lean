/- CountMayOpen of the program and of the model. -/
import Derived.Test.YtbfnffecmglgfaaWornP
import Derived.Test.YtbfnffecmglgfaaSWorn
import Derived.Test.YtbfnffecmglgfaaSCntOp
import Derived.Test.YtbfnffecmglgfaaWearL
namespace Go.Proofs.Ytbfnffecmglgfaa
open Go Go.RowKit

theorem sizeAt_boundW {yss : List (List Int)} {b : Nat} (h : ∀ i, (yss.getD i []).length ≤ b) : ∀ k, sizeAt yss k ≤ k * b
  | 0 => Nat.zero_le _
  | k + 1 => by
    have h1 := sizeAt_boundW h k
    have h2 := h k
    show sizeAt yss k + _ ≤ (k + 1) * b
    rw [Nat.add_mul, Nat.one_mul]
    omega
theorem lockOf_sizeW {C D : Nat} {p : Nat → Nat → Bool} (hC : C ≤ 6) (hD : D ≤ 8) : (lockOf C D p).length + sizeL (lockOf C D p) ≤ 1048576 := by
  have h1 : ∀ i, ((lockOf C D p).getD i []).length ≤ 8 := by
    intro i
    rcases Nat.lt_or_ge i C with h | h
    · rw [getD_list (lockOf_at h)]
      have := setOf_len D (p i)
      omega
    · rw [List.getD_eq_getElem?_getD, List.getElem?_eq_none (by rw [lockOf_len]; exact h)]
      exact Nat.zero_le _
  have h2 := sizeAt_boundW h1 (lockOf C D p).length
  unfold sizeL
  rw [lockOf_len] at *
  omega
theorem cm_not {m : Mk} {yss : List (List Int)} {wr t : Int} (h : wlkE m yss wr t ≠ 0) : cmV m yss wr t = 0 := by
  unfold cmV
  rcases hL : lockB m yss with _ | _
  · rfl
  · rcases hF : isFit wr t with _ | _
    · rfl
    · unfold wlkE at h
      rw [hL, hF] at h
      simp at h
theorem cm_yes {m : Mk} {yss : List (List Int)} {wr t : Int} (hL : lockB m yss = true) (hF : isFit wr t = true) : cmV m yss wr t = ((opAll m (mayP (setP yss) t (plc wr))).length : Int) ∧ wlkL m yss wr t = wornL m yss t (plc wr) ∧ lockB m (wornL m yss t (plc wr)) = true ∧ coV m (wornL m yss t (plc wr)) = cmV m yss wr t ∧ lkE m (wornL m yss t (plc wr)) = 0 ∧ (wornL m yss t (plc wr)).length + sizeL (wornL m yss t (plc wr)) ≤ 1048576 := by
  have e1 : cmV m yss wr t = ((opAll m (mayP (setP yss) t (plc wr))).length : Int) := by simp [cmV, hL, hF]
  obtain ⟨r0, r1, t0, t1⟩ := fit_facts hF
  have hk : 0 < plc wr := by unfold plc; omega
  have hW := worn_lock hL t0 hk
  obtain ⟨h1, h2⟩ := co_yes hW
  obtain ⟨hm, _⟩ := lockB_facts hL
  obtain ⟨m1, m2, m3, m4, _⟩ := Mk.ok_true hm
  refine ⟨e1, by simp [wlkL, hL, hF], hW, ?_, h2, lockOf_sizeW (by omega) (by omega)⟩
  rw [h1, op_worn, e1]

set_option maxRecDepth 100000 in
set_option maxHeartbeats 4000000 in
theorem countMayOpen_any (m : Mk) (V : Option Addr) (n c : Nat) (yss : List (List Int)) (wr t : Int) (w : World) (h : Sets w w.heap.size V n yss) (hn : n + sizeL yss ≤ 1048576) :
    Calls Try.prog 62 #[.agg #[.int .i64 m.C, .int .i64 m.D, .int .i64 m.S, .int .i64 m.M, .int .i64 m.L], .agg #[.slice V n c], .int .i64 wr, .int .i64 t] w fun e w' => e = .returned (.tuple #[.int .i64 (cmV m yss wr t), .int .i64 (wlkE m yss wr t)]) ∧ Below w.heap.size w w' := by
  have K0 := Lib.hid (IArg.new w m V n c)
  have HS := Lib.hid h
  have HN := Lib.hid hn
  clear h hn
  obtain ⟨q0, q1, q2, q3, q4, ck⟩ := K0.out.cells
  by_cases hz : wlkE m yss wr t = 0
  · obtain ⟨hL, hF⟩ := wlkE_facts hz
    have HC := Lib.hid (cm_yes hL hF)
    obtain ⟨W, hW⟩ : ∃ W, wornL m yss t (plc wr) = W := ⟨_, rfl⟩
    rw [hW] at HC
    have HZ := Lib.hid hz
    have HV : Hid (wlkL m yss wr t = W) := Lib.hid HC.out.2.1
    clear hz hL hF hW
    rw [HZ.out]
    go_enter Try.func62, Try.ntmps62
    go_wp2_with fail
    refine (wornLock_any m _ _ _ yss wr t _ (HS.out.on K0.out.c) HN.out).mono ?_
    rw [HZ.out, HV.out]
    rintro e w1 ⟨V1, n1, c1, gs1, rfl, hrag, hc1, hcm1, b1⟩
    have K1 := Lib.hid ((K0.out.on b1).on ((Below.refl w1.heap.size w1).alloc (Nat.le_refl _) (.cells #[.slice V1 n1 c1] 30)))
    have S1 := Lib.hid (hrag.sets.alloc (.cells #[.slice V1 n1 c1] 30))
    have X1 := Cell1.new w1 30 (.slice V1 n1 c1)
    have hl1 : n1 + sizeL W ≤ 1048576 := by have := HC.out.2.2.2.2.2; rw [hrag.sets.len] at this; exact this
    clear q0 q1 q2 q3 q4 ck b1 hrag K0
    obtain ⟨q0, q1, q2, q3, q4, _⟩ := K1.out.cells
    have ck := X1.cell
    go_wp2_with fail
    refine (countOpeners_any m _ _ _ W _ S1.out hl1).mono ?_
    rw [HC.out.2.2.2.1, HC.out.2.2.2.2.1]
    rintro e w2 ⟨rfl, b2⟩
    have c2 := (K1.out.on b2).c
    clear q0 q1 q2 q3 q4 ck X1
    go_wp2
    go_ret2
    exact ⟨rfl, c2⟩
  · have HV := Lib.hid (cm_not hz)
    rw [HV.out]
    have htest : (wlkE m yss wr t != 0) = true := by simpa using hz
    obtain ⟨z, hz2⟩ : ∃ z, wlkE m yss wr t = z := ⟨_, rfl⟩
    rw [hz2] at htest ⊢
    have HZ2 := Lib.hid hz2
    clear hz hz2 HV
    go_enter Try.func62, Try.ntmps62
    go_wp2_with fail
    refine (wornLock_any m _ _ _ yss wr t _ (HS.out.on K0.out.c) HN.out).mono ?_
    rw [HZ2.out]
    rintro e w1 ⟨V1, n1, c1, gs1, rfl, hrag, hc1, hcm1, b1⟩
    have c2 := Lib.hid ((K0.out.on b1).on ((Below.refl w1.heap.size w1).alloc (Nat.le_refl _) (.cells #[.slice V1 n1 c1] 30))).c
    clear q0 q1 q2 q3 q4 ck b1 hrag
    go_wp2
    go_ret2
    exact ⟨rfl, c2.out⟩

set_option maxRecDepth 100000 in
set_option maxHeartbeats 4000000 in
theorem specCountMayOpen_any (m : Mk) (V : Option Addr) (n c : Nat) (yss : List (List Int)) (wr t : Int) (w : World) (h : Sets w w.heap.size V n yss) (hn : n + sizeL yss ≤ 1048576) :
    Calls Try.prog 63 #[.agg #[.int .i64 m.C, .int .i64 m.D, .int .i64 m.S, .int .i64 m.M, .int .i64 m.L], .agg #[.slice V n c], .int .i64 wr, .int .i64 t] w fun e w' => e = .returned (.tuple #[.int .i64 (cmV m yss wr t), .int .i64 (wlkE m yss wr t)]) ∧ Below w.heap.size w w' := by
  have K0 := Lib.hid (IArg.new w m V n c)
  have HS := Lib.hid h
  have HN := Lib.hid hn
  clear h hn
  obtain ⟨q0, q1, q2, q3, q4, ck⟩ := K0.out.cells
  by_cases hz : wlkE m yss wr t = 0
  · obtain ⟨hL, hF⟩ := wlkE_facts hz
    have HC := Lib.hid (cm_yes hL hF)
    obtain ⟨r0, r1, t0, t1⟩ := fit_facts hF
    obtain ⟨rn, rfl⟩ : ∃ rn : Nat, wr = (rn : Int) := ⟨wr.toNat, by omega⟩
    have hpl : plc (rn : Int) = rn + 1 := by unfold plc; omega
    rw [hpl] at HC
    obtain ⟨hm, _⟩ := lockB_facts hL
    have hop : (opAll m (setP (wornL m yss t (rn + 1)))).length ≤ 262144 := by
      obtain ⟨m1, m2, m3, m4, _⟩ := Mk.ok_true hm
      refine Nat.le_trans (op_count m _) ?_
      have := Nat.le_trans (keys_count m4 m.C.toNat []) (pow8 (by omega))
      unfold allKeys
      omega
    have HTK : Hid ((opAll m (setP (wornL m yss t (rn + 1)))).take (1000000 : Int).toNat = opAll m (setP (wornL m yss t (rn + 1)))) := Lib.hid (List.take_of_length_le (by
      show _ ≤ 1000000
      omega))
    have HO : Hid (((opAll m (setP (wornL m yss t (rn + 1)))).length : Int) = cmV m yss (rn : Int) t) := Lib.hid (by rw [HC.out.1, op_worn])
    have HM := Lib.hid hm
    have HZ := Lib.hid hz
    have HLL := Lib.hid hL
    clear hz hL hF hm hop hpl
    rw [HZ.out, ← HO.out]
    go_enter Try.func63, Try.ntmps63
    go_wp2_with fail
    refine (l08Lock_any m _ _ _ yss _ t _ (HS.out.on K0.out.c) HN.out).mono ?_
    rw [HZ.out]
    rintro e w1 ⟨rfl, b1⟩
    have K1 := Lib.hid (K0.out.on b1)
    clear q0 q1 q2 q3 q4 ck b1 K0
    have CL := K1.out.cells
    obtain ⟨q0, q1, q2, q3, q4, ck⟩ := K1.out.cells
    go_wp2
    go_region_held3 (fun w' => w'.cell? ⟨w.heap.size, 0, none⟩ = some (.int .i64 m.C) ∧ w'.cell? ⟨w.heap.size, 1, none⟩ = some (.int .i64 m.D) ∧ w'.cell? ⟨w.heap.size, 2, none⟩ = some (.int .i64 m.S) ∧ w'.cell? ⟨w.heap.size, 3, none⟩ = some (.int .i64 m.M) ∧ w'.cell? ⟨w.heap.size, 4, none⟩ = some (.int .i64 m.L) ∧ w'.cell? ⟨w.heap.size + 1, 0, none⟩ = some (.slice V n c))
      (first
        | go_keep
        | with_reducible exact K2.out.cells
        | with_reducible exact K3.out.cells)
      (first
        | (go_at_call 130; refine (l08Worn_any m _ _ _ yss rn t _ (HS.out.on (below_drewN K1.out.c 1)) HN.out HLL.out (by omega)).mono ?_; rintro e w2 ⟨V2, n2, c2, rfl, hs2, hc2, hcm2, b2, _⟩; have K2 := Lib.hid (K1.out.on (below_trans' (below_drewN (Below.refl _ _) 1) b2)); have S2 := Lib.hid hs2)
        | (go_at_call 110; refine (openers_all m HM.out _ _ _ _ HC.out.2.2.1 1000000 _ S2.out (by omega) (by omega)).mono ?_; rw [HTK.out]; rintro e w3 ⟨V3, n3, c3, vals, rfl, P, b3⟩; have K3 := Lib.hid (K2.out.on b3); obtain rfl : n3 = (opAll m (setP (wornL m yss t (rn + 1)))).length := P.len.symm))
    all_goals
      have c3 := K3.out.c
      clear q0 q1 q2 q3 q4 ck CL
      go_wp2
      go_ret2
      exact ⟨rfl, c3⟩
  · have HV := Lib.hid (cm_not hz)
    rw [HV.out]
    have htest : (wlkE m yss wr t != 0) = true := by simpa using hz
    obtain ⟨z, hz2⟩ : ∃ z, wlkE m yss wr t = z := ⟨_, rfl⟩
    rw [hz2] at htest ⊢
    have HZ2 := Lib.hid hz2
    clear hz hz2 HV
    go_enter Try.func63, Try.ntmps63
    go_wp2_with fail
    refine (l08Lock_any m _ _ _ yss wr t _ (HS.out.on K0.out.c) HN.out).mono ?_
    rw [HZ2.out]
    rintro e w1 ⟨rfl, b1⟩
    have c2 := (K0.out.on b1).c
    clear q0 q1 q2 q3 q4 ck b1
    go_wp2
    go_ret2
    exact ⟨rfl, c2⟩

end Go.Proofs.Ytbfnffecmglgfaa
