/- FnOpeners: the openers of a lock are keys that open it, no more than its combinations. -/
import Derived.Test.YtbfnffecmglgfaaDrawO
import Derived.Test.YtbfnffecmglgfaaOpOf
import Derived.Test.YtbfnffecmglgfaaSOpOf
import Derived.Lib.MinMax
namespace Go.Proofs.Ytbfnffecmglgfaa
open Go Go.RowKit

def tailP (L : Nat → Nat) (a : Nat) : Nat → Nat
  | 0 => 1
  | k + 1 => L a * tailP L (a + 1) k
theorem tailP_end (L : Nat → Nat) : ∀ (k a : Nat), tailP L a (k + 1) = tailP L a k * L (a + k)
  | 0, a => by simp [tailP]
  | k + 1, a => by
    have ih := tailP_end L k (a + 1)
    rw [show a + 1 + k = a + (k + 1) by omega] at ih
    show L a * tailP L (a + 1) (k + 1) = L a * tailP L (a + 1) k * L (a + (k + 1))
    rw [ih, Nat.mul_assoc]
theorem comb_tail (yss : List (List Int)) : ∀ k, combAt yss k = tailP (fun i => (yss.getD i []).length) 0 k
  | 0 => rfl
  | k + 1 => by
    rw [tailP_end, Nat.zero_add, ← comb_tail yss k]; rfl
theorem sum_len {p : Nat → Bool} {f : Nat → List (List Int)} {B : Nat} (h : ∀ d, (f d).length ≤ B) : ∀ l : List Nat, (l.flatMap (fun d => if p d then f d else [])).length ≤ (l.filter p).length * B
  | [] => by simp
  | d :: l => by
    have ih := sum_len (p := p) h l
    have hd := h d
    rw [List.flatMap_cons, List.length_append, List.filter_cons]
    rcases hp : p d with _ | _
    · rw [if_neg Bool.false_ne_true, if_neg Bool.false_ne_true]; simpa using ih
    · rw [if_pos rfl, if_pos rfl, List.length_cons, Nat.add_mul, Nat.one_mul]; omega
theorem op_len {m : Mk} {p : Nat → Nat → Bool} {L : Nat → Nat} (hL : ∀ i, ((List.range m.D.toNat).filter (p i)).length ≤ L i) : ∀ (k : Nat) (xs : List Int), (opFrom m p k xs).length ≤ tailP L xs.length k
  | 0, xs => by
    unfold opFrom
    split <;> simp [tailP]
  | k + 1, xs => by
    unfold opFrom
    split
    · refine Nat.le_trans (sum_len (p := p xs.length) (f := fun d => opFrom m p k (xs ++ [(d : Int)])) (B := tailP L (xs.length + 1) k) (fun d => ?_) _) ?_
      · have := op_len hL k (xs ++ [(d : Int)])
        rwa [List.length_append] at this
      · exact Nat.mul_le_mul_right _ (hL _)
    · exact Nat.zero_le _
theorem setP_here {yss : List (List Int)} {i : Nat} {ys : List Int} (h : yss[i]? = some ys) : setP yss i = fun (d : Nat) => ys.any (fun v => decide (v = (d : Int))) := by
  funext d
  unfold setP
  rw [List.getD_eq_getElem?_getD, h]; rfl
theorem op_comb {m : Mk} {yss : List (List Int)} (h : lockB m yss = true) : coV m yss ≤ ccV m yss := by
  obtain ⟨hm, hl, hs⟩ := lockB_facts h
  obtain ⟨m1, m2, m3, m4, _⟩ := Mk.ok_true hm
  rw [(co_yes h).1]
  have e : ccV m yss = combAt yss yss.length := (lk_yes h rfl).2.1
  rw [e, comb_tail]
  have hC : m.C.toNat = yss.length := by omega
  have := op_len (m := m) (p := setP yss) (L := fun i => (yss.getD i []).length) (fun i => ?_) m.C.toNat []
  · unfold opAll
    rw [← hC]
    exact Int.ofNat_le.mpr this
  · rcases Nat.lt_or_ge i yss.length with hi | hi
    · have hy : yss[i]? = some (yss[i]'hi) := List.getElem?_eq_getElem _
      have hset := rise_set (by omega : (0 : Int) ≤ m.D) (hs _ _ hy).2
      rw [← setP_here hy] at hset
      rw [List.getD_eq_getElem?_getD, hy]
      show _ ≤ (yss[i]'hi).length
      rw [← hset]
      unfold setOf
      rw [List.length_map]
      exact Nat.le_refl _
    · have : (List.range m.D.toNat).filter (setP yss i) = [] := filter_none (fun d _ => by
        unfold setP
        rw [List.getD_eq_getElem?_getD, List.getElem?_eq_none hi]; rfl)
      rw [this]
      exact Nat.zero_le _
/-- what the law asks of the openers -/
theorem op_law {m : Mk} {yss : List (List Int)} {most : Int} (h : ooE m yss most = 0) : coV m yss ≤ ccV m yss ∧ min most (coV m yss) = ((ooL m yss most).length : Int) ∧ ∀ (j : Nat) (xs : List Int), (ooL m yss most)[j]? = some xs → opensE m yss xs = 0 ∧ opensV m yss xs = true := by
  have hh : lockB m yss = true ∧ inB most 0 300 = true := by
    unfold ooE at h
    rcases hL : lockB m yss with _ | _ <;> rcases hT : inB most 0 300 with _ | _ <;> simp_all
  obtain ⟨hL, hT⟩ := hh
  obtain ⟨hm, _⟩ := lockB_facts hL
  have h0 := (inB_true.1 hT).1
  refine ⟨op_comb hL, ?_, fun j xs hx => ?_⟩
  · rw [(oo_yes hL hT).2, (co_yes hL).1, List.length_take]; omega
  · rw [(oo_yes hL hT).2] at hx
    obtain ⟨h1, h2⟩ := op_mem (List.take_subset _ _ (List.mem_of_getElem? hx))
    have hK := all_are_keys hm h1
    simp [opensE, opensV, hL, hK, h2]

structure QArg (w W : World) (m : Mk) (V : Option Addr) (n c : Nat) : Prop where
  x : Boxed W w.heap.size 25 m
  k : Cell1 W (w.heap.size + 1) 30 (.slice V n c)
  c : Below w.heap.size w W
theorem QArg.new (w : World) (m : Mk) (V : Option Addr) (n c : Nat) : QArg w ((w.alloc (.cells #[.int .i64 m.C, .int .i64 m.D, .int .i64 m.S, .int .i64 m.M, .int .i64 m.L] 25)).alloc (.cells #[.slice V n c] 30)) m V n c := by
  refine ⟨(Boxed.new w _ m).alloc _, ?_, ((Below.refl w.heap.size w).alloc (Nat.le_refl _) _).alloc (by simp) _⟩
  have := Cell1.new (w.alloc (.cells #[.int .i64 m.C, .int .i64 m.D, .int .i64 m.S, .int .i64 m.M, .int .i64 m.L] 25)) 30 (.slice V n c)
  rwa [World.size_alloc] at this
theorem QArg.on {w W W' : World} {m : Mk} {V : Option Addr} {n c : Nat} (h : QArg w W m V n c) (b : Below W.heap.size W W') : QArg w W' m V n c := ⟨h.x.on b, h.k.on b, below_trans' h.c b⟩
theorem QArg.cells {w W : World} {m : Mk} {V : Option Addr} {n c : Nat} (h : QArg w W m V n c) : W.cell? ⟨w.heap.size, 0, none⟩ = some (.int .i64 m.C) ∧ W.cell? ⟨w.heap.size, 1, none⟩ = some (.int .i64 m.D) ∧ W.cell? ⟨w.heap.size, 2, none⟩ = some (.int .i64 m.S) ∧ W.cell? ⟨w.heap.size, 3, none⟩ = some (.int .i64 m.M) ∧ W.cell? ⟨w.heap.size, 4, none⟩ = some (.int .i64 m.L) ∧ W.cell? ⟨w.heap.size + 1, 0, none⟩ = some (.slice V n c) := by
  obtain ⟨q0, q1, q2, q3, q4⟩ := h.x.cells
  exact ⟨q0, q1, q2, q3, q4, h.k.cell⟩

theorem sum_le {b : Nat} : ∀ (xss : List (List Int)), (∀ x ∈ xss, x.length ≤ b) → sizeL xss ≤ xss.length * b := by
  intro xss h
  have : ∀ k, k ≤ xss.length → sizeAt xss k ≤ k * b := by
    intro k
    induction k with
    | zero => intro _; exact Nat.zero_le _
    | succ k ih =>
      intro hk
      have h1 := ih (by omega)
      have hx : xss[k]? = some xss[k] := List.getElem?_eq_getElem (by omega)
      rw [sizeAt_step hx, Nat.add_mul, Nat.one_mul]
      have := h _ (List.getElem_mem (by omega : k < xss.length))
      omega
  exact this _ (Nat.le_refl _)
theorem oo_small (m : Mk) (yss : List (List Int)) (most : Int) : (ooL m yss most).length + sizeL (ooL m yss most) ≤ 1048576 := by
  rcases hL : lockB m yss with _ | _
  · rw [(oo_no hL).2]; simp [sizeL, sizeAt]
  rcases hin : inB most 0 300 with _ | _
  · rw [(oo_out hL hin).2]; simp [sizeL, sizeAt]
  rw [(oo_yes hL hin).2]
  obtain ⟨i0, i1⟩ := inB_true.1 hin
  obtain ⟨hm, _⟩ := lockB_facts hL
  obtain ⟨m1, m2, _⟩ := Mk.ok_true hm
  have h1 : ∀ x ∈ (opAll m (setP yss)).take most.toNat, x.length ≤ 6 := by
    intro x hx
    have hx2 := List.mem_of_mem_take hx
    rw [op_all] at hx2
    have := key_len (List.mem_filter.1 hx2).1 hm
    omega
  have h2 := sum_le _ h1
  have h3 : ((opAll m (setP yss)).take most.toNat).length ≤ 300 := by rw [List.length_take]; omega
  omega
/-- what the law carries -/
structure QL (w w1 W : World) (m : Mk) (V : Option Addr) (k c : Nat) (zss : List (List Int)) (A1 A2 : Option Addr) (no : Nat) (ol : List (List Int)) : Prop where
  K : QArg w1 W m V k c
  S : Sets W W.heap.size V k zss
  P1 : Sets W W.heap.size A1 no ol
  P2 : Sets W W.heap.size A2 no ol
  C : Below w.heap.size w W
theorem QL.on {w w1 W W' : World} {m : Mk} {V : Option Addr} {k c : Nat} {zss : List (List Int)} {A1 A2 : Option Addr} {no : Nat} {ol : List (List Int)} (h : QL w w1 W m V k c zss A1 A2 no ol) (b : Below W.heap.size W W') : QL w w1 W' m V k c zss A1 A2 no ol :=
  ⟨h.K.on b, h.S.on b, h.P1.on b, h.P2.on b, below_trans' h.C b⟩
theorem QL.cells {w w1 W : World} {m : Mk} {V : Option Addr} {k c : Nat} {zss : List (List Int)} {A1 A2 : Option Addr} {no : Nat} {ol : List (List Int)} (h : QL w w1 W m V k c zss A1 A2 no ol) : W.cell? ⟨w1.heap.size, 0, none⟩ = some (.int .i64 m.C) ∧ W.cell? ⟨w1.heap.size, 1, none⟩ = some (.int .i64 m.D) ∧ W.cell? ⟨w1.heap.size, 2, none⟩ = some (.int .i64 m.S) ∧ W.cell? ⟨w1.heap.size, 3, none⟩ = some (.int .i64 m.M) ∧ W.cell? ⟨w1.heap.size, 4, none⟩ = some (.int .i64 m.L) ∧ W.cell? ⟨w1.heap.size + 1, 0, none⟩ = some (.slice V k c) := h.K.cells

set_option maxRecDepth 100000 in
set_option maxHeartbeats 8000000 in
theorem fnOpeners_any (A : Option Addr) (n c : Nat) (w : World) (h : Bts w w.heap.size A n) :
    Calls Try.prog 4 #[.slice A n c] w fun e w' => e = .returned (.bool true) ∧ Below w.heap.size w w' := by
  by_cases hn : n ≤ 4096
  rotate_left
  · have d0 : decide (4096 < (n : Int)) = true := by simp; omega
    go_enter Try.func4, Try.ntmps4
    go_wp2_with fail
    refine (big_any _ _ _ _).mono ?_
    rintro e w' ⟨rfl, rfl⟩
    rw [d0]
    go_wp2
    go_ret
    exact ⟨rfl, Below.refl _ _⟩
  have d0 : decide (4096 < (n : Int)) = false := by simp; omega
  have HB := Lib.hid h
  clear h
  go_enter Try.func4, Try.ntmps4
  go_wp2_with fail
  refine (big_any _ _ _ _).mono ?_
  rintro e w' ⟨rfl, rfl⟩
  rw [d0]
  clear d0
  go_wp2_with fail
  refine (drawOpenersOf_any w.heap.size A n c w HB.out (Nat.le_refl _) hn).mono ?_
  rintro e w1 ⟨m, V, k, c', zss, mo, rfl, hSm, hF, hFew, hkc, hcm, b1⟩
  have HS := Lib.hid hF.sets
  have HN := Lib.hid (few_sizeD hFew hF.sets.len)
  have HB1 := Lib.hid b1
  have K1 := Lib.hid (QArg.new w1 m V k c')
  have HSZ := Lib.hid (oo_small (m := m) (yss := zss) (most := mo))
  clear hF hFew hSm b1
  obtain ⟨oe, hoe⟩ : ∃ oe, ooE m zss mo = oe := ⟨_, rfl⟩
  obtain ⟨ol, hol⟩ : ∃ ol, ooL m zss mo = ol := ⟨_, rfl⟩
  obtain ⟨nv, hnv⟩ : ∃ nv, coV m zss = nv := ⟨_, rfl⟩
  obtain ⟨cv, hcv⟩ : ∃ cv, ccV m zss = cv := ⟨_, rfl⟩
  obtain ⟨ne, hne⟩ : ∃ ne, lkE m zss = ne := ⟨_, rfl⟩
  have HOE := Lib.hid hoe
  have HOL := Lib.hid hol
  have HNV := Lib.hid hnv
  have HCV := Lib.hid hcv
  have HNE := Lib.hid hne
  have HLAW : Hid (oe = 0 → nv ≤ cv ∧ min mo nv = (ol.length : Int) ∧ ∀ (j : Nat) (xs : List Int), ol[j]? = some xs → opensE m zss xs = 0 ∧ opensV m zss xs = true) := Lib.hid (fun e => by rw [← hnv, ← hcv, ← hol]; exact op_law (hoe.trans e))
  have HSZ : Hid (ol.length + sizeL ol ≤ 1048576) := Lib.hid (by rw [← hol]; exact HSZ.out)
  have e1 : (oe != oe) = false := by simp
  have e2 : (nv != nv) = false := by simp
  have e3 : (cv != cv) = false := by simp
  have e4 : (ne != ne) = false := by simp
  clear hoe hol hnv hcv hne
  obtain ⟨q0, q1, q2, q3, q4, ck⟩ := K1.out.cells
  go_wp2_with fail
  refine (openersOf_any m _ _ _ zss mo _ (HS.out.on K1.out.c) HN.out).mono ?_
  rw [HOE.out, HOL.out]
  rintro e w2 ⟨A1, no, c1, gs1, rfl, hrag, hnc1, hcm1, b2⟩
  have I1 := Lib.hid hrag.sets
  have K2 := Lib.hid (K1.out.on b2)
  clear q0 q1 q2 q3 q4 ck K1 b2 hrag
  obtain ⟨q0, q1, q2, q3, q4, ck⟩ := K2.out.cells
  go_wp2_with fail
  refine (specOpenersOf_any m _ _ _ zss mo _ (HS.out.on K2.out.c) HN.out).mono ?_
  rw [HOE.out, HOL.out]
  rintro e w3 ⟨A2, n2, c2, rfl, hs2, hnc2, hcm2, b3⟩
  have K3 := K2.out.on b3
  obtain rfl : no = n2 := by have h1 := I1.out.len; have h2 := hs2.len; omega
  have L3 : Hid (QL w w1 w3 m V k c' zss A1 A2 no ol) := Lib.hid ⟨K3, HS.out.on K3.c, I1.out.on b3, hs2, below_trans' HB1.out K3.c⟩
  clear q0 q1 q2 q3 q4 ck K2 K3 b3 hs2 I1 HS HB1
  obtain ⟨q0, q1, q2, q3, q4, ck⟩ := L3.out.cells
  go_wp2_with fail
  refine (countOpeners_any m _ _ _ zss _ L3.out.S HN.out).mono ?_
  rw [HNV.out, HNE.out]
  rintro e w4 ⟨rfl, b4⟩
  have L4 := Lib.hid (L3.out.on b4)
  clear q0 q1 q2 q3 q4 ck L3 b4
  obtain ⟨q0, q1, q2, q3, q4, ck⟩ := L4.out.cells
  go_wp2_with fail
  refine (specCountOpeners_any m _ _ _ zss _ L4.out.S HN.out).mono ?_
  rw [HNV.out, HNE.out]
  rintro e w5 ⟨rfl, b5⟩
  have L5 := Lib.hid (L4.out.on b5)
  clear q0 q1 q2 q3 q4 ck L4 b5
  obtain ⟨q0, q1, q2, q3, q4, ck⟩ := L5.out.cells
  go_wp2_with fail
  refine (countComb_any m _ _ _ zss _ L5.out.S HN.out).mono ?_
  rw [HCV.out, HNE.out]
  rintro e w6 ⟨rfl, b6⟩
  have L6 := Lib.hid (L5.out.on b6)
  clear q0 q1 q2 q3 q4 ck L5 b6
  obtain ⟨q0, q1, q2, q3, q4, ck⟩ := L6.out.cells
  go_wp2_with fail
  refine (specCountComb_any m _ _ _ zss _ L6.out.S HN.out).mono ?_
  rw [HCV.out, HNE.out]
  rintro e w7 ⟨rfl, b7⟩
  have L7 := Lib.hid (L6.out.on b7)
  clear q0 q1 q2 q3 q4 ck L6 b7
  go_wp2_with fail
  refine (drawOpens_any w.heap.size A n c _ (HB.out.keep (fun p hp => Below.cell L7.out.C hp)) L7.out.C.size hn).mono ?_
  rintro e w8 ⟨m2, V2, k2, c2', yss, A4, q, d, xs, rfl, hSm2, hF2, hFew2, hkc2, hcm2', hI, hq, hqd, hdm, b8⟩
  have HS2 := Lib.hid hF2.sets
  have HI2 := Lib.hid hI.ints
  have HN2 := Lib.hid (few_sizeD hFew2 hF2.sets.len)
  have KA := Lib.hid (QArg.new w8 m2 V2 k2 c2')
  have L8 := Lib.hid ((L7.out.on b8).on KA.out.c)
  obtain ⟨pv, hpv⟩ : ∃ pv, opensV m2 yss xs = pv := ⟨_, rfl⟩
  obtain ⟨pe, hpe⟩ : ∃ pe, opensE m2 yss xs = pe := ⟨_, rfl⟩
  have HPV := Lib.hid hpv
  have HPE := Lib.hid hpe
  have e5 : (pe != pe) = false := by simp
  have e6 : (pv != pv) = false := by simp
  clear hpv hpe L7 b8 hF2 hFew2 hSm2 hI HB
  obtain ⟨q0, q1, q2, q3, q4, ck⟩ := KA.out.cells
  go_wp2_with fail
  refine (opens_any m2 _ _ _ yss _ _ _ xs _ (HS2.out.on KA.out.c) HN2.out (HI2.out.on KA.out.c) hq).mono ?_
  rw [HPV.out, HPE.out]
  rintro e w9 ⟨rfl, b9⟩
  have KB := Lib.hid (KA.out.on b9)
  have L9 := Lib.hid (L8.out.on b9)
  clear q0 q1 q2 q3 q4 ck KA L8 b9
  obtain ⟨q0, q1, q2, q3, q4, ck⟩ := KB.out.cells
  go_wp2_with fail
  refine (specOpens_any m2 _ _ _ yss _ _ _ xs _ (HS2.out.on KB.out.c) HN2.out (HI2.out.on KB.out.c) hq hqd hdm).mono ?_
  rw [HPV.out, HPE.out]
  rintro e wa ⟨rfl, ba⟩
  have La := Lib.hid (L9.out.on ba)
  clear q0 q1 q2 q3 q4 ck KB L9 ba
  have hsz2 : no + sizeL ol ≤ 1048576 := by have := HSZ.out; rw [La.out.P1.len] at this; exact this
  go_wp2_with fail
  refine (likeSets_true _ _ _ _ _ _ _ La.out.P1 La.out.P2 hsz2).mono ?_
  rintro e wb ⟨rfl, qb, rfl⟩
  have Lb' := La.out.on (below_drewN (Below.refl wa.heap.size wa) qb)
  obtain ⟨wb, hwb⟩ : ∃ wb, wb = wa.drewN qb := ⟨_, rfl⟩
  rw [← hwb] at Lb' ⊢
  have Lb := Lib.hid Lb'
  clear Lb' hwb La
  by_cases hf0 : oe = 0
  rotate_left
  · have dn2 : (oe != 0) = true := by simpa using hf0
    have C := Lb.out.C
    clear hf0 HLAW
    go_wp2
    go_ret
    exact ⟨rfl, C⟩
  obtain ⟨h1, h2, h3⟩ := HLAW.out hf0
  subst hf0
  have dle : decide (nv ≤ cv) = true := by simpa using h1
  have hlo : ol.length = no := Lb.out.P1.len
  rw [hlo] at h2
  have HALL := Lib.hid h3
  have hno : no ≤ 1048576 := by omega
  have hmin := h2
  clear HLAW h1 h2 h3 e1 e2 e3 e4 e5 e6
  go_wp2
  go_loopw [25] (fun i wr => ∃ j : Nat, j ≤ no ∧ i = .int .i64 j ∧ Hid (QL w w1 wr m V k c' zss A1 A2 no ol)) (fun i _ => no - (intOf i).toNat)
  case atStart => exact ⟨0, Nat.zero_le _, rfl, Lb⟩
  case round =>
    obtain ⟨j, hj, rfl, HL⟩ := hrel
    clear Lb
    by_cases hlt : j < no
    · obtain ⟨ad, zs, Aj, qj, cj, rfl, hab, hz, hc, hin, hqc, hqm⟩ := HL.out.P1.at_ hlt
      obtain ⟨ho1, ho2⟩ := HALL.out j zs hz
      have HO1 := Lib.hid ho1
      have HO2 := Lib.hid ho2
      have hq2 : qj ≤ 1048576 := by have := fits_at hsz2 hz; have := hin.len; omega
      have HIN := Lib.hid hin
      have i0 : (0 : Int) ≤ (j : Int) := by omega
      have i1 : (j : Int) < (no : Int) := by omega
      have bD : Below wr.heap.size wr wr.drew := below_drewN (Below.refl wr.heap.size wr) 1
      have HD := Lib.hid (HL.out.on bD)
      have hcD : wr.drew.cell? (ad.add j) = some (.slice Aj qj cj) := hc
      have C5 := and7 HD.out.cells hcD
      obtain ⟨q0, q1, q2, q3, q4, ck⟩ := HL.out.cells
      clear hz hin ho1 ho2
      go_wp2
      go_region_held3 (fun w' => w'.cell? ⟨w1.heap.size, 0, none⟩ = some (.int .i64 m.C) ∧ w'.cell? ⟨w1.heap.size, 1, none⟩ = some (.int .i64 m.D) ∧ w'.cell? ⟨w1.heap.size, 2, none⟩ = some (.int .i64 m.S) ∧ w'.cell? ⟨w1.heap.size, 3, none⟩ = some (.int .i64 m.M) ∧ w'.cell? ⟨w1.heap.size, 4, none⟩ = some (.int .i64 m.L) ∧ w'.cell? ⟨w1.heap.size + 1, 0, none⟩ = some (.slice V k c') ∧ w'.cell? (ad.add j) = some (.slice Aj qj cj))
        (first
          | go_keep
          | with_reducible exact C5
          | with_reducible exact C7)
        (first
          | (go_at_call 26; refine (opens_any m _ _ _ zss _ _ _ zs _ HD.out.S HN.out (HIN.out.on bD) hq2).mono ?_; rw [HO1.out, HO2.out]; rintro e w7 ⟨rfl, b7⟩; have K7 := Lib.hid (HD.out.on b7); have hc7 : w7.cell? (ad.add j) = some (.slice Aj qj cj) := ((b7.cell (p := ad.add j) (by rw [block_of_add]; exact hab)).trans hcD); have C7 := and7 K7.out.cells hc7))
      clear q0 q1 q2 q3 q4 ck C5 C7 hc7 hcD hc HD HIN HO1 HO2 bD b7 HL
      go_wp2
      go_roundw
      case rel => exact ⟨j + 1, by omega, by go_num, K7⟩
      case measure => simp [intOf]; omega
    · obtain rfl : j = no := by omega
      have C := HL.out.C
      clear HL
      go_wp2
      go_ret
      exact ⟨rfl, C⟩

end Go.Proofs.Ytbfnffecmglgfaa
