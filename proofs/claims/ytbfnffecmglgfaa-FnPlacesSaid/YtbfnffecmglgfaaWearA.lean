/- The questions about a worn key: the program. -/
import Derived.Test.YtbfnffecmglgfaaWearQ
import Derived.Test.YtbfnffecmglgfaaTwoP
import Derived.Test.YtbfnffecmglgfaaLawKit
import Derived.Deep.RegionHeld3
import Derived.Deep.DeepCutAuto
namespace Go.Proofs.Ytbfnffecmglgfaa
open Go Go.RowKit

/-- what stays true while a worn key is asked -/
structure AskK (w W : World) (m : Mk) (V : Option Addr) (n c : Nat) (wr t : Int) : Prop where
  f : Cell2 W w.heap.size 128 (.int .i64 wr) (.int .i64 t)
  x : Boxed W (w.heap.size + 1) 25 m
  k : Cell1 W (w.heap.size + 1 + 1) 30 (.slice V n c)
  c : Below w.heap.size w W
theorem AskK.on {w W W' : World} {m : Mk} {V : Option Addr} {n c : Nat} {wr t : Int} (h : AskK w W m V n c wr t) (b : Below W.heap.size W W') : AskK w W' m V n c wr t :=
  ⟨h.f.on b, h.x.on b, h.k.on b, below_trans' h.c b⟩
theorem AskK.alloc {w W : World} {m : Mk} {V : Option Addr} {n c : Nat} {wr t : Int} (h : AskK w W m V n c wr t) (o : Obj) : AskK w (W.alloc o) m V n c wr t :=
  h.on ((Below.refl _ W).alloc (Nat.le_refl _) o)
theorem AskK.drew {w W : World} {m : Mk} {V : Option Addr} {n c : Nat} {wr t : Int} (h : AskK w W m V n c wr t) : AskK w W.drew m V n c wr t :=
  h.on (below_drewN (Below.refl _ W) 1)
theorem AskK.put11 {w W : World} {m : Mk} {V : Option Addr} {n c g : Nat} {wr t : Int} (h : AskK w W m V n c wr t) (hg : w.heap.size + 1 + 1 < g) (m' : Mk) (vs : Nat → Nat) : AskK w (put11 W g m' vs) m V n c wr t :=
  have b : Below g W (Go.Proofs.Ytbfnffecmglgfaa.put11 W g m' vs) := below_put11 (Below.refl _ W) (Nat.le_refl _) m' vs
  ⟨h.f.below b (by omega), h.x.below b (by omega), h.k.below b hg, h.c.trans (b.mono (by omega))⟩
theorem AskK.cells {w W : World} {m : Mk} {V : Option Addr} {n c : Nat} {wr t : Int} (h : AskK w W m V n c wr t) : W.cell? ⟨w.heap.size + 1, 0, none⟩ = some (.int .i64 m.C) ∧ W.cell? ⟨w.heap.size + 1, 1, none⟩ = some (.int .i64 m.D) ∧ W.cell? ⟨w.heap.size + 1, 2, none⟩ = some (.int .i64 m.S) ∧ W.cell? ⟨w.heap.size + 1, 3, none⟩ = some (.int .i64 m.M) ∧ W.cell? ⟨w.heap.size + 1, 4, none⟩ = some (.int .i64 m.L) ∧ W.cell? ⟨w.heap.size + 1 + 1, 0, none⟩ = some (.slice V n c) :=
  boxed_and h.x h.k.cell
theorem BitBox.zeroD (W : World) (t : TypeId) : BitBox (W.alloc (.cells #[.int .i64 0, .int .i64 0, .int .i64 0, .int .i64 0, .int .i64 0, .int .u8 0, .int .u8 0, .int .u8 0, .int .u8 0, .int .u8 0, .int .u8 0] t)).drew W.heap.size t ⟨0, 0, 0, 0, 0⟩ (fun _ => 0) := BitBox.zero W t ⟨0, 0, 0, 0, 0⟩ rfl
theorem ret_bcode {a b : Bool} {c d : Int} (h : a = b) (h2 : c = d) : Ending.returned (.tuple #[.bool a, .int .i64 c]) = .returned (.tuple #[.bool b, .int .i64 d]) := by rw [h, h2]
theorem isTolerance_any (t : Int) (w : World) : Calls Try.prog 131 #[.int .i64 t] w fun e w' => e = .returned (.bool (isTol t)) ∧ w = w' := by
  obtain ⟨q, hq⟩ : ∃ q, isTol t = q := ⟨_, rfl⟩
  rw [hq]
  have hm : inB t 0 4 = q := hq
  go_enter Try.func131, Try.ntmps131
  go_wp2_with fail
  refine (isWithin_at _ _ _ _ _ hm).mono ?_
  rintro e w' ⟨rfl, rfl⟩
  go_wp2
  go_ret
  exact ⟨rfl, rfl⟩
theorem isValid_any (wr t : Int) (w : World) : Calls Try.prog 126 #[.agg #[.int .i64 wr, .int .i64 t]] w fun e w' => e = .returned (.bool (isFit wr t)) ∧ Below w.heap.size w w' := by
  have hx := Cell2.new w 128 (.int .i64 wr) (.int .i64 t)
  have c0 := (Below.refl w.heap.size w).alloc (Nat.le_refl _) (.cells #[.int .i64 wr, .int .i64 t] 128)
  obtain ⟨q0, q1⟩ := hx.cells
  unfold isFit
  rcases hm : inB wr 0 19 with _ | _
  · go_enter Try.func126, Try.ntmps126
    go_wp2_with fail
    refine (isWithin_at _ _ _ _ _ hm).mono ?_
    rintro e w' ⟨rfl, rfl⟩
    go_wp2
    go_ret
    exact ⟨rfl, c0⟩
  · obtain ⟨q, hq⟩ : ∃ q, isTol t = q := ⟨_, rfl⟩
    go_enter Try.func126, Try.ntmps126
    go_wp2_with fail
    refine (isWithin_at _ _ _ _ _ hm).mono ?_
    rintro e w' ⟨rfl, rfl⟩
    go_wp2_with fail
    refine (isTolerance_any t _).mono ?_
    rw [hq]
    rintro e w' ⟨rfl, rfl⟩
    go_wp2
    go_ret
    exact ⟨ret_bool (by rw [hq]; rfl), c0⟩
theorem wearQuestions_any (w : World) :
    Calls Try.prog 154 #[] w fun e w' => e = .returned (.agg #[.func (.func 127) #[] #[], .func (.func 163) #[] #[]]) ∧ Below w.heap.size w w' := by
  have c0 := (Below.refl w.heap.size w).alloc (Nat.le_refl _) (.cells #[.func (.func 127) #[] #[], .func (.func 163) #[] #[]] 160)
  go_enter Try.func154, Try.ntmps154
  go_wp2
  refine bodyPost_ret (v := .agg #[.func (.func 127) #[] #[], .func (.func 163) #[] #[]]) (by simp [results, Try.results154, go_sem]) rfl ⟨rfl, ?_⟩
  exact (Below.refl w.heap.size w).alloc (Nat.le_refl _) _

set_option linter.unusedSimpArgs false in
set_option maxRecDepth 100000 in
set_option maxHeartbeats 16000000 in
theorem askMay_any (m : Mk) (V : Option Addr) (n c : Nat) (yss : List (List Int)) (A : Option Addr) (q d : Nat) (xs : List Int) (wr t : Int) (w : World) (h : Sets w w.heap.size V n yss) (hn : n + sizeL yss ≤ 1048576) (hi : Ints w w.heap.size A q xs) (hq : q ≤ 1048576) :
    Calls Try.prog 123 #[.agg #[.int .i64 wr, .int .i64 t], .int .i64 0, .agg #[.int .i64 m.C, .int .i64 m.D, .int .i64 m.S, .int .i64 m.M, .int .i64 m.L], .agg #[.slice V n c], .slice A q d] w fun e w' => e = .returned (.tuple #[.bool (wkV m yss xs wr t (mayP (setP yss) t (plc wr))), .int .i64 (wkE m yss xs wr t)]) ∧ Below w.heap.size w w' := by
  have c0 := Lib.hid ((((Below.refl w.heap.size w).alloc (Nat.le_refl _) (.cells #[.int .i64 wr, .int .i64 t] 128)).alloc (by simp) (.cells #[.int .i64 m.C, .int .i64 m.D, .int .i64 m.S, .int .i64 m.M, .int .i64 m.L] 25)).alloc (by simp; omega) (.cells #[.slice V n c] 30))
  have f0 := Lib.hid (((Cell2.new w 128 (.int .i64 wr) (.int .i64 t)).alloc (.cells #[.int .i64 m.C, .int .i64 m.D, .int .i64 m.S, .int .i64 m.M, .int .i64 m.L] 25)).alloc (.cells #[.slice V n c] 30))
  have x0' := (Boxed.new (w.alloc (.cells #[.int .i64 wr, .int .i64 t] 128)) 25 m).alloc (.cells #[.slice V n c] 30)
  have k0' := Cell1.new ((w.alloc (.cells #[.int .i64 wr, .int .i64 t] 128)).alloc (.cells #[.int .i64 m.C, .int .i64 m.D, .int .i64 m.S, .int .i64 m.M, .int .i64 m.L] 25)) 30 (.slice V n c)
  simp only [World.size_alloc] at x0' k0'
  have x0 := Lib.hid x0'
  have k0 := Lib.hid k0'
  have s0 := Lib.hid (h.on c0.out)
  have j0 := Lib.hid (hi.on c0.out)
  have HN := Lib.hid hn
  have HS := Lib.hid h
  have HI := Lib.hid hi
  clear h hi hn x0' k0'
  obtain ⟨q0, q1, q2, q3, q4⟩ := x0.out.cells
  have ck := k0.out.cell
  rcases hL : lockB m yss with _ | _
  · have HE := Lib.hid (wk_bad (xs := xs) (wr := wr) (t := t) (q := mayP (setP yss) t (plc wr)) hL)
    rw [HE.out.1, HE.out.2]
    go_enter Try.func123, Try.ntmps123
    go_wp2_with fail
    refine (isLock_any m _ _ _ yss _ s0.out HN.out).mono ?_
    rw [hL]
    rintro e w1 ⟨rfl, b1⟩
    have c1 := below_trans' c0.out b1
    go_wp2
    go_ret2
    exact ⟨rfl, c1⟩
  have HLL := Lib.hid hL
  rcases hK : isKeyB m xs with _ | _
  · have HE := Lib.hid (wk_key (wr := wr) (t := t) (q := mayP (setP yss) t (plc wr)) hL hK)
    rw [HE.out.1, HE.out.2]
    go_enter Try.func123, Try.ntmps123
    go_wp2_with fail
    refine (isLock_any m _ _ _ yss _ s0.out HN.out).mono ?_
    rw [HLL.out]
    rintro e w1 ⟨rfl, b1⟩
    have c1 := Lib.hid (below_trans' c0.out b1)
    have x1 := Lib.hid (x0.out.on b1)
    have j1 := Lib.hid (j0.out.on b1)
    clear q0 q1 q2 q3 q4 ck
    obtain ⟨q0, q1, q2, q3, q4⟩ := x1.out.cells
    go_wp2_with fail
    refine (isKey_any m _ _ _ xs _ j1.out hq).mono ?_
    rw [hK]
    rintro e w2 ⟨rfl, b2⟩
    have c2 := below_trans' c1.out b2
    go_wp2
    go_ret2
    exact ⟨rfl, c2⟩
  have HKK := Lib.hid hK
  rcases hF : isFit wr t with _ | _
  · have HE := Lib.hid (wk_fit (q := mayP (setP yss) t (plc wr)) hL hK hF)
    rw [HE.out.1, HE.out.2]
    go_enter Try.func123, Try.ntmps123
    go_wp2_with fail
    refine (isLock_any m _ _ _ yss _ s0.out HN.out).mono ?_
    rw [HLL.out]
    rintro e w1 ⟨rfl, b1⟩
    have c1 := Lib.hid (below_trans' c0.out b1)
    have x1 := Lib.hid (x0.out.on b1)
    have f1 := Lib.hid (f0.out.on b1)
    have j1 := Lib.hid (j0.out.on b1)
    clear q0 q1 q2 q3 q4 ck
    obtain ⟨q0, q1, q2, q3, q4⟩ := x1.out.cells
    go_wp2_with fail
    refine (isKey_any m _ _ _ xs _ j1.out hq).mono ?_
    rw [HKK.out]
    rintro e w2 ⟨rfl, b2⟩
    have c2 := Lib.hid (below_trans' c1.out b2)
    obtain ⟨p0, p1⟩ := (f1.out.on b2).cells
    clear q0 q1 q2 q3 q4 x1 f1 j1 b2
    go_wp2_with fail
    refine (isValid_any wr t _).mono ?_
    rw [hF]
    rintro e w3 ⟨rfl, b3⟩
    have c3 := below_trans' c2.out b3
    go_wp2
    go_ret2
    exact ⟨rfl, c3⟩
  have HFF := Lib.hid hF
  obtain ⟨r0, r1, t0, t1⟩ := fit_facts hF
  obtain ⟨rn, rfl⟩ : ∃ rn : Nat, wr = (rn : Int) := ⟨wr.toNat, by omega⟩
  obtain ⟨tn, rfl⟩ : ∃ tn : Nat, t = (tn : Int) := ⟨t.toNat, by omega⟩
  have hpl : plc (rn : Int) = rn + 1 := by unfold plc; omega
  rw [hpl]
  have HE := Lib.hid (wk_ok (q := mayP (setP yss) (tn : Int) (rn + 1)) hL hK hF)
  rw [HE.out.1, HE.out.2]
  obtain ⟨vs, hvs⟩ : ∃ vs, bitsOf yss = vs := ⟨_, rfl⟩
  have HVL : Hid (∀ i, vs i < 256) := Lib.hid (by rw [← hvs]; exact bitsOf_lt hL)
  have HVP : Hid (∀ i, setP yss i = fun d => (vs i).testBit d) := Lib.hid (by intro i; funext d; rw [← bitsOf_set hL, hvs]; rfl)
  have HVS := Lib.hid hvs
  have HD := Lib.hid (key_seven hK)
  have hq6 : q ≤ 6 := by
    obtain ⟨g1, g2, _⟩ := key_facts hK
    obtain ⟨_, m2, _⟩ := Mk.ok_true g1
    have := j0.out.len
    omega
  clear hL hK hF hvs HE
  go_enter Try.func123, Try.ntmps123
  go_wp2_with fail
  refine (isLock_any m _ _ _ yss _ s0.out HN.out).mono ?_
  rw [HLL.out]
  rintro e w1 ⟨rfl, b1⟩
  have c1 := Lib.hid (below_trans' c0.out b1)
  have x1 := Lib.hid (x0.out.on b1)
  have f1 := Lib.hid (f0.out.on b1)
  have j1 := Lib.hid (j0.out.on b1)
  have s1 := Lib.hid (s0.out.on b1)
  have k1 := Lib.hid (k0.out.on b1)
  clear q0 q1 q2 q3 q4 ck x0 f0 j0 s0 k0 c0 b1
  obtain ⟨q0, q1, q2, q3, q4⟩ := x1.out.cells
  go_wp2_with fail
  refine (isKey_any m _ _ _ xs _ j1.out hq).mono ?_
  rw [HKK.out]
  rintro e w2 ⟨rfl, b2⟩
  have c2 := Lib.hid (below_trans' c1.out b2)
  have x2 := Lib.hid (x1.out.on b2)
  have f2 := Lib.hid (f1.out.on b2)
  have j2 := Lib.hid (j1.out.on b2)
  have s2 := Lib.hid (s1.out.on b2)
  have k2 := Lib.hid (k1.out.on b2)
  obtain ⟨p0, p1⟩ := f2.out.cells
  clear q0 q1 q2 q3 q4 x1 f1 j1 s1 k1 c1 b2
  go_wp2_with fail
  refine (isValid_any _ _ _).mono ?_
  rw [HFF.out]
  rintro e w3 ⟨rfl, b3⟩
  have c3 := Lib.hid (below_trans' c2.out b3)
  have x3 := Lib.hid (x2.out.on b3)
  have f3 := Lib.hid (f2.out.on b3)
  have j3 := Lib.hid (j2.out.on b3)
  have s3 := Lib.hid (s2.out.on b3)
  have k3 := Lib.hid (k2.out.on b3)
  clear p0 p1 x2 f2 j2 s2 k2 c2 b3
  obtain ⟨q0, q1, q2, q3, q4⟩ := x3.out.cells
  have ck := k3.out.cell
  have K3 : Hid (AskK w w3 m V n c (rn : Int) (tn : Int)) := Lib.hid ⟨f3.out, x3.out, k3.out, c3.out⟩
  have z3 : w.heap.size + 1 + 1 < w3.heap.size := k3.out.lt
  clear f3 x3 k3 c3 j3 s3
  have hix : ∀ w, (Instr.index 160 (.agg #[.func (.func 127) #[] #[], .func (.func 163) #[] #[]]) (.int .i64 0)).run Try.prog w = .ok (.func (.func 127) #[] #[]) w := fun _ => by kernel_rfl
  go_upto_region 5 with (fail)
  go_cut [12, 13] (fun y z wx => ∃ g : Nat, y = .func (.func 127) #[] #[] ∧ z = .pointer (some ⟨g, 0, none⟩) ∧ BitBox wx g 106 m vs ∧ AskK w wx m V n c (rn : Int) (tn : Int))
  case first =>
    go_region_held3 (fun w' => w'.cell? ⟨w.heap.size + 1, 0, none⟩ = some (.int .i64 m.C) ∧ w'.cell? ⟨w.heap.size + 1, 1, none⟩ = some (.int .i64 m.D) ∧ w'.cell? ⟨w.heap.size + 1, 2, none⟩ = some (.int .i64 m.S) ∧ w'.cell? ⟨w.heap.size + 1, 3, none⟩ = some (.int .i64 m.M) ∧ w'.cell? ⟨w.heap.size + 1, 4, none⟩ = some (.int .i64 m.L) ∧ w'.cell? ⟨w.heap.size + 1 + 1, 0, none⟩ = some (.slice V n c))
      (first
        | with_reducible exact S5
        | go_keep
        | with_reducible exact K3.out.cells
        | with_reducible exact K3.out.drew.cells
        | with_reducible exact K4.out.cells
        | with_reducible exact K5.out.cells
        | with_reducible exact (K3.out.drew.alloc _).cells
        | with_reducible exact (K3.out.alloc _).drew.cells
        | with_reducible exact (K4.out.alloc _).cells
        | with_reducible exact (K5.out.alloc _).cells
        | (trace_state; sorry))
      (first
        | (go_at_call 154; with_reducible refine (wearQuestions_any w3.drew).mono ?_; rintro e w4 ⟨rfl, b4⟩; have K4 := Lib.hid (K3.out.drew.on b4))
        | (go_at_call 154; with_reducible refine (wearQuestions_any (w3.alloc (.cells #[.int .i64 0, .int .i64 0, .int .i64 0, .int .i64 0, .int .i64 0, .int .u8 0, .int .u8 0, .int .u8 0, .int .u8 0, .int .u8 0, .int .u8 0] 106)).drew).mono ?_; rintro e w4 ⟨rfl, b4⟩; have K4 := Lib.hid ((K3.out.alloc (.cells #[.int .i64 0, .int .i64 0, .int .i64 0, .int .i64 0, .int .i64 0, .int .u8 0, .int .u8 0, .int .u8 0, .int .u8 0, .int .u8 0, .int .u8 0] 106)).drew.on b4); have y4 := (BitBox.zeroD w3 106).on b4)
        | (go_at_call 104; (fail_if_success (have := y4)); with_reducible refine (inBits_any m _ _ _ yss w4 (HS.out.on K4.out.c) HLL.out vs HVS.out).mono ?_; rintro e w5 ⟨rfl, b5⟩; have K5 := Lib.hid (K4.out.on b5))
        | (go_at_call 104; (fail_if_success (have := y4)); with_reducible refine (inBits_any m _ _ _ yss (w4.alloc (.cells #[.int .i64 0, .int .i64 0, .int .i64 0, .int .i64 0, .int .i64 0, .int .u8 0, .int .u8 0, .int .u8 0, .int .u8 0, .int .u8 0, .int .u8 0] 106)) (HS.out.on (K4.out.alloc (.cells #[.int .i64 0, .int .i64 0, .int .i64 0, .int .i64 0, .int .i64 0, .int .u8 0, .int .u8 0, .int .u8 0, .int .u8 0, .int .u8 0, .int .u8 0] 106)).c) HLL.out vs HVS.out).mono ?_; rintro e w5 ⟨rfl, b5⟩; have K5 := Lib.hid ((K4.out.alloc (.cells #[.int .i64 0, .int .i64 0, .int .i64 0, .int .i64 0, .int .i64 0, .int .u8 0, .int .u8 0, .int .u8 0, .int .u8 0, .int .u8 0, .int .u8 0] 106)).on b5); have y5 := (BitBox.zero w4 106 ⟨0, 0, 0, 0, 0⟩ rfl).on b5; have z4 : w.heap.size + 1 + 1 < w4.heap.size := K4.out.k.lt; have S5 := (K5.out.put11 (g := w4.heap.size) z4 m vs).cells; have KF := Lib.hid (K5.out.put11 (g := w4.heap.size) z4 m vs); have YF := y5.put11 (m := m) (vs := vs); unfold put11 at S5 KF YF; obtain ⟨e0, e1, e2, e3, e4, e5, e6, e7, e8, e9, e10⟩ := y5.thaws; obtain ⟨d0, d1, d2, d3, d4, d5, d6, d7, d8, d9, d10⟩ := y5.cells; clear y5)
        | (go_at_call 104; with_reducible refine (inBits_any m _ _ _ yss w4 (HS.out.on K4.out.c) HLL.out vs HVS.out).mono ?_; rintro e w5 ⟨rfl, b5⟩; have K5 := Lib.hid (K4.out.on b5); have y5 := y4.on b5; have S5 := (K5.out.put11 (g := w3.heap.size) z3 m vs).cells; have KF := Lib.hid (K5.out.put11 (g := w3.heap.size) z3 m vs); have YF := y5.put11 (m := m) (vs := vs); unfold put11 at S5 KF YF; obtain ⟨e0, e1, e2, e3, e4, e5, e6, e7, e8, e9, e10⟩ := y5.thaws; obtain ⟨d0, d1, d2, d3, d4, d5, d6, d7, d8, d9, d10⟩ := y5.cells; clear y5))
    all_goals
      go_wp2_with fail
      go_meet
      first
        | exact ⟨_, rfl, rfl, YF, KF.out⟩
        | exact ⟨_, rfl, rfl, BitBox.new w5 _ m vs, K5.out.alloc _⟩
  case rest =>
    obtain ⟨g, rfl, rfl, hg, hK⟩ := hcut
    clear hix K3 z3
    obtain ⟨w6, rfl⟩ : ∃ w6, w6 = wc := ⟨_, rfl⟩
    have HG := Lib.hid hg
    have HK := Lib.hid hK
    clear hg hK
    go_wp2_with fail
    go_loopw [37] (fun x wr => ∃ k : Nat, x = .int .i64 k ∧ k ≤ q ∧ Hid (∀ j, j < k → ∀ e : Nat, xs[j]? = some (e : Int) → mayP (setP yss) (tn : Int) (rn + 1) j e = true) ∧ Hid (BitBox wr g 106 m vs) ∧ Hid (AskK w wr m V n c (rn : Int) (tn : Int))) (fun x _ => q - (intOf x).toNat)
    case atStart => exact ⟨0, rfl, Nat.zero_le _, Lib.hid (fun j hj => absurd hj (by omega)), HG, HK⟩
    case round =>
      clear HG HK
      obtain ⟨k, rfl, hk, hall, hg, hK⟩ := hrel
      by_cases hlt : k < q
      · obtain ⟨ad, v, rfl, hab, hv, hc⟩ := (HI.out.on hK.out.c).at_ hlt
        obtain ⟨v0, v1⟩ := allIn_at HD.out hv
        obtain ⟨e, rfl⟩ : ∃ e : Nat, v = (e : Int) := ⟨v.toNat, by omega⟩
        have HVK := Lib.hid hv
        have i0 : (0 : Int) ≤ (k : Int) := by omega
        have i6 : (k : Int) < 6 := by omega
        have hst := hg.out.bit (show k < 6 by omega)
        obtain ⟨p0, p1⟩ := hK.out.f.cells
        obtain ⟨bb, hbb⟩ : ∃ bb, mayP (setP yss) (tn : Int) (rn + 1) k e = bb := ⟨_, rfl⟩
        have hb2 : someAt (freeAt (fun d => (vs k).testBit d) (tn : Int)) (e : Int) (rn + 1) = bb := by rw [← hbb]; unfold mayP; rw [HVP.out]
        have HBB := Lib.hid hbb
        have HB2 := Lib.hid hb2
        clear hv hbb hb2
        go_wp2
        go_region_held3 (fun w' => w'.cell? ⟨w.heap.size, 0, none⟩ = some (.int .i64 (rn : Int)) ∧ w'.cell? ⟨w.heap.size, 1, none⟩ = some (.int .i64 (tn : Int)) ∧ w'.cell? ⟨g, 5 + k, none⟩ = some (.int .u8 (vs k : Nat)))
          (first
            | go_keep
            | with_reducible exact ⟨p0, p1, hst⟩
            | with_reducible exact ⟨K7.out.f.cells.1, K7.out.f.cells.2, G7.out.bit (show k < 6 by omega)⟩)
          (first
            | (go_at_call 127; refine (mayFree_any e rn (vs k) tn (by omega) (by omega) (HVL.out k) (by omega) _ bb HB2.out).mono ?_; rintro e w7 ⟨rfl, b7⟩; have K7 := Lib.hid (hK.out.drew.on b7); have G7 := Lib.hid ((hg.out.drewN 1).on b7)))
        rcases bb with _ | _
        · have HE := Lib.hid (frees_no (p := mayP (setP yss) (tn : Int) (rn + 1)) HVK.out HBB.out)
          have C := K7.out.c
          go_wp2
          go_ret2
          exact ⟨ret_bcode HE.out.symm rfl, C⟩
        · have HA : Hid (∀ j, j < k + 1 → ∀ e : Nat, xs[j]? = some (e : Int) → mayP (setP yss) (tn : Int) (rn + 1) j e = true) := Lib.hid (fun j hj e2 he => by
            rcases Nat.lt_or_ge j k with h1 | h1
            · exact hall.out j h1 e2 he
            · obtain rfl : j = k := by omega
              have : (e2 : Int) = (e : Int) := by have := HVK.out; rw [he] at this; injection this
              obtain rfl : e2 = e := by omega
              exact HBB.out)
          clear p0 p1 hst hc b7 hg hK
          go_wp2
          go_roundw
          case rel => exact ⟨k + 1, by go_num, by omega, HA, G7, K7⟩
          case measure => simp [intOf]; omega
      · have HE := Lib.hid (frees_yes (p := mayP (setP yss) (tn : Int) (rn + 1)) (show xs.length ≤ k by rw [HI.out.len]; omega) hall.out (nonneg_of HD.out))
        have C := hK.out.c
        go_wp2
        go_ret2
        exact ⟨ret_bcode HE.out.symm rfl, C⟩
set_option linter.unusedSimpArgs false in
set_option maxRecDepth 100000 in
set_option maxHeartbeats 16000000 in
theorem askSure_any (m : Mk) (V : Option Addr) (n c : Nat) (yss : List (List Int)) (A : Option Addr) (q d : Nat) (xs : List Int) (wr t : Int) (w : World) (h : Sets w w.heap.size V n yss) (hn : n + sizeL yss ≤ 1048576) (hi : Ints w w.heap.size A q xs) (hq : q ≤ 1048576) :
    Calls Try.prog 123 #[.agg #[.int .i64 wr, .int .i64 t], .int .i64 1, .agg #[.int .i64 m.C, .int .i64 m.D, .int .i64 m.S, .int .i64 m.M, .int .i64 m.L], .agg #[.slice V n c], .slice A q d] w fun e w' => e = .returned (.tuple #[.bool (wkV m yss xs wr t (sureP (setP yss) t (plc wr))), .int .i64 (wkE m yss xs wr t)]) ∧ Below w.heap.size w w' := by
  have c0 := Lib.hid ((((Below.refl w.heap.size w).alloc (Nat.le_refl _) (.cells #[.int .i64 wr, .int .i64 t] 128)).alloc (by simp) (.cells #[.int .i64 m.C, .int .i64 m.D, .int .i64 m.S, .int .i64 m.M, .int .i64 m.L] 25)).alloc (by simp; omega) (.cells #[.slice V n c] 30))
  have f0 := Lib.hid (((Cell2.new w 128 (.int .i64 wr) (.int .i64 t)).alloc (.cells #[.int .i64 m.C, .int .i64 m.D, .int .i64 m.S, .int .i64 m.M, .int .i64 m.L] 25)).alloc (.cells #[.slice V n c] 30))
  have x0' := (Boxed.new (w.alloc (.cells #[.int .i64 wr, .int .i64 t] 128)) 25 m).alloc (.cells #[.slice V n c] 30)
  have k0' := Cell1.new ((w.alloc (.cells #[.int .i64 wr, .int .i64 t] 128)).alloc (.cells #[.int .i64 m.C, .int .i64 m.D, .int .i64 m.S, .int .i64 m.M, .int .i64 m.L] 25)) 30 (.slice V n c)
  simp only [World.size_alloc] at x0' k0'
  have x0 := Lib.hid x0'
  have k0 := Lib.hid k0'
  have s0 := Lib.hid (h.on c0.out)
  have j0 := Lib.hid (hi.on c0.out)
  have HN := Lib.hid hn
  have HS := Lib.hid h
  have HI := Lib.hid hi
  clear h hi hn x0' k0'
  obtain ⟨q0, q1, q2, q3, q4⟩ := x0.out.cells
  have ck := k0.out.cell
  rcases hL : lockB m yss with _ | _
  · have HE := Lib.hid (wk_bad (xs := xs) (wr := wr) (t := t) (q := sureP (setP yss) t (plc wr)) hL)
    rw [HE.out.1, HE.out.2]
    go_enter Try.func123, Try.ntmps123
    go_wp2_with fail
    refine (isLock_any m _ _ _ yss _ s0.out HN.out).mono ?_
    rw [hL]
    rintro e w1 ⟨rfl, b1⟩
    have c1 := below_trans' c0.out b1
    go_wp2
    go_ret2
    exact ⟨rfl, c1⟩
  have HLL := Lib.hid hL
  rcases hK : isKeyB m xs with _ | _
  · have HE := Lib.hid (wk_key (wr := wr) (t := t) (q := sureP (setP yss) t (plc wr)) hL hK)
    rw [HE.out.1, HE.out.2]
    go_enter Try.func123, Try.ntmps123
    go_wp2_with fail
    refine (isLock_any m _ _ _ yss _ s0.out HN.out).mono ?_
    rw [HLL.out]
    rintro e w1 ⟨rfl, b1⟩
    have c1 := Lib.hid (below_trans' c0.out b1)
    have x1 := Lib.hid (x0.out.on b1)
    have j1 := Lib.hid (j0.out.on b1)
    clear q0 q1 q2 q3 q4 ck
    obtain ⟨q0, q1, q2, q3, q4⟩ := x1.out.cells
    go_wp2_with fail
    refine (isKey_any m _ _ _ xs _ j1.out hq).mono ?_
    rw [hK]
    rintro e w2 ⟨rfl, b2⟩
    have c2 := below_trans' c1.out b2
    go_wp2
    go_ret2
    exact ⟨rfl, c2⟩
  have HKK := Lib.hid hK
  rcases hF : isFit wr t with _ | _
  · have HE := Lib.hid (wk_fit (q := sureP (setP yss) t (plc wr)) hL hK hF)
    rw [HE.out.1, HE.out.2]
    go_enter Try.func123, Try.ntmps123
    go_wp2_with fail
    refine (isLock_any m _ _ _ yss _ s0.out HN.out).mono ?_
    rw [HLL.out]
    rintro e w1 ⟨rfl, b1⟩
    have c1 := Lib.hid (below_trans' c0.out b1)
    have x1 := Lib.hid (x0.out.on b1)
    have f1 := Lib.hid (f0.out.on b1)
    have j1 := Lib.hid (j0.out.on b1)
    clear q0 q1 q2 q3 q4 ck
    obtain ⟨q0, q1, q2, q3, q4⟩ := x1.out.cells
    go_wp2_with fail
    refine (isKey_any m _ _ _ xs _ j1.out hq).mono ?_
    rw [HKK.out]
    rintro e w2 ⟨rfl, b2⟩
    have c2 := Lib.hid (below_trans' c1.out b2)
    obtain ⟨p0, p1⟩ := (f1.out.on b2).cells
    clear q0 q1 q2 q3 q4 x1 f1 j1 b2
    go_wp2_with fail
    refine (isValid_any wr t _).mono ?_
    rw [hF]
    rintro e w3 ⟨rfl, b3⟩
    have c3 := below_trans' c2.out b3
    go_wp2
    go_ret2
    exact ⟨rfl, c3⟩
  have HFF := Lib.hid hF
  obtain ⟨r0, r1, t0, t1⟩ := fit_facts hF
  obtain ⟨rn, rfl⟩ : ∃ rn : Nat, wr = (rn : Int) := ⟨wr.toNat, by omega⟩
  obtain ⟨tn, rfl⟩ : ∃ tn : Nat, t = (tn : Int) := ⟨t.toNat, by omega⟩
  have hpl : plc (rn : Int) = rn + 1 := by unfold plc; omega
  rw [hpl]
  have HE := Lib.hid (wk_ok (q := sureP (setP yss) (tn : Int) (rn + 1)) hL hK hF)
  rw [HE.out.1, HE.out.2]
  obtain ⟨vs, hvs⟩ : ∃ vs, bitsOf yss = vs := ⟨_, rfl⟩
  have HVL : Hid (∀ i, vs i < 256) := Lib.hid (by rw [← hvs]; exact bitsOf_lt hL)
  have HVP : Hid (∀ i, setP yss i = fun d => (vs i).testBit d) := Lib.hid (by intro i; funext d; rw [← bitsOf_set hL, hvs]; rfl)
  have HVS := Lib.hid hvs
  have HD := Lib.hid (key_seven hK)
  have hq6 : q ≤ 6 := by
    obtain ⟨g1, g2, _⟩ := key_facts hK
    obtain ⟨_, m2, _⟩ := Mk.ok_true g1
    have := j0.out.len
    omega
  clear hL hK hF hvs HE
  go_enter Try.func123, Try.ntmps123
  go_wp2_with fail
  refine (isLock_any m _ _ _ yss _ s0.out HN.out).mono ?_
  rw [HLL.out]
  rintro e w1 ⟨rfl, b1⟩
  have c1 := Lib.hid (below_trans' c0.out b1)
  have x1 := Lib.hid (x0.out.on b1)
  have f1 := Lib.hid (f0.out.on b1)
  have j1 := Lib.hid (j0.out.on b1)
  have s1 := Lib.hid (s0.out.on b1)
  have k1 := Lib.hid (k0.out.on b1)
  clear q0 q1 q2 q3 q4 ck x0 f0 j0 s0 k0 c0 b1
  obtain ⟨q0, q1, q2, q3, q4⟩ := x1.out.cells
  go_wp2_with fail
  refine (isKey_any m _ _ _ xs _ j1.out hq).mono ?_
  rw [HKK.out]
  rintro e w2 ⟨rfl, b2⟩
  have c2 := Lib.hid (below_trans' c1.out b2)
  have x2 := Lib.hid (x1.out.on b2)
  have f2 := Lib.hid (f1.out.on b2)
  have j2 := Lib.hid (j1.out.on b2)
  have s2 := Lib.hid (s1.out.on b2)
  have k2 := Lib.hid (k1.out.on b2)
  obtain ⟨p0, p1⟩ := f2.out.cells
  clear q0 q1 q2 q3 q4 x1 f1 j1 s1 k1 c1 b2
  go_wp2_with fail
  refine (isValid_any _ _ _).mono ?_
  rw [HFF.out]
  rintro e w3 ⟨rfl, b3⟩
  have c3 := Lib.hid (below_trans' c2.out b3)
  have x3 := Lib.hid (x2.out.on b3)
  have f3 := Lib.hid (f2.out.on b3)
  have j3 := Lib.hid (j2.out.on b3)
  have s3 := Lib.hid (s2.out.on b3)
  have k3 := Lib.hid (k2.out.on b3)
  clear p0 p1 x2 f2 j2 s2 k2 c2 b3
  obtain ⟨q0, q1, q2, q3, q4⟩ := x3.out.cells
  have ck := k3.out.cell
  have K3 : Hid (AskK w w3 m V n c (rn : Int) (tn : Int)) := Lib.hid ⟨f3.out, x3.out, k3.out, c3.out⟩
  have z3 : w.heap.size + 1 + 1 < w3.heap.size := k3.out.lt
  clear f3 x3 k3 c3 j3 s3
  have hix : ∀ w, (Instr.index 160 (.agg #[.func (.func 127) #[] #[], .func (.func 163) #[] #[]]) (.int .i64 1)).run Try.prog w = .ok (.func (.func 163) #[] #[]) w := fun _ => by kernel_rfl
  go_upto_region 5 with (fail)
  go_cut [12, 13] (fun y z wx => ∃ g : Nat, y = .func (.func 163) #[] #[] ∧ z = .pointer (some ⟨g, 0, none⟩) ∧ BitBox wx g 106 m vs ∧ AskK w wx m V n c (rn : Int) (tn : Int))
  case first =>
    go_region_held3 (fun w' => w'.cell? ⟨w.heap.size + 1, 0, none⟩ = some (.int .i64 m.C) ∧ w'.cell? ⟨w.heap.size + 1, 1, none⟩ = some (.int .i64 m.D) ∧ w'.cell? ⟨w.heap.size + 1, 2, none⟩ = some (.int .i64 m.S) ∧ w'.cell? ⟨w.heap.size + 1, 3, none⟩ = some (.int .i64 m.M) ∧ w'.cell? ⟨w.heap.size + 1, 4, none⟩ = some (.int .i64 m.L) ∧ w'.cell? ⟨w.heap.size + 1 + 1, 0, none⟩ = some (.slice V n c))
      (first
        | with_reducible exact S5
        | go_keep
        | with_reducible exact K3.out.cells
        | with_reducible exact K3.out.drew.cells
        | with_reducible exact K4.out.cells
        | with_reducible exact K5.out.cells
        | with_reducible exact (K3.out.drew.alloc _).cells
        | with_reducible exact (K3.out.alloc _).drew.cells
        | with_reducible exact (K4.out.alloc _).cells
        | with_reducible exact (K5.out.alloc _).cells
        | (trace_state; sorry))
      (first
        | (go_at_call 154; with_reducible refine (wearQuestions_any w3.drew).mono ?_; rintro e w4 ⟨rfl, b4⟩; have K4 := Lib.hid (K3.out.drew.on b4))
        | (go_at_call 154; with_reducible refine (wearQuestions_any (w3.alloc (.cells #[.int .i64 0, .int .i64 0, .int .i64 0, .int .i64 0, .int .i64 0, .int .u8 0, .int .u8 0, .int .u8 0, .int .u8 0, .int .u8 0, .int .u8 0] 106)).drew).mono ?_; rintro e w4 ⟨rfl, b4⟩; have K4 := Lib.hid ((K3.out.alloc (.cells #[.int .i64 0, .int .i64 0, .int .i64 0, .int .i64 0, .int .i64 0, .int .u8 0, .int .u8 0, .int .u8 0, .int .u8 0, .int .u8 0, .int .u8 0] 106)).drew.on b4); have y4 := (BitBox.zeroD w3 106).on b4)
        | (go_at_call 104; (fail_if_success (have := y4)); with_reducible refine (inBits_any m _ _ _ yss w4 (HS.out.on K4.out.c) HLL.out vs HVS.out).mono ?_; rintro e w5 ⟨rfl, b5⟩; have K5 := Lib.hid (K4.out.on b5))
        | (go_at_call 104; (fail_if_success (have := y4)); with_reducible refine (inBits_any m _ _ _ yss (w4.alloc (.cells #[.int .i64 0, .int .i64 0, .int .i64 0, .int .i64 0, .int .i64 0, .int .u8 0, .int .u8 0, .int .u8 0, .int .u8 0, .int .u8 0, .int .u8 0] 106)) (HS.out.on (K4.out.alloc (.cells #[.int .i64 0, .int .i64 0, .int .i64 0, .int .i64 0, .int .i64 0, .int .u8 0, .int .u8 0, .int .u8 0, .int .u8 0, .int .u8 0, .int .u8 0] 106)).c) HLL.out vs HVS.out).mono ?_; rintro e w5 ⟨rfl, b5⟩; have K5 := Lib.hid ((K4.out.alloc (.cells #[.int .i64 0, .int .i64 0, .int .i64 0, .int .i64 0, .int .i64 0, .int .u8 0, .int .u8 0, .int .u8 0, .int .u8 0, .int .u8 0, .int .u8 0] 106)).on b5); have y5 := (BitBox.zero w4 106 ⟨0, 0, 0, 0, 0⟩ rfl).on b5; have z4 : w.heap.size + 1 + 1 < w4.heap.size := K4.out.k.lt; have S5 := (K5.out.put11 (g := w4.heap.size) z4 m vs).cells; have KF := Lib.hid (K5.out.put11 (g := w4.heap.size) z4 m vs); have YF := y5.put11 (m := m) (vs := vs); unfold put11 at S5 KF YF; obtain ⟨e0, e1, e2, e3, e4, e5, e6, e7, e8, e9, e10⟩ := y5.thaws; obtain ⟨d0, d1, d2, d3, d4, d5, d6, d7, d8, d9, d10⟩ := y5.cells; clear y5)
        | (go_at_call 104; with_reducible refine (inBits_any m _ _ _ yss w4 (HS.out.on K4.out.c) HLL.out vs HVS.out).mono ?_; rintro e w5 ⟨rfl, b5⟩; have K5 := Lib.hid (K4.out.on b5); have y5 := y4.on b5; have S5 := (K5.out.put11 (g := w3.heap.size) z3 m vs).cells; have KF := Lib.hid (K5.out.put11 (g := w3.heap.size) z3 m vs); have YF := y5.put11 (m := m) (vs := vs); unfold put11 at S5 KF YF; obtain ⟨e0, e1, e2, e3, e4, e5, e6, e7, e8, e9, e10⟩ := y5.thaws; obtain ⟨d0, d1, d2, d3, d4, d5, d6, d7, d8, d9, d10⟩ := y5.cells; clear y5))
    all_goals
      go_wp2_with fail
      go_meet
      first
        | exact ⟨_, rfl, rfl, YF, KF.out⟩
        | exact ⟨_, rfl, rfl, BitBox.new w5 _ m vs, K5.out.alloc _⟩
  case rest =>
    obtain ⟨g, rfl, rfl, hg, hK⟩ := hcut
    clear hix K3 z3
    obtain ⟨w6, rfl⟩ : ∃ w6, w6 = wc := ⟨_, rfl⟩
    have HG := Lib.hid hg
    have HK := Lib.hid hK
    clear hg hK
    go_wp2_with fail
    go_loopw [37] (fun x wr => ∃ k : Nat, x = .int .i64 k ∧ k ≤ q ∧ Hid (∀ j, j < k → ∀ e : Nat, xs[j]? = some (e : Int) → sureP (setP yss) (tn : Int) (rn + 1) j e = true) ∧ Hid (BitBox wr g 106 m vs) ∧ Hid (AskK w wr m V n c (rn : Int) (tn : Int))) (fun x _ => q - (intOf x).toNat)
    case atStart => exact ⟨0, rfl, Nat.zero_le _, Lib.hid (fun j hj => absurd hj (by omega)), HG, HK⟩
    case round =>
      clear HG HK
      obtain ⟨k, rfl, hk, hall, hg, hK⟩ := hrel
      by_cases hlt : k < q
      · obtain ⟨ad, v, rfl, hab, hv, hc⟩ := (HI.out.on hK.out.c).at_ hlt
        obtain ⟨v0, v1⟩ := allIn_at HD.out hv
        obtain ⟨e, rfl⟩ : ∃ e : Nat, v = (e : Int) := ⟨v.toNat, by omega⟩
        have HVK := Lib.hid hv
        have i0 : (0 : Int) ≤ (k : Int) := by omega
        have i6 : (k : Int) < 6 := by omega
        have hst := hg.out.bit (show k < 6 by omega)
        obtain ⟨p0, p1⟩ := hK.out.f.cells
        obtain ⟨bb, hbb⟩ : ∃ bb, sureP (setP yss) (tn : Int) (rn + 1) k e = bb := ⟨_, rfl⟩
        have hb2 : everyAt (freeAt (fun d => (vs k).testBit d) (tn : Int)) (e : Int) (rn + 1) = bb := by rw [← hbb]; unfold sureP; rw [HVP.out]
        have HBB := Lib.hid hbb
        have HB2 := Lib.hid hb2
        clear hv hbb hb2
        go_wp2
        go_region_held3 (fun w' => w'.cell? ⟨w.heap.size, 0, none⟩ = some (.int .i64 (rn : Int)) ∧ w'.cell? ⟨w.heap.size, 1, none⟩ = some (.int .i64 (tn : Int)) ∧ w'.cell? ⟨g, 5 + k, none⟩ = some (.int .u8 (vs k : Nat)))
          (first
            | go_keep
            | with_reducible exact ⟨p0, p1, hst⟩
            | with_reducible exact ⟨K7.out.f.cells.1, K7.out.f.cells.2, G7.out.bit (show k < 6 by omega)⟩)
          (first
            | (go_at_call 163; refine (surelyFrees_any e rn (vs k) tn (by omega) (by omega) (HVL.out k) (by omega) _ bb HB2.out).mono ?_; rintro e w7 ⟨rfl, b7⟩; have K7 := Lib.hid (hK.out.drew.on b7); have G7 := Lib.hid ((hg.out.drewN 1).on b7)))
        rcases bb with _ | _
        · have HE := Lib.hid (frees_no (p := sureP (setP yss) (tn : Int) (rn + 1)) HVK.out HBB.out)
          have C := K7.out.c
          go_wp2
          go_ret2
          exact ⟨ret_bcode HE.out.symm rfl, C⟩
        · have HA : Hid (∀ j, j < k + 1 → ∀ e : Nat, xs[j]? = some (e : Int) → sureP (setP yss) (tn : Int) (rn + 1) j e = true) := Lib.hid (fun j hj e2 he => by
            rcases Nat.lt_or_ge j k with h1 | h1
            · exact hall.out j h1 e2 he
            · obtain rfl : j = k := by omega
              have : (e2 : Int) = (e : Int) := by have := HVK.out; rw [he] at this; injection this
              obtain rfl : e2 = e := by omega
              exact HBB.out)
          clear p0 p1 hst hc b7 hg hK
          go_wp2
          go_roundw
          case rel => exact ⟨k + 1, by go_num, by omega, HA, G7, K7⟩
          case measure => simp [intOf]; omega
      · have HE := Lib.hid (frees_yes (p := sureP (setP yss) (tn : Int) (rn + 1)) (show xs.length ≤ k by rw [HI.out.len]; omega) hall.out (nonneg_of HD.out))
        have C := hK.out.c
        go_wp2
        go_ret2
        exact ⟨ret_bcode HE.out.symm rfl, C⟩
set_option maxHeartbeats 2000000 in
theorem mayOpen_any (m : Mk) (V : Option Addr) (n c : Nat) (yss : List (List Int)) (A : Option Addr) (q d : Nat) (xs : List Int) (wr t : Int) (w : World) (h : Sets w w.heap.size V n yss) (hn : n + sizeL yss ≤ 1048576) (hi : Ints w w.heap.size A q xs) (hq : q ≤ 1048576) :
    Calls Try.prog 53 #[.agg #[.int .i64 m.C, .int .i64 m.D, .int .i64 m.S, .int .i64 m.M, .int .i64 m.L], .agg #[.slice V n c], .slice A q d, .int .i64 wr, .int .i64 t] w fun e w' => e = .returned (.tuple #[.bool (moV m yss xs wr t), .int .i64 (wkE m yss xs wr t)]) ∧ Below w.heap.size w w' := by
  have x0 := (Boxed.new w 25 m).alloc (.cells #[.slice V n c] 30)
  have k0 := Cell1.new (w.alloc (.cells #[.int .i64 m.C, .int .i64 m.D, .int .i64 m.S, .int .i64 m.M, .int .i64 m.L] 25)) 30 (.slice V n c)
  have c0 := ((Below.refl w.heap.size w).alloc (Nat.le_refl _) (.cells #[.int .i64 m.C, .int .i64 m.D, .int .i64 m.S, .int .i64 m.M, .int .i64 m.L] 25)).alloc (by simp) (.cells #[.slice V n c] 30)
  rw [World.size_alloc] at k0
  obtain ⟨q0, q1, q2, q3, q4⟩ := x0.cells
  have ck := k0.cell
  have hs := h.on c0
  have hj := hi.on c0
  clear h hi
  go_enter Try.func53, Try.ntmps53
  go_wp2_with fail
  refine (askMay_any m _ _ _ yss _ _ _ xs wr t _ hs hn hj hq).mono ?_
  rintro e w1 ⟨rfl, b1⟩
  have c1 := below_trans' c0 b1
  go_wp2
  go_ret2
  exact ⟨rfl, c1⟩
set_option maxHeartbeats 2000000 in
theorem surelyOpens_any (m : Mk) (V : Option Addr) (n c : Nat) (yss : List (List Int)) (A : Option Addr) (q d : Nat) (xs : List Int) (wr t : Int) (w : World) (h : Sets w w.heap.size V n yss) (hn : n + sizeL yss ≤ 1048576) (hi : Ints w w.heap.size A q xs) (hq : q ≤ 1048576) :
    Calls Try.prog 55 #[.agg #[.int .i64 m.C, .int .i64 m.D, .int .i64 m.S, .int .i64 m.M, .int .i64 m.L], .agg #[.slice V n c], .slice A q d, .int .i64 wr, .int .i64 t] w fun e w' => e = .returned (.tuple #[.bool (soV m yss xs wr t), .int .i64 (wkE m yss xs wr t)]) ∧ Below w.heap.size w w' := by
  have x0 := (Boxed.new w 25 m).alloc (.cells #[.slice V n c] 30)
  have k0 := Cell1.new (w.alloc (.cells #[.int .i64 m.C, .int .i64 m.D, .int .i64 m.S, .int .i64 m.M, .int .i64 m.L] 25)) 30 (.slice V n c)
  have c0 := ((Below.refl w.heap.size w).alloc (Nat.le_refl _) (.cells #[.int .i64 m.C, .int .i64 m.D, .int .i64 m.S, .int .i64 m.M, .int .i64 m.L] 25)).alloc (by simp) (.cells #[.slice V n c] 30)
  rw [World.size_alloc] at k0
  obtain ⟨q0, q1, q2, q3, q4⟩ := x0.cells
  have ck := k0.cell
  have hs := h.on c0
  have hj := hi.on c0
  clear h hi
  go_enter Try.func55, Try.ntmps55
  go_wp2_with fail
  refine (askSure_any m _ _ _ yss _ _ _ xs wr t _ hs hn hj hq).mono ?_
  rintro e w1 ⟨rfl, b1⟩
  have c1 := below_trans' c0 b1
  go_wp2
  go_ret2
  exact ⟨rfl, c1⟩

end Go.Proofs.Ytbfnffecmglgfaa
