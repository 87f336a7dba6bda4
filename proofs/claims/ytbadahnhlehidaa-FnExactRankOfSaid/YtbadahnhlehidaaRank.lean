/- slices.Equal; RankOf of the program. KeyAt of the program. -/
import Derived.Test.YtbadahnhlehidaaWalk
import Derived.Test.YtbadahnhlehidaaMirror
import Derived.Test.YtbadahnhlehidaaSCount
namespace Go.Proofs.Ytbadahnhlehidaa
open Go Go.RowKit
attribute [local go_sem] Oper.semAt_some

theorem take_same {xs ys : List Int} {k : Nat} {v v' : Int} (h : xs.take k = ys.take k) (hv : xs[k]? = some v) (hv' : ys[k]? = some v') (e : v = v') : xs.take (k + 1) = ys.take (k + 1) := by
  obtain ⟨h1, rfl⟩ := List.getElem?_eq_some_iff.1 hv
  obtain ⟨h2, rfl⟩ := List.getElem?_eq_some_iff.1 hv'
  rw [List.take_succ_eq_append_getElem h1, List.take_succ_eq_append_getElem h2, h, e]
set_option maxHeartbeats 2000000 in
theorem equal_any (A A' : Option Addr) (n c c' : Nat) (xs ys : List Int) (w : World) (h : Ints w w.heap.size A n xs) (h' : Ints w w.heap.size A' n ys) (hn : n ≤ 1048576) :
    Calls Try.prog 113 #[.slice A n c, .slice A' n c'] w fun e w' => e = .returned (.bool (decide (xs = ys))) ∧ ∃ q, w' = w.drewN q := by
  have HL := Lib.hid (And.intro h.len h'.len)
  go_enter Try.func113, Try.ntmps113
  go_wp2
  go_loopw [13] (fun i wr => ∃ k q : Nat, k ≤ n ∧ i = .int .i64 k ∧ Hid (xs.take k = ys.take k) ∧ wr = w.drewN q) (fun i _ => n - (intOf i).toNat)
  case atStart => exact ⟨0, 0, Nat.zero_le _, rfl, Lib.hid rfl, rfl⟩
  case round =>
    obtain ⟨k, q, hk, rfl, hs, rfl⟩ := hrel
    by_cases hlt : k < n
    · obtain ⟨ad, v, rfl, hab, hv, hc⟩ := h.at_ hlt
      obtain ⟨ad', v', rfl, hab', hv', hc'⟩ := h'.at_ hlt
      have i0 : (0 : Int) ≤ (k : Int) := by omega
      have i1 : (k : Int) < (n : Int) := by omega
      by_cases e : v = v'
      · have HS := Lib.hid (take_same hs.out hv hv' e)
        clear hv hv'
        subst e
        go_wp2
        go_quiet (fail)
        go_wp2
        go_roundw
        case rel => exact ⟨k + 1, _, by omega, by go_num, HS, rfl⟩
        case measure => simp [intOf]; omega
      · have HE : Hid (decide (xs = ys) = false) := Lib.hid (decide_eq_false (fun h => e (by rw [h, hv'] at hv; injection hv with hv; exact hv.symm)))
        clear hv hv'
        go_wp2
        go_quiet (fail)
        go_wp2
        go_ret
        exact ⟨ret_bool HE.out.symm, _, World.drewN_drewN _ _ _⟩
    · have HE : Hid (decide (xs = ys) = true) := Lib.hid (decide_eq_true (by
        have := hs.out
        rwa [List.take_of_length_le (by rw [HL.out.1]; omega), List.take_of_length_le (by rw [HL.out.2]; omega)] at this))
      go_wp2
      go_ret
      exact ⟨ret_bool HE.out.symm, q, rfl⟩

def rankN (m : Mk) (xs : List Int) : Nat := (allKeys m).idxOf xs
def rkV (m : Mk) (xs : List Int) : Int := if ktE m xs = 0 then (rankN m xs : Int) else 0
theorem rk_yes {m : Mk} {xs : List Int} (h : ktE m xs = 0) : rkV m xs = rankN m xs := by unfold rkV; rw [if_pos h]
theorem rk_no {m : Mk} {xs : List Int} (h : ktE m xs ≠ 0) : rkV m xs = 0 := by unfold rkV; rw [if_neg h]
theorem idx_at {xs : List Int} : ∀ {p R : List (List Int)}, xs ∉ p → (p ++ xs :: R).idxOf xs = p.length
  | [], R, _ => by simp
  | a :: p, R, h => by
    have h1 : a ≠ xs := fun e => h (by simp [e])
    have h2 : xs ∉ p := fun e => h (by simp [e])
    rw [List.cons_append, List.idxOf_cons, List.length_cons, idx_at h2, beq_eq_false_iff_ne.2 h1]
    rfl
theorem cell_at {W : World} {b : Nat} {v : Value} {t : TypeId} (h : W.heap[b]? = some (.cells #[v] t (0, 0))) : W.cell? ⟨b, 0, none⟩ = some v ∧ W.frozen? ⟨b, 0, none⟩ = false := by
  constructor <;> simp [World.cell?, World.frozen?, h]

set_option maxRecDepth 100000 in
set_option maxHeartbeats 4000000 in
theorem rankOf_any (m : Mk) (A : Option Addr) (n c : Nat) (xs : List Int) (w : World) (h : Ints w w.heap.size A n xs) (hn : n ≤ 1048576) :
    Calls Try.prog 61 #[.agg #[.int .i64 m.C, .int .i64 m.D, .int .i64 m.S, .int .i64 m.M, .int .i64 m.L], .slice A n c] w
      fun e w' => e = .returned (.tuple #[.int .i64 (rkV m xs), .int .i64 (ktE m xs)]) ∧ Below w.heap.size w w' := by
  have b0 := (Below.refl w.heap.size w).alloc (Nat.le_refl _) (.cells #[.int .i64 m.C, .int .i64 m.D, .int .i64 m.S, .int .i64 m.M, .int .i64 m.L] 29)
  have hx := Boxed.new w 29 m
  have b1 := b0.alloc (by simp) (.cells #[.slice A n c] 42)
  have x1 := hx.alloc (.cells #[.slice A n c] 42)
  have k1 := heap_alloc_new (w.alloc (.cells #[.int .i64 m.C, .int .i64 m.D, .int .i64 m.S, .int .i64 m.M, .int .i64 m.L] 29)) (.cells #[.slice A n c] 42)
  rw [World.size_alloc] at k1
  have b2 := b1.alloc (by simp; omega) (.cells #[.slice A n c] 42)
  have x2 := x1.alloc (.cells #[.slice A n c] 42)
  have k2 := (Below.heap_alloc _ (.cells #[.slice A n c] 42) _ (heapLt k1)).trans k1
  have hl := Lists.one (c := c) 42 (h.on b1) hn
  rw [World.size_alloc, World.size_alloc] at hl
  by_cases hz : ktE m xs = 0
  · obtain ⟨hm, hk⟩ := kt_key hz
    rw [rk_yes hz, hz]
    have HZ := Lib.hid (show codeF m [xs] = 0 by rw [code_one]; exact hz)
    obtain ⟨_, hlen, _⟩ := key_facts hk
    have hnC : n = m.C.toNat := by have := h.len; omega
    subst hnC
    have HM := Lib.hid (And.intro hm hk)
    obtain ⟨m1, m2, m3, m4, m5, m6, m7, m8, m9, m10, m11⟩ := Mk.ok_true hm
    have hsz2 : w.heap.size + 3 ≤ (((w.alloc (.cells #[.int .i64 m.C, .int .i64 m.D, .int .i64 m.S, .int .i64 m.M, .int .i64 m.L] 29)).alloc (.cells #[.slice A m.C.toNat c] 42)).alloc (.cells #[.slice A m.C.toNat c] 42)).heap.size := by simp
    clear hz hm hk hlen
    refine (callsIn_wide (n := 9)).1 ?_
    refine callsIn_of_wp_marks Try.func61 rfl trivial ?_ rfl
    refine wpIn_wide.2 ?_
    simp only [Try.ntmps61, List.size_toArray, List.length_cons, List.length_nil, Nat.reduceAdd, Nat.reduceSub, Array.replicate_succ, Array.replicate_zero, List.push_toArray, List.append_toArray, List.nil_append, List.cons_append]
    obtain ⟨ck1, fk1⟩ := cell_at k1
    go_wp2_with fail
    refine (codeFor_any m _ 1 _ [xs] _ hl (by omega)).mono ?_
    rw [HZ.out]
    rintro e w1 ⟨rfl, b3⟩
    have hs3 := b3.size
    have c1 := below_trans' b2 b3
    have x3 := x2.on b3
    have k3 := (b3.block _ (heapLt k2)).trans k2
    obtain ⟨ck3, fk3⟩ := cell_at k3
    have x4 := x3.alloc (.cells #[.int .i64 0] 2)
    obtain ⟨q0, q1, q2, q3, q4⟩ := x4.cells
    clear hl b0 b1 b2 b3 hx x1 x2 k1 k2 ck1 fk1
    go_wp2_with fail
    clear q0 q1 q2 q3 q4
    have hsz4 : (w1.alloc (.cells #[.int .i64 0] 2)).heap.size = w1.heap.size + 1 := World.size_alloc _ _
    have ki := cell_at (heap_alloc_new w1 (.cells #[.int .i64 0] 2))
    have ck4 := (cell_at ((Below.heap_alloc w1 (.cells #[.int .i64 0] 2) _ (heapLt k3)).trans k3)).1
    have c4 := c1.alloc c1.size (.cells #[.int .i64 0] 2)
    refine (wpIn_wide (n := 9)).1 ?_
    refine wpIn_lent rfl (by omega) (gf := 112) (rb := #[.agg #[.int .i64 m.C, .int .i64 m.D, .int .i64 m.S, .int .i64 m.M, .int .i64 m.L]]) (lb := #[]) rfl trivial (enters_of Try.func112 (by kernel_rfl) rfl) (keys_lend m HM.out.1 8 _) (Below.refl _ _) rfl
      (fun pre W => (W.cell? ⟨w1.heap.size, 0, none⟩ = some (.int .i64 (pre.length : Int)) ∧ W.frozen? ⟨w1.heap.size, 0, none⟩ = false) ∧ W.cell? ⟨w.heap.size + 1, 0, none⟩ = some (.slice A m.C.toNat c) ∧ Hid (xs ∉ pre) ∧ Below w.heap.size w W)
      (fun cd pre W => Hid (cd = .exit 0 ∧ ∃ p, pre = p ++ [xs] ∧ xs ∉ p ∧ W.cell? ⟨w1.heap.size, 0, none⟩ = some (.int .i64 (p.length : Int)) ∧ Below w.heap.size w W))
      ?_ ?_ ⟨⟨ki.1, ki.2⟩, ck4, Lib.hid (by simp), c4⟩
      (fun v => { tmps := #[.agg #[.int .i64 m.C, .int .i64 m.D, .int .i64 m.S, .int .i64 m.M, .int .i64 m.L], .slice A m.C.toNat c, .pointer (some ⟨w.heap.size, 0, none⟩), .pointer (some ⟨w.heap.size + 1, 0, none⟩), .int .i64 0, .int .i64 0, .int .i64 0, .pointer (some ⟨w1.heap.size, 0, none⟩), v, .agg #[.int .i64 m.C, .int .i64 m.D, .int .i64 m.S, .int .i64 m.M, .int .i64 m.L], .slice A m.C.toNat c, .slice (some ⟨w.heap.size + 1 + 1, 0, none⟩) 1 1, .int .i64 0, .int .i64 0, .bool false, undef, .agg #[.int .i64 m.C, .int .i64 m.D, .int .i64 m.S, .int .i64 m.M, .int .i64 m.L], .func (.func 112) #[.agg #[.int .i64 m.C, .int .i64 m.D, .int .i64 m.S, .int .i64 m.M, .int .i64 m.L]] #[], v, undef, undef, undef, undef, undef, undef], defers := [] }) ?assign ?body ?done ?stop
    · -- what is said between two rounds
      rintro s A1 C1 ⟨⟨h1, h2⟩, h3, h4, h5⟩ hb
      rw [hsz4] at hb
      exact ⟨⟨(hb.cell (p := ⟨w1.heap.size, 0, none⟩) (by simp)).trans h1, (hb.frozen (p := ⟨w1.heap.size, 0, none⟩) (by simp)).trans h2⟩, (hb.cell (p := ⟨w.heap.size + 1, 0, none⟩) (by simp; omega)).trans h3, h4, h5.trans (hb.mono (by have := c1.size; omega))⟩
    · rintro cd s A1 o h
      rw [hsz4]
      have hb := below_putObj (B := w1.heap.size + 1) (l := w1.heap.size + 1 + 1) A1 o (by omega)
      obtain ⟨h0, p, h1, h2, h3, h4⟩ := h.out
      exact Lib.hid ⟨h0, p, h1, h2, (hb.cell (p := ⟨w1.heap.size, 0, none⟩) (by simp)).trans h3, h4.trans (hb.mono (by have := c1.size; omega))⟩
    case assign =>
      intro l v W K hK
      gi_wp2
      exact hK
    case body =>
      rintro l pre x v W ⟨⟨h1, h2⟩, h3, h4, h5⟩ hM hsz hL
      rw [hsz4] at hsz hL
      obtain ⟨a, rfl, hown⟩ := hL
      have HI := Lib.hid ((h.below h5).more h5.size)
      have HXI := Lib.hid hown.ints
      have hlen : pre.length < 262144 := by
        obtain ⟨R, e⟩ := hM
        have := Nat.le_trans (keys_count m4 m.C.toNat []) (pow8 (by omega))
        have e2 := congrArg List.length e
        simp only [List.length_append, List.length_cons, List.length_nil] at e2
        unfold allKeys at e2
        omega
      have HB := Lib.hid h5
      have HP := Lib.hid h4
      have g1 : IntKind.i64.wrap ((pre.length : Int) + 1) = (pre.length : Int) + 1 := IntWalk.i64_in _ (by omega)
      have HC1 := Lib.hid h1
      have HC3 := Lib.hid h3
      have HF := Lib.hid h2
      have hs1 : w.heap.size + 3 ≤ w1.heap.size := by omega
      clear h4 h5 hown hM
      by_cases hxe : x = xs
      · have hd : decide (x = xs) = true := decide_eq_true hxe
        have HE := Lib.hid hxe
        clear hxe
        gi_wp2_with fail
        refine ⟨trivial, (CallsIn.inRound l (callsIn_wide.2 (equal_any _ _ _ _ _ x xs _ HXI.out HI.out hn))).mono ?_⟩
        rintro e w2 ⟨rfl, q, rfl⟩
        gi_wp2
        exact ⟨Above.drewN _ _ q, Lib.hid ⟨rfl, pre, by rw [HE.out], HP.out, HC1.out, below_drewN HB.out q⟩⟩
      · have hd : decide (x = xs) = false := decide_eq_false hxe
        have HE := Lib.hid hxe
        clear hxe
        gi_wp2_with fail
        refine ⟨trivial, (CallsIn.inRound l (callsIn_wide.2 (equal_any _ _ _ _ _ x xs _ HXI.out HI.out hn))).mono ?_⟩
        rintro e w2 ⟨rfl, q, rfl⟩
        gi_wp2
        refine ⟨(Above.drewN _ _ q).trans (Above.setCell _ _ (by simp)), ⟨⟨?_, ?_⟩, ?_, ?_, ?_⟩⟩
        · rw [List.length_append]
          exact World.cell?_setCell_same _ _ _ HC1.out
        · rw [World.frozen?_setCell]; exact HF.out
        · exact (World.cell?_setCell_other _ _ _ _ (by intro e; have := congrArg Addr.block e; simp at this; omega)).trans HC3.out
        · exact Lib.hid (by rw [List.mem_append]; rintro (e | e); exact HP.out e; exact HE.out (List.mem_singleton.1 e).symm)
        · exact (below_drewN HB.out q).setCell (p := ⟨w1.heap.size, 0, none⟩) (by simp; omega) _
    case done =>
      rintro ys W rfl ⟨_, _, h4, _⟩ _
      obtain ⟨A2, e⟩ := all_at HM.out.2
      exact absurd (by rw [e]; simp) h4.out
    case stop =>
      rintro cd pre W ⟨p, x, R, e1, e2⟩ hh hK
      obtain ⟨rfl, p', e3, h2, h3, h4⟩ := hh.out
      have e4 : p' = p ∧ xs = x := by
        rw [e2] at e3
        have := List.append_inj' e3 rfl
        simpa using And.intro this.1.symm (by simpa using this.2.symm)
      obtain ⟨rfl, rfl⟩ := e4
      have HR : Hid (rankN m xs = p'.length) := Lib.hid (by unfold rankN; rw [e1]; exact idx_at h2)
      have HB := Lib.hid h4
      rw [hsz4] at hK ⊢
      refine wpIn_wide.2 ?_
      clear e1 e2 e3 h2 h4 hh
      go_wp2
      refine ⟨by simp, .inl ⟨_, _, rfl, run_takeDeferred hK, ?_⟩⟩
      refine ⟨_, results_tmp2 rfl _ _ _, ?_, HB.out.trans (below_putObj _ _ (by omega))⟩
      show Ending.returned (.tuple #[.int .i64 (p'.length : Int), .int .i64 0]) = _
      rw [HR.out]
  · rw [rk_no hz]
    obtain ⟨v, hv⟩ : ∃ v, ktE m xs = v := ⟨_, rfl⟩
    rw [hv] at hz ⊢
    have HV := Lib.hid (show codeF m [xs] = v by rw [code_one]; exact hv)
    have hq : (v != 0) = true := by simpa using hz
    obtain ⟨ck1, fk1⟩ := cell_at k1
    clear hz hv
    go_enter Try.func61, Try.ntmps61
    go_wp2_with fail
    refine (codeFor_any m _ 1 _ [xs] _ hl (by omega)).mono ?_
    rw [HV.out]
    rintro e w1 ⟨rfl, b3⟩
    have c1 := below_trans' b2 b3
    clear hl b0 b1 b2 b3 hx x1 x2 k1 k2 ck1 fk1
    go_wp2
    go_ret2
    exact ⟨rfl, c1⟩

end Go.Proofs.Ytbadahnhlehidaa

namespace Go.Proofs.Ytbadahnhlehidaa
open Go Go.RowKit
attribute [local go_sem] Oper.semAt_some

def kaOk (m : Mk) (r : Int) : Bool := decide (0 ≤ r) && decide (r < ((allKeys m).length : Int))
def kaL (m : Mk) (r : Int) : List Int := if m.ok && kaOk m r then ((allKeys m)[r.toNat]?).getD [] else []
def kaE (m : Mk) (r : Int) : Int := if m.ok then (if kaOk m r then 0 else 4) else 1
theorem ka_bad {m : Mk} {r : Int} (h : m.ok = false) : kaL m r = [] ∧ kaE m r = 1 := by simp [kaL, kaE, h]
theorem ka_no {m : Mk} {r : Int} (h : m.ok = true) (h2 : kaOk m r = false) : kaL m r = [] ∧ kaE m r = 4 := by simp [kaL, kaE, h, h2]
theorem ka_yes {m : Mk} {r : Int} {p R : List (List Int)} {x : List Int} (h : m.ok = true) (h2 : allKeys m = p ++ x :: R) (h3 : (p.length : Int) = r) : kaL m r = x ∧ kaE m r = 0 := by
  have h4 : kaOk m r = true := by unfold kaOk; rw [h2, List.length_append, List.length_cons]; simp; omega
  have h5 : (allKeys m)[r.toNat]? = some x := by rw [h2, ← h3]; simp
  simp [kaL, kaE, h, h4, h5]
/-- two variables of results: a list, and a code -/
def Vars (W : World) (b : Nat) (v : Value) (e : Int) : Prop := W.cell? ⟨b, 0, none⟩ = some v ∧ W.frozen? ⟨b, 0, none⟩ = false ∧ W.cell? ⟨b + 1, 0, none⟩ = some (.int .i64 e) ∧ W.frozen? ⟨b + 1, 0, none⟩ = false
theorem Vars.below {A C : World} {b B : Nat} {v : Value} {e : Int} (h : Vars A b v e) (hb : Below B A C) (hB : b + 1 < B) : Vars C b v e :=
  ⟨(hb.cell (p := ⟨b, 0, none⟩) (by simp; omega)).trans h.1, (hb.frozen (p := ⟨b, 0, none⟩) (by simp; omega)).trans h.2.1, (hb.cell (p := ⟨b + 1, 0, none⟩) hB).trans h.2.2.1, (hb.frozen (p := ⟨b + 1, 0, none⟩) hB).trans h.2.2.2⟩

theorem Vars.put {A : World} {b : Nat} {v : Value} {e : Int} (h : Vars A b v e) (v' : Value) (e' : Int) : Vars ((A.setCell ⟨b, 0, none⟩ v').setCell ⟨b + 1, 0, none⟩ (.int .i64 e')) b v' e' := by
  have hne : (⟨b + 1, 0, none⟩ : Addr) ≠ ⟨b, 0, none⟩ := by intro e; have := congrArg Addr.block e; simp at this
  obtain ⟨h1, h2, h3, h4⟩ := h
  refine ⟨?_, ?_, ?_, ?_⟩
  · rw [World.cell?_setCell_other _ _ _ _ hne]; exact World.cell?_setCell_same _ _ _ h1
  · rw [World.frozen?_setCell, World.frozen?_setCell]; exact h2
  · exact World.cell?_setCell_same _ _ _ ((World.cell?_setCell_other _ _ _ _ (Ne.symm hne)).trans h3)
  · rw [World.frozen?_setCell, World.frozen?_setCell]; exact h4
theorem four (w : World) (a b c d : Obj) : ((((w.alloc a).alloc b).alloc c).alloc d).heap[w.heap.size]? = some a ∧ ((((w.alloc a).alloc b).alloc c).alloc d).heap[w.heap.size + 1]? = some b ∧
    ((((w.alloc a).alloc b).alloc c).alloc d).heap[w.heap.size + 1 + 1]? = some c ∧ ((((w.alloc a).alloc b).alloc c).alloc d).heap[w.heap.size + 1 + 1 + 1]? = some d ∧
    ((((w.alloc a).alloc b).alloc c).alloc d).heap.size = w.heap.size + 1 + 1 + 1 + 1 ∧ Below w.heap.size w ((((w.alloc a).alloc b).alloc c).alloc d) := by
  have k0 := heap_alloc_new w a
  have k1 := heap_alloc_new (w.alloc a) b
  have k2 := heap_alloc_new ((w.alloc a).alloc b) c
  have k3 := heap_alloc_new (((w.alloc a).alloc b).alloc c) d
  simp only [World.size_alloc] at k1 k2 k3
  have l0 := (Below.heap_alloc (w.alloc a) b _ (heapLt k0)).trans k0
  have l1 := (Below.heap_alloc _ c _ (heapLt l0)).trans l0
  have l2 := (Below.heap_alloc _ c _ (heapLt k1)).trans k1
  exact ⟨(Below.heap_alloc _ d _ (heapLt l1)).trans l1, (Below.heap_alloc _ d _ (heapLt l2)).trans l2, (Below.heap_alloc _ d _ (heapLt k2)).trans k2, k3, by simp,
    ((((Below.refl _ _).alloc (Nat.le_refl _) a).alloc (by simp) b).alloc (by simp; omega) c).alloc (by simp; omega) d⟩

set_option maxRecDepth 100000 in
set_option maxHeartbeats 4000000 in
theorem keyAt_any (m : Mk) (r : Int) (w : World) :
    Calls Try.prog 63 #[.agg #[.int .i64 m.C, .int .i64 m.D, .int .i64 m.S, .int .i64 m.M, .int .i64 m.L], .int .i64 r] w
      (GivesList w (kaE m r) (kaL m r)) := by
  obtain ⟨k0, k1, k2, k3, hs, b0⟩ := four w (.cells #[.int .i64 m.C, .int .i64 m.D, .int .i64 m.S, .int .i64 m.M, .int .i64 m.L] 29) (.cells #[.int .i64 r] 2) (.cells #[.slice none 0 0] 42) (.cells #[.int .i64 0] 2)
  have hx : Boxed _ w.heap.size 29 m := k0
  obtain ⟨kc, _⟩ := cell_at k1
  obtain ⟨v1, v2⟩ := cell_at k2
  obtain ⟨v3, v4⟩ := cell_at k3
  have hv : Vars _ (w.heap.size + 1 + 1) (.slice none 0 0) 0 := ⟨v1, v2, v3, v4⟩
  clear k0 k2 k3 v1 v2 v3 v4
  rcases hm : m.ok with _ | _
  · obtain ⟨e1, e2⟩ := ka_bad (r := r) hm
    rw [e1, e2]
    clear e1 e2
    go_enter Try.func63, Try.ntmps63
    go_wp2_with fail
    refine (isMaker_any m _).mono ?_
    rw [hm]
    rintro e w1 ⟨rfl, b1⟩
    have c1 := below_trans' b0 b1
    have hv1 := hv.below b1 (by rw [hs]; omega)
    have hv2 := hv1.put (.slice none 0 0) 1
    obtain ⟨p1, p2, p3, p4⟩ := hv1
    have HV := Lib.hid hv2
    have HB := Lib.hid ((c1.setCell (p := ⟨w.heap.size + 1 + 1, 0, none⟩) (by simp; omega) (.slice none 0 0)).setCell (p := ⟨w.heap.size + 1 + 1 + 1, 0, none⟩) (by simp; omega) (.int .i64 1))
    clear b0 b1 c1 hx hv kc k1 hs hv2
    have hne : ∀ W : World, (W.setCell ⟨w.heap.size + 1 + 1, 0, none⟩ (.slice none 0 0)).cell? ⟨w.heap.size + 1 + 1 + 1, 0, none⟩ = W.cell? ⟨w.heap.size + 1 + 1 + 1, 0, none⟩ := fun W => World.cell?_setCell_other _ _ _ _ (by intro e; have := congrArg Addr.block e; simp at this)
    go_wp2
    obtain ⟨r1, _, r3, _⟩ := HV.out
    refine bodyPost_ret (v := .tuple #[.slice none 0 0, .int .i64 1]) (by simp [results, Try.results63, go_sem, r1, r3]) rfl ⟨none, 0, 0, rfl, Own.nil _ (Nat.le_refl _), by omega, by omega, by omega, HB.out⟩
  have HM := Lib.hid hm
  obtain ⟨m1, m2, m3, m4, m5, m6, m7, m8, m9, m10, m11⟩ := Mk.ok_true hm
  clear hm
  refine (callsIn_wide (n := 9)).1 ?_
  refine callsIn_of_wp_marks Try.func63 rfl trivial ?_ rfl
  refine wpIn_wide.2 ?_
  simp only [Try.ntmps63, List.size_toArray, List.length_cons, List.length_nil, Nat.reduceAdd, Nat.reduceSub, Array.replicate_succ, Array.replicate_zero, List.push_toArray, List.append_toArray, List.nil_append, List.cons_append]
  go_wp2_with fail
  refine (isMaker_any m _).mono ?_
  rw [HM.out]
  rintro e w1 ⟨rfl, b1⟩
  have c1 := below_trans' b0 b1
  have hsz1 : w.heap.size + 4 ≤ w1.heap.size := by have := b1.size; rw [hs] at this; omega
  have x1 := hx.on b1
  have hv1 := hv.below b1 (by rw [hs]; omega)
  have kc1 := (b1.cell (p := ⟨w.heap.size + 1, 0, none⟩) (by rw [hs]; show w.heap.size + 1 < _; omega)).trans kc
  clear b0 b1 hx hv kc k1 hs
  have x4 := x1.alloc (.cells #[.int .i64 0] 2)
  obtain ⟨q0, q1, q2, q3, q4⟩ := x4.cells
  go_wp2_with fail
  clear q0 q1 q2 q3 q4
  have hsz4 : (w1.alloc (.cells #[.int .i64 0] 2)).heap.size = w1.heap.size + 1 := World.size_alloc _ _
  have ki := cell_at (heap_alloc_new w1 (.cells #[.int .i64 0] 2))
  have bl := (Below.refl w1.heap.size w1).alloc (Nat.le_refl _) (.cells #[.int .i64 0] 2)
  have hv4 := hv1.below bl (by omega)
  have kc4 := (bl.cell (p := ⟨w.heap.size + 1, 0, none⟩) (by show w.heap.size + 1 < _; omega)).trans kc1
  have c4 := c1.alloc c1.size (.cells #[.int .i64 0] 2)
  refine (wpIn_wide (n := 9)).1 ?_
  refine wpIn_lent rfl (by omega) (gf := 112) (rb := #[.agg #[.int .i64 m.C, .int .i64 m.D, .int .i64 m.S, .int .i64 m.M, .int .i64 m.L]]) (lb := #[]) rfl trivial (enters_of Try.func112 (by kernel_rfl) rfl) (keys_lend m HM.out 8 _) (Below.refl _ _) rfl
    (fun pre W => (W.cell? ⟨w1.heap.size, 0, none⟩ = some (.int .i64 (pre.length : Int)) ∧ W.frozen? ⟨w1.heap.size, 0, none⟩ = false) ∧ W.cell? ⟨w.heap.size + 1, 0, none⟩ = some (.int .i64 r) ∧ Vars W (w.heap.size + 1 + 1) (.slice none 0 0) 0 ∧ Hid (∀ j : Nat, j < pre.length → (j : Int) ≠ r) ∧ Below w.heap.size w W)
    (fun cd pre W => Hid (cd = .ret ∧ ∃ p x, pre = p ++ [x] ∧ (p.length : Int) = r ∧ ∃ A2 c2, Vars W (w.heap.size + 1 + 1) (.slice A2 m.C.toNat c2) 0 ∧ Own W (w1.heap.size + 1 + 2) W.heap.size A2 m.C.toNat x ∧ m.C.toNat ≤ c2 ∧ c2 ≤ 9223372036854775807 ∧ Below w.heap.size w W))
    ?_ ?_ ⟨⟨ki.1, ki.2⟩, kc4, hv4, Lib.hid (fun j hj => absurd hj (by simp)), c4⟩
    (fun v => { tmps := #[.agg #[.int .i64 m.C, .int .i64 m.D, .int .i64 m.S, .int .i64 m.M, .int .i64 m.L], .int .i64 r, .pointer (some ⟨w.heap.size, 0, none⟩), .pointer (some ⟨w.heap.size + 1, 0, none⟩), .pointer (some ⟨w.heap.size + 1 + 1, 0, none⟩), .pointer (some ⟨w.heap.size + 1 + 1 + 1, 0, none⟩), .pointer (some ⟨w1.heap.size, 0, none⟩), v, .agg #[.int .i64 m.C, .int .i64 m.D, .int .i64 m.S, .int .i64 m.M, .int .i64 m.L], .bool true, .bool false, .agg #[.int .i64 m.C, .int .i64 m.D, .int .i64 m.S, .int .i64 m.M, .int .i64 m.L], .func (.func 112) #[.agg #[.int .i64 m.C, .int .i64 m.D, .int .i64 m.S, .int .i64 m.M, .int .i64 m.L]] #[], v, undef, undef, undef, undef, undef, undef, undef], defers := [] }) ?assign ?body ?done ?stop
  · rintro s A1 C1 ⟨⟨h1, h2⟩, h3, h4, h5, h6⟩ hb
    rw [hsz4] at hb
    exact ⟨⟨(hb.cell (p := ⟨w1.heap.size, 0, none⟩) (by simp)).trans h1, (hb.frozen (p := ⟨w1.heap.size, 0, none⟩) (by simp)).trans h2⟩, (hb.cell (p := ⟨w.heap.size + 1, 0, none⟩) (by show w.heap.size + 1 < _; omega)).trans h3, h4.below hb (by omega), h5, h6.trans (hb.mono (by omega))⟩
  · rintro cd s A1 o h
    rw [hsz4]
    have hb := below_putObj (B := w1.heap.size + 1) (l := w1.heap.size + 1 + 1) A1 o (by omega)
    obtain ⟨h0, p, x, h1, h2, A2, c2, h3, h4, h5, h6, h7⟩ := h.out
    exact Lib.hid ⟨h0, p, x, h1, h2, A2, c2, h3.below hb (by omega), h4.above (Above.putObj A1 o (by omega : w1.heap.size + 1 + 1 < w1.heap.size + 1 + 2)) (Nat.le_refl _), h5, h6, h7.trans (hb.mono (by omega))⟩
  case assign =>
    intro l v W K hK
    gi_wp2
    exact hK
  case body =>
    rintro l pre x v W ⟨⟨h1, h2⟩, h3, h4, h5, h6⟩ hM hsz hL
    rw [hsz4] at hsz hL ⊢
    obtain ⟨a, rfl, hown⟩ := hL
    have hlen : pre.length < 262144 := by
      obtain ⟨R, e⟩ := hM
      have := Nat.le_trans (keys_count m4 m.C.toNat []) (pow8 (by omega))
      have e2 := congrArg List.length e
      simp only [List.length_append, List.length_cons, List.length_nil] at e2
      unfold allKeys at e2
      omega
    have g1 : IntKind.i64.wrap ((pre.length : Int) + 1) = (pre.length : Int) + 1 := IntWalk.i64_in _ (by omega)
    have HC1 := Lib.hid h1
    have HC3 := Lib.hid h3
    have HF := Lib.hid h2
    have HV := Lib.hid h4
    have HB := Lib.hid h6
    have HO := Lib.hid hown
    have HP := Lib.hid h5
    have hs6 := h6.size
    by_cases hr : (pre.length : Int) = r
    · have hd : ((pre.length : Int) == r) = true := by simpa using hr
      have HR := Lib.hid hr
      clear hr h4 h5 h6 hown hM g1
      gi_wp2_with fail
      refine ⟨trivial, (CallsIn.inRound l (callsIn_wide.2 (clone_any a m.C.toNat m.C.toNat x _ HO.out.ints (by omega) (by omega)))).mono ?_⟩
      rintro e w2 ⟨A2, c2, rfl, o2, hc2, hcm2, b2⟩
      have hs2 := b2.size
      have V2 := HV.out.below b2 (by omega)
      have HV3 := Lib.hid (V2.put (.slice A2 m.C.toNat c2) 0)
      have a1 := Above.setCell (B := w1.heap.size + 1) (p := ⟨w.heap.size + 1 + 1, 0, none⟩) w2 (.slice A2 m.C.toNat c2) (by show w.heap.size + 1 + 1 < _; omega)
      have a2 := a1.trans (Above.setCell (B := w1.heap.size + 1) (p := ⟨w.heap.size + 1 + 1 + 1, 0, none⟩) _ (.int .i64 0) (by show w.heap.size + 1 + 1 + 1 < _; omega))
      have HO3 := Lib.hid ((o2.above a2 (by omega)).more (show w1.heap.size + 1 + 2 ≤ W.heap.size by omega) (Nat.le_refl _) (Nat.le_refl _))
      have HA := Lib.hid ((Above.of_below (B := w1.heap.size + 1) b2).trans a2)
      have HB3 := Lib.hid (((HB.out.trans (b2.mono hs6)).setCell (p := ⟨w.heap.size + 1 + 1, 0, none⟩) (by show w.heap.size ≤ w.heap.size + 1 + 1; omega) (.slice A2 m.C.toNat c2)).setCell (p := ⟨w.heap.size + 1 + 1 + 1, 0, none⟩) (by show w.heap.size ≤ w.heap.size + 1 + 1 + 1; omega) (.int .i64 0))
      have hne : ∀ W : World, (W.setCell ⟨w.heap.size + 1 + 1, 0, none⟩ (.slice A2 m.C.toNat c2)).cell? ⟨w.heap.size + 1 + 1 + 1, 0, none⟩ = W.cell? ⟨w.heap.size + 1 + 1 + 1, 0, none⟩ := fun W => World.cell?_setCell_other _ _ _ _ (by intro e; have := congrArg Addr.block e; simp at this)
      obtain ⟨p1, p2, p3, p4⟩ := V2
      clear b2 o2 a1 a2 h1 h2 h3
      gi_wp2
      exact ⟨HA.out, Lib.hid ⟨rfl, pre, x, rfl, HR.out, A2, c2, HV3.out, HO3.out, hc2, hcm2, HB3.out⟩⟩
    · have hd : ((pre.length : Int) == r) = false := by simpa using hr
      have HR := Lib.hid hr
      clear hr h4 h5 h6 hown hM
      gi_wp2
      refine ⟨Above.setCell _ _ (by simp), ⟨⟨?_, ?_⟩, ?_, ?_, ?_, ?_⟩⟩
      · rw [List.length_append]
        exact World.cell?_setCell_same _ _ _ HC1.out
      · rw [World.frozen?_setCell]; exact HF.out
      · exact (World.cell?_setCell_other _ _ _ _ (by intro e; have := congrArg Addr.block e; simp at this; omega)).trans HC3.out
      · exact HV.out.below ((Below.refl w1.heap.size W).setCell (p := ⟨w1.heap.size, 0, none⟩) (Nat.le_refl _) _) (by omega)
      · exact Lib.hid (fun j hj => by
          rw [List.length_append] at hj
          rcases Nat.lt_or_ge j pre.length with h | h
          · exact HP.out j h
          · have : j = pre.length := by simp at hj; omega
            rw [this]; exact HR.out)
      · exact HB.out.setCell (p := ⟨w1.heap.size, 0, none⟩) (by show w.heap.size ≤ w1.heap.size; omega) _
  case done =>
    rintro ys W rfl ⟨_, _, hV, hP, hB⟩ hK
    have hno : kaOk m r = false := by
      unfold kaOk
      by_cases h0 : 0 ≤ r ∧ r < ((allKeys m).length : Int)
      · exact absurd (by omega) (hP.out r.toNat (by omega))
      · rw [Bool.and_eq_false_iff, decide_eq_false_iff_not, decide_eq_false_iff_not]; omega
    obtain ⟨e1, e2⟩ := ka_no HM.out hno
    have E := Lib.hid (And.intro e1 e2)
    rw [hsz4] at hK
    have HV := Lib.hid (hV.put (.slice none 0 0) 4)
    have HB := Lib.hid ((hB.setCell (p := ⟨w.heap.size + 1 + 1, 0, none⟩) (by show w.heap.size ≤ w.heap.size + 1 + 1; omega) (.slice none 0 0)).setCell (p := ⟨w.heap.size + 1 + 1 + 1, 0, none⟩) (by show w.heap.size ≤ w.heap.size + 1 + 1 + 1; omega) (.int .i64 4))
    have HK := Lib.hid (((KeepsOthers.setCell W ⟨w.heap.size + 1 + 1, 0, none⟩ (.slice none 0 0)).trans (KeepsOthers.setCell _ ⟨w.heap.size + 1 + 1 + 1, 0, none⟩ (.int .i64 4))).same (w1.heap.size + 1) _ hK rfl)
    have hne : ∀ W : World, (W.setCell ⟨w.heap.size + 1 + 1, 0, none⟩ (.slice none 0 0)).cell? ⟨w.heap.size + 1 + 1 + 1, 0, none⟩ = W.cell? ⟨w.heap.size + 1 + 1 + 1, 0, none⟩ := fun W => World.cell?_setCell_other _ _ _ _ (by intro e; have := congrArg Addr.block e; simp at this)
    obtain ⟨p1, p2, p3, p4⟩ := hV
    rw [hsz4]
    clear hP hB hno e1 e2 hK
    go_wp2
    refine ⟨by simp, .inl ⟨_, _, rfl, run_takeDeferred HK.out, ?_⟩⟩
    obtain ⟨r1, _, r3, _⟩ := HV.out.below (below_putObj (B := w1.heap.size + 1) (l := w1.heap.size + 1) _ (.deferred none) (Nat.le_refl _)) (by omega)
    refine ⟨.tuple #[.slice none 0 0, .int .i64 4], by simp [results, Try.results63, go_sem, r1, r3], none, 0, 0, by rw [E.out.2], by rw [E.out.1]; exact Own.nil _ (Nat.le_refl _), by omega, by omega, by omega, HB.out.trans (below_putObj _ _ (by omega))⟩
  case stop =>
    rintro cd pre W ⟨p, x, R, e1, e2⟩ hh hK
    obtain ⟨rfl, p', x', e3, h2, A2, c2, h3, h4, h5, h6, h7⟩ := hh.out
    have e4 : p' = p ∧ x' = x := by
      rw [e2] at e3
      have := List.append_inj' e3 rfl
      exact ⟨this.1.symm, by simpa using this.2.symm⟩
    obtain ⟨rfl, rfl⟩ := e4
    obtain ⟨e5, e6⟩ := ka_yes HM.out e1 h2
    have E := Lib.hid (And.intro e5 e6)
    rw [hsz4] at hK ⊢
    refine wpIn_wide.2 ?_
    have HV := Lib.hid h3
    have HO := Lib.hid h4
    have HB := Lib.hid h7
    clear e1 e2 e3 h2 h3 h4 h7 hh e5 e6
    go_wp2
    refine ⟨by simp, .inl ⟨_, _, rfl, run_takeDeferred hK, ?_⟩⟩
    obtain ⟨r1, _, r3, _⟩ := HV.out.below (below_putObj (B := w1.heap.size + 1) (l := w1.heap.size + 1) W (.deferred none) (Nat.le_refl _)) (by omega)
    refine ⟨.tuple #[.slice A2 m.C.toNat c2, .int .i64 0], by simp [results, Try.results63, go_sem, r1, r3], A2, m.C.toNat, c2, by rw [E.out.2], ?_, by omega, h5, h6, HB.out.trans (below_putObj _ _ (by omega))⟩
    rw [E.out.1]
    exact ((HO.out.above (Above.putObj W (.deferred none) (by omega : w1.heap.size + 1 < w1.heap.size + 1 + 2)) (Nat.le_refl _)).more (by omega) (Nat.le_refl _) (Nat.le_refl _))

end Go.Proofs.Ytbadahnhlehidaa
