/- slices.Equal; RankOf of the program. -/
import Derived.Test.YtlgaocjcfdfhmaaWalk2
import Derived.Test.YtlgaocjcfdfhmaaMirror
import Derived.Test.YtlgaocjcfdfhmaaSCount
namespace Go.Proofs.Ytlgaocjcfdfhmaa
open Go Go.RowKit
attribute [local go_sem] Oper.semAt_some

theorem take_same {xs ys : List Int} {k : Nat} {v v' : Int} (h : xs.take k = ys.take k) (hv : xs[k]? = some v) (hv' : ys[k]? = some v') (e : v = v') : xs.take (k + 1) = ys.take (k + 1) := by
  obtain ⟨h1, rfl⟩ := List.getElem?_eq_some_iff.1 hv
  obtain ⟨h2, rfl⟩ := List.getElem?_eq_some_iff.1 hv'
  rw [List.take_succ_eq_append_getElem h1, List.take_succ_eq_append_getElem h2, h, e]
set_option maxHeartbeats 2000000 in
theorem equal_any (A A' : Option Addr) (n c c' : Nat) (xs ys : List Int) (w : World) (h : Ints w w.heap.size A n xs) (h' : Ints w w.heap.size A' n ys) (hn : n ≤ 1048576) :
    Calls Try.prog 52 #[.slice A n c, .slice A' n c'] w fun e w' => e = .returned (.bool (decide (xs = ys))) ∧ ∃ q, w' = w.drewN q := by
  have HL := Lib.hid (And.intro h.len h'.len)
  go_enter Try.func52, Try.ntmps52
  go_wp2
  go_loopw [13] (fun i wr => ∃ k q : Nat, k ≤ n ∧ i = .int .i64 k ∧ Hid (xs.take k = ys.take k) ∧ wr = w.drewN q) (fun i _ => n - (intOf i).toNat)
  case atStart => exact ⟨0, 0, Nat.zero_le _, rfl, Lib.hid rfl, rfl⟩
  case round =>
    obtain ⟨k, q, hk, rfl, hs, rfl⟩ := hrel
    by_cases hlt : k < n
    · obtain ⟨ad, v, rfl, hab, hv, hc⟩ := h.at_ hlt
      obtain ⟨ad', v', rfl, hab', hv', hc'⟩ := h'.at_ hlt
      have i0 : (0 : Int) ≤ (k : Int) := by omega
      have i1 : (k : Int) < (n : Int) := by omega
      by_cases e : v = v'
      · have HS := Lib.hid (take_same hs.out hv hv' e)
        clear hv hv'
        subst e
        go_wp2
        go_quiet (fail)
        go_wp2
        go_roundw
        case rel => exact ⟨k + 1, _, by omega, by go_num, HS, rfl⟩
        case measure => simp [intOf]; omega
      · have HE : Hid (decide (xs = ys) = false) := Lib.hid (decide_eq_false (fun h => e (by rw [h, hv'] at hv; injection hv with hv; exact hv.symm)))
        clear hv hv'
        go_wp2
        go_quiet (fail)
        go_wp2
        go_ret
        exact ⟨ret_bool HE.out.symm, _, World.drewN_drewN _ _ _⟩
    · have HE : Hid (decide (xs = ys) = true) := Lib.hid (decide_eq_true (by
        have := hs.out
        rwa [List.take_of_length_le (by rw [HL.out.1]; omega), List.take_of_length_le (by rw [HL.out.2]; omega)] at this))
      go_wp2
      go_ret
      exact ⟨ret_bool HE.out.symm, q, rfl⟩

def rankN (m : Mk) (xs : List Int) : Nat := (allKeys m).idxOf xs
def rkV (m : Mk) (xs : List Int) : Int := if ktE m xs = 0 then (rankN m xs : Int) else 0
theorem rk_yes {m : Mk} {xs : List Int} (h : ktE m xs = 0) : rkV m xs = rankN m xs := by unfold rkV; rw [if_pos h]
theorem rk_no {m : Mk} {xs : List Int} (h : ktE m xs ≠ 0) : rkV m xs = 0 := by unfold rkV; rw [if_neg h]
theorem idx_at {xs : List Int} : ∀ {p R : List (List Int)}, xs ∉ p → (p ++ xs :: R).idxOf xs = p.length
  | [], R, _ => by simp
  | a :: p, R, h => by
    have h1 : a ≠ xs := fun e => h (by simp [e])
    have h2 : xs ∉ p := fun e => h (by simp [e])
    rw [List.cons_append, List.idxOf_cons, List.length_cons, idx_at h2, beq_eq_false_iff_ne.2 h1]
    rfl
theorem cell_at {W : World} {b : Nat} {v : Value} {t : TypeId} (h : W.heap[b]? = some (.cells #[v] t (0, 0))) : W.cell? ⟨b, 0, none⟩ = some v ∧ W.frozen? ⟨b, 0, none⟩ = false := by
  constructor <;> simp [World.cell?, World.frozen?, h]

set_option maxRecDepth 100000 in
set_option maxHeartbeats 4000000 in
theorem rankOf_any (m : Mk) (A : Option Addr) (n c : Nat) (xs : List Int) (w : World) (h : Ints w w.heap.size A n xs) (hn : n ≤ 1048576) :
    Calls Try.prog 16 #[.agg #[.int .i64 m.C, .int .i64 m.D, .int .i64 m.S, .int .i64 m.M, .int .i64 m.L], .slice A n c] w
      fun e w' => e = .returned (.tuple #[.int .i64 (rkV m xs), .int .i64 (ktE m xs)]) ∧ Below w.heap.size w w' := by
  have b0 := (Below.refl w.heap.size w).alloc (Nat.le_refl _) (.cells #[.int .i64 m.C, .int .i64 m.D, .int .i64 m.S, .int .i64 m.M, .int .i64 m.L] 25)
  have hx := Boxed.new w 25 m
  have b1 := b0.alloc (by simp) (.cells #[.slice A n c] 26)
  have x1 := hx.alloc (.cells #[.slice A n c] 26)
  have k1 := heap_alloc_new (w.alloc (.cells #[.int .i64 m.C, .int .i64 m.D, .int .i64 m.S, .int .i64 m.M, .int .i64 m.L] 25)) (.cells #[.slice A n c] 26)
  rw [World.size_alloc] at k1
  have b2 := b1.alloc (by simp; omega) (.cells #[.slice A n c] 26)
  have x2 := x1.alloc (.cells #[.slice A n c] 26)
  have k2 := (Below.heap_alloc _ (.cells #[.slice A n c] 26) _ (heapLt k1)).trans k1
  have hl := Lists.one (c := c) 26 (h.on b1) hn
  rw [World.size_alloc, World.size_alloc] at hl
  by_cases hz : ktE m xs = 0
  · obtain ⟨hm, hk⟩ := kt_key hz
    rw [rk_yes hz, hz]
    have HZ := Lib.hid (show codeF m [xs] = 0 by rw [code_one]; exact hz)
    obtain ⟨_, hlen, _⟩ := key_facts hk
    have hnC : n = m.C.toNat := by have := h.len; omega
    subst hnC
    have HM := Lib.hid (And.intro hm hk)
    obtain ⟨m1, m2, m3, m4, m5, m6, m7, m8, m9, m10, m11⟩ := Mk.ok_true hm
    have hsz2 : w.heap.size + 3 ≤ (((w.alloc (.cells #[.int .i64 m.C, .int .i64 m.D, .int .i64 m.S, .int .i64 m.M, .int .i64 m.L] 25)).alloc (.cells #[.slice A m.C.toNat c] 26)).alloc (.cells #[.slice A m.C.toNat c] 26)).heap.size := by simp
    clear hz hm hk hlen
    refine (callsIn_wide (n := 9)).1 ?_
    refine callsIn_of_wp_marks Try.func16 rfl trivial ?_ rfl
    refine wpIn_wide.2 ?_
    simp only [Try.ntmps16, List.size_toArray, List.length_cons, List.length_nil, Nat.reduceAdd, Nat.reduceSub, Array.replicate_succ, Array.replicate_zero, List.push_toArray, List.append_toArray, List.nil_append, List.cons_append]
    obtain ⟨ck1, fk1⟩ := cell_at k1
    go_wp2_with fail
    refine (codeFor_any m _ 1 _ [xs] _ hl (by omega)).mono ?_
    rw [HZ.out]
    rintro e w1 ⟨rfl, b3⟩
    have hs3 := b3.size
    have c1 := below_trans' b2 b3
    have x3 := x2.on b3
    have k3 := (b3.block _ (heapLt k2)).trans k2
    obtain ⟨ck3, fk3⟩ := cell_at k3
    have x4 := x3.alloc (.cells #[.int .i64 0] 2)
    obtain ⟨q0, q1, q2, q3, q4⟩ := x4.cells
    clear hl b0 b1 b2 b3 hx x1 x2 k1 k2 ck1 fk1
    go_wp2_with fail
    clear q0 q1 q2 q3 q4
    have hsz4 : (w1.alloc (.cells #[.int .i64 0] 2)).heap.size = w1.heap.size + 1 := World.size_alloc _ _
    have ki := cell_at (heap_alloc_new w1 (.cells #[.int .i64 0] 2))
    have ck4 := (cell_at ((Below.heap_alloc w1 (.cells #[.int .i64 0] 2) _ (heapLt k3)).trans k3)).1
    have c4 := c1.alloc c1.size (.cells #[.int .i64 0] 2)
    refine (wpIn_wide (n := 9)).1 ?_
    refine wpIn_lent rfl (by omega) (gf := 51) (rb := #[.agg #[.int .i64 m.C, .int .i64 m.D, .int .i64 m.S, .int .i64 m.M, .int .i64 m.L]]) (lb := #[]) rfl trivial (enters_of Try.func51 (by kernel_rfl) rfl) (keys_lend m HM.out.1 8 _) (Below.refl _ _) rfl
      (fun pre W => (W.cell? ⟨w1.heap.size, 0, none⟩ = some (.int .i64 (pre.length : Int)) ∧ W.frozen? ⟨w1.heap.size, 0, none⟩ = false) ∧ W.cell? ⟨w.heap.size + 1, 0, none⟩ = some (.slice A m.C.toNat c) ∧ Hid (xs ∉ pre) ∧ Below w.heap.size w W)
      (fun cd pre W => Hid (cd = .exit 0 ∧ ∃ p, pre = p ++ [xs] ∧ xs ∉ p ∧ W.cell? ⟨w1.heap.size, 0, none⟩ = some (.int .i64 (p.length : Int)) ∧ Below w.heap.size w W))
      ?_ ?_ ⟨⟨ki.1, ki.2⟩, ck4, Lib.hid (by simp), c4⟩
      (fun v => { tmps := #[.agg #[.int .i64 m.C, .int .i64 m.D, .int .i64 m.S, .int .i64 m.M, .int .i64 m.L], .slice A m.C.toNat c, .pointer (some ⟨w.heap.size, 0, none⟩), .pointer (some ⟨w.heap.size + 1, 0, none⟩), .int .i64 0, .int .i64 0, .int .i64 0, .pointer (some ⟨w1.heap.size, 0, none⟩), v, .agg #[.int .i64 m.C, .int .i64 m.D, .int .i64 m.S, .int .i64 m.M, .int .i64 m.L], .slice A m.C.toNat c, .slice (some ⟨w.heap.size + 1 + 1, 0, none⟩) 1 1, .int .i64 0, .int .i64 0, .bool false, undef, .agg #[.int .i64 m.C, .int .i64 m.D, .int .i64 m.S, .int .i64 m.M, .int .i64 m.L], .func (.func 51) #[.agg #[.int .i64 m.C, .int .i64 m.D, .int .i64 m.S, .int .i64 m.M, .int .i64 m.L]] #[], v, undef, undef, undef, undef, undef, undef], defers := [] }) ?assign ?body ?done ?stop
    · -- what is said between two rounds
      rintro s A1 C1 ⟨⟨h1, h2⟩, h3, h4, h5⟩ hb
      rw [hsz4] at hb
      exact ⟨⟨(hb.cell (p := ⟨w1.heap.size, 0, none⟩) (by simp)).trans h1, (hb.frozen (p := ⟨w1.heap.size, 0, none⟩) (by simp)).trans h2⟩, (hb.cell (p := ⟨w.heap.size + 1, 0, none⟩) (by simp; omega)).trans h3, h4, h5.trans (hb.mono (by have := c1.size; omega))⟩
    · rintro cd s A1 o h
      rw [hsz4]
      have hb := below_putObj (B := w1.heap.size + 1) (l := w1.heap.size + 1 + 1) A1 o (by omega)
      obtain ⟨h0, p, h1, h2, h3, h4⟩ := h.out
      exact Lib.hid ⟨h0, p, h1, h2, (hb.cell (p := ⟨w1.heap.size, 0, none⟩) (by simp)).trans h3, h4.trans (hb.mono (by have := c1.size; omega))⟩
    case assign =>
      intro l v W K hK
      gi_wp2
      exact hK
    case body =>
      rintro l pre x v W ⟨⟨h1, h2⟩, h3, h4, h5⟩ hM hsz hL
      rw [hsz4] at hsz hL
      obtain ⟨a, rfl, hown⟩ := hL
      have HI := Lib.hid ((h.below h5).more h5.size)
      have HXI := Lib.hid hown.ints
      have hlen : pre.length < 262144 := by
        obtain ⟨R, e⟩ := hM
        have := Nat.le_trans (keys_count m4 m.C.toNat []) (pow8 (by omega))
        have e2 := congrArg List.length e
        simp only [List.length_append, List.length_cons, List.length_nil] at e2
        unfold allKeys at e2
        omega
      have HB := Lib.hid h5
      have HP := Lib.hid h4
      have g1 : IntKind.i64.wrap ((pre.length : Int) + 1) = (pre.length : Int) + 1 := IntWalk.i64_in _ (by omega)
      have HC1 := Lib.hid h1
      have HC3 := Lib.hid h3
      have HF := Lib.hid h2
      have hs1 : w.heap.size + 3 ≤ w1.heap.size := by omega
      clear h4 h5 hown hM
      by_cases hxe : x = xs
      · have hd : decide (x = xs) = true := decide_eq_true hxe
        have HE := Lib.hid hxe
        clear hxe
        gi_wp2_with fail
        refine ⟨trivial, (CallsIn.inRound l (callsIn_wide.2 (equal_any _ _ _ _ _ x xs _ HXI.out HI.out hn))).mono ?_⟩
        rintro e w2 ⟨rfl, q, rfl⟩
        gi_wp2
        exact ⟨Above.drewN _ _ q, Lib.hid ⟨rfl, pre, by rw [HE.out], HP.out, HC1.out, below_drewN HB.out q⟩⟩
      · have hd : decide (x = xs) = false := decide_eq_false hxe
        have HE := Lib.hid hxe
        clear hxe
        gi_wp2_with fail
        refine ⟨trivial, (CallsIn.inRound l (callsIn_wide.2 (equal_any _ _ _ _ _ x xs _ HXI.out HI.out hn))).mono ?_⟩
        rintro e w2 ⟨rfl, q, rfl⟩
        gi_wp2
        refine ⟨(Above.drewN _ _ q).trans (Above.setCell _ _ (by simp)), ⟨⟨?_, ?_⟩, ?_, ?_, ?_⟩⟩
        · rw [List.length_append]
          exact World.cell?_setCell_same _ _ _ HC1.out
        · rw [World.frozen?_setCell]; exact HF.out
        · exact (World.cell?_setCell_other _ _ _ _ (by intro e; have := congrArg Addr.block e; simp at this; omega)).trans HC3.out
        · exact Lib.hid (by rw [List.mem_append]; rintro (e | e); exact HP.out e; exact HE.out (List.mem_singleton.1 e).symm)
        · exact (below_drewN HB.out q).setCell (p := ⟨w1.heap.size, 0, none⟩) (by simp; omega) _
    case done =>
      rintro ys W rfl ⟨_, _, h4, _⟩ _
      obtain ⟨A2, e⟩ := all_at HM.out.2
      exact absurd (by rw [e]; simp) h4.out
    case stop =>
      rintro cd pre W ⟨p, x, R, e1, e2⟩ hh hK
      obtain ⟨rfl, p', e3, h2, h3, h4⟩ := hh.out
      have e4 : p' = p ∧ xs = x := by
        rw [e2] at e3
        have := List.append_inj' e3 rfl
        simpa using And.intro this.1.symm (by simpa using this.2.symm)
      obtain ⟨rfl, rfl⟩ := e4
      have HR : Hid (rankN m xs = p'.length) := Lib.hid (by unfold rankN; rw [e1]; exact idx_at h2)
      have HB := Lib.hid h4
      rw [hsz4] at hK ⊢
      refine wpIn_wide.2 ?_
      clear e1 e2 e3 h2 h4 hh
      go_wp2
      refine ⟨by simp, .inl ⟨_, _, rfl, run_takeDeferred hK, ?_⟩⟩
      refine ⟨_, results_tmp2 rfl _ _ _, ?_, HB.out.trans (below_putObj _ _ (by omega))⟩
      show Ending.returned (.tuple #[.int .i64 (p'.length : Int), .int .i64 0]) = _
      rw [HR.out]
  · rw [rk_no hz]
    obtain ⟨v, hv⟩ : ∃ v, ktE m xs = v := ⟨_, rfl⟩
    rw [hv] at hz ⊢
    have HV := Lib.hid (show codeF m [xs] = v by rw [code_one]; exact hv)
    have hq : (v != 0) = true := by simpa using hz
    obtain ⟨ck1, fk1⟩ := cell_at k1
    clear hz hv
    go_enter Try.func16, Try.ntmps16
    go_wp2_with fail
    refine (codeFor_any m _ 1 _ [xs] _ hl (by omega)).mono ?_
    rw [HV.out]
    rintro e w1 ⟨rfl, b3⟩
    have c1 := below_trans' b2 b3
    clear hl b0 b1 b2 b3 hx x1 x2 k1 k2 ck1 fk1
    go_wp2
    go_ret2
    exact ⟨rfl, c1⟩

end Go.Proofs.Ytlgaocjcfdfhmaa
