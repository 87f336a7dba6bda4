/- FreePlaces of the program. -/
import Derived.Test.YtbfnffecmglgfaaYield1
import Derived.Test.YtbfnffecmglgfaaWearL
import Derived.Maps.OwnIn
namespace Go.Proofs.Ytbfnffecmglgfaa
open Go Go.RowKit
attribute [local go_sem] Oper.semAt_some

theorem index6 (vs : Nat → Nat) (i : Nat) (hi : i < 6) (w : World) : (Instr.index 104 (.agg #[.int .u8 (vs 0 : Nat), .int .u8 (vs 1 : Nat), .int .u8 (vs 2 : Nat), .int .u8 (vs 3 : Nat), .int .u8 (vs 4 : Nat), .int .u8 (vs 5 : Nat)]) (.int .i64 (i : Int))).run Try.prog w = .ok (.int .u8 (vs i : Nat)) w :=
  match i, hi with
  | 0, _ => by kernel_rfl
  | 1, _ => by kernel_rfl
  | 2, _ => by kernel_rfl
  | 3, _ => by kernel_rfl
  | 4, _ => by kernel_rfl
  | 5, _ => by kernel_rfl
theorem field6 (m : Mk) (vs : Nat → Nat) (w : World) : (Instr.field 106 (.agg #[.int .i64 m.C, .int .i64 m.D, .int .i64 m.S, .int .i64 m.M, .int .i64 m.L, .int .u8 (vs 0 : Nat), .int .u8 (vs 1 : Nat), .int .u8 (vs 2 : Nat), .int .u8 (vs 3 : Nat), .int .u8 (vs 4 : Nat), .int .u8 (vs 5 : Nat)]) 1).run Try.prog w = .ok (.agg #[.int .u8 (vs 0 : Nat), .int .u8 (vs 1 : Nat), .int .u8 (vs 2 : Nat), .int .u8 (vs 3 : Nat), .int .u8 (vs 4 : Nat), .int .u8 (vs 5 : Nat)]) w := by kernel_rfl
/-- append inside a round, with what is known of where the row lies -/
theorem wpListIn_append_lies {F : Fence} {nF : Nat} {P : Program} (w : World) {ops : Array Oper} {rest : List Oper} {o : Oper} {a : Act} {Q : Exit → Act → World → Prop} (hgd : o.guard = none) (s x : Operand) (t : TypeId)
    (ho : o.op = .call { callee := .builtin .append, args := #[s, x], argTypes := #[t, t] })
    (base : Nat) (e : TypeId) (i : TypeInfo) (z : Value) (size bytes : Nat) (ht : P.underlying t = some (.slice e)) (hi : P.info? e = some i) (hz : i.zero = some z)
    (hsize : i.size = size) (hby : i.bytes = bytes) (hzs : z.cells.size = size) (hsz : 0 < size)
    (v : Value) (n : Nat) (xs : List Value) (hs : a.eval s = v) (hown : w.ownsRow base e size v n xs)
    (ad : Addr) (m c : Nat) (news : List Value) (hx : a.eval x = .slice (some ad) m c) (hl : news.length = m * size) (hnews : ∀ j u, news[j]? = some u → w.cell? (ad.add j) = some u) (h1 : ∀ u ∈ news, u.oneCell' = true)
    (hm : 0 < m) (h63 : n + m ≤ maxLen) (hbytes : (n + m) * bytes ≤ 140737488355328) (hbase : base ≤ w.heap.size) (H : Nat) (hH : w.heap.size = H)
    (h : ∀ g cap w', w'.ownsRow base e size (.slice (some ⟨g, 0, none⟩) (n + m) cap) (n + m) (xs ++ news) → w.grownBy w' v.ownBlock → (v.ownBlock = some g ∨ g = H) → g < w'.heap.size → wpListIn F nF P ops Q rest (a.put o.dst (.slice (some ⟨g, 0, none⟩) (n + m) cap)) w') :
    wpListIn F nF P ops Q (o :: rest) a w := by
  refine wpListIn_plain hgd fun K hK => ?_
  obtain ⟨g, cap, w', hr, h2, h3, h4, h5⟩ := run_append_lies (P := P) (w := w) t o.type base e i z size bytes ht hi hz hsize hby hzs hsz v n xs hown ad m c news hl hnews h1 hm h63 hbytes hbase H hH
  unfold Oper.wpIn
  refine ⟨by simp [Oper.about, ho, resolve, Target.leads, Sem.run_pure], ?_⟩
  rw [Oper.semAt_plain F _ _ (by rw [ho]; intro c hc'; cases hc')]
  simp [execOp, ho, resolve, invoke, builtin, hs, hx, hr, Result.andThen]
  exact hK _ _ (h g cap w' h2 h3 h4 h5)
theorem rowKeep {w w2 : World} {base t s n : Nat} {v : Value} {xs : List Value} (h : w.ownsRow base t s v n xs) (hb : ∀ g, v.ownBlock = some g → w2.heap[g]? = w.heap[g]?) : w2.ownsRow base t s v n xs := by
  refine ⟨h.1, ?_⟩
  rcases h.2 with h0 | ⟨g, cap, cur, e, h1, hg, rest⟩
  · exact .inl h0
  · exact .inr ⟨g, cap, cur, e, h1, (hb g (by rw [e]; rfl)).trans hg, rest⟩
theorem freeTo_bits {p : Nat → Bool} {v : Nat} (h : p = fun d => v.testBit d) (t : Int) (k : Nat) : freeTo p t k = (frT (fun d => v.testBit d) t k).map (fun (x : Nat) => (x : Int)) := by rw [h]; rfl
theorem fp_bad {m : Mk} {yss : List (List Int)} {ch t : Int} (h : lockB m yss = false) : fpE m yss ch t = 1 ∧ fpL m yss ch t = [] := by simp [fpE, fpL, h]
theorem fp_no {m : Mk} {yss : List (List Int)} {ch t : Int} (h : lockB m yss = true) (h2 : (isTol t && inB ch 0 (m.C - 1)) = false) : fpE m yss ch t = 2 ∧ fpL m yss ch t = [] := by unfold fpE fpL; rw [h, h2]; exact ⟨rfl, rfl⟩
theorem fp_yes {m : Mk} {yss : List (List Int)} {ch t : Int} (h : lockB m yss = true) (h2 : (isTol t && inB ch 0 (m.C - 1)) = true) : fpE m yss ch t = 0 ∧ fpL m yss ch t = freeTo (setP yss ch.toNat) t (70 + t + 1).toNat := by unfold fpE fpL; rw [h, h2]; exact ⟨rfl, rfl⟩

theorem frT_len (p : Nat → Bool) (t : Int) (k : Nat) : (frT p t k).length ≤ k := by
  unfold frT
  exact Nat.le_trans (List.length_filter_le _ _) (by simp)
/-- the list of free places, under way: where its row lies -/
structure FreeI (w W : World) (b B : Nat) (pre : List Nat) : Prop where
  row : ∃ v : Value, Cell1 W (b + 1) 39 v ∧ W.ownsRow b 2 1 v pre.length (intsV (pre.map (fun (x : Nat) => (x : Int)))) ∧ ∀ g, v.ownBlock = some g → (g < B ∨ B + 3 ≤ g) ∧ g ≠ b + 1
  c : Below w.heap.size w W

set_option maxRecDepth 100000 in
set_option maxHeartbeats 8000000 in
theorem freePlaces_any (m : Mk) (V : Option Addr) (n c : Nat) (yss : List (List Int)) (ch t : Int) (w : World) (h : Sets w w.heap.size V n yss) (hn : n + sizeL yss ≤ 1048576) :
    Calls Try.prog 65 #[.agg #[.int .i64 m.C, .int .i64 m.D, .int .i64 m.S, .int .i64 m.M, .int .i64 m.L], .agg #[.slice V n c], .int .i64 ch, .int .i64 t] w (GivesList w (fpE m yss ch t) (fpL m yss ch t)) := by
  have K0 := Lib.hid (IArg.new w m V n c)
  have HS := Lib.hid h
  have HN := Lib.hid hn
  clear h hn
  obtain ⟨q0, q1, q2, q3, q4, ck⟩ := K0.out.cells
  rcases hL : lockB m yss with _ | _
  · have HE := Lib.hid (fp_bad (ch := ch) (t := t) hL)
    rw [HE.out.1, HE.out.2]
    go_enter Try.func65, Try.ntmps65
    go_wp2_with fail
    refine (isLock_any m _ _ _ yss _ (HS.out.on K0.out.c) HN.out).mono ?_
    rw [hL]
    rintro e w1 ⟨rfl, b1⟩
    have c1 := (K0.out.on b1).c
    clear q0 q1 q2 q3 q4 ck
    go_wp2
    go_ret2
    exact ⟨none, 0, 0, rfl, Own.nil _ (Nat.le_refl _), by omega, by omega, by omega, c1⟩
  have HLL := Lib.hid hL
  obtain ⟨hm, hCn, _⟩ := lockB_facts hL
  obtain ⟨m1, m2, m3, m4, m5, m6, m7, m8, m9, m10, m11⟩ := Mk.ok_true hm
  have g1 : IntKind.i64.wrap (m.C - 1) = m.C - 1 := IntWalk.i64_in _ (by omega)
  clear m3 m4 m5 m6 m7 m8 m9 m10 m11 hm hCn
  rcases hT : isTol t with _ | _
  · have HE := Lib.hid (fp_no (ch := ch) (t := t) hL (by rw [hT]; rfl))
    rw [HE.out.1, HE.out.2]
    clear hL
    go_enter Try.func65, Try.ntmps65
    go_wp2_with fail
    refine (isLock_any m _ _ _ yss _ (HS.out.on K0.out.c) HN.out).mono ?_
    rw [HLL.out]
    rintro e w1 ⟨rfl, b1⟩
    have K1 := Lib.hid (K0.out.on b1)
    have c1 := K1.out.c
    clear q0 q1 q2 q3 q4 ck
    go_wp2_with fail
    refine (isTolerance_any t _).mono ?_
    rw [hT]
    rintro e w2 ⟨rfl, rfl⟩
    go_wp2
    go_ret2
    exact ⟨none, 0, 0, rfl, Own.nil _ (Nat.le_refl _), by omega, by omega, by omega, c1⟩
  rcases hC : inB ch 0 (m.C - 1) with _ | _
  · have HE := Lib.hid (fp_no (ch := ch) (t := t) hL (by rw [hC]; simp))
    rw [HE.out.1, HE.out.2]
    clear hL
    go_enter Try.func65, Try.ntmps65
    go_wp2_with fail
    refine (isLock_any m _ _ _ yss _ (HS.out.on K0.out.c) HN.out).mono ?_
    rw [HLL.out]
    rintro e w1 ⟨rfl, b1⟩
    have K1 := Lib.hid (K0.out.on b1)
    have c1 := K1.out.c
    clear q0 q1 q2 q3 q4 ck
    obtain ⟨q0, q1, q2, q3, q4, ck⟩ := K1.out.cells
    go_wp2_with fail
    refine (isTolerance_any t _).mono ?_
    rw [hT]
    rintro e w2 ⟨rfl, rfl⟩
    go_wp2_with fail
    refine (isWithin_at _ _ _ _ _ hC).mono ?_
    rintro e w2 ⟨rfl, rfl⟩
    go_wp2
    go_ret2
    exact ⟨none, 0, 0, rfl, Own.nil _ (Nat.le_refl _), by omega, by omega, by omega, c1⟩
  have HE := Lib.hid (fp_yes (ch := ch) (t := t) hL (by rw [hT, hC]; rfl))
  obtain ⟨t0, t4⟩ := tol_facts hT
  obtain ⟨c0, c5⟩ := inB_true.1 hC
  obtain ⟨tn, rfl⟩ : ∃ tn : Nat, t = (tn : Int) := ⟨t.toNat, by omega⟩
  obtain ⟨cn, rfl⟩ : ∃ cn : Nat, ch = (cn : Int) := ⟨ch.toNat, by omega⟩
  obtain ⟨vs, hvs⟩ : ∃ vs, bitsOf yss = vs := ⟨_, rfl⟩
  have HVL : Hid (∀ i, vs i < 256) := Lib.hid (by rw [← hvs]; exact bitsOf_lt hL)
  have HVP : Hid (∀ i, setP yss i = fun d => (vs i).testBit d) := Lib.hid (by intro i; funext d; rw [← bitsOf_set hL, hvs]; rfl)
  have HVS := Lib.hid hvs
  have HR : Hid (fpL m yss (cn : Int) (tn : Int) = (frT (fun d => (vs cn).testBit d) (tn : Int) (70 + tn + 1)).map (fun (x : Nat) => (x : Int))) := Lib.hid (by
    rw [HE.out.2, show ((cn : Int)).toNat = cn by omega, show (70 + (tn : Int) + 1).toNat = 70 + tn + 1 by omega, freeTo_bits (HVP.out cn)])
  rw [HE.out.1, HR.out]
  have hc6 : cn < 6 := by omega
  have hix := index6 vs cn hc6
  have hfd := field6 m vs
  have HTC := Lib.hid (And.intro hT hC)
  have i0 : (0 : Int) ≤ (cn : Int) := by omega
  have i6 : (cn : Int) < 6 := by omega
  obtain ⟨ii, hi0, hz0, hz1, hz2⟩ := info_parts Try.info2'
  have HF := Lib.hid (And.intro hi0 (And.intro hz0 (And.intro hz1 hz2)))
  clear hvs hL hT hC HE hi0 hz0 hz1 hz2
  refine (callsIn_wide (n := 9)).1 ?_
  refine callsIn_of_wp_marks Try.func65 rfl trivial ?_ rfl
  refine wpIn_wide.2 ?_
  simp only [Try.ntmps65, List.size_toArray, List.length_cons, List.length_nil, Nat.reduceAdd, Nat.reduceSub, Array.replicate_succ, Array.replicate_zero, List.push_toArray, List.append_toArray, List.nil_append, List.cons_append]
  go_wp2_with fail
  refine (isLock_any m _ _ _ yss _ (HS.out.on K0.out.c) HN.out).mono ?_
  rw [HLL.out]
  rintro e w1 ⟨rfl, b1⟩
  have K1 := Lib.hid (K0.out.on b1)
  clear q0 q1 q2 q3 q4 ck K0 b1
  obtain ⟨q0, q1, q2, q3, q4, ck⟩ := K1.out.cells
  go_wp2_with fail
  refine (isTolerance_any _ _).mono ?_
  rw [HTC.out.1]
  rintro e w2 ⟨rfl, rfl⟩
  go_wp2_with fail
  refine (isWithin_at _ _ _ _ _ HTC.out.2).mono ?_
  rintro e w2 ⟨rfl, rfl⟩
  have bA := (Below.refl w1.heap.size w1).alloc (Nat.le_refl _) (.cells #[] 2)
  have bB := bA.alloc (by simp) (.cells #[.slice (some ⟨w1.heap.size, 0, none⟩) 0 0] 39)
  have K2 := Lib.hid (K1.out.on bB)
  have R2 := rowBelow (rowNil (w := w1) (t := 2) (s := 1) (base := w1.heap.size) (Nat.le_refl _)) ((Below.refl _ _).alloc (Nat.le_refl _) (.cells #[.slice (some ⟨w1.heap.size, 0, none⟩) 0 0] 39))
  have X2 := Cell1.new (w1.alloc (.cells #[] 2)) 39 (.slice (some ⟨w1.heap.size, 0, none⟩) 0 0)
  rw [World.size_alloc] at X2
  have hz1 := K1.out.c.size
  clear q0 q1 q2 q3 q4 ck K1 bA bB
  obtain ⟨q0, q1, q2, q3, q4, ck⟩ := K2.out.cells
  go_wp2_with fail
  refine (inBits_any m _ _ _ yss _ (HS.out.on K2.out.c) HLL.out vs HVS.out).mono ?_
  rintro e w3 ⟨rfl, b3⟩
  have c3 := (K2.out.on b3).c
  have R3 := rowBelow R2 b3
  have X3 := X2.on b3
  have hz3 : w1.heap.size + 1 < w3.heap.size := X3.lt
  clear q0 q1 q2 q3 q4 ck K2 R2 X2 b3
  go_wp2_with fail
  clear hix hfd
  refine (wpIn_wide (n := 9)).1 ?_
  refine wpIn_yield1 rfl (by omega) (gf := 132) (rb := #[.agg #[.int .u8 (vs cn : Nat), .int .i64 (tn : Int)]]) (lb := #[]) rfl trivial (enters_of Try.func132 (by kernel_rfl) rfl) (loose_yield1 (vs cn) tn (HVL.out cn) (by omega) 8 _) (Below.refl _ _) rfl
    (fun pre W => FreeI w W w1.heap.size w3.heap.size pre)
    (fun _ _ _ => False)
    ?_ ?_ ?_ ⟨⟨_, X3, R3, fun g e => by have e2 : w1.heap.size = g := by simpa [Value.ownBlock] using e
                                        omega⟩, c3⟩
    (fun u => { tmps := #[.agg #[.int .i64 m.C, .int .i64 m.D, .int .i64 m.S, .int .i64 m.M, .int .i64 m.L], .agg #[.slice V n c], .int .i64 (cn : Int), .int .i64 (tn : Int), .pointer (some ⟨w.heap.size, 0, none⟩), .pointer (some ⟨w.heap.size + 1, 0, none⟩), undef, undef, .slice none 0 0, .int .i64 0, .pointer (some ⟨w1.heap.size + 1, 0, none⟩), u, .agg #[.int .i64 m.C, .int .i64 m.D, .int .i64 m.S, .int .i64 m.M, .int .i64 m.L], .agg #[.slice V n c], .bool true, .bool false, .int .i64 (tn : Int), .bool true, .bool false, .bool false, .int .i64 (cn : Int), .pointer (some ⟨w.heap.size, 0, none⟩), .int .i64 m.C, .int .i64 (m.C - 1), .bool true, .bool false, .bool false, .slice (some ⟨w1.heap.size, 0, none⟩) 0 0, .agg #[.slice V n c], .agg #[.int .i64 m.C, .int .i64 m.D, .int .i64 m.S, .int .i64 m.M, .int .i64 m.L], .agg #[.int .i64 m.C, .int .i64 m.D, .int .i64 m.S, .int .i64 m.M, .int .i64 m.L, .int .u8 (vs 0 : Nat), .int .u8 (vs 1 : Nat), .int .u8 (vs 2 : Nat), .int .u8 (vs 3 : Nat), .int .u8 (vs 4 : Nat), .int .u8 (vs 5 : Nat)], .agg #[.int .u8 (vs 0 : Nat), .int .u8 (vs 1 : Nat), .int .u8 (vs 2 : Nat), .int .u8 (vs 3 : Nat), .int .u8 (vs 4 : Nat), .int .u8 (vs 5 : Nat)], .int .i64 (cn : Int), .int .u8 (vs cn : Nat), .int .i64 (tn : Int), .agg #[.int .u8 (vs cn : Nat), .int .i64 (tn : Int)], .func (.func 132) #[.agg #[.int .u8 (vs cn : Nat), .int .i64 (tn : Int)]] #[], u, undef, undef, undef, undef, undef], defers := [] }) ?assign ?body ?done ?stop
  · rintro s A1 C1 ⟨⟨v, h1, h2, h3⟩, h4⟩ hb
    exact ⟨⟨v, h1.on hb, rowBelow h2 hb, h3⟩, below_trans' h4 hb⟩
  · rintro s A1 o ⟨⟨v, h1, h2, h3⟩, h4⟩ hlt
    exact ⟨⟨v, (World.putObj_heap_other (by omega)).trans h1, rowKeep h2 (fun g e => World.putObj_heap_other (by have := h3 g e; omega)), h3⟩, h4.trans (below_putObj _ _ (by omega))⟩
  · rintro cd s A1 o h
    exact h
  case assign =>
    intro l v W K hK
    gi_wp2
    exact hK
  case body =>
    rintro l pre x u W ⟨⟨v, h1, h2, h3⟩, h4⟩ hM hsz rfl
    have hlen : pre.length ≤ 80 := by
      obtain ⟨R, e⟩ := hM
      have e2 := congrArg List.length e
      have := frT_len (fun d => (vs cn).testBit d) (tn : Int) (70 + tn + 1)
      simp only [List.length_append, List.length_cons, List.length_nil] at e2
      omega
    have HRR := Lib.hid h2
    have H3 := Lib.hid h3
    have H4 := Lib.hid h4
    have HX := Lib.hid h1
    have ck := h1.cell
    have hbase : ∀ k, v.ownBlock = some k → w1.heap.size ≤ k := rowBase h2
    have HBS := Lib.hid hbase
    obtain ⟨k, hk⟩ : ∃ k, pre.length = k := ⟨_, rfl⟩
    rw [hk] at hlen
    have HK := Lib.hid hk
    have HRK : Hid (W.ownsRow w1.heap.size 2 1 v k (intsV (pre.map (fun (x : Nat) => (x : Int))))) := Lib.hid (by rw [← hk]; exact h2)
    clear h1 h2 h3 h4 hM hk hbase HRR
    have X4 : Hid (∀ (w5 : World), (W.alloc (.cells #[.int .i64 (x : Int)] 2)).grownBy w5 v.ownBlock → Cell1 w5 (w1.heap.size + 1) 39 v) := Lib.hid (fun w5 hg => (HX.out.alloc _).grown hg (fun e => (H3.out _ e.symm).2 rfl))
    gi_wp2_with (gi_at_builtin; refine wpListIn_append_lies _ rfl _ _ 39 rfl w1.heap.size 2 ii _ 1 8 Try.underlying39 HF.out.1 HF.out.2.1 HF.out.2.2.1 HF.out.2.2.2 rfl (by omega) _ k _ rfl (HRK.out.alloc _) ⟨W.heap.size, 0, none⟩ 1 1 [.int .i64 (x : Int)] rfl rfl (World.news_of_block (cs := #[.int .i64 (x : Int)]) (t := 2) (fr := (0, 0)) (heap_alloc_new W _)) (by simp [Value.oneCell']) (by omega) (by unfold maxLen; omega) (by omega) (by simp; omega) (W.heap.size + 1) (by simp) ?_; intro gg cap w5 hown1 hgrow hat hlt3; have fz := (X4.out w5 hgrow).thawed; have cz := (X4.out w5 hgrow).cell)
    have X5 := X4.out w5 hgrow
    have hgg : (gg < w3.heap.size ∨ w3.heap.size + 3 ≤ gg) ∧ gg ≠ w1.heap.size + 1 := by
      rcases hat with e | e
      · exact H3.out gg e
      · omega
    have L5 : Hid (Three w3.heap.size W (w5.setCell ⟨w1.heap.size + 1, 0, none⟩ (.slice (some ⟨gg, 0, none⟩) (k + 1) cap))) := Lib.hid (by
      have hk3 : ∀ j, (j = w3.heap.size ∨ j = w3.heap.size + 1 ∨ j = w3.heap.size + 2) → (w5.setCell ⟨w1.heap.size + 1, 0, none⟩ (.slice (some ⟨gg, 0, none⟩) (k + 1) cap)).heap[j]? = W.heap[j]? := fun j hj => by
        rw [Below.heap_setCell w5 ⟨w1.heap.size + 1, 0, none⟩ _ j (by show j ≠ w1.heap.size + 1; omega)]
        rw [hgrow.block j (by rw [World.size_alloc]; omega) (fun e => by have := (H3.out j e.symm).1; omega)]
        exact Below.heap_alloc W _ j (by omega)
      have hs5 := hgrow.size
      rw [World.size_alloc] at hs5
      exact ⟨by simp [World.setCell]; omega, hk3 _ (.inl rfl), hk3 _ (.inr (.inl rfl)), hk3 _ (.inr (.inr rfl))⟩)
    have I5 : Hid (FreeI w (w5.setCell ⟨w1.heap.size + 1, 0, none⟩ (.slice (some ⟨gg, 0, none⟩) (k + 1) cap)) w1.heap.size w3.heap.size (pre ++ [x])) := Lib.hid (by
      refine ⟨⟨_, X5.put _, ?_, fun g e => ?_⟩, ?_⟩
      · rw [List.length_append, HK.out, List.map_append]
        refine rowKeep ?_ (fun g e => Below.heap_setCell w5 ⟨w1.heap.size + 1, 0, none⟩ _ g (by
          have e2 : gg = g := by simpa [Value.ownBlock] using e
          show g ≠ w1.heap.size + 1
          omega))
        show w5.ownsRow w1.heap.size 2 1 _ (k + 1) (intsV (pre.map (fun (x : Nat) => (x : Int)) ++ [(x : Int)]))
        rw [← intsV_snoc]
        exact hown1
      · have e2 : gg = g := by simpa [Value.ownBlock] using e
        subst e2
        exact hgg
      · exact ((H4.out.alloc H4.out.size (.cells #[.int .i64 (x : Int)] 2)).grown hgrow (by rw [World.size_alloc]; have := H4.out.size; omega) (fun q e => by have := HBS.out q e; omega)).setCell (p := ⟨w1.heap.size + 1, 0, none⟩) (by show w.heap.size ≤ w1.heap.size + 1; omega) _)
    exact ⟨L5.out, I5.out⟩
  case done =>
    rintro l W rfl ⟨⟨v, h1, h2, h3⟩, h4⟩ hK
    have h2' := rowKeep (w2 := W.putObj w3.heap.size (.deferred none)) h2 (fun g e => World.putObj_heap_other (by have := h3 g e; omega))
    obtain ⟨A, cc, rfl, ho, hc, hcm⟩ := rowInts h2' (by rw [List.length_map])
    have hl := frT_len (fun d => (vs cn).testBit d) (tn : Int) (70 + tn + 1)
    have HO := Lib.hid (ho.widen (W := w) hz1)
    have ck := h1.cell
    have HB := Lib.hid h4
    have hzz : (frT (fun d => (vs cn).testBit d) (tn : Int) (70 + tn + 1)).length ≤ 1048576 := by omega
    clear h1 h2 h2' h3 h4 ho
    go_wp2
    refine ⟨by simp, .inl ⟨_, _, rfl, run_takeDeferred hK, ?_⟩⟩
    exact ⟨_, results_tmp2 rfl _ _ _, ⟨A, _, cc, rfl, HO.out, hzz, hc, hcm, HB.out.trans (below_putObj _ _ (by omega))⟩⟩
  case stop =>
    rintro cd pre W _ hh _
    exact hh.elim

end Go.Proofs.Ytbfnffecmglgfaa
