/- OpenersOf of the program. -/
import Derived.Test.YtbfnffecmglgfaaSOpOf
import Derived.Test.YtbfnffecmglgfaaMay
import Derived.OrdersIn
namespace Go.Proofs.Ytbfnffecmglgfaa
open Go Go.RowKit
attribute [local go_sem] Oper.semAt_some

/-- append at a step of a region that draws its order, within a round -/
theorem stepIn_append_lies {F : Fence} {n' : Nat} {P : Program} {w : World} {ops : Array Oper} {o : Oper} {a : Act} {K : Act → World → Prop} {Q : Exit → Act → World → Prop} {E : Prop} (hgd : o.guard = none) (s x : Operand) (t : TypeId)
    (ho : o.op = .call { callee := .builtin .append, args := #[s, x], argTypes := #[t, t] })
    (base : Nat) (e : TypeId) (i : TypeInfo) (z : Value) (size bytes : Nat) (ht : P.underlying t = some (.slice e)) (hi : P.info? e = some i) (hz : i.zero = some z)
    (hsize : i.size = size) (hby : i.bytes = bytes) (hzs : z.cells.size = size) (hsz : 0 < size)
    (v : Value) (n : Nat) (xs : List Value) (hs : a.eval s = v) (hown : w.ownsRow base e size v n xs)
    (ad : Addr) (m c : Nat) (news : List Value) (hx : a.eval x = .slice (some ad) m c) (hl : news.length = m * size) (hnews : ∀ j u, news[j]? = some u → w.cell? (ad.add j) = some u) (h1 : ∀ u ∈ news, u.oneCell' = true)
    (hm : 0 < m) (h63 : n + m ≤ maxLen) (hbytes : (n + m) * bytes ≤ 140737488355328) (hbase : base ≤ w.heap.size) (H : Nat) (hH : w.heap.size = H)
    (h : ∀ g cap w', w'.ownsRow base e size (.slice (some ⟨g, 0, none⟩) (n + m) cap) (n + m) (xs ++ news) → w.grownBy w' v.ownBlock → (v.ownBlock = some g ∨ g = H) → g < w'.heap.size → K (a.put o.dst (.slice (some ⟨g, 0, none⟩) (n + m) cap)) w') :
    if Region.wanted o (yielded ops a.tmps) = true then Oper.wpIn F n' P o a w K Q else E := by
  have hw : Region.wanted o (yielded ops a.tmps) = true := by simp [Region.wanted, hgd]
  rw [if_pos hw]
  obtain ⟨g, cap, w', hr, h2, h3, h4, h5⟩ := run_append_lies (P := P) w t o.type base e i z size bytes ht hi hz hsize hby hzs hsz v n xs hown ad m c news hl hnews h1 hm h63 hbytes hbase H hH
  unfold Oper.wpIn
  refine ⟨?_, ?_⟩
  · simp [Oper.about, ho, resolve, Target.leads, Sem.run_pure]
  · rw [Oper.semAt_plain F _ _ (by rw [ho]; intro c hc'; cases hc')]
    unfold execOp
    simp only [ho, resolve, invoke, builtin, Sem.run_bind, Sem.run_pure, Result.andThen_ok, List.map_toArray, List.map_cons, List.map_nil, hs, hx, hr]
    exact h g cap w' h2 h3 h4 h5

/-- a pile whose blocks have not turned -/
theorem Pile.kept {w w' : World} {lo n p : Nat} {v : Value} {gs : List (Addr × Nat)} {yss : List (List Int)} (h : Pile w lo v n p gs yss) (hsz : w.heap.size ≤ w'.heap.size) (hr : ∀ g, v.ownBlock = some g → w'.heap[g]? = w.heap[g]?) (hi : ∀ b ∈ gs, w'.heap[b.1.block]? = w.heap[b.1.block]?) : Pile w' lo v n p gs yss := by
  refine ⟨⟨h.row.1, ?_⟩, h.len, fun j a ys hj hy => ?_, h.apart⟩
  · rcases h.row.2 with h0 | ⟨g, cap, cur, e, h1, hg, rest⟩
    · exact .inl h0
    · exact .inr ⟨g, cap, cur, e, h1, (hr g (by rw [e]; rfl)).trans hg, rest⟩
  · obtain ⟨h1, h2⟩ := h.inner j a ys hj hy
    refine ⟨⟨h1.1, by have := h1.2.1; omega, fun hn => ?_⟩, h2⟩
    obtain ⟨ad, e, h3, h4, hc⟩ := h1.2.2 hn
    refine ⟨ad, e, h3, h4, fun j' v' hv' => ?_⟩
    have hb : ad.block = a.1.block := by omega
    have hk : w'.heap[(ad.add j').block]? = w.heap[(ad.add j').block]? := by rw [block_of_add, hb]; exact hi a (List.mem_of_getElem? hj)
    rw [World.frozen?_of_block (w := w) hk, World.cell?_of_block (w := w) hk]
    exact hc j' v' hv'

/-- what is said between two rounds: the keys that have come lie in a pile; s: the block of its row, if a round has made it -/
def OpI (w : World) (B K : Nat) (m : Mk) (most : Int) (pre : List (List Int)) (s : Option Nat) (W : World) : Prop :=
  ∃ V c gs, (pre.length : Int) ≤ most ∧ Cell1 W K 26 (.slice V pre.length c) ∧ Cell1 W (w.heap.size + 2) 2 (.int .i64 most) ∧ Pile W (w.heap.size + 3) (.slice V pre.length c) pre.length m.C.toNat gs pre ∧ Below w.heap.size w W ∧
    (∀ b ∈ gs, B + 4 ≤ b.1.block) ∧ ((s = none ∧ ∀ g, (Value.slice V pre.length c).ownBlock = some g → g < B) ∨ ∃ g, s = some g ∧ (Value.slice V pre.length c).ownBlock = some g ∧ B + 4 ≤ g)
theorem OpI.keep {w : World} {B K : Nat} {m : Mk} {most : Int} {pre : List (List Int)} {s : Option Nat} {A C : World} (h : OpI w B K m most pre s A) (hb : Below B A C) (hs : Beside (B + 2) (B + 3) A C) (hK : K < B) (hB : w.heap.size + 3 ≤ B) : OpI w B K m most pre s C := by
  obtain ⟨V, c, gs, h1, h2, h3, h4, h5, h6, h7⟩ := h
  have hg : ∀ g, (Value.slice V pre.length c).ownBlock = some g → g < B ∨ (B + 4 ≤ g ∧ g < A.heap.size) := by
    intro g e
    rcases h7 with ⟨_, h⟩ | ⟨g', _, e', h⟩
    · exact .inl (h g e)
    · rw [e] at e'
      injection e' with e'
      subst e'
      rcases h4.row.2 with ⟨e2, _⟩ | ⟨k, cap, cur, e2, _, hk, _⟩
      · rw [e2] at e; cases e
      · rw [e2] at e
        have e3 : k = g := by simpa [Value.ownBlock] using e
        subst e3
        exact .inr ⟨h, heapLt hk⟩
  refine ⟨V, c, gs, h1, h2.below hb hK, h3.below hb (by omega), h4.kept hs.size (fun g e => ?_) (fun b hm => ?_), h5.trans (hb.mono (by omega)), h6, h7⟩
  · rcases hg g e with h | ⟨h, hlt⟩
    · exact hb.block g h
    · exact hs.block g (by omega) hlt (by omega)
  · obtain ⟨j, hj⟩ := List.getElem?_of_mem hm
    have hjn : j < pre.length := by rw [← h4.glen]; exact (List.getElem?_eq_some_iff.1 hj).1
    have hlt := ((h4.inner j b _ hj (List.getElem?_eq_getElem hjn)).1).lt
    have := h6 b hm
    exact hs.block _ (by omega) hlt (by omega)
theorem OpI.block {w : World} {B K : Nat} {m : Mk} {most : Int} {pre : List (List Int)} {b : Nat} {A : World} (h : OpI w B K m most pre (some b) A) : B + 4 ≤ b ∧ b < A.heap.size := by
  obtain ⟨V, c, gs, h1, h2, h3, h4, h5, h6, h7⟩ := h
  rcases h7 with ⟨e, _⟩ | ⟨g, e, e2, h⟩
  · cases e
  · injection e with e
    subst e
    rcases h4.row.2 with ⟨e3, _⟩ | ⟨k, cap, cur, e3, _, hk, _⟩
    · rw [e3] at e2; cases e2
    · rw [e3] at e2
      have e4 : k = b := by simpa [Value.ownBlock] using e2
      subst e4
      exact ⟨h, heapLt hk⟩

/-- the cell of the list of keys behind the append -/
theorem OpI.cell5 {W w3 w5 : World} {K c' c2 lo n p : Nat} {V' A2 : Option Addr} {gs : List (Addr × Nat)} {pre : List (List Int)} (h2 : Cell1 W K 26 (.slice V' n c')) (h4 : Pile W lo (.slice V' n c') n p gs pre) (b3 : Below W.heap.size W w3)
    (hgrow : (w3.alloc (.cells #[.slice A2 p c2] 39)).grownBy w5 (Value.slice V' n c').ownBlock) : w5.cell? ⟨K, 0, none⟩ = some (.slice V' n c') ∧ w5.frozen? ⟨K, 0, none⟩ = false := by
  have k5 : Cell1 w5 K 26 (.slice V' n c') := ((h2.on b3).alloc _).grown hgrow (fun e => by
    rcases h4.row.2 with ⟨e2, _⟩ | ⟨k, cap', cur, e2, _, hk, _⟩
    · rw [e2] at e; cases e
    · rw [e2] at e
      have e3 : K = k := by simpa [Value.ownBlock] using e
      subst e3
      unfold Cell1 at h2
      rw [h2] at hk
      injection hk with hk
      injection hk with _ hk
      exact absurd hk (by decide))
  exact ⟨k5.cell, k5.thawed⟩

/-- one key more, cloned and appended -/
theorem OpI.push {w W w3 w5 : World} {B K c' c2 gg cap : Nat} {m : Mk} {most : Int} {pre : List (List Int)} {s : Option Nat} {V' A2 : Option Addr} {gs : List (Addr × Nat)} {x : List Int} (h1 : (pre.length : Int) ≤ most) (hne : ¬ (pre.length : Int) = most)
    (h2 : Cell1 W K 26 (.slice V' pre.length c')) (h3 : Cell1 W (w.heap.size + 2) 2 (.int .i64 most)) (h4 : Pile W (w.heap.size + 3) (.slice V' pre.length c') pre.length m.C.toNat gs pre) (h5 : Below w.heap.size w W)
    (h6 : ∀ b ∈ gs, B + 4 ≤ b.1.block) (h7 : (s = none ∧ ∀ g, (Value.slice V' pre.length c').ownBlock = some g → g < B) ∨ ∃ g, s = some g ∧ (Value.slice V' pre.length c').ownBlock = some g ∧ B + 4 ≤ g)
    (hK : K < B) (hKw : w.heap.size + 3 ≤ K) (hWB : B + 4 ≤ W.heap.size) (b3 : Below W.heap.size W w3) (o2 : Own w3 W.heap.size w3.heap.size A2 m.C.toNat x) (hp : 0 < m.C.toNat) (hc2 : m.C.toNat ≤ c2) (hcm2 : c2 ≤ 9223372036854775807)
    (hown1 : w5.ownsRow (w.heap.size + 3) 39 1 (.slice (some ⟨gg, 0, none⟩) (pre.length + 1) cap) (pre.length + 1) (slicesV m.C.toNat gs ++ [.slice A2 m.C.toNat c2]))
    (hgrow : (w3.alloc (.cells #[.slice A2 m.C.toNat c2] 39)).grownBy w5 (Value.slice V' pre.length c').ownBlock) (hat : (Value.slice V' pre.length c').ownBlock = some gg ∨ gg = w3.heap.size + 1) :
    Spare B (fun k => s = some k) W (w5.setCell ⟨K, 0, none⟩ (.slice (some ⟨gg, 0, none⟩) (pre.length + 1) cap)) ∧ ∃ s', Grows s s' W.heap.size ∧ OpI w B K m most (pre ++ [x]) s' (w5.setCell ⟨K, 0, none⟩ (.slice (some ⟨gg, 0, none⟩) (pre.length + 1) cap)) := by
  obtain ⟨a2, _, rfl, _⟩ := o2.at_ hp
  obtain ⟨s1, s2, s3⟩ := o2.self hp
  have hz3 := b3.size
  have hz5 := hgrow.size
  rw [World.size_alloc] at hz5
  have own_lt : ∀ g, (Value.slice V' pre.length c').ownBlock = some g → g < W.heap.size ∧ g ≠ K := by
    intro g e
    rcases h4.row.2 with ⟨e2, _⟩ | ⟨k, cap', cur, e2, _, hk, _⟩
    · rw [e2] at e; cases e
    · rw [e2] at e
      have e3 : k = g := by simpa [Value.ownBlock] using e
      subst e3
      refine ⟨heapLt hk, fun e4 => ?_⟩
      subst e4
      unfold Cell1 at h2
      rw [h2] at hk
      injection hk with hk
      injection hk with _ hk
      exact absurd hk (by decide)
  have P3 := h4.on b3
  have P5 := P3.push s1 (by omega) (fun e => by have := (own_lt _ e).1; omega) hc2 hcm2 (fun b hb e => by
    obtain ⟨j, hj⟩ := List.getElem?_of_mem hb
    have hjn : j < pre.length := by rw [← h4.glen]; exact (List.getElem?_eq_some_iff.1 hj).1
    have hlt := ((h4.inner j b _ hj (List.getElem?_eq_getElem hjn)).1).lt
    omega) hown1 hgrow hat
  have hggK : gg ≠ K := by
    rcases hat with e | e
    · exact (own_lt _ e).2
    · omega
  have P6 := P5.kept (w' := w5.setCell ⟨K, 0, none⟩ (.slice (some ⟨gg, 0, none⟩) (pre.length + 1) cap)) (by simp [World.setCell]) (fun g e => Below.heap_setCell _ _ _ g (by
    have e' : gg = g := by simpa [Value.ownBlock] using e
    show g ≠ K; omega)) (fun b hb => Below.heap_setCell _ _ _ _ (by
    show b.1.block ≠ K
    rw [List.mem_append] at hb
    rcases hb with hb | hb
    · have := h6 b hb; omega
    · simp at hb; subst hb; show a2.block ≠ K; omega))
  have hl : (pre ++ [x]).length = pre.length + 1 := by simp
  have ha := (Below.refl w3.heap.size w3).alloc (Nat.le_refl _) (.cells #[.slice (some a2) m.C.toNat c2] 39)
  have hne5 : ∀ k, k < W.heap.size → (Value.slice V' pre.length c').ownBlock ≠ some k → w5.heap[k]? = W.heap[k]? := fun k hk hn =>
    (hgrow.block k (by rw [World.size_alloc]; omega) (fun e => hn e.symm)).trans ((ha.block k (by omega)).trans (b3.block k hk))
  have hne6 : ∀ k, k < W.heap.size → k ≠ K → (Value.slice V' pre.length c').ownBlock ≠ some k → (w5.setCell ⟨K, 0, none⟩ (.slice (some ⟨gg, 0, none⟩) (pre.length + 1) cap)).heap[k]? = W.heap[k]? := fun k hk hn1 hn => (Below.heap_setCell _ _ _ k (show k ≠ K from hn1)).trans (hne5 k hk hn)
  have hrow_ge : ∀ g, (Value.slice V' pre.length c').ownBlock = some g → w.heap.size + 3 ≤ g := fun g e => rowBase h4.row g e
  have k5 : Cell1 w5 K 26 (.slice V' pre.length c') := (hne5 K (by omega) (fun e => (own_lt _ e).2 rfl)).trans h2
  refine ⟨⟨by simp [World.setCell]; omega, fun k hk hlt hs => hne6 k hlt (by omega) (fun e => ?_)⟩, ?_⟩
  · rcases h7 with ⟨_, h⟩ | ⟨g, h8, h9, _⟩
    · have := h k e; omega
    · rw [e] at h9; injection h9 with h9; subst h9; exact hs h8
  have hcore : ∀ s', ((s' = none ∧ ∀ g, (Value.slice (some ⟨gg, 0, none⟩) (pre ++ [x]).length cap).ownBlock = some g → g < B) ∨ ∃ g, s' = some g ∧ (Value.slice (some ⟨gg, 0, none⟩) (pre ++ [x]).length cap).ownBlock = some g ∧ B + 4 ≤ g) → OpI w B K m most (pre ++ [x]) s' (w5.setCell ⟨K, 0, none⟩ (.slice (some ⟨gg, 0, none⟩) (pre.length + 1) cap)) := by
    intro s' hs'
    refine ⟨some ⟨gg, 0, none⟩, cap, gs ++ [(a2, c2)], by rw [hl]; omega, ?_, ?_, ?_, ?_, ?_, hs'⟩
    · rw [hl]; exact k5.put _
    · exact (hne6 _ (h3.lt) (by omega) (fun e => by have := hrow_ge _ e; omega)).trans h3
    · rw [hl]; exact P6
    · refine ⟨?_, ?_, ?_, ?_, fun k hk => ?_⟩
      · exact hgrow.os.trans (ha.os.trans (b3.os.trans h5.os))
      · exact hgrow.tape.trans (ha.tape.trans (b3.tape.trans h5.tape))
      · exact hgrow.output.trans (ha.output.trans (b3.output.trans h5.output))
      · have := h5.size; simp [World.setCell]; omega
      · exact (hne6 k (by have := h5.size; omega) (by omega) (fun e => by have := hrow_ge _ e; omega)).trans (h5.block k hk)
    · intro b hb
      rw [List.mem_append] at hb
      rcases hb with hb | hb
      · exact h6 b hb
      · simp at hb; subst hb; show B + 4 ≤ a2.block; omega
  rcases hat with e | e
  · refine ⟨s, .inl rfl, hcore s ?_⟩
    rcases h7 with ⟨h8, h⟩ | ⟨g, h8, h9, h10⟩
    · exact .inl ⟨h8, fun g e2 => h g (by rw [e]; exact e2)⟩
    · rw [e] at h9
      injection h9 with h9
      subst h9
      exact .inr ⟨gg, h8, rfl, h10⟩
  · exact ⟨some gg, .inr ⟨gg, rfl, by omega⟩, hcore _ (.inr ⟨gg, rfl, rfl, by omega⟩)⟩

theorem Pile.caps {w : World} {lo n p c : Nat} {V : Option Addr} {gs : List (Addr × Nat)} {yss : List (List Int)} (h : Pile w lo (.slice V n c) n p gs yss) : n ≤ c ∧ c ≤ 9223372036854775807 := by
  rcases h.row.2 with ⟨e, h0⟩ | ⟨g, cap, cur, e, _, _, h1, h2, _⟩
  · injection e with _ _ e; omega
  · injection e with _ _ e; unfold maxLen at h2; omega
theorem OpI.most {w : World} {B K : Nat} {m : Mk} {most : Int} {pre : List (List Int)} {s : Option Nat} {W : World} (h : OpI w B K m most pre s W) : (pre.length : Int) ≤ most := by
  obtain ⟨_, _, _, h1, _⟩ := h; exact h1
/-- how OpenersOf ends -/
theorem OpI.ends {w : World} {B K : Nat} {m : Mk} {most : Int} {pre : List (List Int)} {s : Option Nat} {W : World} (h : OpI w B K m most pre s W) (hK : K < B) (hB : w.heap.size + 3 ≤ B) (o : Obj) {V' : Option Addr} {c' : Nat} (hc : W.cell? ⟨K, 0, none⟩ = some (.slice V' pre.length c')) {T : List (List Int)} (hT : T.take most.toNat = pre) :
    GivesRagE w 0 (T.take most.toNat) (.returned (.tuple #[.slice V' pre.length c', .int .i64 0])) (W.putObj B o) := by
  obtain ⟨V2, c2, gs, _, h2, h3, h4, h5, _⟩ := h.keep (below_putObj W o (Nat.le_refl B)) (Beside.above (Above.putObj W o (by omega))) hK hB
  have e : some (Value.slice V2 pre.length c2) = some (Value.slice V' pre.length c') := by
    rw [← h2.cell, ← hc]
    exact (below_putObj W o (Nat.le_refl B)).cell (p := ⟨K, 0, none⟩) hK
  injection e with e
  injection e with e3 _ e4
  subst e3; subst e4
  rw [hT]
  have h6 := h4.rag (by have := h3.lt; omega)
  exact ⟨V2, _, c2, _, rfl, h6.more (by omega), h4.caps.1, h4.caps.2, h5⟩

set_option maxRecDepth 100000 in
set_option maxHeartbeats 8000000 in
theorem openersOf_any (m : Mk) (V : Option Addr) (n c : Nat) (yss : List (List Int)) (most : Int) (w : World) (h : Sets w w.heap.size V n yss) (hn : n + sizeL yss ≤ 1048576) :
    Calls Try.prog 28 #[.agg #[.int .i64 m.C, .int .i64 m.D, .int .i64 m.S, .int .i64 m.M, .int .i64 m.L], .agg #[.slice V n c], .int .i64 most] w (GivesRagE w (ooE m yss most) (ooL m yss most)) := by
  have c0 := (((Below.refl w.heap.size w).alloc (Nat.le_refl _) (.cells #[.int .i64 m.C, .int .i64 m.D, .int .i64 m.S, .int .i64 m.M, .int .i64 m.L] 25)).alloc (by simp) (.cells #[.slice V n c] 30)).alloc (by simp; omega) (.cells #[.int .i64 most] 2)
  have hx := ((Boxed.new w 25 m).alloc (.cells #[.slice V n c] 30)).alloc (.cells #[.int .i64 most] 2)
  have k0 := (Cell1.new (w.alloc (.cells #[.int .i64 m.C, .int .i64 m.D, .int .i64 m.S, .int .i64 m.M, .int .i64 m.L] 25)) 30 (.slice V n c)).alloc (.cells #[.int .i64 most] 2)
  have o0 := Cell1.new ((w.alloc (.cells #[.int .i64 m.C, .int .i64 m.D, .int .i64 m.S, .int .i64 m.M, .int .i64 m.L] 25)).alloc (.cells #[.slice V n c] 30)) 2 (.int .i64 most)
  simp only [World.size_alloc] at k0 o0
  have hs := h.on c0
  have HN := Lib.hid hn
  clear h hn
  obtain ⟨q0, q1, q2, q3, q4⟩ := hx.cells
  have ck := k0.cell
  have co := o0.cell
  rcases hL : lockB m yss with _ | _
  · rw [(oo_no hL).1, (oo_no hL).2]
    go_enter Try.func28, Try.ntmps28
    go_wp2_with fail
    refine (isLock_any m _ _ _ yss _ hs HN.out).mono ?_
    rw [hL]
    rintro e w1 ⟨rfl, b1⟩
    have c1 := below_trans' c0 b1
    go_wp2
    go_ret2
    exact ⟨none, 0, 0, [], rfl, Rag.nil none c1.size, Nat.le_refl _, by omega, c1⟩
  have HL := Lib.hid hL
  obtain ⟨hm, _⟩ := lockB_facts hL
  obtain ⟨m1, m2, m3, m4, m5, m6, m7, m8, m9, m10, m11⟩ := Mk.ok_true hm
  have HM := Lib.hid hm
  rcases hin : inB most 0 300 with _ | _
  · rw [(oo_out hL hin).1, (oo_out hL hin).2]
    go_enter Try.func28, Try.ntmps28
    go_wp2_with fail
    refine (isLock_any m _ _ _ yss _ hs HN.out).mono ?_
    rw [hL]
    rintro e w1 ⟨rfl, b1⟩
    have c1 := below_trans' c0 b1
    have co1 := (o0.on b1).cell
    clear q0 q1 q2 q3 q4 ck co
    go_wp2_with fail
    refine (isWithin_at _ _ _ _ false hin).mono ?_
    rintro e w' ⟨rfl, rfl⟩
    go_wp2
    go_ret2
    exact ⟨none, 0, 0, [], rfl, Rag.nil none c1.size, Nat.le_refl _, by omega, c1⟩
  rw [(oo_yes hL hin).1, (oo_yes hL hin).2]
  have HIN := Lib.hid hin
  obtain ⟨i0, i1⟩ := inB_true.1 hin
  obtain ⟨vs, hvs⟩ : ∃ vs, bitsOf yss = vs := ⟨_, rfl⟩
  have HOP : Hid (opAll m (bitP vs) = opAll m (setP yss)) := Lib.hid (by rw [← hvs]; exact op_bits hL)
  have HV : Hid (∀ i, vs i < 256) := Lib.hid (by rw [← hvs]; exact bitsOf_lt hL)
  have HVS := Lib.hid hvs
  clear hm hvs hL hin
  refine (callsIn_wide (n := 9)).1 ?_
  refine callsIn_of_wp_marks Try.func28 rfl trivial ?_ rfl
  refine wpIn_wide.2 ?_
  simp only [Try.ntmps28, List.size_toArray, List.length_cons, List.length_nil, Nat.reduceAdd, Nat.reduceSub, Array.replicate_succ, Array.replicate_zero, List.push_toArray, List.append_toArray, List.nil_append, List.cons_append]
  go_wp2_with fail
  refine (isLock_any m _ _ _ yss _ hs HN.out).mono ?_
  rw [HL.out]
  rintro e w1 ⟨rfl, b1⟩
  have c1 := below_trans' c0 b1
  have hz1 := c1.size
  have o1 := o0.on b1
  have co1 := o1.cell
  have hw1 : w.heap.size + 3 ≤ w1.heap.size := by have := o1.lt; omega
  have e1 := (Below.refl w1.heap.size w1).alloc (Nat.le_refl _) (.cells #[] 39)
  have p1 := Pile.none_ (p := m.C.toNat) (rowNil (w := w1) (t := 39) (s := 1) (base := w.heap.size + 3) hw1)
  have X1 := Lib.hid (hx.on b1)
  have K1 := Lib.hid (k0.on b1)
  have S1 := Lib.hid (hs.on b1)
  have O1 := Lib.hid o1
  have C1 := Lib.hid c1
  have P1 := Lib.hid p1
  clear q0 q1 q2 q3 q4 ck co hx k0 hs b1 c0 c1 o1 o0 p1 e1
  go_wp2_with fail
  refine (isWithin_at _ _ _ _ true HIN.out).mono ?_
  rintro e w' ⟨rfl, rfl⟩
  have y1 := Cell1.new (w1.alloc (.cells #[] 39)) 26 (.slice (some ⟨w1.heap.size, 0, none⟩) 0 0)
  have b2 := Lib.hid (((Below.refl w1.heap.size w1).alloc (Nat.le_refl _) (.cells #[] 39)).alloc (by simp) (.cells #[.slice (some ⟨w1.heap.size, 0, none⟩) 0 0] 26))
  simp only [World.size_alloc] at y1
  have Y1 := Lib.hid y1
  have P2 := Lib.hid (P1.out.on ((Below.refl _ _).alloc (Nat.le_refl _) (.cells #[.slice (some ⟨w1.heap.size, 0, none⟩) 0 0] 26)))
  clear y1
  have X2 := Lib.hid (X1.out.on b2.out)
  have K2 := Lib.hid (K1.out.on b2.out)
  have S2 := Lib.hid (S1.out.on b2.out)
  have O2 := Lib.hid (O1.out.on b2.out)
  have C2 := Lib.hid (below_trans' C1.out b2.out)
  obtain ⟨q0, q1, q2, q3, q4⟩ := X2.out.cells
  have ck := K2.out.cell
  go_wp2_with fail
  refine (inBits_any m _ _ _ yss _ S2.out HL.out vs HVS.out).mono ?_
  rintro e w2 ⟨rfl, b3⟩
  have hz2 := b3.size
  have Y3 := Lib.hid (Y1.out.on b3)
  have P3 := Lib.hid (P2.out.on b3)
  have O3 := Lib.hid (O2.out.on b3)
  have C3 := Lib.hid (below_trans' C2.out b3)
  have hK : w1.heap.size + 1 < w2.heap.size := Y3.out.lt
  clear q0 q1 q2 q3 q4 ck X1 K1 S1 O1 C1 P1 X2 K2 S2 O2 C2 P2 Y1 b2 b3 co1
  go_wp2_with fail
  refine (wpIn_wide (n := 9)).1 ?_
  refine wpIn_lent1 rfl (by omega) (gf := 107) (rb := #[.agg #[.int .i64 m.C, .int .i64 m.D, .int .i64 m.S, .int .i64 m.M, .int .i64 m.L, .int .u8 (vs 0 : Nat), .int .u8 (vs 1 : Nat), .int .u8 (vs 2 : Nat), .int .u8 (vs 3 : Nat), .int .u8 (vs 4 : Nat), .int .u8 (vs 5 : Nat)]]) (lb := #[]) rfl trivial (enters_of Try.func107 (by kernel_rfl) rfl) (openers_lend1 m vs HV.out HM.out 8 _) (Below.refl _ _) rfl
    (fun pre s W => OpI w w2.heap.size (w1.heap.size + 1) m most pre s W)
    (fun cd pre W => Hid (cd = .exit 0 ∧ ∃ p x s, pre = p ++ [x] ∧ (p.length : Int) = most ∧ OpI w w2.heap.size (w1.heap.size + 1) m most p s W))
    ?_ ?_ ?_ ?_
    (fun v => { tmps := #[.agg #[.int .i64 m.C, .int .i64 m.D, .int .i64 m.S, .int .i64 m.M, .int .i64 m.L], .agg #[.slice V n c], .int .i64 most, .pointer (some ⟨w.heap.size, 0, none⟩), .pointer (some ⟨w.heap.size + 1, 0, none⟩), .pointer (some ⟨w.heap.size + 1 + 1, 0, none⟩), .slice none 0 0, .int .i64 0, .pointer (some ⟨w1.heap.size + 1, 0, none⟩), v, .agg #[.int .i64 m.C, .int .i64 m.D, .int .i64 m.S, .int .i64 m.M, .int .i64 m.L], .agg #[.slice V n c], .bool true, .bool false, .int .i64 most, .bool true, .bool false, .slice (some ⟨w1.heap.size, 0, none⟩) 0 0, .agg #[.slice V n c], .agg #[.int .i64 m.C, .int .i64 m.D, .int .i64 m.S, .int .i64 m.M, .int .i64 m.L], .agg #[.int .i64 m.C, .int .i64 m.D, .int .i64 m.S, .int .i64 m.M, .int .i64 m.L, .int .u8 (vs 0 : Nat), .int .u8 (vs 1 : Nat), .int .u8 (vs 2 : Nat), .int .u8 (vs 3 : Nat), .int .u8 (vs 4 : Nat), .int .u8 (vs 5 : Nat)], .func (.func 107) #[.agg #[.int .i64 m.C, .int .i64 m.D, .int .i64 m.S, .int .i64 m.M, .int .i64 m.L, .int .u8 (vs 0 : Nat), .int .u8 (vs 1 : Nat), .int .u8 (vs 2 : Nat), .int .u8 (vs 3 : Nat), .int .u8 (vs 4 : Nat), .int .u8 (vs 5 : Nat)]] #[], v, undef, undef, undef, undef, undef, undef, undef, undef, undef, undef], defers := [] }) ?assign ?body ?done ?stop
  · intro xs s A1 C1 h1 hb hs
    exact h1.keep hb hs hK (by omega)
  · intro xs b A1 h1
    have := h1.block
    omega
  · rintro cd s A1 o h1
    obtain ⟨h0, p, x, s', h2, h3, h4⟩ := h1.out
    exact Lib.hid ⟨h0, p, x, s', h2, h3, h4.keep (below_putObj A1 o (by omega)) (Beside.above (Above.putObj A1 o (by omega))) hK (by omega)⟩
  · exact ⟨_, _, [], by simpa using i0, Y3.out, O3.out, P3.out, C3.out, fun b hb => by simp at hb, .inl ⟨rfl, fun g hg => by simp [Value.ownBlock] at hg; omega⟩⟩
  case assign =>
    intro l v W K hK
    gi_wp2
    exact hK
  case body =>
    rintro l pre s x v W ⟨V', c', gs, h1, h2, h3, h4, h5, h6, h7⟩ hM hsz hLt hblk hsg
    obtain ⟨a, rfl, hown⟩ := hLt
    have hab : a.block = w2.heap.size + 3 := hblk a _ _ rfl
    have ck2 := h2.cell
    have ck3 := h3.cell
    have H2 := Lib.hid h2
    have H3 := Lib.hid h3
    have H4 := Lib.hid h4
    have H5 := Lib.hid h5
    have H6 := Lib.hid h6
    have H7 := Lib.hid h7
    have HO := Lib.hid hown
    clear h2 h3 h4 h5 h6 h7 hown hblk
    have hp : 0 < m.C.toNat := by omega
    have hK0 : w1.heap.size + 1 < w2.heap.size := hK
    have hW4 : w2.heap.size + 4 ≤ W.heap.size := by have := (HO.out.self hp).2.2; omega
    obtain ⟨i0', hi, hz0, hz1', hz2'⟩ := info_parts Try.info39'
    have HI := Lib.hid (And.intro hi (And.intro hz0 (And.intro hz1' hz2')))
    clear hi hz0 hz1' hz2'
    by_cases hd0 : (pre.length : Int) = most
    · have hd : ((pre.length : Int) == most) = true := by simpa using hd0
      gi_wp2
      exact ⟨Spare.refl _ _ _, Lib.hid ⟨rfl, pre, x, s, rfl, hd0, V', c', gs, h1, H2.out, H3.out, H4.out, H5.out, H6.out, H7.out⟩⟩
    · have hd : ((pre.length : Int) == most) = false := by simpa using hd0
      gi_wp2
      refine wpIn_region_any (by kernel_rfl) ?_
      change wpAnyIn _ _ _ _ _ _ _ _ _ (World.drew _)
      refine wpAnyIn_ready (rs := [0, 1]) (by kernel_rfl) (by simp) ?_
      refine AllReadyIn.cons (o := _) rfl (fun K hK => ?_) ?_
      · go_simp
        refine hK _ _ ?_
        clear hK K
        refine wpAnyIn_ready (rs := [1]) (by kernel_rfl) (by simp) ?_
        refine AllReadyIn.cons (o := _) rfl (fun K hK => ?_) ?_
        · go_simp
          refine hK _ _ ?_
          clear hK K
          refine wpAnyIn_ready (rs := [2]) (by kernel_rfl) (by simp) ?_
          refine AllReadyIn.cons (o := _) rfl (fun K hK => ?_) ?_
          · go_simp
            gi_wp2_with fail
            refine ⟨trivial, (CallsIn.inRound l (callsIn_wide.2 (clone_any a m.C.toNat m.C.toNat x _ (ints_drewN HO.out.ints 1) (by omega) hp))).mono ?_⟩
            rintro e w3 ⟨A2, c2, rfl, o2, hc2, hcm2, b3Q⟩
            have b3 : Below W.heap.size W w3 := (below_drewN (Below.refl _ W) 1).trans b3Q
            clear b3Q
            refine hK _ _ ?_
            clear hK K
            have ck4 := (H2.out.on b3).cell
            have ck5 := fun o => ((H2.out.on b3).alloc o).cell
            refine wpAnyIn_ready (rs := [3]) (by kernel_rfl) (by simp) ?_
            refine AllReadyIn.cons (o := _) rfl (fun K hK => ?_) ?_
            · go_simp
              refine hK _ _ ?_
              clear hK K
              refine wpAnyIn_ready (rs := [4]) (by kernel_rfl) (by simp) ?_
              refine AllReadyIn.cons (o := _) rfl (fun K hK => ?_) ?_
              · obtain ⟨a2, _, rfl, _⟩ := o2.at_ hp
                refine stepIn_append_lies rfl _ _ 26 rfl (w.heap.size + 3) 39 i0' _ 1 24 Try.underlying26 HI.out.1 HI.out.2.1 HI.out.2.2.1 HI.out.2.2.2 rfl (by omega) _ pre.length _ rfl ((H4.out.on b3).row.alloc _) ⟨w3.heap.size, 0, none⟩ 1 1 [.slice (some a2) m.C.toNat c2] rfl rfl (World.news_of_block (cs := #[.slice (some a2) m.C.toNat c2]) (t := 39) (fr := (0, 0)) (heap_alloc_new w3 _)) (slice_one a2 _ c2) (by omega) (by unfold maxLen; omega) (by omega) (by have := b3.size; simp; omega) (w3.heap.size + 1) (by simp) ?_
                intro gg cap w5 hown1 hgrow hat hlt3
                refine hK _ _ ?_
                clear hK K
                obtain ⟨ck6, ck7⟩ := OpI.cell5 H2.out H4.out b3 hgrow
                refine wpAnyIn_ready (rs := [5]) (by kernel_rfl) (by simp) ?_
                refine AllReadyIn.cons (o := _) rfl (fun K hK => ?_) ?_
                · go_simp
                  refine hK _ _ ?_
                  clear hK K
                  refine wpAnyIn_done (by kernel_rfl) ?_ _
                  exact OpI.push h1 hd0 H2.out H3.out H4.out H5.out H6.out H7.out hK0 (by omega) hW4 b3 o2 hp hc2 hcm2 hown1 hgrow hat
                exact AllReadyIn.nil
              exact AllReadyIn.nil
            exact AllReadyIn.nil
          exact AllReadyIn.nil
        exact AllReadyIn.nil
      refine AllReadyIn.cons (o := _) rfl (fun K hK => ?_) ?_
      · go_simp
        refine hK _ _ ?_
        clear hK K
        refine wpAnyIn_ready (rs := [0, 2]) (by kernel_rfl) (by simp) ?_
        refine AllReadyIn.cons (o := _) rfl (fun K hK => ?_) ?_
        · go_simp
          refine hK _ _ ?_
          clear hK K
          refine wpAnyIn_ready (rs := [2]) (by kernel_rfl) (by simp) ?_
          refine AllReadyIn.cons (o := _) rfl (fun K hK => ?_) ?_
          · go_simp
            gi_wp2_with fail
            refine ⟨trivial, (CallsIn.inRound l (callsIn_wide.2 (clone_any a m.C.toNat m.C.toNat x _ (ints_drewN HO.out.ints 1) (by omega) hp))).mono ?_⟩
            rintro e w3 ⟨A2, c2, rfl, o2, hc2, hcm2, b3Q⟩
            have b3 : Below W.heap.size W w3 := (below_drewN (Below.refl _ W) 1).trans b3Q
            clear b3Q
            refine hK _ _ ?_
            clear hK K
            have ck4 := (H2.out.on b3).cell
            have ck5 := fun o => ((H2.out.on b3).alloc o).cell
            refine wpAnyIn_ready (rs := [3]) (by kernel_rfl) (by simp) ?_
            refine AllReadyIn.cons (o := _) rfl (fun K hK => ?_) ?_
            · go_simp
              refine hK _ _ ?_
              clear hK K
              refine wpAnyIn_ready (rs := [4]) (by kernel_rfl) (by simp) ?_
              refine AllReadyIn.cons (o := _) rfl (fun K hK => ?_) ?_
              · obtain ⟨a2, _, rfl, _⟩ := o2.at_ hp
                refine stepIn_append_lies rfl _ _ 26 rfl (w.heap.size + 3) 39 i0' _ 1 24 Try.underlying26 HI.out.1 HI.out.2.1 HI.out.2.2.1 HI.out.2.2.2 rfl (by omega) _ pre.length _ rfl ((H4.out.on b3).row.alloc _) ⟨w3.heap.size, 0, none⟩ 1 1 [.slice (some a2) m.C.toNat c2] rfl rfl (World.news_of_block (cs := #[.slice (some a2) m.C.toNat c2]) (t := 39) (fr := (0, 0)) (heap_alloc_new w3 _)) (slice_one a2 _ c2) (by omega) (by unfold maxLen; omega) (by omega) (by have := b3.size; simp; omega) (w3.heap.size + 1) (by simp) ?_
                intro gg cap w5 hown1 hgrow hat hlt3
                refine hK _ _ ?_
                clear hK K
                obtain ⟨ck6, ck7⟩ := OpI.cell5 H2.out H4.out b3 hgrow
                refine wpAnyIn_ready (rs := [5]) (by kernel_rfl) (by simp) ?_
                refine AllReadyIn.cons (o := _) rfl (fun K hK => ?_) ?_
                · go_simp
                  refine hK _ _ ?_
                  clear hK K
                  refine wpAnyIn_done (by kernel_rfl) ?_ _
                  exact OpI.push h1 hd0 H2.out H3.out H4.out H5.out H6.out H7.out hK0 (by omega) hW4 b3 o2 hp hc2 hcm2 hown1 hgrow hat
                exact AllReadyIn.nil
              exact AllReadyIn.nil
            exact AllReadyIn.nil
          exact AllReadyIn.nil
        refine AllReadyIn.cons (o := _) rfl (fun K hK => ?_) ?_
        · go_simp
          gi_wp2_with fail
          refine ⟨trivial, (CallsIn.inRound l (callsIn_wide.2 (clone_any a m.C.toNat m.C.toNat x _ (ints_drewN HO.out.ints 1) (by omega) hp))).mono ?_⟩
          rintro e w3 ⟨A2, c2, rfl, o2, hc2, hcm2, b3Q⟩
          have b3 : Below W.heap.size W w3 := (below_drewN (Below.refl _ W) 1).trans b3Q
          clear b3Q
          refine hK _ _ ?_
          clear hK K
          have ck4 := (H2.out.on b3).cell
          have ck5 := fun o => ((H2.out.on b3).alloc o).cell
          refine wpAnyIn_ready (rs := [0, 3]) (by kernel_rfl) (by simp) ?_
          refine AllReadyIn.cons (o := _) rfl (fun K hK => ?_) ?_
          · go_simp
            refine hK _ _ ?_
            clear hK K
            refine wpAnyIn_ready (rs := [3]) (by kernel_rfl) (by simp) ?_
            refine AllReadyIn.cons (o := _) rfl (fun K hK => ?_) ?_
            · go_simp
              refine hK _ _ ?_
              clear hK K
              refine wpAnyIn_ready (rs := [4]) (by kernel_rfl) (by simp) ?_
              refine AllReadyIn.cons (o := _) rfl (fun K hK => ?_) ?_
              · obtain ⟨a2, _, rfl, _⟩ := o2.at_ hp
                refine stepIn_append_lies rfl _ _ 26 rfl (w.heap.size + 3) 39 i0' _ 1 24 Try.underlying26 HI.out.1 HI.out.2.1 HI.out.2.2.1 HI.out.2.2.2 rfl (by omega) _ pre.length _ rfl ((H4.out.on b3).row.alloc _) ⟨w3.heap.size, 0, none⟩ 1 1 [.slice (some a2) m.C.toNat c2] rfl rfl (World.news_of_block (cs := #[.slice (some a2) m.C.toNat c2]) (t := 39) (fr := (0, 0)) (heap_alloc_new w3 _)) (slice_one a2 _ c2) (by omega) (by unfold maxLen; omega) (by omega) (by have := b3.size; simp; omega) (w3.heap.size + 1) (by simp) ?_
                intro gg cap w5 hown1 hgrow hat hlt3
                refine hK _ _ ?_
                clear hK K
                obtain ⟨ck6, ck7⟩ := OpI.cell5 H2.out H4.out b3 hgrow
                refine wpAnyIn_ready (rs := [5]) (by kernel_rfl) (by simp) ?_
                refine AllReadyIn.cons (o := _) rfl (fun K hK => ?_) ?_
                · go_simp
                  refine hK _ _ ?_
                  clear hK K
                  refine wpAnyIn_done (by kernel_rfl) ?_ _
                  exact OpI.push h1 hd0 H2.out H3.out H4.out H5.out H6.out H7.out hK0 (by omega) hW4 b3 o2 hp hc2 hcm2 hown1 hgrow hat
                exact AllReadyIn.nil
              exact AllReadyIn.nil
            exact AllReadyIn.nil
          refine AllReadyIn.cons (o := _) rfl (fun K hK => ?_) ?_
          · go_simp
            refine hK _ _ ?_
            clear hK K
            refine wpAnyIn_ready (rs := [0]) (by kernel_rfl) (by simp) ?_
            refine AllReadyIn.cons (o := _) rfl (fun K hK => ?_) ?_
            · go_simp
              refine hK _ _ ?_
              clear hK K
              refine wpAnyIn_ready (rs := [4]) (by kernel_rfl) (by simp) ?_
              refine AllReadyIn.cons (o := _) rfl (fun K hK => ?_) ?_
              · obtain ⟨a2, _, rfl, _⟩ := o2.at_ hp
                refine stepIn_append_lies rfl _ _ 26 rfl (w.heap.size + 3) 39 i0' _ 1 24 Try.underlying26 HI.out.1 HI.out.2.1 HI.out.2.2.1 HI.out.2.2.2 rfl (by omega) _ pre.length _ rfl ((H4.out.on b3).row.alloc _) ⟨w3.heap.size, 0, none⟩ 1 1 [.slice (some a2) m.C.toNat c2] rfl rfl (World.news_of_block (cs := #[.slice (some a2) m.C.toNat c2]) (t := 39) (fr := (0, 0)) (heap_alloc_new w3 _)) (slice_one a2 _ c2) (by omega) (by unfold maxLen; omega) (by omega) (by have := b3.size; simp; omega) (w3.heap.size + 1) (by simp) ?_
                intro gg cap w5 hown1 hgrow hat hlt3
                refine hK _ _ ?_
                clear hK K
                obtain ⟨ck6, ck7⟩ := OpI.cell5 H2.out H4.out b3 hgrow
                refine wpAnyIn_ready (rs := [5]) (by kernel_rfl) (by simp) ?_
                refine AllReadyIn.cons (o := _) rfl (fun K hK => ?_) ?_
                · go_simp
                  refine hK _ _ ?_
                  clear hK K
                  refine wpAnyIn_done (by kernel_rfl) ?_ _
                  exact OpI.push h1 hd0 H2.out H3.out H4.out H5.out H6.out H7.out hK0 (by omega) hW4 b3 o2 hp hc2 hcm2 hown1 hgrow hat
                exact AllReadyIn.nil
              exact AllReadyIn.nil
            exact AllReadyIn.nil
          exact AllReadyIn.nil
        exact AllReadyIn.nil
      exact AllReadyIn.nil
  case done =>
    rintro ys s W rfl h1 hK2
    have H1 := Lib.hid h1
    have HT : Hid ((opAll m (setP yss)).take most.toNat = opAll m (bitP vs)) := Lib.hid (by rw [← HOP.out]; exact List.take_of_length_le (by have := h1.most; omega))
    obtain ⟨V', c', gs, _, h2, _⟩ := h1
    have ck2 := h2.cell
    have CK := Lib.hid ck2
    have hB3 : w.heap.size + 3 ≤ w2.heap.size := by omega
    go_wp2
    refine ⟨by simp, .inl ⟨_, _, rfl, run_takeDeferred hK2, ?_⟩⟩
    refine ⟨_, results_tmp2 rfl _ _ _, ?_⟩
    show GivesRagE w 0 (List.take most.toNat (opAll m (setP yss))) (.returned (.tuple #[.slice V' (opAll m (bitP vs)).length c', .int .i64 0])) _
    exact H1.out.ends hK hB3 _ CK.out HT.out
  case stop =>
    rintro cd pre W ⟨p, x, R, e1, e2⟩ hh hK2
    obtain ⟨rfl, p', x', s, e3, e4, h1⟩ := hh.out
    obtain rfl : p' = p := by
      rw [e2] at e3
      exact (List.append_inj' e3 rfl).1.symm
    have H1 := Lib.hid h1
    have HT : Hid ((opAll m (setP yss)).take most.toNat = p') := Lib.hid (by
      rw [← HOP.out]
      have e5 : most.toNat = p'.length := by omega
      rw [e1, e5]
      exact List.take_left' rfl)
    obtain ⟨V', c', gs, _, h2, _⟩ := h1
    have ck2 := h2.cell
    have CK := Lib.hid ck2
    have hB3 : w.heap.size + 3 ≤ w2.heap.size := by omega
    refine wpIn_wide.2 ?_
    clear e1 e2 e3 e4 h2 hh
    go_wp2
    refine ⟨by simp, .inl ⟨_, _, rfl, run_takeDeferred hK2, ?_⟩⟩
    refine ⟨_, results_tmp2 rfl _ _ _, ?_⟩
    show GivesRagE w 0 (List.take most.toNat (opAll m (setP yss))) (.returned (.tuple #[.slice V' (p').length c', .int .i64 0])) _
    exact H1.out.ends hK hB3 _ CK.out HT.out

end Go.Proofs.Ytbfnffecmglgfaa
