/- l04Openers of the model. -/
import Derived.Test.YtbfnffecmglgfaaCntOp
import Derived.Test.YtbfnffecmglgfaaBuilt
import Derived.Deep.RegionHeld3
import Derived.Deep.Upon
namespace Go.Proofs.Ytbfnffecmglgfaa
open Go Go.RowKit

theorem rowHigh {w : World} {base t s n : Nat} {v : Value} {xs : List Value} (h : w.ownsRow base t s v n xs) : ∀ k, v.ownBlock = some k → k < w.heap.size := by
  intro k hk
  rcases h.2 with ⟨rfl, _⟩ | ⟨g, cap, cur, rfl, hb, hg, _⟩
  · cases hk
  · have : g = k := by simpa [Value.ownBlock] using hk
    subst this
    exact heapLt hg
/-- nothing is appended -/
theorem step_append_none {P : Program} {ops : Array Oper} {o : Oper} {a : Act} {w : World} {K : Act → World → Prop} {Q : Exit → Act → World → Prop} {E : Prop} (hgd : o.guard = none) (s x : Operand) (t : TypeId)
    (ho : o.op = .call { callee := .builtin .append, args := #[s, x], argTypes := #[t, t] }) (e : TypeId) (i : TypeInfo) (ht : P.underlying t = some (.slice e)) (hi : P.info? e = some i)
    (b : Option Addr) (n c : Nat) (hnc : n ≤ c) (hs : a.eval s = .slice b n c) (V : Option Addr) (c' : Nat) (hx : a.eval x = .slice V 0 c') (h : K (a.put o.dst (.slice b n c)) w) :
    if Region.wanted o (yielded ops a.tmps) = true then Oper.wp P o a w K Q else E := by
  have hw : Region.wanted o (yielded ops a.tmps) = true := by simp [Region.wanted, hgd]
  rw [if_pos hw]
  have hsrc : Go.Src P i.size t (.slice V 0 c') 0 [] w := by
    rcases V with _ | ad
    · exact Go.Src.ofNil w ht c'
    · exact Go.Src.ofSlice w ht ad 0 c' [] (by simp) (fun j u hj => by simp at hj) (fun u hu => by cases hu)
  have hr := run_append_nothing w t t o.type e i ht hi b n c hnc (.slice V 0 c') hsrc
  unfold Oper.wp execOp
  simp only [ho, resolve, invoke, builtin, Sem.run_bind, Sem.run_pure, Result.andThen_ok, List.map_toArray, List.map_cons, List.map_nil, hs, hx, hr]
  exact h

/-- what stays while the openers are gathered -/
structure OArg (w W : World) (m : Mk) (V : Option Addr) (n c : Nat) (yss : List (List Int)) (A : Option Addr) (q : Nat) (xs : List Int) : Prop where
  box : Boxed W w.heap.size 25 m
  cell : Cell1 W (w.heap.size + 1) 30 (.slice V n c)
  sets : Sets W w.heap.size V n yss
  ints : Ints W w.heap.size A q xs
  bel : Below w.heap.size w W
section
variable {w W W' : World} {m : Mk} {V : Option Addr} {n c : Nat} {yss : List (List Int)} {A : Option Addr} {q : Nat} {xs : List Int}
theorem OArg.on (h : OArg w W m V n c yss A q xs) (b : Below W.heap.size W W') : OArg w W' m V n c yss A q xs := ⟨h.box.on b, h.cell.on b, h.sets.below (b.mono h.bel.size), h.ints.below (b.mono h.bel.size), below_trans' h.bel b⟩
theorem OArg.new (h : Sets w w.heap.size V n yss) (hi : Ints w w.heap.size A q xs) : OArg w ((w.alloc (.cells #[.int .i64 m.C, .int .i64 m.D, .int .i64 m.S, .int .i64 m.M, .int .i64 m.L] 25)).alloc (.cells #[.slice V n c] 30)) m V n c yss A q xs := by
  have c0 := ((Below.refl w.heap.size w).alloc (Nat.le_refl _) (.cells #[.int .i64 m.C, .int .i64 m.D, .int .i64 m.S, .int .i64 m.M, .int .i64 m.L] 25)).alloc (by simp) (.cells #[.slice V n c] 30)
  have k0 := Cell1.new (w.alloc (.cells #[.int .i64 m.C, .int .i64 m.D, .int .i64 m.S, .int .i64 m.M, .int .i64 m.L] 25)) 30 (.slice V n c)
  rw [World.size_alloc] at k0
  exact ⟨(Boxed.new w 25 m).alloc _, k0, h.below c0, hi.below c0, c0⟩
end
theorem OArg.grown {w W W' : World} {m : Mk} {V : Option Addr} {n c : Nat} {yss : List (List Int)} {A : Option Addr} {q : Nat} {xs : List Int} {row : Option Nat} (h : OArg w W m V n c yss A q xs) (hg : W.grownBy W' row) (hr : ∀ k, row = some k → w.heap.size + 1 + 1 ≤ k) : OArg w W' m V n c yss A q xs := by
  have hsz := h.bel.size
  have hb := (Below.refl w.heap.size W).grown hg hsz (fun q e => by have := hr q e; omega)
  exact ⟨h.box.grown hg (fun e => by have := hr _ e.symm; omega), h.cell.grown hg (fun e => by have := hr _ e.symm; omega), h.sets.below hb, h.ints.below hb, h.bel.trans hb⟩
/-- lists that a call has gathered: each is the list A or new since block B -/
structure Ops (w : World) (B : Nat) (A : Option Addr) (V : Option Addr) (n c : Nat) (vals : List Value) (zss : List (List Int)) : Prop where
  len : zss.length = n
  vlen : vals.length = n
  nc : n ≤ c
  cm : c ≤ 9223372036854775807
  outer : 0 < n → ∃ ad, V = some ad ∧ ad.block < w.heap.size ∧ B ≤ ad.block ∧ ∀ (j : Nat) (u : Value), vals[j]? = some u → w.cell? (ad.add j) = some u
  inner : ∀ (j : Nat) (u : Value) (zs : List Int), vals[j]? = some u → zss[j]? = some zs → ∃ A' q c', u = .slice A' q c' ∧ Ints w w.heap.size A' q zs ∧ q ≤ c' ∧ c' ≤ 9223372036854775807 ∧ (0 < q → ∀ ad, A' = some ad → B ≤ ad.block ∨ ∃ a, A = some a ∧ ad.block = a.block)
theorem Ops.nil (w : World) (B : Nat) (A V : Option Addr) : Ops w B A V 0 0 [] [] := ⟨rfl, rfl, Nat.le_refl _, by omega, fun h => absurd h (by omega), fun j u zs hj => by simp at hj⟩
theorem Ops.sets {w : World} {B : Nat} {A V : Option Addr} {n c : Nat} {vals : List Value} {zss : List (List Int)} (h : Ops w B A V n c vals zss) : Sets w w.heap.size V n zss :=
  ⟨h.len, fun hn => by
    obtain ⟨ad, e, hb, _, hc⟩ := h.outer hn
    refine ⟨ad, e, hb, fun j zs hz => ?_⟩
    have hj : j < vals.length := by rw [h.vlen, ← h.len]; exact (List.getElem?_eq_some_iff.1 hz).1
    have hu : vals[j]? = some vals[j] := List.getElem?_eq_getElem hj
    obtain ⟨A', q, c', e2, h1, h2, h3, _⟩ := h.inner j _ zs hu hz
    exact ⟨A', q, c', by rw [← e2]; exact hc j _ hu, h1, h2, h3⟩⟩
theorem Ops.one {w : World} {B : Nat} {A V : Option Addr} {n c : Nat} {vals : List Value} {zss : List (List Int)} (h : Ops w B A V n c vals zss) : ∀ u ∈ vals, u.oneCell' = true := by
  intro u hu
  obtain ⟨j, hj⟩ := List.getElem?_of_mem hu
  have hl : j < zss.length := by rw [h.len, ← h.vlen]; exact (List.getElem?_eq_some_iff.1 hj).1
  obtain ⟨A', q, c', rfl, _⟩ := h.inner j u _ hj (List.getElem?_eq_getElem hl)
  rfl
def GivesOps (w : World) (A : Option Addr) (zss : List (List Int)) (e : Ending) (w' : World) : Prop :=
  ∃ V n c vals, e = .returned (.slice V n c) ∧ Ops w' w.heap.size A V n c vals zss ∧ Below w.heap.size w w'

theorem Stack.pushAll {w w' : World} {lo n g cap k : Nat} {v : Value} {vals us : List Value} {yss zss : List (List Int)} (h : Stack w lo v n vals yss)
    (hi : ∀ (j : Nat) (u : Value) (zs : List Int), us[j]? = some u → zss[j]? = some zs → ∃ A q c, u = .slice A q c ∧ Ints w w.heap.size A q zs ∧ q ≤ c ∧ c ≤ 9223372036854775807 ∧ (0 < q → ∀ ad, A = some ad → v.ownBlock ≠ some ad.block)) (hz : zss.length = k)
    (hrow : w'.ownsRow lo 39 1 (.slice (some ⟨g, 0, none⟩) (n + k) cap) (n + k) (vals ++ us)) (hg : w.grownBy w' v.ownBlock) (hat : v.ownBlock = some g ∨ w.heap.size ≤ g) :
    Stack w' lo (.slice (some ⟨g, 0, none⟩) (n + k) cap) (n + k) (vals ++ us) (yss ++ zss) := by
  have hvl := h.vlen
  have keep : ∀ (B : Option Addr) (p : Nat) (zs : List Int), Ints w w.heap.size B p zs → (0 < p → ∀ ad, B = some ad → v.ownBlock ≠ some ad.block) → Ints w' w'.heap.size B p zs ∧ (0 < p → ∀ ad, B = some ad → (Value.slice (some ⟨g, 0, none⟩) (n + k) cap).ownBlock ≠ some ad.block) := by
    intro B p zs hz hne
    refine ⟨hz.past hg hne, fun hp ad e e2 => ?_⟩
    have e' : g = ad.block := by simpa [Value.ownBlock] using e2
    rcases hat with h1 | h1
    · exact hne hp ad e (by rw [h1, e'])
    · obtain ⟨bd, e3, hlt, _⟩ := hz.2 hp
      rw [e] at e3; injection e3 with e3; subst e3
      omega
  refine ⟨hrow, by rw [List.length_append, h.len, hz], fun j u zs hj hzj => ?_⟩
  rcases Nat.lt_or_ge j n with hlt | hge
  · rw [List.getElem?_append_left (by omega)] at hj
    rw [List.getElem?_append_left (by rw [h.len]; omega)] at hzj
    obtain ⟨B, p, c', e, h1, h2, h3, h4⟩ := h.inner j u zs hj hzj
    obtain ⟨k1, k2⟩ := keep B p zs h1 h4
    exact ⟨B, p, c', e, k1, h2, h3, k2⟩
  · rw [List.getElem?_append_right (by omega), hvl] at hj
    rw [List.getElem?_append_right (by rw [h.len]; omega), h.len] at hzj
    obtain ⟨B, p, c', e, h1, h2, h3, h4⟩ := hi (j - n) u zs hj hzj
    obtain ⟨k1, k2⟩ := keep B p zs h1 h4
    exact ⟨B, p, c', e, k1, h2, h3, k2⟩

/-- the openers behind the first k depths of a set -/
def parts (m : Mk) (p : Nat → Nat → Bool) (j : Nat) (xs ys : List Int) (k : Nat) : List (List Int) := (ys.take k).flatMap (fun v => opFrom m p j (xs ++ [v]))
theorem parts_step {m : Mk} {p : Nat → Nat → Bool} {j : Nat} {xs ys : List Int} {k : Nat} {v : Int} (h : ys[k]? = some v) : parts m p j xs ys (k + 1) = parts m p j xs ys k ++ opFrom m p j (xs ++ [v]) := by
  obtain ⟨hl, e⟩ := List.getElem?_eq_some_iff.1 h
  unfold parts
  rw [List.take_succ_eq_append_getElem hl, e, List.flatMap_append]
  simp
theorem parts_all {m : Mk} {yss : List (List Int)} {j : Nat} {xs ys : List Int} {k : Nat} (hm : m.ok = true) (hy : yss[xs.length]? = some ys) (hr : riseB m.D ys = true) (hb : beginsB m xs = true) (hk : ys.length ≤ k) : opFrom m (setP yss) (j + 1) xs = parts m (setP yss) j xs ys k := by
  obtain ⟨_, _, m3, _⟩ := Mk.ok_true hm
  rw [op_succ hb]
  unfold opTails parts
  rw [List.drop_zero, List.take_of_length_le hk]
  have h1 := rise_walk0 (fun (e : Nat) => opFrom m (setP yss) j (xs ++ [(e : Int)])) (show (0 : Int) ≤ m.D by omega) hr
  have e1 : ∀ d : Nat, setP yss xs.length d = ys.any (fun v => decide (v = (d : Int))) := fun d => by unfold setP; rw [getD_list hy]
  have e2 : (List.range m.D.toNat).flatMap (fun (d : Nat) => if setP yss xs.length d then opFrom m (setP yss) j (xs ++ [(d : Int)]) else []) = ys.flatMap (fun v => opFrom m (setP yss) j (xs ++ [((v.toNat : Nat) : Int)])) := by
    rw [← h1]
    exact flat_congr (fun d _ => by rw [e1])
  rw [e2]
  exact flat_congr (fun v hv => by rw [show ((v.toNat : Nat) : Int) = v by have := (rise_facts hr).1 v hv; omega])
theorem take_more {α : Type} {a b : List α} {t o : Nat} (ho : (a.take t).length = o) : (a ++ b).take t = a.take t ++ b.take (t - o) := by
  rw [List.take_append]
  congr 2
  rw [List.length_take] at ho
  omega

def OpenOk (m : Mk) (V : Option Addr) (n c : Nat) (yss : List (List Int)) (j : Nat) : Prop :=
  ∀ (A : Option Addr) (q d : Nat) (xs : List Int) (most : Int) (w : World), Sets w w.heap.size V n yss → Ints w w.heap.size A q xs → q ≤ d → d ≤ 9223372036854775807 → (A = none → q = 0 ∧ d = 0) → (xs.length : Int) + j = m.C → allIn 0 (m.D - 1) xs = true → most ≤ 1000000 → 0 ≤ most →
    Calls Try.prog 110 #[.agg #[.int .i64 m.C, .int .i64 m.D, .int .i64 m.S, .int .i64 m.M, .int .i64 m.L], .agg #[.slice V n c], .slice A q d, .int .i64 most] w (GivesOps w A ((opFrom m (setP yss) j xs).take most.toNat))

set_option maxRecDepth 100000 in
set_option maxHeartbeats 8000000 in
theorem openers_step (m : Mk) (hm : m.ok = true) (V : Option Addr) (n c : Nat) (yss : List (List Int)) (hL : lockB m yss = true) (j : Nat) (IH : ∀ i, j = i + 1 → OpenOk m V n c yss i) : OpenOk m V n c yss j := by
  intro A q d xs most w h hi hqd hdm hA hlen hdep hmost hm0
  obtain ⟨m1, m2, m3, m4, m5, m6, m7, m8, m9, m10, m11⟩ := Mk.ok_true hm
  have HM := Lib.hid hm
  have HL := Lib.hid hi.len
  have HD := Lib.hid hdep
  have HLE := Lib.hid hlen
  have HA := Lib.hid hA
  have hq6 : q ≤ 6 := by have := hi.len; omega
  have hqC : (q : Int) + j = m.C := by have := hi.len; omega
  have HQC := Lib.hid hqC
  have O0 := Lib.hid (OArg.new (m := m) (c := c) h hi)
  have HLK := Lib.hid hL
  have hJ := Lib.hid IH
  clear h hm hdep hlen hA hL IH hqC
  obtain ⟨q0, q1, q2, q3, q4⟩ := O0.out.box.cells
  rcases hb : beginsB m xs with _ | _
  · have HE : Hid ((opFrom m (setP yss) j xs).take most.toNat = []) := Lib.hid (by rw [op_stop hb]; simp)
    rw [HE.out]
    go_enter Try.func110, Try.ntmps110
    go_wp2_with fail
    refine (l02Begins_any m _ _ _ xs _ (O0.out.ints.more O0.out.bel.size) (by omega) HM.out HD.out).mono ?_
    rw [hb]
    rintro e w1 ⟨rfl, b1⟩
    have C1 := Lib.hid (O0.out.on b1).bel
    clear q0 q1 q2 q3 q4
    go_wp2
    go_ret
    exact ⟨none, 0, 0, [], rfl, Ops.nil _ _ _ _, C1.out⟩
  have HB := Lib.hid hb
  by_cases hz : most ≤ 0
  · have HE : Hid ((opFrom m (setP yss) j xs).take most.toNat = []) := Lib.hid (by rw [show most.toNat = 0 by omega]; simp)
    rw [HE.out]
    go_enter Try.func110, Try.ntmps110
    go_wp2_with fail
    refine (l02Begins_any m _ _ _ xs _ (O0.out.ints.more O0.out.bel.size) (by omega) HM.out HD.out).mono ?_
    rw [hb]
    rintro e w1 ⟨rfl, b1⟩
    have C1 := Lib.hid (O0.out.on b1).bel
    clear q0 q1 q2 q3 q4
    go_wp2
    go_ret
    exact ⟨none, 0, 0, [], rfl, Ops.nil _ _ _ _, C1.out⟩
  rcases j with _ | j
  · have htest : ((q : Int) == m.C) = true := by have := HQC.out; simp; omega
    by_cases hk : (kinds xs : Int) < m.L
    · have dL : decide ((kinds xs : Int) < m.L) = true := by simpa using hk
      have HE : Hid ((opFrom m (setP yss) 0 xs).take most.toNat = []) := Lib.hid (by rw [op_zero_no hb (by omega)]; simp)
      rw [HE.out]
      clear hk
      go_enter Try.func110, Try.ntmps110
      go_wp2_with fail
      refine (l02Begins_any m _ _ _ xs _ (O0.out.ints.more O0.out.bel.size) (by omega) HM.out HD.out).mono ?_
      rw [hb]
      rintro e w1 ⟨rfl, b1⟩
      have O1 := Lib.hid (O0.out.on b1)
      have hi1 := O1.out.ints.more O1.out.bel.size
      clear q0 q1 q2 q3 q4 O0 b1
      obtain ⟨q0, q1, q2, q3, q4⟩ := O1.out.box.cells
      go_wp2
      go_quiet ((go_at_call 151; exact quiet_on (l02Kinds_any _ _ _ xs _ (ints_drewN hi1 _) (by omega) hqd hdm)))
      go_wp2
      go_ret
      exact ⟨none, 0, 0, [], rfl, Ops.nil _ _ _ _, below_drewN O1.out.bel _⟩
    · have dL : decide ((kinds xs : Int) < m.L) = false := by simpa using hk
      have HE : Hid ((opFrom m (setP yss) 0 xs).take most.toNat = [xs]) := Lib.hid (by
        rw [op_zero_yes hb (by omega)]
        obtain ⟨t, ht⟩ : ∃ t, most.toNat = t + 1 := ⟨most.toNat - 1, by omega⟩
        rw [ht]; simp)
      rw [HE.out]
      clear hk
      go_enter Try.func110, Try.ntmps110
      go_wp2_with fail
      refine (l02Begins_any m _ _ _ xs _ (O0.out.ints.more O0.out.bel.size) (by omega) HM.out HD.out).mono ?_
      rw [hb]
      rintro e w1 ⟨rfl, b1⟩
      have O1 := Lib.hid (O0.out.on b1)
      have hi1 := O1.out.ints.more O1.out.bel.size
      have HI1 := Lib.hid hi1
      clear q0 q1 q2 q3 q4 O0 b1
      obtain ⟨q0, q1, q2, q3, q4⟩ := O1.out.box.cells
      go_wp2
      go_quiet ((go_at_call 151; exact quiet_on (l02Kinds_any _ _ _ xs _ (ints_drewN hi1 _) (by omega) hqd hdm)))
      go_wp2
      go_ret
      refine ⟨some ⟨w1.heap.size, 0, none⟩, 1, 1, [.slice A q d], rfl, ⟨rfl, rfl, Nat.le_refl _, by omega, fun _ => ⟨_, rfl, by simp, O1.out.bel.size, fun j u hu => ?_⟩, fun j u zs hu hz => ?_⟩, (below_drewN O1.out.bel _).alloc (by have := O1.out.bel.size; exact this) _⟩
      · exact World.news_of_block (cs := #[.slice A q d]) (t := 39) (fr := (0, 0)) (heap_alloc_new _ _) j u (by simpa using hu)
      · have hj0 : j = 0 := by
          have := (List.getElem?_eq_some_iff.1 hu).1
          simp at this
          exact this
        subst hj0
        simp at hu hz
        subst hu; subst hz
        exact ⟨A, q, d, rfl, (show Ints (w1.drewN nq) (w1.drewN nq).heap.size A q xs from ints_drewN HI1.out nq).on ((Below.refl _ _).alloc (Nat.le_refl _) _), hqd, hdm, fun _ ad e => .inr ⟨ad, e, rfl⟩⟩
  have htest : ((q : Int) == m.C) = false := by have := HQC.out; simp; omega
  obtain ⟨_, hnC, hsets⟩ := lockB_facts HLK.out
  have hqn : q < yss.length := by have := HQC.out; omega
  obtain ⟨ys, hy⟩ : ∃ ys, yss[q]? = some ys := ⟨_, List.getElem?_eq_getElem hqn⟩
  have HY := Lib.hid hy
  have HRI := Lib.hid (hsets q ys hy).2
  have HE : Hid (opFrom m (setP yss) (j + 1) xs = parts m (setP yss) j xs ys ys.length) := Lib.hid (parts_all HM.out (by rw [HL.out]; exact hy) HRI.out hb (Nat.le_refl _))
  rw [HE.out]
  obtain ⟨T, hT⟩ : ∃ T, most.toNat = T := ⟨_, rfl⟩
  have hTm : (T : Int) = most := by omega
  rw [hT]
  obtain ⟨ii, hi0, hz0, hz1, hz2⟩ := info_parts Try.info2'
  have HF := Lib.hid (And.intro hi0 (And.intro hz0 (And.intro hz1 hz2)))
  obtain ⟨jj, hj0, hy0, hy1, hy2⟩ := info_parts Try.info39'
  have HG := Lib.hid (And.intro hj0 (And.intro hy0 (And.intro hy1 hy2)))
  have HI := hJ
  clear hi0 hz0 hz1 hz2 hj0 hy0 hy1 hy2 hsets hy hT
  go_enter Try.func110, Try.ntmps110
  go_wp2_with fail
  refine (l02Begins_any m _ _ _ xs _ (O0.out.ints.more O0.out.bel.size) (by omega) HM.out HD.out).mono ?_
  rw [hb]
  rintro e w1 ⟨rfl, b1⟩
  have O1 := Lib.hid (O0.out.on b1)
  have a1 := (Below.refl w1.heap.size w1).alloc (Nat.le_refl _) (.cells #[] 39)
  have O2 := Lib.hid (O1.out.on a1)
  have hsz1 := O1.out.bel.size
  have hcw1 := O1.out.cell.lt
  have R0 := Lib.hid (Stack.none_ (rowNil (w := w1) (t := 39) (s := 1) (base := w.heap.size + 1 + 1) (by omega)))
  obtain ⟨ad, ys', A3, sl, cc3, rfl, hab, hy', hc3, hi3, _, _⟩ := O1.out.sets.at_ (show q < n by have := O1.out.sets.len; omega)
  obtain rfl : ys' = ys := by have := HY.out; rw [hy'] at this; injection this
  have hc4 := (a1.cell (p := ad.add q) (by rw [block_of_add]; have := O1.out.bel.size; omega)).trans hc3
  have HI3 := Lib.hid hi3
  have HL3 := Lib.hid hi3.len
  have hq38 : sl ≤ 8 := by
    have := rise_short (by omega) HRI.out
    have := hi3.len
    omega
  have ck1 := O1.out.cell.cell
  have ck2 := O2.out.cell.cell
  have i0 : (0 : Int) ≤ (q : Int) := by omega
  have i1 : (q : Int) < (n : Int) := by have := O1.out.sets.len; omega
  clear q0 q1 q2 q3 q4 O0 b1 a1 hy' hi3 hb
  obtain ⟨q0, q1, q2, q3', q4⟩ := O1.out.box.cells
  go_wp2
  clear q0 q1 q2 q3' q4 ck1 ck2 hc3 hc4
  go_loopw [9, 11] (fun y x wr => ∃ (k : Nat) (z : Value) (o : Nat) (vals : List Value), z = y ∧ x = .int .i64 k ∧ k ≤ sl ∧ o ≤ T ∧ Hid (((parts m (setP yss) j xs ys' k).take T).length = o) ∧ Hid (Stack wr (w.heap.size + 1 + 1) z o vals ((parts m (setP yss) j xs ys' k).take T)) ∧ Hid (∀ u ∈ vals, ∀ bd p c', u = .slice (some bd) p c' → 0 < p → w.heap.size ≤ bd.block) ∧ Hid (OArg w wr m (some ad) n c yss A q xs)) (fun _ x _ => sl - (intOf x).toNat)
  case atStart => exact ⟨0, _, 0, [], rfl, rfl, Nat.zero_le _, Nat.zero_le _, Lib.hid (by simp [parts]), Lib.hid (by simpa [parts] using R0.out), Lib.hid (fun u hu => by cases hu), O2⟩
  case round =>
    obtain ⟨k, z, o, vals, rfl, rfl, hk, hoT, hlen, hst, hfar, hO⟩ := hrel
    clear R0 O2
    by_cases hlt : k < sl
    · obtain ⟨ad3, v, rfl, hab3, hv, hc5⟩ := HI3.out.at_ hlt
      obtain ⟨v0, v1⟩ := (rise_facts HRI.out).1 v (List.mem_of_getElem? hv)
      have KS : Hid (∀ W, OArg w W m (some ad) n c yss A q xs → W.cell? ⟨w.heap.size, 0, none⟩ = some (.int .i64 m.C) ∧ W.cell? ⟨w.heap.size, 1, none⟩ = some (.int .i64 m.D) ∧ W.cell? ⟨w.heap.size, 2, none⟩ = some (.int .i64 m.S) ∧ W.cell? ⟨w.heap.size, 3, none⟩ = some (.int .i64 m.M) ∧ W.cell? ⟨w.heap.size, 4, none⟩ = some (.int .i64 m.L) ∧ W.cell? ⟨w.heap.size + 1, 0, none⟩ = some (.slice (some ad) n c) ∧ W.cell? (ad3.add k) = some (.int .i64 v)) := Lib.hid (fun W h => by
        obtain ⟨r0, r1, r2, r3, r4⟩ := h.box.cells
        refine ⟨r0, r1, r2, r3, r4, h.cell.cell, ?_⟩
        exact (h.bel.cell (p := ad3.add k) (by rw [block_of_add]; exact hab3)).trans ((O1.out.bel.cell (p := ad3.add k) (by rw [block_of_add]; exact hab3)).symm.trans hc5))
      obtain ⟨e, rfl⟩ : ∃ e : Nat, v = (e : Int) := ⟨v.toNat, by omega⟩
      have hlv : (e : Int) < m.D := v1
      have HDX := Lib.hid (depth_snoc HD.out hlv)
      have HLX : Hid (((xs ++ [(e : Int)]).length : Int) + j = m.C) := Lib.hid (by rw [List.length_append, HL.out]; have := HQC.out; simp; omega)
      have HPS := Lib.hid (parts_step (m := m) (p := setP yss) (j := j) (xs := xs) hv)
      obtain ⟨V9, c9, rfl, _, hoc9, hcm9⟩ := hst.out.sets
      have hI1 := hO.out.ints.more hO.out.bel.size
      have hwz := hO.out.bel.size
      have hcw := hO.out.cell.lt
      have hTo : (most - (o : Int)).toNat = T - o := by omega
      obtain ⟨R, hR0⟩ : ∃ R, (opFrom m (setP yss) j (xs ++ [(e : Int)])).take (most - (o : Int)).toNat = R := ⟨_, rfl⟩
      have HST : Hid ((parts m (setP yss) j xs ys' (k + 1)).take T = (parts m (setP yss) j xs ys' k).take T ++ R) := Lib.hid (by rw [HPS.out, take_more hlen.out, ← hTo, hR0])
      have HRT : Hid (R.length + o ≤ T) := Lib.hid (by rw [← hR0, hTo, List.length_take]; omega)
      obtain ⟨q0, q1, q2, q3', q4, ck, cs⟩ := KS.out _ hO.out
      have en0 := World.new_ne wr _ q0
      have en1 := World.new_ne wr _ q1
      have en2 := World.new_ne wr _ q2
      have en3 := World.new_ne wr _ q3'
      have en4 := World.new_ne wr _ q4
      have en5 := World.new_ne wr _ ck
      have en6 := World.new_ne wr _ cs
      have g1 : IntKind.i64.wrap (most - (o : Int)) = most - (o : Int) := IntWalk.i64_in _ (by omega)
      have k0 : (0 : Int) ≤ (k : Int) := by omega
      have k1 : (k : Int) < (sl : Int) := by omega
      have hzb : ∀ b, (Value.slice V9 o c9).ownBlock = some b → b < wr.heap.size := rowHigh hst.out.row
      have hzl : ∀ b, (Value.slice V9 o c9).ownBlock = some b → w.heap.size + 1 + 1 ≤ b := rowBase hst.out.row
      clear hv hTo hc5 hlv v1
      rcases R with _ | ⟨r0, R'⟩
      · have HR := Lib.hid hR0
        clear hR0
        go_wp2
        go_region_held3 (fun w' => w'.cell? ⟨w.heap.size, 0, none⟩ = some (.int .i64 m.C) ∧ w'.cell? ⟨w.heap.size, 1, none⟩ = some (.int .i64 m.D) ∧ w'.cell? ⟨w.heap.size, 2, none⟩ = some (.int .i64 m.S) ∧ w'.cell? ⟨w.heap.size, 3, none⟩ = some (.int .i64 m.M) ∧ w'.cell? ⟨w.heap.size, 4, none⟩ = some (.int .i64 m.L) ∧ w'.cell? ⟨w.heap.size + 1, 0, none⟩ = some (.slice (some ad) n c) ∧ w'.cell? (ad3.add k) = some (.int .i64 (e : Int)))
            (first
              | go_keep
              | with_reducible exact KS.out _ O2.out
              | with_reducible exact KS.out _ O5.out
              | with_reducible exact KS.out _ O6.out
              | with_reducible exact KS.out _ OZ.out
              | with_reducible exact KS.out _ O7.out)
            (first
              | (go_at_call 152; (fail_if_success (have := mkz)); refine (l01Own_any A q d xs _ (ints_drewN hI1 1) (by omega) HA.out).mono ?_; rintro _ w2 ⟨v2, rfl, r2, b2⟩; have O2 := Lib.hid (hO.out.on ((below_drewN (Below.refl wr.heap.size wr) 1).trans b2)))
              | (refine step_append_lies _ (by rfl) _ _ _ (by rfl) wr.heap.size 2 ii _ 1 8 Try.underlying39 HF.out.1 HF.out.2.1 HF.out.2.2.1 HF.out.2.2.2 rfl (by omega) v2 q (intsV xs) (by rfl) (r2.alloc _) ⟨w2.heap.size, 0, none⟩ 1 1 [.int .i64 (e : Int)] (by rfl) (by rfl) (World.news_of_block (cs := #[.int .i64 (e : Int)]) (t := 2) (fr := (0, 0)) (heap_alloc_new w2 _)) (by simp [Value.oneCell']) (by omega) (by unfold maxLen; omega) (by omega) (by have := b2.size; simp at this ⊢; omega) (w2.heap.size + 1) (by simp) ?_; intro gg cap w5 hown1 hgrow hat hlt3; have B5 := Lib.hid ((((below_drewN (Below.refl wr.heap.size wr) 1).trans b2).alloc (by have := b2.size; simpa using this) (.cells #[.int .i64 (e : Int)] 2)).grown hgrow (by have := b2.size; simp at this ⊢; omega) (fun q e => rowBase r2 q e)); have O5 := Lib.hid (hO.out.on B5.out))
              | (go_at_call 110; have hrow5 := hown1; rw [intsV_snoc] at hrow5; obtain ⟨ho5, hc5, hm5⟩ := rowIntsAt hrow5 (by rw [List.length_append, HL.out]; rfl); have hgg := rowBase hrow5 gg rfl; refine (HI.out j rfl (some ⟨gg, 0, none⟩) (q + 1) cap (xs ++ [(e : Int)]) (most - o) w5 (O5.out.sets.more O5.out.bel.size) ho5.ints hc5 hm5 (fun h => by cases h) HLX.out HDX.out (by omega) (by omega)).mono ?_; rw [HR.out]; rintro _ w6 ⟨V6, n6, c6, vals6, rfl, P6, b6⟩; have B6 := Lib.hid (below_trans' B5.out b6); have O6 := Lib.hid (hO.out.on B6.out); have S6 := Lib.hid (hst.out.on B6.out); obtain rfl : n6 = 0 := P6.len.symm)
              | (refine step_append_none (by rfl) _ _ _ (by rfl) 39 jj Try.underlying26 HG.out.1 V9 o c9 hoc9 (by rfl) V6 c6 (by rfl) ?_; have O7 := O6)
              | (go_at_call 152; refine (l01Own_any A q d xs _ (ints_drewN (hI1.alloc (Nat.le_refl _) (.cells #[.int .i64 (e : Int)] 2)) 1) (by omega) HA.out).mono ?_; rintro _ wz ⟨vz, rfl, rz, bz⟩; have BZ := Lib.hid (((below_drewN ((Below.refl wr.heap.size wr).alloc (Nat.le_refl _) (.cells #[.int .i64 (e : Int)] 2)) 1)).trans (bz.mono (by simp))); have OZ := Lib.hid (hO.out.on BZ.out))
              | (refine step_append_lies _ (by rfl) _ _ _ (by rfl) wr.heap.size 2 ii _ 1 8 Try.underlying39 HF.out.1 HF.out.2.1 HF.out.2.2.1 HF.out.2.2.2 rfl (by omega) vz q (intsV xs) (by rfl) (rowMore rz (by simp)) ⟨wr.heap.size, 0, none⟩ 1 1 [.int .i64 (e : Int)] (by rfl) (by rfl) (news_behind bz) (by simp [Value.oneCell']) (by omega) (by unfold maxLen; omega) (by omega) (by have := bz.size; simp at this ⊢; omega) wz.heap.size rfl ?_; intro gg cap w5 hown1 hgrow hat hlt3; have B5 := Lib.hid (BZ.out.grown hgrow (by have := bz.size; simp at this ⊢; omega) (fun q e => by have := rowBase rz q e; simp at this; omega)); have O5 := Lib.hid (hO.out.on B5.out)))
        all_goals
          have HLN : Hid (((parts m (setP yss) j xs ys' (k + 1)).take T).length = o) := Lib.hid (by rw [HST.out, List.append_nil]; exact hlen.out)
          have S7 : Hid (Stack w6 (w.heap.size + 1 + 1) (.slice V9 o c9) o vals ((parts m (setP yss) j xs ys' (k + 1)).take T)) := Lib.hid (by rw [HST.out, List.append_nil]; exact S6.out)
          clear q0 q1 q2 q3' q4 ck cs en0 en1 en2 en3 en4 en5 en6 g1 k0 k1 hzb hzl P6 b6 hown1 hgrow hat hlt3 hrow5 ho5 hc5 hm5 hgg
          go_wp2
          go_roundw
          case rel => exact ⟨k + 1, _, o, vals, rfl, by go_num, by omega, hoT, HLN, S7, hfar, O6⟩
          case measure => simp [intOf]; omega
      · have HR := Lib.hid hR0
        clear hR0
        go_wp2
        go_region_held3 (fun w' => w'.cell? ⟨w.heap.size, 0, none⟩ = some (.int .i64 m.C) ∧ w'.cell? ⟨w.heap.size, 1, none⟩ = some (.int .i64 m.D) ∧ w'.cell? ⟨w.heap.size, 2, none⟩ = some (.int .i64 m.S) ∧ w'.cell? ⟨w.heap.size, 3, none⟩ = some (.int .i64 m.M) ∧ w'.cell? ⟨w.heap.size, 4, none⟩ = some (.int .i64 m.L) ∧ w'.cell? ⟨w.heap.size + 1, 0, none⟩ = some (.slice (some ad) n c) ∧ w'.cell? (ad3.add k) = some (.int .i64 (e : Int)))
            (first
              | go_keep
              | with_reducible exact KS.out _ O2.out
              | with_reducible exact KS.out _ O5.out
              | with_reducible exact KS.out _ O6.out
              | with_reducible exact KS.out _ OZ.out
              | with_reducible exact KS.out _ O7.out)
            (first
              | (go_at_call 152; (fail_if_success (have := mkz)); refine (l01Own_any A q d xs _ (ints_drewN hI1 1) (by omega) HA.out).mono ?_; rintro _ w2 ⟨v2, rfl, r2, b2⟩; have O2 := Lib.hid (hO.out.on ((below_drewN (Below.refl wr.heap.size wr) 1).trans b2)))
              | (refine step_append_lies _ (by rfl) _ _ _ (by rfl) wr.heap.size 2 ii _ 1 8 Try.underlying39 HF.out.1 HF.out.2.1 HF.out.2.2.1 HF.out.2.2.2 rfl (by omega) v2 q (intsV xs) (by rfl) (r2.alloc _) ⟨w2.heap.size, 0, none⟩ 1 1 [.int .i64 (e : Int)] (by rfl) (by rfl) (World.news_of_block (cs := #[.int .i64 (e : Int)]) (t := 2) (fr := (0, 0)) (heap_alloc_new w2 _)) (by simp [Value.oneCell']) (by omega) (by unfold maxLen; omega) (by omega) (by have := b2.size; simp at this ⊢; omega) (w2.heap.size + 1) (by simp) ?_; intro gg cap w5 hown1 hgrow hat hlt3; have B5 := Lib.hid ((((below_drewN (Below.refl wr.heap.size wr) 1).trans b2).alloc (by have := b2.size; simpa using this) (.cells #[.int .i64 (e : Int)] 2)).grown hgrow (by have := b2.size; simp at this ⊢; omega) (fun q e => rowBase r2 q e)); have O5 := Lib.hid (hO.out.on B5.out))
              | (go_at_call 110; have hrow5 := hown1; rw [intsV_snoc] at hrow5; obtain ⟨ho5, hc5, hm5⟩ := rowIntsAt hrow5 (by rw [List.length_append, HL.out]; rfl); have hgg := rowBase hrow5 gg rfl; refine (HI.out j rfl (some ⟨gg, 0, none⟩) (q + 1) cap (xs ++ [(e : Int)]) (most - o) w5 (O5.out.sets.more O5.out.bel.size) ho5.ints hc5 hm5 (fun h => by cases h) HLX.out HDX.out (by omega) (by omega)).mono ?_; rw [HR.out]; rintro _ w6 ⟨V6, n6, c6, vals6, rfl, P6, b6⟩; have B6 := Lib.hid (below_trans' B5.out b6); have O6 := Lib.hid (hO.out.on B6.out); have S6 := Lib.hid (hst.out.on B6.out); obtain ⟨ad6, rfl, hb6, _, hcell6⟩ := P6.outer (by rw [← P6.len]; simp); have hn6 := P6.len; have hn60 : 0 < n6 := by rw [← hn6]; simp)
              | (refine step_append_lies _ (by rfl) _ _ _ (by rfl) (w.heap.size + 1 + 1) 39 jj _ 1 24 Try.underlying26 HG.out.1 HG.out.2.1 HG.out.2.2.1 HG.out.2.2.2 rfl (by omega) (.slice V9 o c9) o vals (by rfl) S6.out.row ad6 n6 c6 vals6 (by rfl) (by rw [P6.vlen]; omega) hcell6 P6.one hn60 (by unfold maxLen; have := HRT.out; omega) (by have := HRT.out; omega) (by have := O6.out.bel.size; have := O6.out.cell.lt; omega) w6.heap.size rfl ?_; intro g7 cap7 w7 hown7 hgrow7 hat7 hlt7; have O7 := Lib.hid (O6.out.grown hgrow7 hzl))
              | (go_at_call 152; refine (l01Own_any A q d xs _ (ints_drewN (hI1.alloc (Nat.le_refl _) (.cells #[.int .i64 (e : Int)] 2)) 1) (by omega) HA.out).mono ?_; rintro _ wz ⟨vz, rfl, rz, bz⟩; have BZ := Lib.hid (((below_drewN ((Below.refl wr.heap.size wr).alloc (Nat.le_refl _) (.cells #[.int .i64 (e : Int)] 2)) 1)).trans (bz.mono (by simp))); have OZ := Lib.hid (hO.out.on BZ.out))
              | (refine step_append_lies _ (by rfl) _ _ _ (by rfl) wr.heap.size 2 ii _ 1 8 Try.underlying39 HF.out.1 HF.out.2.1 HF.out.2.2.1 HF.out.2.2.2 rfl (by omega) vz q (intsV xs) (by rfl) (rowMore rz (by simp)) ⟨wr.heap.size, 0, none⟩ 1 1 [.int .i64 (e : Int)] (by rfl) (by rfl) (news_behind bz) (by simp [Value.oneCell']) (by omega) (by unfold maxLen; omega) (by omega) (by have := bz.size; simp at this ⊢; omega) wz.heap.size rfl ?_; intro gg cap w5 hown1 hgrow hat hlt3; have B5 := Lib.hid (BZ.out.grown hgrow (by have := bz.size; simp at this ⊢; omega) (fun q e => by have := rowBase rz q e; simp at this; omega)); have O5 := Lib.hid (hO.out.on B5.out)))
        all_goals
          have hw5 := B5.out.size
          have HLN : Hid (((parts m (setP yss) j xs ys' (k + 1)).take T).length = o + n6) := Lib.hid (by rw [HST.out, List.length_append, hlen.out, hn6])
          have hfar6 : ∀ (i : Nat) (u : Value) (zs : List Int), vals6[i]? = some u → (r0 :: R')[i]? = some zs → ∃ A q c, u = .slice A q c ∧ Ints w6 w6.heap.size A q zs ∧ q ≤ c ∧ c ≤ 9223372036854775807 ∧ (0 < q → ∀ ad, A = some ad → wr.heap.size ≤ ad.block) := by
            intro i u zs hu hzs
            obtain ⟨A', q', c', e1, e2, e3, e4, e5⟩ := P6.inner i u zs hu hzs
            refine ⟨A', q', c', e1, e2, e3, e4, fun hp bd ebd => ?_⟩
            rcases e5 hp bd ebd with h1 | ⟨a, ha, h1⟩
            · omega
            · injection ha with ha
              subst ha
              rw [h1]; exact hgg
          have S7 : Hid (Stack w7 (w.heap.size + 1 + 1) (.slice (some ⟨g7, 0, none⟩) (o + n6) cap7) (o + n6) (vals ++ vals6) ((parts m (setP yss) j xs ys' (k + 1)).take T)) := Lib.hid (by
            rw [HST.out]
            refine S6.out.pushAll (fun i u zs hu hzs => ?_) hn6 hown7 hgrow7 (hat7.imp id (fun e => by omega))
            obtain ⟨A', q', c', e1, e2, e3, e4, e5⟩ := hfar6 i u zs hu hzs
            exact ⟨A', q', c', e1, e2, e3, e4, fun hp bd ebd e6 => by have := e5 hp bd ebd; have := hzb _ e6; omega⟩)
          have F7 : Hid (∀ u ∈ vals ++ vals6, ∀ bd p c', u = .slice (some bd) p c' → 0 < p → w.heap.size ≤ bd.block) := Lib.hid (fun u hu bd p c' e1 hp => by
            rcases List.mem_append.1 hu with h1 | h1
            · exact hfar.out u h1 bd p c' e1 hp
            · obtain ⟨i, hiu⟩ := List.getElem?_of_mem h1
              have hl : i < (r0 :: R').length := by rw [hn6, ← P6.vlen]; exact (List.getElem?_eq_some_iff.1 hiu).1
              obtain ⟨A', q', c2', e2, _, _, _, e5⟩ := hfar6 i u _ hiu (List.getElem?_eq_getElem hl)
              rw [e1] at e2
              injection e2 with e3 e4 e6
              subst e4
              have := e5 hp bd e3.symm
              omega)
          have hon : o + n6 ≤ T := by have := HRT.out; omega
          clear q0 q1 q2 q3' q4 ck cs en0 en1 en2 en3 en4 en5 en6 g1 k0 k1 hzb hzl P6 b6 hown1 hgrow hat hlt3 hrow5 ho5 hc5 hm5 hgg hfar6 hown7 hgrow7 hat7 hlt7 hb6 hcell6 hw5
          go_wp2
          go_roundw
          case rel => exact ⟨k + 1, _, o + n6, vals ++ vals6, rfl, by go_num, by omega, hon, HLN, S7, F7, O7⟩
          case measure => simp [intOf]; omega
    · obtain rfl : k = sl := by omega
      obtain ⟨V9, c9, rfl, _, hoc9, hcm9⟩ := hst.out.sets
      have HEN : Hid ((parts m (setP yss) j xs ys' ys'.length).take T = (parts m (setP yss) j xs ys' k).take T) := Lib.hid (by rw [HL3.out])
      have hvl := hst.out.vlen
      go_wp2
      go_ret
      rw [HEN.out]
      refine ⟨V9, o, c9, vals, rfl, ⟨hlen.out, hvl, hoc9, hcm9, fun hp => ?_, fun i u zs hu hzs => ?_⟩, hO.out.bel⟩
      · rcases hst.out.row.2 with ⟨e1, e2⟩ | ⟨g, cap, cur, e1, hlo9, hg, _⟩
        · omega
        · injection e1 with e2 e3 e4
          subst e2
          exact ⟨_, rfl, heapLt hg, by show w.heap.size ≤ g; omega, fun i u hu => hst.out.row.cells (g := g) rfl i u hu⟩
      · obtain ⟨A', q', c', e1, e2, e3, e4, _⟩ := hst.out.inner i u zs hu hzs
        exact ⟨A', q', c', e1, e2, e3, e4, fun hp bd ebd => .inl (hfar.out u (List.mem_of_getElem? hu) bd q' c' (by rw [e1, ebd]) hp)⟩

end Go.Proofs.Ytbfnffecmglgfaa
