/- openersFrom, openers and keys of the program: what they lend. -/
import Derived.Test.YtbfnffecmglgfaaOpMath
import Derived.Test.YtbfnffecmglgfaaPair
import Derived.Test.YtbfnffecmglgfaaSNext
import Derived.Deep.RegionWith
namespace Go.Proofs.Ytbfnffecmglgfaa
open Go Go.RowKit
attribute [local go_sem] Oper.semAt_some

theorem room_free {F : Fence} (hd : F.depth = none) (k : Nat) : F.room k := fun d h => by rw [hd] at h; cases h
theorem yield_free {m : Nat} (m' : Nat) {P : Program} {l : Nat} {args : Array Value} {W : World} {R : Ending → World → Prop} (h : YieldAt Fence.wide m P l args W R) : YieldAt Fence.wide m' P l args W R := by
  obtain ⟨fn, tmps, assign, body, hy, hR⟩ := h
  exact ⟨fn, tmps, assign, body, hy, hR.1, fun c cs _ => hR.2 c cs (room_free rfl _)⟩

theorem Boxed.beside {w w' : World} {b B g : Nat} {t : TypeId} {m : Mk} (h : Boxed w b t m) (hb : Beside B g w w') (hB : B ≤ b) (hn : b ≠ g) : Boxed w' b t m := (hb.block b hB h.lt hn).trans h

theorem BitBox.beside {w w' : World} {b B g : Nat} {t : TypeId} {m : Mk} {vs : Nat → Nat} (h : BitBox w b t m vs) (hb : Beside B g w w') (hB : B ≤ b) (hn : b ≠ g) : BitBox w' b t m vs := (hb.block b hB h.lt hn).trans h

/-- 'wpAnyH_take' with the slot written out -/
theorem held_take {P : Program} {md : Region.Mode} {ops : Array Oper} {Q : Exit → Act → World → Prop} {S : World → Prop} {i : Nat} {oi : Oper} {v : Value} (d : Option Tmp) {fuel : Nat} {listed : Array Bool} {a : Act} {w : World} (hi : ops[i]? = some oi) (hd : oi.dst = d)
    (hs : Region.noSelect ops = true) (hf : Region.free md ops listed i = true) (hr : (Region.ready md ops listed).contains i = true)
    (hQ : ∀ c a w, Q (.panic c) (a.put d v) w → Q (.panic c) a w) (hy : YieldsIf P ops S oi v a) (hS : S w)
    (h : wpAnyH P md ops Q S fuel (listed.setIfInBounds i true) (a.put d v) w) : wpAnyH P md ops Q S (fuel + 1) listed a w := by
  subst hd; exact wpAnyH_take hi hs hf hr hQ hy hS h

/-- what the loop that ranges over the keys does with each: J and Jx are its invariants, s the block that its rounds write over -/
def EachKey (l n B g : Nat) (Mid : List (List Int) → Prop) (J : List (List Int) → Option Nat → World → Prop) (Jx : List (List Int) → World → Prop) : Prop :=
  ∀ q pre s x v W1, J pre s W1 → Mid (pre ++ [x]) → Lent n B x v W1 → (∀ a n' c, v = .slice (some a) n' c → a.block = g) → s ≠ some g → YieldAt Fence.wide q Try.prog l #[v] W1 fun e W' =>
    Spare B (fun k => s = some k) W1 W' ∧ ((e = .returned (.bool true) ∧ ∃ s', Grows s s' W1.heap.size ∧ J (pre ++ [x]) s' W') ∨ (e = .returned (.bool false) ∧ Jx (pre ++ [x]) W'))

/-- what openersFrom answers, T being the keys that it yields -/
def Walked (B n ch : Nat) (ad : Addr) (J : List (List Int) → Option Nat → World → Prop) (Jx : List (List Int) → World → Prop) (w : World) (pre : List (List Int)) (s : Option Nat) (ys : List Int) (T : List (List Int)) (e : Ending) (w' : World) : Prop :=
  ∃ ok, e = .returned (.bool ok) ∧ Spare B (fun k => k = ad.block ∨ s = some k) w w' ∧
    ((ok = true ∧ ∃ zs s', Grows s s' w.heap.size ∧ Own w' B w'.heap.size (some ad) n zs ∧ zs.take ch = ys.take ch ∧ J (pre ++ T) s' w') ∨ (ok = false ∧ ∃ p x R, T = p ++ x :: R ∧ Jx (pre ++ (p ++ [x])) w'))
def WalkOk (m : Mk) (vs : Nat → Nat) (l n B : Nat) (ad : Addr) (Mid : List (List Int) → Prop) (J : List (List Int) → Option Nat → World → Prop) (Jx : List (List Int) → World → Prop) (k : Nat) : Prop :=
  ∀ (ch : Nat) (pre : List (List Int)) (s : Option Nat) (ys : List Int) (w : World), ch + k = n → Own w B w.heap.size (some ad) n ys → allIn 0 (m.D - 1) (ys.take ch) = true → (∀ p R, opBehind m (bitP vs) (ys.take ch) k = p ++ R → Mid (pre ++ p)) → s ≠ some ad.block → J pre s w →
    Calls Try.prog 149 #[.agg #[.int .i64 m.C, .int .i64 m.D, .int .i64 m.S, .int .i64 m.M, .int .i64 m.L, .int .u8 (vs 0 : Nat), .int .u8 (vs 1 : Nat), .int .u8 (vs 2 : Nat), .int .u8 (vs 3 : Nat), .int .u8 (vs 4 : Nat), .int .u8 (vs 5 : Nat)], .slice (some ad) n n, .int .i64 (ch : Int), .func (.yield l) #[] #[]] w
      (Walked B n ch ad J Jx w pre s ys (opBehind m (bitP vs) (ys.take ch) k))

set_option maxRecDepth 100000 in
set_option maxHeartbeats 4000000 in
theorem openFrom_zero (m : Mk) (vs : Nat → Nat) (hm : m.ok = true) (l n B : Nat) (ad : Addr) (hnC : (n : Int) = m.C) (Mid : List (List Int) → Prop) (J : List (List Int) → Option Nat → World → Prop) (Jx : List (List Int) → World → Prop) (hJ : ∀ s, Under1 B ad.block (fun pre => J pre s)) (hY : EachKey l n B ad.block Mid J Jx) : WalkOk m vs l n B ad Mid J Jx 0 := by
  intro ch pre s ys w hch ho _ hmid hsa hj
  obtain rfl : ch = n := by omega
  have HLY := Lib.hid ho.len
  obtain ⟨m1, m2, m3, m4, m5, m6, m7, m8, m9, m10, m11⟩ := Mk.ok_true hm
  have hB : B ≤ w.heap.size := by
    obtain ⟨_, _, _, h1, h2, _⟩ := ho.at_ (show 0 < ch by omega)
    omega
  have ha := Above.alloc B w (.cells #[.int .i64 m.C, .int .i64 m.D, .int .i64 m.S, .int .i64 m.M, .int .i64 m.L, .int .u8 (vs 0 : Nat), .int .u8 (vs 1 : Nat), .int .u8 (vs 2 : Nat), .int .u8 (vs 3 : Nat), .int .u8 (vs 4 : Nat), .int .u8 (vs 5 : Nat)] 106)
  have hx := BitBox.new w 106 m vs
  have ho1 := ho.above ha (Nat.le_refl _)
  have hj1 := hJ s _ _ _ hj ((Below.refl B w).alloc hB (.cells #[.int .i64 m.C, .int .i64 m.D, .int .i64 m.S, .int .i64 m.M, .int .i64 m.L, .int .u8 (vs 0 : Nat), .int .u8 (vs 1 : Nat), .int .u8 (vs 2 : Nat), .int .u8 (vs 3 : Nat), .int .u8 (vs 4 : Nat), .int .u8 (vs 5 : Nat)] 106)) (Beside.above ha)
  have HO := Lib.hid ho1
  have HA := Lib.hid ha
  have HYL : Hid (ys.take ch = ys) := Lib.hid (List.take_of_length_le (by rw [ho.len]; exact Nat.le_refl _))
  have q0 := hx.cells.1
  have htest : ((ch : Int) == m.C) = true := by simpa using hnC
  refine (callsIn_wide (n := 9)).1 ?_
  obtain ⟨fn, tmps, assign, body, hy, hR⟩ := hY 8 pre s ys _ _ hj1 (hmid [ys] [] (by rw [HYL.out]; rfl)) ⟨ad, rfl, ho1⟩ (fun a n' c e => by injection e with e; injection e with e; subst e; rfl) hsa
  have HSA := Lib.hid hsa
  clear ho ho1 hj hj1 ha hJ hY hnC hx hmid hsa
  refine callsIn_of_wp Try.func149 rfl trivial ?_ rfl
  simp only [Try.ntmps149, List.size_toArray, List.length_cons, List.length_nil, Nat.reduceAdd, Nat.reduceSub, Array.replicate_succ, Array.replicate_zero, List.push_toArray, List.append_toArray, List.nil_append, List.cons_append]
  gi_wp2
  refine hR.mono ?_
  rintro e W1 ⟨ha2, ⟨rfl, s', hg2, hj2⟩ | ⟨rfl, hx2⟩⟩
  · gi_wp2
    go_ret
    exact ⟨true, rfl, (Spare.above HA.out).trans ha2 (fun _ _ h => .inr h), .inl ⟨rfl, ys, s', hg2.less (by simp), HO.out.spare ha2 (Nat.le_refl _) (fun a e => by injection e with e; subst e; exact HSA.out), rfl, by rw [HYL.out]; exact hj2⟩⟩
  · gi_wp2
    go_ret
    exact ⟨false, rfl, (Spare.above HA.out).trans ha2 (fun _ _ h => .inr h), .inr ⟨rfl, [], ys, [], by rw [HYL.out]; rfl, by simpa using hx2⟩⟩

set_option linter.unusedSimpArgs false in
set_option maxRecDepth 100000 in
set_option maxHeartbeats 8000000 in
theorem openFrom_step (m : Mk) (vs : Nat → Nat) (hv : ∀ i, vs i < 256) (hm : m.ok = true) (l n B : Nat) (ad : Addr) (hnC : (n : Int) = m.C) (Mid : List (List Int) → Prop) (J : List (List Int) → Option Nat → World → Prop) (Jx : List (List Int) → World → Prop) (hJ : ∀ s, Under1 B ad.block (fun pre => J pre s)) (hS : ∀ pre b W, J pre (some b) W → b < W.heap.size) (k : Nat) (IH : WalkOk m vs l n B ad Mid J Jx k) : WalkOk m vs l n B ad Mid J Jx (k + 1) := by
  intro ch pre s ys w hch ho hpre hmid hsa hj
  obtain ⟨m1, m2, m3, m4, m5, m6, m7, m8, m9, m10, m11⟩ := Mk.ok_true hm
  have HM := Lib.hid hm
  have HV := Lib.hid hv
  have HC := Lib.hid hch
  have HN := Lib.hid hnC
  have hn6 : n ≤ 6 := by omega
  have hchn : ch < n := by omega
  have HP := Lib.hid hpre
  have HI := Lib.hid IH
  have HJ := Lib.hid hJ
  obtain ⟨_, _, e0, hlo, hhi, _, _, _⟩ := ho.at_ hchn
  obtain rfl := (by injection e0 : ad = _)
  clear e0
  have hB : B ≤ w.heap.size := by omega
  have hx := BitBox.new w 106 m vs
  have ha := Above.alloc B w (.cells #[.int .i64 m.C, .int .i64 m.D, .int .i64 m.S, .int .i64 m.M, .int .i64 m.L, .int .u8 (vs 0 : Nat), .int .u8 (vs 1 : Nat), .int .u8 (vs 2 : Nat), .int .u8 (vs 3 : Nat), .int .u8 (vs 4 : Nat), .int .u8 (vs 5 : Nat)] 106)
  have hj1 := hJ s _ _ _ hj ((Below.refl B w).alloc hB (.cells #[.int .i64 m.C, .int .i64 m.D, .int .i64 m.S, .int .i64 m.M, .int .i64 m.L, .int .u8 (vs 0 : Nat), .int .u8 (vs 1 : Nat), .int .u8 (vs 2 : Nat), .int .u8 (vs 3 : Nat), .int .u8 (vs 4 : Nat), .int .u8 (vs 5 : Nat)] 106)) (Beside.above ha)
  have ho1 := ho.above ha (Nat.le_refl _)
  have HY := Lib.hid ho.len
  have htest : ((ch : Int) == m.C) = false := by simp; omega
  have HTL : Hid ((ys.take ch).length = ch) := Lib.hid (by rw [List.length_take, HY.out]; omega)
  obtain ⟨q0, q1, _, _, _, _, _, _, _, _, _⟩ := hx.cells
  have HX := Lib.hid hx
  have HJ1 := Lib.hid hj1
  have HO1 := Lib.hid ho1
  have HA : Hid (Spare B (fun k => k = ad.block ∨ s = some k) w (w.alloc (.cells #[.int .i64 m.C, .int .i64 m.D, .int .i64 m.S, .int .i64 m.M, .int .i64 m.L, .int .u8 (vs 0 : Nat), .int .u8 (vs 1 : Nat), .int .u8 (vs 2 : Nat), .int .u8 (vs 3 : Nat), .int .u8 (vs 4 : Nat), .int .u8 (vs 5 : Nat)] 106))) := Lib.hid (Spare.above ha)
  have HSA := Lib.hid hsa
  have HSW : Hid (s ≠ some w.heap.size) := Lib.hid (fun e => by subst e; have := hS _ _ _ hj; omega)
  generalize hT : opBehind m (bitP vs) (ys.take ch) (k + 1) = T at hmid ⊢
  have HMID := Lib.hid hmid
  have HT := Lib.hid (show opTails m (bitP vs) k (ys.take ch) 0 = T from hT)
  clear hT hm hch hnC hpre IH ho hj hJ hS hx ha hj1 ho1 hmid hv hsa
  go_enter Try.func149, Try.ntmps149
  go_wp2
  clear q0 q1
  go_loopw [21] (fun x wr => ∃ (d : Nat) (zs : List Int) (D : List (List Int)), x = .int .i64 d ∧ d ≤ 8 ∧ Own wr B wr.heap.size (some ad) n zs ∧ Hid (zs.take ch = ys.take ch) ∧ Hid (T = D ++ opTails m (bitP vs) k (ys.take ch) d) ∧ Hid (∃ s', Grows s s' (w.heap.size + 1) ∧ J (pre ++ D) s' wr) ∧ BitBox wr w.heap.size 106 m vs ∧ Hid (Spare B (fun k => k = ad.block ∨ s = some k) w wr)) (fun x _ => 9 - (intOf x).toNat)
  case atStart => exact ⟨0, ys, [], rfl, by omega, HO1.out, Lib.hid rfl, Lib.hid (by rw [HT.out]; rfl), Lib.hid ⟨s, .inl rfl, by simpa using HJ1.out⟩, HX.out, HA⟩
  case round =>
    obtain ⟨d, zs, D, rfl, hd8, hown, hpz, hall, hjd, hbox, hbs⟩ := hrel
    have hgs := hbs.out.size
    obtain ⟨s', hgr, hjd'⟩ := hjd.out
    have HGR := Lib.hid hgr
    have HJD := Lib.hid hjd'
    clear hgr hjd' hjd
    clear HX HJ1 HO1
    by_cases hlt : (d : Int) < m.D
    · obtain ⟨_, v, e0, _, hhi2, hv, hf, hcell⟩ := hown.at_ hchn
      obtain rfl := (by injection e0 : ad = _)
      clear e0 hv
      have hd8' : d < 8 := by omega
      have HO := Lib.hid ((hown.put (d : Int) hchn).more (Nat.le_refl _) (show wr.heap.size ≤ (wr.setCell (ad.add ch) (.int .i64 (d : Int))).heap.size by simp [World.setCell]) (Nat.le_refl _))
      have HZ := Lib.hid hown.len
      have hadw : ad.block < w.heap.size := hhi
      have HB := Lib.hid (hbox.grown (grown_set (p := ad.add ch) (World.grownBy.refl wr (some ad.block)) (block_of_add ad ch) (.int .i64 (d : Int))) (by intro e; injection e with e; omega))
      have HS1 : Hid (Spare B (fun k => k = ad.block ∨ s = some k) w (wr.setCell (ad.add ch) (.int .i64 (d : Int)))) := Lib.hid (hbs.out.trans (Q := fun k => k = ad.block) (Spare.beside (b := ad.block) (by have := Beside.setCell (B := B) wr (p := ad.add ch) (.int .i64 (d : Int)); rwa [block_of_add] at this) rfl) (fun _ _ h => .inl h))
      have HJ2 := Lib.hid (HJ.out s' _ _ _ HJD.out ((Below.refl B wr).setCell (p := ad.add ch) (by rw [block_of_add]; exact hlo) (.int .i64 (d : Int))) (by have := Beside.setCell (B := B) wr (p := ad.add ch) (.int .i64 (d : Int)); rwa [block_of_add] at this))
      have HPD : Hid ((zs.set ch (d : Int)).take (ch + 1) = ys.take ch ++ [(d : Int)]) := Lib.hid (by rw [take_set (by rw [HZ.out]; exact hchn), hpz.out])
      have HD := Lib.hid (depth_snoc HP.out hlt)
      have hlen : Hid (((ys.take ch ++ [(d : Int)]).length : Int) + k = m.C) := Lib.hid (by
        have := HC.out; have := HN.out; have := HY.out
        rw [List.length_append, List.length_take]; simp; omega)
      have hdD : d < m.D.toNat := by omega
      have HTS : Hid (opTails m (bitP vs) k (ys.take ch) d = (if (vs ch).testBit d then opFrom m (bitP vs) k (ys.take ch ++ [(d : Int)]) else []) ++ opTails m (bitP vs) k (ys.take ch) (d + 1)) := Lib.hid (by
        have := opTails_step (m := m) (p := bitP vs) (k := k) (xs := ys.take ch) hdD
        rwa [HTL.out] at this)
      obtain ⟨p0, p1, p2, p3, p4, _⟩ := HB.out.cells
      have p5 := HB.out.bit (show ch < 6 by omega)
      have hlw : w.heap.size < (wr.setCell (ad.add ch) (.int .i64 (d : Int))).heap.size := HB.out.lt
      have HF := Lib.hid (HO.out.ints.front (show ch + 1 ≤ n by omega))
      have qq0 := hbox.cells.2.1
      clear hown hbox hbs
      have s1 : IntKind.i64.wrap ((ch : Int) + 1) = (ch : Int) + 1 := IntWalk.i64_in _ (by omega)
      have s2 : 0 ≤ (ch : Int) + 1 := by omega
      have s3 : ((ch : Int) + 1).toNat = ch + 1 := by omega
      have s4 : (ch : Int) + 1 ≤ (n : Int) := by omega
      have i0 : (0 : Int) ≤ (ch : Int) := by omega
      have i1 : (ch : Int) < (n : Int) := by omega
      have i6 : (ch : Int) < 6 := by omega
      rcases hhas : (vs ch).testBit d with _ | _
      · go_wp2
        refine wp_region_held_drew (S := (fun w' => w'.cell? ⟨w.heap.size, 0, none⟩ = some (.int .i64 m.C) ∧ w'.cell? ⟨w.heap.size, 1, none⟩ = some (.int .i64 m.D) ∧ w'.cell? ⟨w.heap.size, 2, none⟩ = some (.int .i64 m.S) ∧ w'.cell? ⟨w.heap.size, 3, none⟩ = some (.int .i64 m.M) ∧ w'.cell? ⟨w.heap.size, 4, none⟩ = some (.int .i64 m.L) ∧ w'.cell? ⟨w.heap.size, 5 + ch, none⟩ = some (.int .u8 (vs ch : Nat)))) (by kernel_rfl) ⟨p0, p1, p2, p3, p4, p5⟩ (fun hHeld => ?_)
        refine held_take (i := 0) (oi := _) (v := ?_) (some 28) rfl rfl (by kernel_rfl) (by kernel_rfl) (by kernel_rfl) (fun _ _ _ h => h) (Or.inl ⟨by rfl, ?_⟩) (by assumption) ?_
        rotate_left
        · intro w' hSw
          obtain ⟨r0, r1, r2, r3, r4, r5⟩ := hSw
          go_simp
          try with_reducible rfl
        try simp only [Act.put, List.setIfInBounds_toArray, List.set_cons_zero, List.set_cons_succ]
        refine held_take (i := 1) (oi := _) (v := ?_) (some 29) rfl rfl (by kernel_rfl) (by kernel_rfl) (by kernel_rfl) (fun _ _ _ h => h) (Or.inl ⟨by rfl, ?_⟩) (by assumption) ?_
        rotate_left
        · intro w' hSw
          obtain ⟨r0, r1, r2, r3, r4, r5⟩ := hSw
          go_simp
          try with_reducible rfl
        try simp only [Act.put, List.setIfInBounds_toArray, List.set_cons_zero, List.set_cons_succ]
        refine held_take (i := 2) (oi := _) (v := ?_) (some 30) rfl rfl (by kernel_rfl) (by kernel_rfl) (by kernel_rfl) (fun _ _ _ h => h) (Or.inl ⟨by rfl, ?_⟩) (by assumption) ?_
        rotate_left
        · intro w' hSw
          obtain ⟨r0, r1, r2, r3, r4, r5⟩ := hSw
          go_simp
          try with_reducible rfl
        try simp only [Act.put, List.setIfInBounds_toArray, List.set_cons_zero, List.set_cons_succ]
        refine held_take (i := 3) (oi := _) (v := ?_) (some 31) rfl rfl (by kernel_rfl) (by kernel_rfl) (by kernel_rfl) (fun _ _ _ h => h) (Or.inl ⟨by rfl, ?_⟩) (by assumption) ?_
        rotate_left
        · intro w' hSw
          obtain ⟨r0, r1, r2, r3, r4, r5⟩ := hSw
          go_simp
          try with_reducible rfl
        try simp only [Act.put, List.setIfInBounds_toArray, List.set_cons_zero, List.set_cons_succ]
        refine held_take (i := 4) (oi := _) (v := ?_) (some 32) rfl rfl (by kernel_rfl) (by kernel_rfl) (by kernel_rfl) (fun _ _ _ h => h) (Or.inl ⟨by rfl, ?_⟩) (by assumption) ?_
        rotate_left
        · intro w' hSw
          obtain ⟨r0, r1, r2, r3, r4, r5⟩ := hSw
          go_simp
          try with_reducible rfl
        try simp only [Act.put, List.setIfInBounds_toArray, List.set_cons_zero, List.set_cons_succ]
        refine wpAnyH_ready (rs := [5]) (by kernel_rfl) (by simp) ?_
        refine AllReadyH.cons (o := _) rfl (fun K hK => ?_) AllReadyH.nil
        go_simp
        refine (has_any (vs ch) d _ (HV.out ch) hd8').mono ?_
        rw [hhas]
        rintro e w' ⟨rfl, rfl⟩
        refine hK.out _ _ ⟨p0, p1, p2, p3, p4, p5⟩ (fun hHeld => ?_)
        try simp only [Act.put, List.setIfInBounds_toArray, List.set_cons_zero, List.set_cons_succ]
        refine held_take (i := 6) (oi := _) (v := ?_) (some 34) rfl rfl (by kernel_rfl) (by kernel_rfl) (by kernel_rfl) (fun _ _ _ h => h) (Or.inl ⟨by rfl, ?_⟩) (by assumption) ?_
        rotate_left
        · intro w' hSw
          obtain ⟨r0, r1, r2, r3, r4, r5⟩ := hSw
          go_simp
          try with_reducible rfl
        try simp only [Act.put, List.setIfInBounds_toArray, List.set_cons_zero, List.set_cons_succ]
        refine held_take (i := 7) (oi := _) (v := ?_) (some 35) rfl rfl (by kernel_rfl) (by kernel_rfl) (by kernel_rfl) (fun _ _ _ h => h) (Or.inl ⟨by rfl, ?_⟩) (by assumption) ?_
        rotate_left
        · intro w' hSw
          obtain ⟨r0, r1, r2, r3, r4, r5⟩ := hSw
          go_simp
          try with_reducible rfl
        try simp only [Act.put, List.setIfInBounds_toArray, List.set_cons_zero, List.set_cons_succ]
        refine held_take (i := 8) (oi := _) (v := undef) (some 36) rfl rfl (by kernel_rfl) (by kernel_rfl) (by kernel_rfl) (fun _ _ _ h => h) (Or.inr ⟨by rfl, rfl⟩) (by assumption) ?_
        try simp only [Act.put, List.setIfInBounds_toArray, List.set_cons_zero, List.set_cons_succ]
        refine held_take (i := 9) (oi := _) (v := undef) (some 37) rfl rfl (by kernel_rfl) (by kernel_rfl) (by kernel_rfl) (fun _ _ _ h => h) (Or.inr ⟨by rfl, rfl⟩) (by assumption) ?_
        try simp only [Act.put, List.setIfInBounds_toArray, List.set_cons_zero, List.set_cons_succ]
        refine held_take (i := 10) (oi := _) (v := undef) (some 38) rfl rfl (by kernel_rfl) (by kernel_rfl) (by kernel_rfl) (fun _ _ _ h => h) (Or.inr ⟨by rfl, rfl⟩) (by assumption) ?_
        try simp only [Act.put, List.setIfInBounds_toArray, List.set_cons_zero, List.set_cons_succ]
        refine held_take (i := 11) (oi := _) (v := undef) (some 39) rfl rfl (by kernel_rfl) (by kernel_rfl) (by kernel_rfl) (fun _ _ _ h => h) (Or.inr ⟨by rfl, rfl⟩) (by assumption) ?_
        try simp only [Act.put, List.setIfInBounds_toArray, List.set_cons_zero, List.set_cons_succ]
        refine held_take (i := 12) (oi := _) (v := undef) (some 40) rfl rfl (by kernel_rfl) (by kernel_rfl) (by kernel_rfl) (fun _ _ _ h => h) (Or.inr ⟨by rfl, rfl⟩) (by assumption) ?_
        try simp only [Act.put, List.setIfInBounds_toArray, List.set_cons_zero, List.set_cons_succ]
        refine held_take (i := 13) (oi := _) (v := undef) (some 41) rfl rfl (by kernel_rfl) (by kernel_rfl) (by kernel_rfl) (fun _ _ _ h => h) (Or.inr ⟨by rfl, rfl⟩) (by assumption) ?_
        try simp only [Act.put, List.setIfInBounds_toArray, List.set_cons_zero, List.set_cons_succ]
        refine held_take (i := 14) (oi := _) (v := undef) (some 42) rfl rfl (by kernel_rfl) (by kernel_rfl) (by kernel_rfl) (fun _ _ _ h => h) (Or.inr ⟨by rfl, rfl⟩) (by assumption) ?_
        try simp only [Act.put, List.setIfInBounds_toArray, List.set_cons_zero, List.set_cons_succ]
        refine held_take (i := 15) (oi := _) (v := undef) (some 43) rfl rfl (by kernel_rfl) (by kernel_rfl) (by kernel_rfl) (fun _ _ _ h => h) (Or.inr ⟨by rfl, rfl⟩) (by assumption) ?_
        try simp only [Act.put, List.setIfInBounds_toArray, List.set_cons_zero, List.set_cons_succ]
        refine held_take (i := 16) (oi := _) (v := ?_) (some 44) rfl rfl (by kernel_rfl) (by kernel_rfl) (by kernel_rfl) (fun _ _ _ h => h) (Or.inl ⟨by rfl, ?_⟩) (by assumption) ?_
        rotate_left
        · intro w' hSw
          obtain ⟨r0, r1, r2, r3, r4, r5⟩ := hSw
          go_simp
          try with_reducible rfl
        try simp only [Act.put, List.setIfInBounds_toArray, List.set_cons_zero, List.set_cons_succ]
        refine wpAnyH_done (by kernel_rfl) ?_ _
        have A1 := Above.drewN B (wr.setCell (ad.add ch) (.int .i64 (d : Int))) 1
        have X1 := Lib.hid (HB.out.drewN 1)
        have O1 := Lib.hid (HO.out.above A1 (Nat.le_refl _))
        have G1 := Lib.hid (HS1.out.trans (Q := fun _ => False) (Spare.above A1) (fun _ _ h => h.elim))
        have J1 := Lib.hid (HJ.out s' _ _ _ HJ2.out (below_drewN (Below.refl B _) 1) (Beside.above A1))
        have HTX : Hid (T = D ++ opTails m (bitP vs) k (ys.take ch) (d + 1)) := Lib.hid (by rw [hall.out, HTS.out, hhas]; rfl)
        clear s1 s2 s3 s4 p0 p1 p2 p3 p4 p5 hcell hf A1 hhas
        go_wp2
        go_roundw
        case rel => exact ⟨d + 1, zs.set ch (d : Int), D, by go_num, by omega, O1.out, Lib.hid (by rw [take_set']; exact hpz.out), HTX, Lib.hid ⟨s', HGR.out, J1.out⟩, X1.out, G1⟩
        case measure => simp [intOf]; omega
      have HH := Lib.hid hhas
      clear hhas
      have HTY : Hid (T = D ++ (opFrom m (bitP vs) k (ys.take ch ++ [(d : Int)]) ++ opTails m (bitP vs) k (ys.take ch) (d + 1))) := Lib.hid (by rw [hall.out, HTS.out, HH.out]; rfl)
      obtain ⟨may, hmay⟩ : ∃ may, mayB m (ys.take ch ++ [(d : Int)]) = may := ⟨_, rfl⟩
      have HMY := Lib.hid hmay
      clear hmay
      go_wp2
      go_region_held3 (fun w' => w'.cell? ⟨w.heap.size, 0, none⟩ = some (.int .i64 m.C) ∧ w'.cell? ⟨w.heap.size, 1, none⟩ = some (.int .i64 m.D) ∧ w'.cell? ⟨w.heap.size, 2, none⟩ = some (.int .i64 m.S) ∧ w'.cell? ⟨w.heap.size, 3, none⟩ = some (.int .i64 m.M) ∧ w'.cell? ⟨w.heap.size, 4, none⟩ = some (.int .i64 m.L) ∧ w'.cell? ⟨w.heap.size, 5 + ch, none⟩ = some (.int .u8 (vs ch : Nat)))
        (first | go_keep | exact ⟨p0, p1, p2, p3, p4, p5⟩ | exact ⟨(b1.cell (p := ⟨w.heap.size, 0, none⟩) hlw).trans p0, (b1.cell (p := ⟨w.heap.size, 1, none⟩) hlw).trans p1, (b1.cell (p := ⟨w.heap.size, 2, none⟩) hlw).trans p2, (b1.cell (p := ⟨w.heap.size, 3, none⟩) hlw).trans p3, (b1.cell (p := ⟨w.heap.size, 4, none⟩) hlw).trans p4, (b1.cell (p := ⟨w.heap.size, 5 + ch, none⟩) hlw).trans p5⟩)
        (first
          | (go_at_call 145; refine (has_any (vs ch) d _ (HV.out ch) hd8').mono ?_; rw [HH.out]; rintro e w' ⟨rfl, rfl⟩)
          | (go_at_call 162; refine (mayBegin_any m _ _ _ ((zs.set ch (d : Int)).take (ch + 1)) _ (ints_drewN HF.out 1) (by omega) HM.out).mono ?_; rw [HPD.out, HMY.out]; rintro e w1 ⟨rfl, b1⟩))
      have A1 := (Above.drewN B (wr.setCell (ad.add ch) (.int .i64 (d : Int))) 1).trans (Above.of_below b1)
      have X1 := Lib.hid ((HB.out.drewN 1).on b1)
      have O1 := Lib.hid (HO.out.above A1 (Nat.le_refl _))
      have G1 := Lib.hid (HS1.out.trans (Q := fun _ => False) (Spare.above A1) (fun _ _ h => h.elim))
      have J1 := Lib.hid (HJ.out s' _ _ _ HJ2.out ((below_drewN (Below.refl B _) 1).trans (b1.mono (by have := HB.out.lt; simp at this ⊢; omega))) (Beside.above A1))
      clear s1 s2 s3 p0 p1 p2 p3 p4 p5 b1 hcell hf A1
      rcases may with _ | _
      · have HTX : Hid (T = D ++ opTails m (bitP vs) k (ys.take ch) (d + 1)) := Lib.hid (by rw [HTY.out, op_may hlen.out HD.out HMY.out]; rfl)
        go_wp2
        go_roundw
        case rel => exact ⟨d + 1, zs.set ch (d : Int), D, by go_num, by omega, O1.out, Lib.hid (by rw [take_set']; exact hpz.out), HTX, Lib.hid ⟨s', HGR.out, J1.out⟩, X1.out, G1⟩
        case measure => simp [intOf]; omega
      · have HK := Lib.hid (op_behind (p := bitP vs) hlen.out HMY.out)
        obtain ⟨q0, q1, q2, q3, q4, q5, q6, q7, q8, q9, q10⟩ := X1.out.cells
        have s1 : IntKind.i64.wrap ((ch : Int) + 1) = (ch : Int) + 1 := IntWalk.i64_in _ (by omega)
        go_wp2_with fail
        have h1 := HI.out (ch + 1) (pre ++ D) s' (zs.set ch (d : Int)) w1 (by have := HC.out; omega) O1.out (by rw [HPD.out]; exact HD.out) (fun p' R' e' => by rw [HPD.out, ← HK.out] at e'; rw [List.append_assoc]; exact HMID.out (D ++ p') (R' ++ opTails m (bitP vs) k (ys.take ch) (d + 1)) (by rw [HTY.out, e']; simp)) (HGR.out.ne HSA.out (by omega)) J1.out
        rw [HPD.out, ← HK.out, show ((ch + 1 : Nat) : Int) = (ch : Int) + 1 by omega] at h1
        refine h1.mono ?_
        rintro e w2 ⟨ok, rfl, g2, h2⟩
        clear h1 q0 q1 q2 q3 q4 q5 q6 q7 q8 q9 q10 s1 s4
        have X2 : Hid (BitBox w2 w.heap.size 106 m vs) := Lib.hid ((g2.block _ hB X1.out.lt (fun h => h.elim (fun e => by omega) (fun e => HGR.out.ne HSW.out (by omega) e))).trans X1.out)
        have G2 : Hid (Spare B (fun k => k = ad.block ∨ s = some k) w w2) := Lib.hid (G1.out.trans g2 (fun i hi h => h.elim .inl (fun e => by
          rcases HGR.out with e2 | ⟨k', e2, hk'⟩
          · exact .inr (by rw [← e2]; exact e)
          · rw [e2] at e; injection e with e; omega)))
        have H2 := Lib.hid h2
        clear h2 g2
        rcases ok with _ | _
        · have HF2 : Hid (∃ p x R, T = p ++ x :: R ∧ Jx (pre ++ (p ++ [x])) w2) := by
            rcases H2.out with ⟨h, _⟩ | ⟨_, p, x, R, e, hx⟩
            · cases h
            · exact Lib.hid ⟨D ++ p, x, R ++ opTails m (bitP vs) k (ys.take ch) (d + 1), by rw [HTY.out, e]; simp, by simpa using hx⟩
          go_wp2
          go_ret
          exact ⟨false, rfl, G2.out, .inr ⟨rfl, HF2.out⟩⟩
        · have HF2 : Hid (∃ us s2, Grows s' s2 w1.heap.size ∧ Own w2 B w2.heap.size (some ad) n us ∧ us.take (ch + 1) = (zs.set ch (d : Int)).take (ch + 1) ∧ J (pre ++ D ++ opFrom m (bitP vs) k (ys.take ch ++ [(d : Int)])) s2 w2) := by
            rcases H2.out with ⟨_, h⟩ | ⟨h, _⟩
            · exact Lib.hid h
            · cases h
          obtain ⟨us, s2, gr2, o2, p2, j2⟩ := HF2.out
          have GR2 : Hid (Grows s s2 (w.heap.size + 1)) := Lib.hid (HGR.out.trans (gr2.less X1.out.lt))
          have P2 : Hid (us.take ch = ys.take ch) := Lib.hid (by
            have := congrArg (List.take ch) p2
            rw [List.take_take, Nat.min_eq_left (by omega), List.take_take, Nat.min_eq_left (by omega), take_set'] at this
            rw [this]; exact hpz.out)
          have O2 := Lib.hid o2
          have J2 : Hid (∃ s', Grows s s' (w.heap.size + 1) ∧ J (pre ++ (D ++ opFrom m (bitP vs) k (ys.take ch ++ [(d : Int)]))) s' w2) := Lib.hid ⟨s2, GR2.out, by rw [← List.append_assoc]; exact j2⟩
          clear o2 p2 j2 gr2
          go_wp2
          go_roundw
          case rel => exact ⟨d + 1, us, D ++ opFrom m (bitP vs) k (ys.take ch ++ [(d : Int)]), by go_num, by omega, O2.out, P2, Lib.hid (by rw [HTY.out]; simp), J2, X2.out, G2⟩
          case measure => simp [intOf]; omega
    · have HE : Hid (T = D) := Lib.hid (by
        have h1 := hall.out
        rwa [opTails_end (m := m) (p := bitP vs) (k := k) (xs := ys.take ch) (d := d) (by omega), List.append_nil] at h1)
      have qq0 := hbox.cells.2.1
      clear hall
      go_wp2
      go_ret
      exact ⟨true, rfl, hbs.out, .inl ⟨rfl, zs, s', HGR.out.less (by omega), hown, hpz.out, by rw [HE.out]; exact HJD.out⟩⟩

end Go.Proofs.Ytbfnffecmglgfaa

namespace Go.Proofs.Ytbfnffecmglgfaa
open Go Go.RowKit
attribute [local go_sem] Oper.semAt_some

theorem cells_set {W : World} {b : Nat} {cs : Array Value} {t : TypeId} (h : W.heap[b]? = some (.cells cs t (0, 0))) (i : Nat) (v : Value) : (W.setCell ⟨b, i, none⟩ v).heap[b]? = some (.cells (cs.setIfInBounds i v) t (0, 0)) := by
  simp [World.setCell, Array.getElem?_modify, h]
def put11 (W : World) (b : Nat) (m : Mk) (vs : Nat → Nat) : World :=
  ((((((((((W.setCell ⟨b, 0, none⟩ (.int .i64 m.C)).setCell ⟨b, 1, none⟩ (.int .i64 m.D)).setCell ⟨b, 2, none⟩ (.int .i64 m.S)).setCell ⟨b, 3, none⟩ (.int .i64 m.M)).setCell ⟨b, 4, none⟩ (.int .i64 m.L)).setCell ⟨b, 5, none⟩ (.int .u8 (vs 0 : Nat))).setCell ⟨b, 6, none⟩ (.int .u8 (vs 1 : Nat))).setCell ⟨b, 7, none⟩ (.int .u8 (vs 2 : Nat))).setCell ⟨b, 8, none⟩ (.int .u8 (vs 3 : Nat))).setCell ⟨b, 9, none⟩ (.int .u8 (vs 4 : Nat))).setCell ⟨b, 10, none⟩ (.int .u8 (vs 5 : Nat))
theorem BitBox.put11 {W : World} {b : Nat} {t : TypeId} {m0 m : Mk} {vs0 vs : Nat → Nat} (h : BitBox W b t m0 vs0) : BitBox (put11 W b m vs) b t m vs := by
  have h0 := cells_set h 0 (.int .i64 m.C)
  have h1 := cells_set h0 1 (.int .i64 m.D)
  have h2 := cells_set h1 2 (.int .i64 m.S)
  have h3 := cells_set h2 3 (.int .i64 m.M)
  have h4 := cells_set h3 4 (.int .i64 m.L)
  have h5 := cells_set h4 5 (.int .u8 (vs 0 : Nat))
  have h6 := cells_set h5 6 (.int .u8 (vs 1 : Nat))
  have h7 := cells_set h6 7 (.int .u8 (vs 2 : Nat))
  have h8 := cells_set h7 8 (.int .u8 (vs 3 : Nat))
  have h9 := cells_set h8 9 (.int .u8 (vs 4 : Nat))
  have h10 := cells_set h9 10 (.int .u8 (vs 5 : Nat))
  simp only [List.setIfInBounds_toArray, List.set_cons_zero, List.set_cons_succ] at h10
  exact h10
theorem below_put11 {A W : World} {B b : Nat} (h : Below B A W) (hb : B ≤ b) (m : Mk) (vs : Nat → Nat) : Below B A (put11 W b m vs) :=
  ((((((((((h.setCell (p := ⟨b, 0, none⟩) hb _).setCell (p := ⟨b, 1, none⟩) hb _).setCell (p := ⟨b, 2, none⟩) hb _).setCell (p := ⟨b, 3, none⟩) hb _).setCell (p := ⟨b, 4, none⟩) hb _).setCell (p := ⟨b, 5, none⟩) hb _).setCell (p := ⟨b, 6, none⟩) hb _).setCell (p := ⟨b, 7, none⟩) hb _).setCell (p := ⟨b, 8, none⟩) hb _).setCell (p := ⟨b, 9, none⟩) hb _).setCell (p := ⟨b, 10, none⟩) hb _
theorem BitBox.thaws {w : World} {b : Nat} {t : TypeId} {m : Mk} {vs : Nat → Nat} (h : BitBox w b t m vs) : w.frozen? ⟨b, 0, none⟩ = false ∧ w.frozen? ⟨b, 1, none⟩ = false ∧ w.frozen? ⟨b, 2, none⟩ = false ∧ w.frozen? ⟨b, 3, none⟩ = false ∧ w.frozen? ⟨b, 4, none⟩ = false ∧ w.frozen? ⟨b, 5, none⟩ = false ∧
    w.frozen? ⟨b, 6, none⟩ = false ∧ w.frozen? ⟨b, 7, none⟩ = false ∧ w.frozen? ⟨b, 8, none⟩ = false ∧ w.frozen? ⟨b, 9, none⟩ = false ∧ w.frozen? ⟨b, 10, none⟩ = false :=
  ⟨h.thawed 0, h.thawed 1, h.thawed 2, h.thawed 3, h.thawed 4, h.thawed 5, h.thawed 6, h.thawed 7, h.thawed 8, h.thawed 9, h.thawed 10⟩

theorem BitBox.zero (W : World) {b : Nat} (t : TypeId) (m : Mk) (h : W.heap.size = b) : BitBox (W.alloc (.cells #[.int .i64 m.C, .int .i64 m.D, .int .i64 m.S, .int .i64 m.M, .int .i64 m.L, .int .u8 0, .int .u8 0, .int .u8 0, .int .u8 0, .int .u8 0, .int .u8 0] t)) b t m (fun _ => 0) := by
  subst h; exact heap_alloc_new W _
/-- the depths that have come to the sets: all of the chambers before i, those before d of chamber i -/
def Fulled (m : Mk) (vs : Nat → Nat) (i d : Nat) : Prop := (∀ j, vs j < 256) ∧ ∀ j e, (j < i ∨ (j = i ∧ e < d)) → e < m.D.toNat → bitP vs j e = true

theorem Fulled.next {m : Mk} {vs : Nat → Nat} {i d : Nat} (h : Fulled m vs i d) (hd : d < 8) : Fulled m (bitAdd vs i d) i (d + 1) := by
  refine ⟨bitAdd_lt h.1 i hd, fun j e hje he => ?_⟩
  rw [bitP_add]
  by_cases hx : j = i ∧ e = d
  · rw [decide_eq_true hx.1, decide_eq_true hx.2]; simp
  · rw [h.2 j e (by omega) he]; rfl
theorem Fulled.row {m : Mk} {vs : Nat → Nat} {i d : Nat} (h : Fulled m vs i d) (hd : m.D.toNat ≤ d) : Fulled m vs (i + 1) 0 :=
  ⟨h.1, fun j e hje he => h.2 j e (by omega) he⟩

theorem openFrom_any (m : Mk) (vs : Nat → Nat) (hv : ∀ i, vs i < 256) (hm : m.ok = true) (l n B : Nat) (ad : Addr) (hnC : (n : Int) = m.C) (Mid : List (List Int) → Prop) (J : List (List Int) → Option Nat → World → Prop) (Jx : List (List Int) → World → Prop) (hJ : ∀ s, Under1 B ad.block (fun pre => J pre s)) (hS : ∀ pre b W, J pre (some b) W → b < W.heap.size) (hY : EachKey l n B ad.block Mid J Jx) : ∀ k, WalkOk m vs l n B ad Mid J Jx k
  | 0 => openFrom_zero m vs hm l n B ad hnC Mid J Jx hJ hY
  | k + 1 => openFrom_step m vs hv hm l n B ad hnC Mid J Jx hJ hS k (openFrom_any m vs hv hm l n B ad hnC Mid J Jx hJ hS hY k)

/-- the first of some lists -/
def Ahead (T q : List (List Int)) : Prop := ∃ R, T = q ++ R
/-- some lists have come, not all perhaps, the last of them is x -/
def PartOf (T pre : List (List Int)) : Prop := ∃ p x R, T = p ++ x :: R ∧ pre = p ++ [x]

set_option maxRecDepth 100000 in
set_option maxHeartbeats 4000000 in
theorem openers_run (m : Mk) (vs : Nat → Nat) (hv : ∀ i, vs i < 256) (hm : m.ok = true) (l : Nat) (J : List (List Int) → Option Nat → World → Prop) (Jx : List (List Int) → World → Prop) (W : World) (hJ : ∀ s, Under1 W.heap.size (W.heap.size + 1) (fun pre => J pre s)) (hS : ∀ pre b W, J pre (some b) W → b < W.heap.size) (hY : EachKey l m.C.toNat W.heap.size (W.heap.size + 1) (Ahead (opAll m (bitP vs))) J Jx) (h0 : J [] none W) :
    Calls Try.prog 107 #[.agg #[.int .i64 m.C, .int .i64 m.D, .int .i64 m.S, .int .i64 m.M, .int .i64 m.L, .int .u8 (vs 0 : Nat), .int .u8 (vs 1 : Nat), .int .u8 (vs 2 : Nat), .int .u8 (vs 3 : Nat), .int .u8 (vs 4 : Nat), .int .u8 (vs 5 : Nat)], .func (.yield l) #[] #[]] W fun e W' => (∃ v, e = .returned v) ∧ ((∃ s, J (opAll m (bitP vs)) s W') ∨ ∃ pre, PartOf (opAll m (bitP vs)) pre ∧ Jx pre W') := by
  obtain ⟨m1, m2, m3, m4, m5, m6, m7, m8, m9, m10, m11⟩ := Mk.ok_true hm
  have HW := Lib.hid (op_all_behind hm (bitP vs))
  obtain ⟨n, hn⟩ : ∃ n : Nat, m.C.toNat = n := ⟨_, rfl⟩
  rw [hn] at hY HW
  have hnC : (n : Int) = m.C := by omega
  have HK : WalkOk m vs l n W.heap.size ⟨W.heap.size + 1, 0, none⟩ (Ahead (opAll m (bitP vs))) J Jx n := openFrom_any m vs hv hm l n W.heap.size ⟨W.heap.size + 1, 0, none⟩ hnC _ J Jx hJ hS hY n
  generalize opAll m (bitP vs) = T at *
  have hx := BitBox.new W 106 m vs
  have hj1 := hJ none _ _ _ h0 ((Below.refl W.heap.size W).alloc (Nat.le_refl _) (.cells #[.int .i64 m.C, .int .i64 m.D, .int .i64 m.S, .int .i64 m.M, .int .i64 m.L, .int .u8 (vs 0 : Nat), .int .u8 (vs 1 : Nat), .int .u8 (vs 2 : Nat), .int .u8 (vs 3 : Nat), .int .u8 (vs 4 : Nat), .int .u8 (vs 5 : Nat)] 106)) (Beside.above (Above.alloc _ _ _))
  obtain ⟨q0, q1, q2, q3, q4, q5, q6, q7, q8, q9, q10⟩ := hx.cells
  have hmk := run_make_row' (P := Try.prog) 39 2 (.int .i64 0) 8 Try.underlying39 Try.info2' rfl .i64 .i64 n (by omega) (by omega)
  rw [hnC] at hmk
  have e0 := World.new_ne _ ⟨W.heap.size, 0, none⟩ q0
  have hmade := World.rowIs_made (W.alloc (.cells #[.int .i64 m.C, .int .i64 m.D, .int .i64 m.S, .int .i64 m.M, .int .i64 m.L, .int .u8 (vs 0 : Nat), .int .u8 (vs 1 : Nat), .int .u8 (vs 2 : Nat), .int .u8 (vs 3 : Nat), .int .u8 (vs 4 : Nat), .int .u8 (vs 5 : Nat)] 106)) (.int .i64 0) n 2
  rw [World.size_alloc] at hmade
  have hzero : ∀ j, j < n → Value.int .i64 0 = Value.int .i64 ((List.replicate n (0 : Int)).getD j 0) := fun j hj => by
    rw [List.getD_eq_getElem?_getD, List.getElem?_replicate, if_pos hj]; rfl
  have hrow := hmade.congr hzero
  obtain ⟨W1, hW1⟩ : ∃ W1 : World, W1 = ((W.alloc (.cells #[.int .i64 m.C, .int .i64 m.D, .int .i64 m.S, .int .i64 m.M, .int .i64 m.L, .int .u8 (vs 0 : Nat), .int .u8 (vs 1 : Nat), .int .u8 (vs 2 : Nat), .int .u8 (vs 3 : Nat), .int .u8 (vs 4 : Nat), .int .u8 (vs 5 : Nat)] 106)).alloc (.cells (madeCells #[.int .i64 0] n) 2)).drew := ⟨_, rfl⟩
  have ho1 : Own W1 W.heap.size W1.heap.size (some ⟨W.heap.size + 1, 0, none⟩) n (List.replicate n (0 : Int)) := by
    subst hW1
    exact Own.of_row hrow (by simp) (by omega)
  have hjw : J [] none W1 := by
    subst hW1
    exact hJ none _ _ _ hj1 (((Below.refl _ _).alloc (by simp) _).drew) (Beside.above ((Above.alloc _ _ _).trans (Above.drew _ _)))
  have hxw : BitBox W1 W.heap.size 106 m vs := by
    subst hW1
    exact hx.alloc _
  have HC := Lib.hid (HK 0 [] none (List.replicate n (0 : Int)) W1 (by omega) ho1 rfl (fun p R e => ⟨R, by rw [← HW.out]; exact e⟩) (fun e => by cases e) hjw)
  have HXW := Lib.hid hxw
  have HW1 := Lib.hid hW1
  clear hm hn hnC HK hJ hS hY h0 hj1 hx hrow hmade hzero ho1 hjw hxw hW1
  go_enter Try.func107, Try.ntmps107
  go_wp2
  go_region_held3 (fun w' => w'.cell? ⟨W.heap.size, 0, none⟩ = some (.int .i64 m.C) ∧ w'.cell? ⟨W.heap.size, 1, none⟩ = some (.int .i64 m.D) ∧ w'.cell? ⟨W.heap.size, 2, none⟩ = some (.int .i64 m.S) ∧ w'.cell? ⟨W.heap.size, 3, none⟩ = some (.int .i64 m.M) ∧ w'.cell? ⟨W.heap.size, 4, none⟩ = some (.int .i64 m.L) ∧
      w'.cell? ⟨W.heap.size, 5, none⟩ = some (.int .u8 (vs 0 : Nat)) ∧ w'.cell? ⟨W.heap.size, 6, none⟩ = some (.int .u8 (vs 1 : Nat)) ∧ w'.cell? ⟨W.heap.size, 7, none⟩ = some (.int .u8 (vs 2 : Nat)) ∧ w'.cell? ⟨W.heap.size, 8, none⟩ = some (.int .u8 (vs 3 : Nat)) ∧ w'.cell? ⟨W.heap.size, 9, none⟩ = some (.int .u8 (vs 4 : Nat)) ∧ w'.cell? ⟨W.heap.size, 10, none⟩ = some (.int .u8 (vs 5 : Nat)))
    (first | go_keep | exact X2.out.cells)
    (first
      | (go_at_call 149; rw [← HW1.out]; have h1 := HC.out; rw [show ((0 : Nat) : Int) = 0 from rfl] at h1; refine h1.mono ?_; rintro e w2 ⟨ok, rfl, g2, h2⟩; clear h1; have X2 : Hid (BitBox w2 W.heap.size 106 m vs) := Lib.hid ((g2.block _ (Nat.le_refl _) HXW.out.lt (fun h => h.elim (fun e => by simp at e) (fun e => by cases e))).trans HXW.out); have H2 := Lib.hid h2; clear h2 g2))
  clear q0 q1 q2 q3 q4 q5 q6 q7 q8 q9 q10 e0 hmk
  go_wp2
  go_end0
  refine ⟨⟨_, rfl⟩, ?_⟩
  rcases H2.out with ⟨_, zs, s', _, _, _, hj⟩ | ⟨_, p, x, R, e, hj⟩
  · refine .inl ⟨s', ?_⟩
    have e2 : opBehind m (bitP vs) ((List.replicate n (0 : Int)).take 0) n = T := HW.out
    rw [e2] at hj
    simpa using hj
  · have e2 : opBehind m (bitP vs) ((List.replicate n (0 : Int)).take 0) n = T := HW.out
    rw [e2] at e
    exact .inr ⟨p ++ [x], ⟨p, x, R, e, rfl⟩, by simpa using hj⟩

theorem EachKey.up {l n B B' g : Nat} {Mid : List (List Int) → Prop} {J : List (List Int) → Option Nat → World → Prop} {Jx : List (List Int) → World → Prop} (h : EachKey l n B g Mid J Jx) (hB : B ≤ B') : EachKey l n B' g Mid J Jx := by
  intro q pre s x v W1 hj hm hl hap hsg
  obtain ⟨a, e, ho⟩ := hl
  refine (h q pre s x v W1 hj hm ⟨a, e, ho.more hB (Nat.le_refl _) (Nat.le_refl _)⟩ hap hsg).mono ?_
  rintro e' W' ⟨h2, h3⟩
  exact ⟨h2.mono hB, h3⟩
/-- rounds that write over nothing of their own -/
theorem each_of {q l n B : Nat} (g : Nat) {Mid : List (List Int) → Prop} {J Jx : List (List Int) → World → Prop}
    (hY : ∀ pre x v W1, J pre W1 → Mid (pre ++ [x]) → Lent n B x v W1 → YieldAt Fence.wide q Try.prog l #[v] W1 fun e W' =>
      (e = .returned (.bool true) ∧ J (pre ++ [x]) W' ∧ Above B W1 W') ∨ (e = .returned (.bool false) ∧ Jx (pre ++ [x]) W' ∧ Above B W1 W')) : EachKey l n B g Mid (fun pre s W => s = none ∧ J pre W) Jx := by
  rintro q' pre s x v W1 ⟨rfl, hj⟩ hm hl _ _
  refine (yield_free q' (hY pre x v W1 hj hm hl)).mono ?_
  rintro e W' (⟨h1, h2, h3⟩ | ⟨h1, h2, h3⟩)
  · exact ⟨Spare.above h3, .inl ⟨h1, none, .inl rfl, rfl, h2⟩⟩
  · exact ⟨Spare.above h3, .inr ⟨h1, h2⟩⟩
theorem Under.two {B b : Nat} {J : List (List Int) → World → Prop} (h : Under B J) : ∀ s : Option Nat, Under1 B b (fun pre W => s = none ∧ J pre W) := fun _ x A C hs hb _ => ⟨hs.1, h x A C hs.2 hb⟩

theorem openers_lend (m : Mk) (vs : Nat → Nat) (hv : ∀ i, vs i < 256) (hm : m.ok = true) (q : Nat) (w : World) :
    Lends Fence.wide q Try.prog 107 #[.agg #[.int .i64 m.C, .int .i64 m.D, .int .i64 m.S, .int .i64 m.M, .int .i64 m.L, .int .u8 (vs 0 : Nat), .int .u8 (vs 1 : Nat), .int .u8 (vs 2 : Nat), .int .u8 (vs 3 : Nat), .int .u8 (vs 4 : Nat), .int .u8 (vs 5 : Nat)]] #[] m.C.toNat (Ahead (opAll m (bitP vs))) (fun xs => xs = opAll m (bitP vs)) (PartOf (opAll m (bitP vs))) w := by
  intro l J Jx W hW hJ hY h0
  refine callsIn_wide.2 ((openers_run m vs hv hm l (fun pre s W => s = none ∧ J pre W) Jx W hJ.two (fun _ _ _ h => by cases h.1) (each_of _ hY) ⟨rfl, h0⟩).mono ?_)
  rintro e W' ⟨h1, ⟨s, _, h2⟩ | ⟨pre, h2, h3⟩⟩
  · exact ⟨h1, .inl ⟨_, rfl, h2⟩⟩
  · exact ⟨h1, .inr ⟨pre, h2, h3⟩⟩
theorem openers_lend1 (m : Mk) (vs : Nat → Nat) (hv : ∀ i, vs i < 256) (hm : m.ok = true) (q : Nat) (w : World) :
    Lends1 Fence.wide q Try.prog 107 #[.agg #[.int .i64 m.C, .int .i64 m.D, .int .i64 m.S, .int .i64 m.M, .int .i64 m.L, .int .u8 (vs 0 : Nat), .int .u8 (vs 1 : Nat), .int .u8 (vs 2 : Nat), .int .u8 (vs 3 : Nat), .int .u8 (vs 4 : Nat), .int .u8 (vs 5 : Nat)]] #[] m.C.toNat (Ahead (opAll m (bitP vs))) (fun xs => xs = opAll m (bitP vs)) (PartOf (opAll m (bitP vs))) w := by
  intro l J Jx W hW hJ hS hY h0
  refine callsIn_wide.2 ((openers_run m vs hv hm l J Jx W hJ hS (fun q' pre s x v W1 hj hm hl hap hsg => yield_free q' (hY pre s x v W1 hj hm hl hap hsg)) h0).mono ?_)
  rintro e W' ⟨h1, ⟨s, h2⟩ | ⟨pre, h2, h3⟩⟩
  · exact ⟨h1, .inl ⟨_, s, rfl, h2⟩⟩
  · exact ⟨h1, .inr ⟨pre, h2, h3⟩⟩

/-- the first keys -/
def Among (m : Mk) (q : List (List Int)) : Prop := ∃ R, allKeys m = q ++ R
end Go.Proofs.Ytbfnffecmglgfaa
