/- keysFrom and keys of the program: what they yield. keys of the program: what it lends. -/
import Derived.Test.YtlgaocjcfdfhmaaLent
import Derived.Test.YtlgaocjcfdfhmaaPair
import Derived.Test.YtlgaocjcfdfhmaaSNext
import Derived.Deep.RegionWith
namespace Go.Proofs.Ytlgaocjcfdfhmaa
open Go Go.RowKit
attribute [local go_sem] Oper.semAt_some

theorem room_free {F : Fence} (hd : F.depth = none) (k : Nat) : F.room k := fun d h => by rw [hd] at h; cases h
theorem yield_free {m : Nat} (m' : Nat) {P : Program} {l : Nat} {args : Array Value} {W : World} {R : Ending → World → Prop} (h : YieldAt Fence.wide m P l args W R) : YieldAt Fence.wide m' P l args W R := by
  obtain ⟨fn, tmps, assign, body, hy, hR⟩ := h
  exact ⟨fn, tmps, assign, body, hy, hR.1, fun c cs _ => hR.2 c cs (room_free rfl _)⟩

/-- from B on nothing that lay has turned, but block b -/
structure Beside (B b : Nat) (A C : World) : Prop where
  size : A.heap.size ≤ C.heap.size
  block : ∀ k, B ≤ k → k < A.heap.size → k ≠ b → C.heap[k]? = A.heap[k]?
theorem Beside.refl (B b : Nat) (A : World) : Beside B b A A := ⟨Nat.le_refl _, fun _ _ _ _ => rfl⟩
theorem Beside.trans {B b : Nat} {A C D : World} (h : Beside B b A C) (k : Beside B b C D) : Beside B b A D :=
  ⟨Nat.le_trans h.size k.size, fun i h1 h2 h3 => (k.block i h1 (Nat.lt_of_lt_of_le h2 h.size) h3).trans (h.block i h1 h2 h3)⟩
theorem Beside.above {B b : Nat} {A C : World} (h : Above B A C) : Beside B b A C := ⟨h.size, fun i h1 h2 _ => h.block i h1 h2⟩
theorem Beside.setCell {B : Nat} (A : World) {p : Addr} (v : Value) : Beside B p.block A (A.setCell p v) := ⟨by simp [World.setCell], fun k _ _ hk => Below.heap_setCell A p v k hk⟩
theorem Boxed.beside {w w' : World} {b B g : Nat} {t : TypeId} {m : Mk} (h : Boxed w b t m) (hb : Beside B g w w') (hB : B ≤ b) (hn : b ≠ g) : Boxed w' b t m := (hb.block b hB h.lt hn).trans h

/-- 'wpAnyH_take' with the slot written out -/
theorem held_take {P : Program} {md : Region.Mode} {ops : Array Oper} {Q : Exit → Act → World → Prop} {S : World → Prop} {i : Nat} {oi : Oper} {v : Value} (d : Option Tmp) {fuel : Nat} {listed : Array Bool} {a : Act} {w : World} (hi : ops[i]? = some oi) (hd : oi.dst = d)
    (hs : Region.noSelect ops = true) (hf : Region.free md ops listed i = true) (hr : (Region.ready md ops listed).contains i = true)
    (hQ : ∀ c a w, Q (.panic c) (a.put d v) w → Q (.panic c) a w) (hy : YieldsIf P ops S oi v a) (hS : S w)
    (h : wpAnyH P md ops Q S fuel (listed.setIfInBounds i true) (a.put d v) w) : wpAnyH P md ops Q S (fuel + 1) listed a w := by
  subst hd; exact wpAnyH_take hi hs hf hr hQ hy hS h

/-- what the loop that ranges over the keys does with each: J and Jx are its invariants -/
def EachKey (l n B : Nat) (Mid : List (List Int) → Prop) (J Jx : List (List Int) → World → Prop) : Prop :=
  ∀ q pre x v W1, J pre W1 → Mid (pre ++ [x]) → Lent n B x v W1 → YieldAt Fence.wide q Try.prog l #[v] W1 fun e W' =>
    (e = .returned (.bool true) ∧ J (pre ++ [x]) W' ∧ Above B W1 W') ∨ (e = .returned (.bool false) ∧ Jx (pre ++ [x]) W' ∧ Above B W1 W')

/-- what keysFrom answers, T being the keys that it yields -/
def Walked (B n ch : Nat) (ad : Addr) (J Jx : List (List Int) → World → Prop) (w : World) (pre : List (List Int)) (ys : List Int) (T : List (List Int)) (e : Ending) (w' : World) : Prop :=
  ∃ ok, e = .returned (.bool ok) ∧ Beside B ad.block w w' ∧
    ((ok = true ∧ ∃ zs, Own w' B w'.heap.size (some ad) n zs ∧ zs.take ch = ys.take ch ∧ J (pre ++ T) w') ∨ (ok = false ∧ ∃ p x R, T = p ++ x :: R ∧ Jx (pre ++ (p ++ [x])) w'))
/-- the keys behind a beginning that k chambers lack -/
def behind (m : Mk) (xs : List Int) : Nat → List (List Int)
  | 0 => [xs]
  | k + 1 => tails m k xs 0
theorem keys_behind {m : Mk} {xs : List Int} {k : Nat} (hl : (xs.length : Int) + k = m.C) (h : mayB m xs = true) : keysFrom m k xs = behind m xs k := by
  obtain ⟨h1, h2⟩ := may_begins h
  cases k with
  | zero => exact keys_zero_yes h1 (by omega)
  | succ k => exact keys_succ h1
def WalkOk (m : Mk) (l n B : Nat) (ad : Addr) (Mid : List (List Int) → Prop) (J Jx : List (List Int) → World → Prop) (k : Nat) : Prop :=
  ∀ (ch : Nat) (pre : List (List Int)) (ys : List Int) (w : World), ch + k = n → Own w B w.heap.size (some ad) n ys → allIn 0 (m.D - 1) (ys.take ch) = true → (∀ p R, behind m (ys.take ch) k = p ++ R → Mid (pre ++ p)) → J pre w →
    Calls Try.prog 84 #[.agg #[.int .i64 m.C, .int .i64 m.D, .int .i64 m.S, .int .i64 m.M, .int .i64 m.L], .slice (some ad) n n, .int .i64 (ch : Int), .func (.yield l) #[] #[]] w
      (Walked B n ch ad J Jx w pre ys (behind m (ys.take ch) k))

set_option maxRecDepth 100000 in
set_option maxHeartbeats 4000000 in
theorem keysFrom_zero (m : Mk) (hm : m.ok = true) (l n B : Nat) (ad : Addr) (hnC : (n : Int) = m.C) (Mid : List (List Int) → Prop) (J Jx : List (List Int) → World → Prop) (hJ : Under B J) (hY : EachKey l n B Mid J Jx) : WalkOk m l n B ad Mid J Jx 0 := by
  intro ch pre ys w hch ho _ hmid hj
  obtain rfl : ch = n := by omega
  have HLY := Lib.hid ho.len
  obtain ⟨m1, m2, m3, m4, m5, m6, m7, m8, m9, m10, m11⟩ := Mk.ok_true hm
  have hB : B ≤ w.heap.size := by
    obtain ⟨_, _, _, h1, h2, _⟩ := ho.at_ (show 0 < ch by omega)
    omega
  have ha := Above.alloc B w (.cells #[.int .i64 m.C, .int .i64 m.D, .int .i64 m.S, .int .i64 m.M, .int .i64 m.L] 25)
  have hx := Boxed.new w 25 m
  have ho1 := ho.above ha (Nat.le_refl _)
  have hj1 := hJ _ _ _ hj ((Below.refl B w).alloc hB (.cells #[.int .i64 m.C, .int .i64 m.D, .int .i64 m.S, .int .i64 m.M, .int .i64 m.L] 25))
  have HO := Lib.hid ho1
  have HA := Lib.hid ha
  have HYL : Hid (ys.take ch = ys) := Lib.hid (List.take_of_length_le (by rw [ho.len]; exact Nat.le_refl _))
  obtain ⟨q0, q1, q2, q3, q4⟩ := hx.cells
  have htest : ((ch : Int) == m.C) = true := by simpa using hnC
  refine (callsIn_wide (n := 9)).1 ?_
  obtain ⟨fn, tmps, assign, body, hy, hR⟩ := hY 8 pre ys _ _ hj1 (hmid [ys] [] (by rw [HYL.out]; rfl)) ⟨ad, rfl, ho1⟩
  clear ho ho1 hj hj1 ha hJ hY hnC hx hmid
  refine callsIn_of_wp Try.func84 rfl trivial ?_ rfl
  simp only [Try.ntmps84, List.size_toArray, List.length_cons, List.length_nil, Nat.reduceAdd, Nat.reduceSub, Array.replicate_succ, Array.replicate_zero, List.push_toArray, List.append_toArray, List.nil_append, List.cons_append]
  gi_wp2
  refine hR.mono ?_
  rintro e W1 (⟨rfl, hj2, ha2⟩ | ⟨rfl, hx2, ha2⟩)
  · gi_wp2
    go_ret
    exact ⟨true, rfl, Beside.above (HA.out.trans ha2), .inl ⟨rfl, ys, HO.out.above ha2 (Nat.le_refl _), rfl, by rw [HYL.out]; exact hj2⟩⟩
  · gi_wp2
    go_ret
    exact ⟨false, rfl, Beside.above (HA.out.trans ha2), .inr ⟨rfl, [], ys, [], by rw [HYL.out]; rfl, by simpa using hx2⟩⟩

set_option linter.unusedSimpArgs false in
set_option maxRecDepth 100000 in
set_option maxHeartbeats 8000000 in
theorem keysFrom_step (m : Mk) (hm : m.ok = true) (l n B : Nat) (ad : Addr) (hnC : (n : Int) = m.C) (Mid : List (List Int) → Prop) (J Jx : List (List Int) → World → Prop) (hJ : Under B J) (k : Nat) (IH : WalkOk m l n B ad Mid J Jx k) : WalkOk m l n B ad Mid J Jx (k + 1) := by
  intro ch pre ys w hch ho hpre hmid hj
  obtain ⟨m1, m2, m3, m4, m5, m6, m7, m8, m9, m10, m11⟩ := Mk.ok_true hm
  have HM := Lib.hid hm
  have HC := Lib.hid hch
  have HN := Lib.hid hnC
  have hn6 : n ≤ 6 := by omega
  have hchn : ch < n := by omega
  have HP := Lib.hid hpre
  have HI := Lib.hid IH
  have HJ := Lib.hid hJ
  obtain ⟨_, _, e0, hlo, hhi, _, _, _⟩ := ho.at_ hchn
  obtain rfl := (by injection e0 : ad = _)
  clear e0
  have hB : B ≤ w.heap.size := by omega
  have hx := Boxed.new w 25 m
  have ha := Above.alloc B w (.cells #[.int .i64 m.C, .int .i64 m.D, .int .i64 m.S, .int .i64 m.M, .int .i64 m.L] 25)
  have hj1 := hJ _ _ _ hj ((Below.refl B w).alloc hB (.cells #[.int .i64 m.C, .int .i64 m.D, .int .i64 m.S, .int .i64 m.M, .int .i64 m.L] 25))
  have ho1 := ho.above ha (Nat.le_refl _)
  have HY := Lib.hid ho.len
  have htest : ((ch : Int) == m.C) = false := by simp; omega
  obtain ⟨q0, q1, q2, q3, q4⟩ := hx.cells
  have HX := Lib.hid hx
  have HJ1 := Lib.hid hj1
  have HO1 := Lib.hid ho1
  have HA := Lib.hid (Beside.above (b := ad.block) ha)
  generalize hT : behind m (ys.take ch) (k + 1) = T at hmid ⊢
  have HMID := Lib.hid hmid
  have HT := Lib.hid (show tails m k (ys.take ch) 0 = T from hT)
  clear hT hm hch hnC hpre IH ho hj hJ hx ha hj1 ho1 hmid
  go_enter Try.func84, Try.ntmps84
  go_wp2
  clear q0 q1 q2 q3 q4
  go_loopw [19] (fun x wr => ∃ (d : Nat) (zs : List Int) (D : List (List Int)), x = .int .i64 d ∧ d ≤ 8 ∧ Own wr B wr.heap.size (some ad) n zs ∧ Hid (zs.take ch = ys.take ch) ∧ Hid (T = D ++ tails m k (ys.take ch) d) ∧ Hid (J (pre ++ D) wr) ∧ Boxed wr w.heap.size 25 m ∧ Hid (Beside B ad.block w wr)) (fun x _ => 9 - (intOf x).toNat)
  case atStart => exact ⟨0, ys, [], rfl, by omega, HO1.out, Lib.hid rfl, Lib.hid (by rw [HT.out]; rfl), Lib.hid (by simpa using HJ1.out), HX.out, HA⟩
  case round =>
    obtain ⟨d, zs, D, rfl, hd8, hown, hpz, hall, hjd, hbox, hbs⟩ := hrel
    obtain ⟨q0, q1, q2, q3, q4⟩ := hbox.cells
    have hgs := hbs.out.size
    clear HX HJ1 HO1
    by_cases hlt : (d : Int) < m.D
    · obtain ⟨_, v, e0, _, hhi2, hv, hf, hcell⟩ := hown.at_ hchn
      obtain rfl := (by injection e0 : ad = _)
      clear e0 hv
      have HO := Lib.hid ((hown.put (d : Int) hchn).more (Nat.le_refl _) (show wr.heap.size ≤ (wr.setCell (ad.add ch) (.int .i64 (d : Int))).heap.size by simp [World.setCell]) (Nat.le_refl _))
      have HZ := Lib.hid hown.len
      have hadw : ad.block < w.heap.size := hhi
      have HB := Lib.hid (hbox.grown (grown_set (p := ad.add ch) (World.grownBy.refl wr (some ad.block)) (block_of_add ad ch) (.int .i64 (d : Int))) (by intro e; injection e with e; omega))
      have HS1 := Lib.hid (hbs.out.trans (by have := Beside.setCell (B := B) wr (p := ad.add ch) (.int .i64 (d : Int)); rwa [block_of_add] at this))
      have HJ2 := Lib.hid (HJ.out _ _ _ hjd.out ((Below.refl B wr).setCell (p := ad.add ch) (by rw [block_of_add]; exact hlo) (.int .i64 (d : Int))))
      have HPD : Hid ((zs.set ch (d : Int)).take (ch + 1) = ys.take ch ++ [(d : Int)]) := Lib.hid (by rw [take_set (by rw [HZ.out]; exact hchn), hpz.out])
      have HD := Lib.hid (depth_snoc HP.out hlt)
      have hlen : Hid (((ys.take ch ++ [(d : Int)]).length : Int) + k = m.C) := Lib.hid (by
        have := HC.out; have := HN.out; have := HY.out
        rw [List.length_append, List.length_take]; simp; omega)
      have hdD : d < m.D.toNat := by omega
      have HTS := Lib.hid (tails_step (m := m) (k := k) (xs := ys.take ch) hdD)
      have hne : ∀ i : Nat, ad.add ch ≠ ⟨w.heap.size, i, none⟩ := fun i e => by have := congrArg Addr.block e; rw [block_of_add] at this; simp at this; omega
      have p0 := (World.cell?_setCell_other wr (ad.add ch) ⟨w.heap.size, 0, none⟩ (.int .i64 (d : Int)) (hne 0)).trans q0
      have p1 := (World.cell?_setCell_other wr (ad.add ch) ⟨w.heap.size, 1, none⟩ (.int .i64 (d : Int)) (hne 1)).trans q1
      have p2 := (World.cell?_setCell_other wr (ad.add ch) ⟨w.heap.size, 2, none⟩ (.int .i64 (d : Int)) (hne 2)).trans q2
      have p3 := (World.cell?_setCell_other wr (ad.add ch) ⟨w.heap.size, 3, none⟩ (.int .i64 (d : Int)) (hne 3)).trans q3
      have p4 := (World.cell?_setCell_other wr (ad.add ch) ⟨w.heap.size, 4, none⟩ (.int .i64 (d : Int)) (hne 4)).trans q4
      have hlw : w.heap.size < (wr.setCell (ad.add ch) (.int .i64 (d : Int))).heap.size := HB.out.lt
      have HF := Lib.hid (HO.out.ints.front (show ch + 1 ≤ n by omega))
      clear hown hbox hne hbs hjd
      have s1 : IntKind.i64.wrap ((ch : Int) + 1) = (ch : Int) + 1 := IntWalk.i64_in _ (by omega)
      have s2 : 0 ≤ (ch : Int) + 1 := by omega
      have s3 : ((ch : Int) + 1).toNat = ch + 1 := by omega
      have s4 : (ch : Int) + 1 ≤ (n : Int) := by omega
      have i0 : (0 : Int) ≤ (ch : Int) := by omega
      have i1 : (ch : Int) < (n : Int) := by omega
      rcases hmay : mayB m (ys.take ch ++ [(d : Int)]) with _ | _
      · have HK := Lib.hid (keys_may hlen.out HD.out hmay)
        have HMY := Lib.hid hmay
        clear hmay
        go_wp2
        refine wp_region_held_drew (S := (fun w' => w'.cell? ⟨w.heap.size, 0, none⟩ = some (.int .i64 m.C) ∧ w'.cell? ⟨w.heap.size, 1, none⟩ = some (.int .i64 m.D) ∧ w'.cell? ⟨w.heap.size, 2, none⟩ = some (.int .i64 m.S) ∧ w'.cell? ⟨w.heap.size, 3, none⟩ = some (.int .i64 m.M) ∧ w'.cell? ⟨w.heap.size, 4, none⟩ = some (.int .i64 m.L))) (by kernel_rfl) ⟨p0, p1, p2, p3, p4⟩ (fun hHeld => ?_)
        refine held_take (i := 0) (oi := _) (v := ?_) (some 26) rfl rfl (by kernel_rfl) (by kernel_rfl) (by kernel_rfl) (fun _ _ _ h => h) (Or.inl ⟨by rfl, ?_⟩) (by assumption) ?_
        rotate_left
        · intro w' hSw
          obtain ⟨r0, r1, r2, r3, r4⟩ := hSw
          go_simp
          try with_reducible rfl
        try simp only [Act.put, List.setIfInBounds_toArray, List.set_cons_zero, List.set_cons_succ]
        refine held_take (i := 1) (oi := _) (v := ?_) (some 27) rfl rfl (by kernel_rfl) (by kernel_rfl) (by kernel_rfl) (fun _ _ _ h => h) (Or.inl ⟨by rfl, ?_⟩) (by assumption) ?_
        rotate_left
        · intro w' hSw
          obtain ⟨r0, r1, r2, r3, r4⟩ := hSw
          go_simp
          try with_reducible rfl
        try simp only [Act.put, List.setIfInBounds_toArray, List.set_cons_zero, List.set_cons_succ]
        refine held_take (i := 2) (oi := _) (v := ?_) (some 28) rfl rfl (by kernel_rfl) (by kernel_rfl) (by kernel_rfl) (fun _ _ _ h => h) (Or.inl ⟨by rfl, ?_⟩) (by assumption) ?_
        rotate_left
        · intro w' hSw
          obtain ⟨r0, r1, r2, r3, r4⟩ := hSw
          go_simp
          try with_reducible rfl
        try simp only [Act.put, List.setIfInBounds_toArray, List.set_cons_zero, List.set_cons_succ]
        refine held_take (i := 3) (oi := _) (v := ?_) (some 29) rfl rfl (by kernel_rfl) (by kernel_rfl) (by kernel_rfl) (fun _ _ _ h => h) (Or.inl ⟨by rfl, ?_⟩) (by assumption) ?_
        rotate_left
        · intro w' hSw
          obtain ⟨r0, r1, r2, r3, r4⟩ := hSw
          go_simp
          try with_reducible rfl
        try simp only [Act.put, List.setIfInBounds_toArray, List.set_cons_zero, List.set_cons_succ]
        refine held_take (i := 4) (oi := _) (v := ?_) (some 30) rfl rfl (by kernel_rfl) (by kernel_rfl) (by kernel_rfl) (fun _ _ _ h => h) (Or.inl ⟨by rfl, ?_⟩) (by assumption) ?_
        rotate_left
        · intro w' hSw
          obtain ⟨r0, r1, r2, r3, r4⟩ := hSw
          go_simp
          try with_reducible rfl
        try simp only [Act.put, List.setIfInBounds_toArray, List.set_cons_zero, List.set_cons_succ]
        refine wpAnyH_ready (rs := [5]) (by kernel_rfl) (by simp) ?_
        refine AllReadyH.cons (o := _) rfl (fun K hK => ?_) AllReadyH.nil
        go_simp
        refine (mayBegin_any m _ _ _ ((zs.set ch (d : Int)).take (ch + 1)) _ (ints_drewN HF.out 1) (by omega) HM.out).mono ?_
        rw [HPD.out, HMY.out]
        rintro e w1 ⟨rfl, b1⟩
        refine hK.out _ _ ⟨(b1.cell (p := ⟨w.heap.size, 0, none⟩) hlw).trans p0, (b1.cell (p := ⟨w.heap.size, 1, none⟩) hlw).trans p1, (b1.cell (p := ⟨w.heap.size, 2, none⟩) hlw).trans p2, (b1.cell (p := ⟨w.heap.size, 3, none⟩) hlw).trans p3, (b1.cell (p := ⟨w.heap.size, 4, none⟩) hlw).trans p4⟩ (fun hHeld => ?_)
        try simp only [Act.put, List.setIfInBounds_toArray, List.set_cons_zero, List.set_cons_succ]
        refine held_take (i := 6) (oi := _) (v := ?_) (some 32) rfl rfl (by kernel_rfl) (by kernel_rfl) (by kernel_rfl) (fun _ _ _ h => h) (Or.inl ⟨by rfl, ?_⟩) (by assumption) ?_
        rotate_left
        · intro w' hSw
          obtain ⟨r0, r1, r2, r3, r4⟩ := hSw
          go_simp
          try with_reducible rfl
        try simp only [Act.put, List.setIfInBounds_toArray, List.set_cons_zero, List.set_cons_succ]
        refine held_take (i := 7) (oi := _) (v := undef) (some 33) rfl rfl (by kernel_rfl) (by kernel_rfl) (by kernel_rfl) (fun _ _ _ h => h) (Or.inr ⟨by rfl, rfl⟩) (by assumption) ?_
        try simp only [Act.put, List.setIfInBounds_toArray, List.set_cons_zero, List.set_cons_succ]
        refine held_take (i := 8) (oi := _) (v := undef) (some 34) rfl rfl (by kernel_rfl) (by kernel_rfl) (by kernel_rfl) (fun _ _ _ h => h) (Or.inr ⟨by rfl, rfl⟩) (by assumption) ?_
        try simp only [Act.put, List.setIfInBounds_toArray, List.set_cons_zero, List.set_cons_succ]
        refine held_take (i := 9) (oi := _) (v := undef) (some 35) rfl rfl (by kernel_rfl) (by kernel_rfl) (by kernel_rfl) (fun _ _ _ h => h) (Or.inr ⟨by rfl, rfl⟩) (by assumption) ?_
        try simp only [Act.put, List.setIfInBounds_toArray, List.set_cons_zero, List.set_cons_succ]
        refine held_take (i := 10) (oi := _) (v := undef) (some 36) rfl rfl (by kernel_rfl) (by kernel_rfl) (by kernel_rfl) (fun _ _ _ h => h) (Or.inr ⟨by rfl, rfl⟩) (by assumption) ?_
        try simp only [Act.put, List.setIfInBounds_toArray, List.set_cons_zero, List.set_cons_succ]
        refine held_take (i := 11) (oi := _) (v := undef) (some 37) rfl rfl (by kernel_rfl) (by kernel_rfl) (by kernel_rfl) (fun _ _ _ h => h) (Or.inr ⟨by rfl, rfl⟩) (by assumption) ?_
        try simp only [Act.put, List.setIfInBounds_toArray, List.set_cons_zero, List.set_cons_succ]
        refine held_take (i := 12) (oi := _) (v := undef) (some 38) rfl rfl (by kernel_rfl) (by kernel_rfl) (by kernel_rfl) (fun _ _ _ h => h) (Or.inr ⟨by rfl, rfl⟩) (by assumption) ?_
        try simp only [Act.put, List.setIfInBounds_toArray, List.set_cons_zero, List.set_cons_succ]
        refine held_take (i := 13) (oi := _) (v := undef) (some 39) rfl rfl (by kernel_rfl) (by kernel_rfl) (by kernel_rfl) (fun _ _ _ h => h) (Or.inr ⟨by rfl, rfl⟩) (by assumption) ?_
        try simp only [Act.put, List.setIfInBounds_toArray, List.set_cons_zero, List.set_cons_succ]
        refine held_take (i := 14) (oi := _) (v := ?_) (some 40) rfl rfl (by kernel_rfl) (by kernel_rfl) (by kernel_rfl) (fun _ _ _ h => h) (Or.inl ⟨by rfl, ?_⟩) (by assumption) ?_
        rotate_left
        · intro w' hSw
          obtain ⟨r0, r1, r2, r3, r4⟩ := hSw
          go_simp
          try with_reducible rfl
        try simp only [Act.put, List.setIfInBounds_toArray, List.set_cons_zero, List.set_cons_succ]
        refine wpAnyH_done (by kernel_rfl) ?_ _
        have A1 := (Above.drewN B (wr.setCell (ad.add ch) (.int .i64 (d : Int))) 1).trans (Above.of_below b1)
        have X1 := Lib.hid ((HB.out.drewN 1).on b1)
        have O1 := Lib.hid (HO.out.above A1 (Nat.le_refl _))
        have G1 := Lib.hid (HS1.out.trans (Beside.above A1))
        have J1 := Lib.hid (HJ.out _ _ _ HJ2.out ((below_drewN (Below.refl B _) 1).trans (b1.mono (by have := HB.out.lt; simp at this ⊢; omega))))
        clear s1 s2 s3 s4 q0 q1 q2 q3 q4 p0 p1 p2 p3 p4 b1 hcell hf A1
        go_wp2
        go_roundw
        case rel => exact ⟨d + 1, zs.set ch (d : Int), D, by go_num, by omega, O1.out, Lib.hid (by rw [take_set']; exact hpz.out), Lib.hid (by rw [hall.out, HTS.out, HK.out]; rfl), J1, X1.out, G1⟩
        case measure => simp [intOf]; omega
      · have HK := Lib.hid (keys_behind hlen.out hmay)
        have HMY := Lib.hid hmay
        clear hmay
        go_wp2
        go_region_held3 (fun w' => w'.cell? ⟨w.heap.size, 0, none⟩ = some (.int .i64 m.C) ∧ w'.cell? ⟨w.heap.size, 1, none⟩ = some (.int .i64 m.D) ∧ w'.cell? ⟨w.heap.size, 2, none⟩ = some (.int .i64 m.S) ∧ w'.cell? ⟨w.heap.size, 3, none⟩ = some (.int .i64 m.M) ∧ w'.cell? ⟨w.heap.size, 4, none⟩ = some (.int .i64 m.L))
          (first | go_keep | exact ⟨(b1.cell (p := ⟨w.heap.size, 0, none⟩) hlw).trans p0, (b1.cell (p := ⟨w.heap.size, 1, none⟩) hlw).trans p1, (b1.cell (p := ⟨w.heap.size, 2, none⟩) hlw).trans p2, (b1.cell (p := ⟨w.heap.size, 3, none⟩) hlw).trans p3, (b1.cell (p := ⟨w.heap.size, 4, none⟩) hlw).trans p4⟩ | exact X2.out.cells)
          (first
            | (go_at_call 89; refine (mayBegin_any m _ _ _ ((zs.set ch (d : Int)).take (ch + 1)) _ (ints_drewN HF.out 1) (by omega) HM.out).mono ?_; rw [HPD.out, HMY.out]; rintro e w1 ⟨rfl, b1⟩)
            | (go_at_call 84; have A1 := (Above.drewN B (wr.setCell (ad.add ch) (.int .i64 (d : Int))) 1).trans (Above.of_below b1); have X1 := Lib.hid ((HB.out.drewN 1).on b1); have O1 := HO.out.above A1 (Nat.le_refl _); have G1 := Lib.hid (HS1.out.trans (Beside.above A1)); have J1 := HJ.out _ _ _ HJ2.out ((below_drewN (Below.refl B _) 1).trans (b1.mono (by have := HB.out.lt; simp at this ⊢; omega))); have h1 := HI.out (ch + 1) (pre ++ D) (zs.set ch (d : Int)) w1 (by have := HC.out; omega) O1 (by rw [HPD.out]; exact HD.out) (fun p' R' e' => by rw [HPD.out, ← HK.out] at e'; rw [List.append_assoc]; exact HMID.out (D ++ p') (R' ++ tails m k (ys.take ch) (d + 1)) (by rw [hall.out, HTS.out, e']; simp)) J1; rw [HPD.out, ← HK.out, show ((ch + 1 : Nat) : Int) = (ch : Int) + 1 by omega] at h1; refine h1.mono ?_; rintro e w2 ⟨ok, rfl, g2, h2⟩; clear h1; have X2 := Lib.hid (X1.out.beside g2 hB (by omega)); have G2 := Lib.hid (G1.out.trans g2); have H2 := Lib.hid h2; clear h2 g2))
        clear s1 s2 s3 s4 q0 q1 q2 q3 q4 p0 p1 p2 p3 p4 b1 hcell hf
        rcases ok with _ | _
        · have HF2 : Hid (∃ p x R, T = p ++ x :: R ∧ Jx (pre ++ (p ++ [x])) w2) := by
            rcases H2.out with ⟨h, _⟩ | ⟨_, p, x, R, e, hx⟩
            · cases h
            · exact Lib.hid ⟨D ++ p, x, R ++ tails m k (ys.take ch) (d + 1), by rw [hall.out, HTS.out, e]; simp, by simpa using hx⟩
          go_wp2
          go_ret
          exact ⟨false, rfl, G2.out, .inr ⟨rfl, HF2.out⟩⟩
        · have HF2 : Hid (∃ us, Own w2 B w2.heap.size (some ad) n us ∧ us.take (ch + 1) = (zs.set ch (d : Int)).take (ch + 1) ∧ J (pre ++ D ++ keysFrom m k (ys.take ch ++ [(d : Int)])) w2) := by
            rcases H2.out with ⟨_, h⟩ | ⟨h, _⟩
            · exact Lib.hid h
            · cases h
          obtain ⟨us, o2, p2, j2⟩ := HF2.out
          have P2 : Hid (us.take ch = ys.take ch) := Lib.hid (by
            have := congrArg (List.take ch) p2
            rw [List.take_take, Nat.min_eq_left (by omega), List.take_take, Nat.min_eq_left (by omega), take_set'] at this
            rw [this]; exact hpz.out)
          have O2 := Lib.hid o2
          have J2 : Hid (J (pre ++ (D ++ keysFrom m k (ys.take ch ++ [(d : Int)]))) w2) := Lib.hid (by rw [← List.append_assoc]; exact j2)
          clear o2 p2 j2
          go_wp2
          go_roundw
          case rel => exact ⟨d + 1, us, D ++ keysFrom m k (ys.take ch ++ [(d : Int)]), by go_num, by omega, O2.out, P2, Lib.hid (by rw [hall.out, HTS.out]; simp), J2, X2.out, G2⟩
          case measure => simp [intOf]; omega
    · have HE : Hid (T = D) := Lib.hid (by
        have h1 := hall.out
        rwa [tails_end (m := m) (k := k) (xs := ys.take ch) (d := d) (by omega), List.append_nil] at h1)
      clear hall
      go_wp2
      go_ret
      exact ⟨true, rfl, hbs.out, .inl ⟨rfl, zs, hown, hpz.out, by rw [HE.out]; exact hjd.out⟩⟩

end Go.Proofs.Ytlgaocjcfdfhmaa

namespace Go.Proofs.Ytlgaocjcfdfhmaa
open Go Go.RowKit
attribute [local go_sem] Oper.semAt_some

theorem keysFrom_any (m : Mk) (hm : m.ok = true) (l n B : Nat) (ad : Addr) (hnC : (n : Int) = m.C) (Mid : List (List Int) → Prop) (J Jx : List (List Int) → World → Prop) (hJ : Under B J) (hY : EachKey l n B Mid J Jx) : ∀ k, WalkOk m l n B ad Mid J Jx k
  | 0 => keysFrom_zero m hm l n B ad hnC Mid J Jx hJ hY
  | k + 1 => keysFrom_step m hm l n B ad hnC Mid J Jx hJ k (keysFrom_any m hm l n B ad hnC Mid J Jx hJ hY k)
theorem all_behind {m : Mk} (hm : m.ok = true) : behind m [] m.C.toNat = allKeys m := by
  obtain ⟨m1, _⟩ := Mk.ok_true hm
  obtain ⟨k, hk⟩ : ∃ k, m.C.toNat = k + 1 := ⟨m.C.toNat - 1, by omega⟩
  unfold allKeys
  rw [hk]
  exact (keys_succ rfl).symm
/-- the first keys -/
def Among (m : Mk) (q : List (List Int)) : Prop := ∃ R, allKeys m = q ++ R
/-- some keys have come, not all perhaps, the last of them is x -/
def Partly (m : Mk) (pre : List (List Int)) : Prop := ∃ p x R, allKeys m = p ++ x :: R ∧ pre = p ++ [x]

set_option maxRecDepth 100000 in
set_option maxHeartbeats 4000000 in
theorem keys_lend (m : Mk) (hm : m.ok = true) (q : Nat) (w : World) :
    Lends Fence.wide q Try.prog 51 #[.agg #[.int .i64 m.C, .int .i64 m.D, .int .i64 m.S, .int .i64 m.M, .int .i64 m.L]] #[] m.C.toNat (Among m) (fun xs => xs = allKeys m) (Partly m) w := by
  intro l J Jx W hW hJ hY h0
  obtain ⟨m1, m2, m3, m4, m5, m6, m7, m8, m9, m10, m11⟩ := Mk.ok_true hm
  have HW := Lib.hid (all_behind hm)
  obtain ⟨n, hn⟩ : ∃ n : Nat, m.C.toNat = n := ⟨_, rfl⟩
  rw [hn] at hY HW
  have hnC : (n : Int) = m.C := by omega
  have HK : ∀ ad, WalkOk m l n W.heap.size ad (Among m) J Jx n := fun ad => keysFrom_any m hm l n W.heap.size ad hnC (Among m) J Jx hJ (fun q' pre x v W1 hj hm' hl => yield_free q' (hY pre x v W1 hj hm' hl)) n
  have HKH := Lib.hid HK
  have hx := Boxed.new W 25 m
  have hj1 := hJ _ _ _ h0 ((Below.refl W.heap.size W).alloc (Nat.le_refl _) (.cells #[.int .i64 m.C, .int .i64 m.D, .int .i64 m.S, .int .i64 m.M, .int .i64 m.L] 25))
  have HJ := Lib.hid hJ
  have HJ1 := Lib.hid hj1
  have HN := Lib.hid hn
  have HX := Lib.hid hx
  obtain ⟨q0, q1, q2, q3, q4⟩ := hx.cells
  have hmk := run_make_row' (P := Try.prog) 26 2 (.int .i64 0) 8 Try.underlying26 Try.info2' rfl .i64 .i64 n (by omega) (by omega)
  rw [hnC] at hmk
  have e0 := World.new_ne _ ⟨W.heap.size, 0, none⟩ q0
  have e1 := World.new_ne _ ⟨W.heap.size, 1, none⟩ q1
  have e2 := World.new_ne _ ⟨W.heap.size, 2, none⟩ q2
  have e3 := World.new_ne _ ⟨W.heap.size, 3, none⟩ q3
  have e4 := World.new_ne _ ⟨W.heap.size, 4, none⟩ q4
  have hmade := World.rowIs_made (W.alloc (.cells #[.int .i64 m.C, .int .i64 m.D, .int .i64 m.S, .int .i64 m.M, .int .i64 m.L] 25)) (.int .i64 0) n 2
  rw [World.size_alloc] at hmade
  have hzero : ∀ j, j < n → Value.int .i64 0 = Value.int .i64 ((List.replicate n (0 : Int)).getD j 0) := fun j hj => by
    rw [List.getD_eq_getElem?_getD, List.getElem?_replicate, if_pos hj]; rfl
  have hrow := hmade.congr hzero
  obtain ⟨W1, hW1⟩ : ∃ W1 : World, W1 = ((W.alloc (.cells #[.int .i64 m.C, .int .i64 m.D, .int .i64 m.S, .int .i64 m.M, .int .i64 m.L] 25)).alloc (.cells (madeCells #[.int .i64 0] n) 2)).drew := ⟨_, rfl⟩
  have ho1 : Own W1 W.heap.size W1.heap.size (some ⟨W.heap.size + 1, 0, none⟩) n (List.replicate n (0 : Int)) := by
    subst hW1
    exact Own.of_row hrow (by simp) (by omega)
  have hjw : J [] W1 := by
    subst hW1
    exact hJ _ _ _ hj1 (((Below.refl _ _).alloc (by simp) _).drew)
  have hxw : Boxed W1 W.heap.size 25 m := by
    subst hW1
    exact hx.alloc _
  have HC := Lib.hid (HK ⟨W.heap.size + 1, 0, none⟩ 0 [] (List.replicate n (0 : Int)) W1 (by omega) ho1 rfl (fun p R e => ⟨R, by rw [← HW.out]; exact e⟩) hjw)
  have HXW := Lib.hid hxw
  have HW1 := Lib.hid hW1
  clear hm hn hnC HK hJ hY h0 hj1 hx hW hrow hmade hzero ho1 hjw hxw hW1 HKH HJ HJ1
  refine callsIn_wide.2 ?_
  show Calls Try.prog 51 #[.agg #[.int .i64 m.C, .int .i64 m.D, .int .i64 m.S, .int .i64 m.M, .int .i64 m.L], .func (.yield l) #[] #[]] W _
  go_enter Try.func51, Try.ntmps51
  go_wp2
  go_region_held3 (fun w' => w'.cell? ⟨W.heap.size, 0, none⟩ = some (.int .i64 m.C) ∧ w'.cell? ⟨W.heap.size, 1, none⟩ = some (.int .i64 m.D) ∧ w'.cell? ⟨W.heap.size, 2, none⟩ = some (.int .i64 m.S) ∧ w'.cell? ⟨W.heap.size, 3, none⟩ = some (.int .i64 m.M) ∧ w'.cell? ⟨W.heap.size, 4, none⟩ = some (.int .i64 m.L))
    (first | go_keep | exact X2.out.cells)
    (first
      | (go_at_call 84; rw [← HW1.out]; have h1 := HC.out; rw [show ((0 : Nat) : Int) = 0 from rfl] at h1; refine h1.mono ?_; rintro e w2 ⟨ok, rfl, g2, h2⟩; clear h1; have X2 := Lib.hid (HXW.out.beside g2 (Nat.le_refl _) (by simp)); have H2 := Lib.hid h2; clear h2 g2))
  clear q0 q1 q2 q3 q4 e0 e1 e2 e3 e4 hmk
  go_wp2
  go_end0
  refine ⟨⟨_, rfl⟩, ?_⟩
  rcases H2.out with ⟨_, zs, _, _, hj⟩ | ⟨_, p, x, R, e, hj⟩
  · refine .inl ⟨_, rfl, ?_⟩
    have e2 : behind m ((List.replicate n (0 : Int)).take 0) n = allKeys m := HW.out
    rw [e2] at hj
    simpa using hj
  · have e2 : behind m ((List.replicate n (0 : Int)).take 0) n = allKeys m := HW.out
    rw [e2] at e
    exact .inr ⟨p ++ [x], ⟨p, x, R, e, rfl⟩, by simpa using hj⟩

end Go.Proofs.Ytlgaocjcfdfhmaa
