/- The law of products: its walk. -/
import Derived.Test.YtnonmjllopcaeaaDrawProd
import Derived.Test.YtnonmjllopcaeaaDice
import Derived.Test.YtnonmjllopcaeaaProdMath
import Derived.Test.YtnonmjllopcaeaaFnChoices
import Derived.Deep.RegionLaw
import Derived.Deep.DeepCutAuto
namespace Go.Proofs.Ytnonmjllopcaeaa
open Go.RowKit

/-- append, at a step of a region that draws its order: nothing is asked of how much is appended -/
theorem step_append_own {P : Program} {w : World} {ops : Array Oper} {o : Oper} {a : Act} {K : Act → World → Prop} {Q : Exit → Act → World → Prop} {E : Prop} (hgd : o.guard = none) (s x : Operand) (t : TypeId)
    (ho : o.op = .call { callee := .builtin .append, args := #[s, x], argTypes := #[t, t] })
    (base : Nat) (e : TypeId) (i : TypeInfo) (z : Value) (size bytes : Nat) (ht : P.underlying t = some (.slice e)) (hi : P.info? e = some i) (hz : i.zero = some z)
    (hsize : i.size = size) (hby : i.bytes = bytes) (hzs : z.cells.size = size) (hsz : 0 < size)
    (v : Value) (n : Nat) (xs : List Value) (hs : a.eval s = v) (hown : w.ownsRow base e size v n xs)
    (ad : Addr) (m c : Nat) (news : List Value) (hx : a.eval x = .slice (some ad) m c) (hl : news.length = m * size) (hnews : ∀ j u, news[j]? = some u → w.cell? (ad.add j) = some u) (h1 : ∀ u ∈ news, u.oneCell' = true)
    (h63 : n + m ≤ maxLen) (hbytes : (n + m) * bytes ≤ 140737488355328) (hbase : base ≤ w.heap.size)
    (h : ∀ v' w', w'.ownsRow base e size v' (n + m) (xs ++ news) → w.grownBy w' v.ownBlock → K (a.put o.dst v') w') :
    if Region.wanted o (yielded ops a.tmps) = true then Oper.wp P o a w K Q else E := by
  have hw : Region.wanted o (yielded ops a.tmps) = true := by simp [Region.wanted, hgd]
  rw [if_pos hw]
  obtain ⟨v', w', hr, h2, h3, _, _⟩ := run_append_own_at (P := P) w base t o.type e i z size bytes ht hi hz hsize hby hzs hsz v n xs hown ad m c news hl hnews h1 h63 hbytes hbase
  unfold Oper.wp execOp
  simp only [ho, resolve, invoke, builtin, Sem.run_bind, Sem.run_pure, Result.andThen_ok, List.map_toArray, List.map_cons, List.map_nil, hs, hx, hr]
  exact h v' w' h2 h3

theorem add_add_ (a : Addr) (k j : Nat) : (a.add k).add j = a.add (k + j) := by
  unfold Addr.add
  by_cases h1 : k = 0 <;> by_cases h2 : j = 0 <;> simp [h1, h2, Nat.add_assoc]
theorem listI_len (xs : List Int) : (listI xs).length = xs.length := by simp [listI]
theorem listI_one (xs : List Int) : ∀ u ∈ listI xs, u.oneCell' = true := by
  intro u hu
  unfold listI at hu
  obtain ⟨v, _, rfl⟩ := List.mem_map.1 hu
  rfl
/-- a part of a list, to be appended -/
theorem Ints.part {w : World} {B n : Nat} {ad : Addr} {xs ys : List Int} {k : Nat} (h : Ints w B (some ad) n xs) (hy : ∀ (j : Nat) (v : Int), ys[j]? = some v → xs[k + j]? = some v) : ∀ j u, (listI ys)[j]? = some u → w.cell? ((ad.add k).add j) = some u := by
  intro j u hu
  unfold listI at hu
  rw [List.getElem?_map] at hu
  rcases hv : ys[j]? with _ | v
  · rw [hv] at hu; cases hu
  · rw [hv] at hu
    have hx := hy j v hv
    have hn : 0 < n := by
      have := h.len
      have := (List.getElem?_eq_some_iff.1 hx).1
      omega
    obtain ⟨ad', e, _, hc⟩ := h.2 hn
    injection e with e
    subst e
    rw [add_add_]
    have hu' : Value.int .i64 v = u := by simpa using hu
    rw [← hu']
    exact hc _ _ hx

theorem Ints.head {w : World} {B n : Nat} {ad : Addr} {xs : List Int} (k : Nat) (h : Ints w B (some ad) n xs) : ∀ j u, (listI (xs.take k))[j]? = some u → w.cell? (ad.add j) = some u := by
  intro j u hu
  have := h.part (k := 0) (ys := xs.take k) (fun j v hv => by
    rw [List.getElem?_take] at hv
    split at hv
    · rw [Nat.zero_add]; exact hv
    · cases hv) j u hu
  rwa [add_add_, Nat.zero_add] at this
theorem ints_far {w w' : World} {B n g : Nat} {A : Option Addr} {xs : List Int} (h : Ints w B A n xs) (hg : w.grownBy w' (some g)) (hB : B ≤ g) (hs : B ≤ w.heap.size) : Ints w' B A n xs :=
  h.keep fun p hp => hg.cell_far p (by omega) (by intro e; injection e with e; omega)

/-- a bool that is true only where p is -/
def BoolFor (p : Prop) (v : Value) : Prop := ∃ b : Bool, v = .bool b ∧ (b = true → p)

set_option maxRecDepth 100000 in
set_option maxHeartbeats 4000000 in
theorem fnProducts_any (A : Option Addr) (n c : Nat) (w : World) (h : Bts w w.heap.size A n) :
    Calls Try.prog 3 #[.slice A n c] w fun e w' => e = .returned (.bool true) ∧ Below w.heap.size w w' := by
  obtain ⟨i0', hi, hz0, hz1, hz2⟩ := info_parts Try.info2'
  have HT := Lib.hid (And.intro hi (And.intro hz0 (And.intro hz1 hz2)))
  clear hi hz0 hz1 hz2
  by_cases hn : n ≤ 4096
  · have d0 : decide (4096 < (n : Int)) = false := by simp; omega
    have HB := Lib.hid h
    clear h
    go_enter Try.func3, Try.ntmps3
    go_wp2_with fail
    refine (big_any _ _ _ _).mono ?_
    rintro e w' ⟨rfl, rfl⟩
    rw [d0]
    clear d0
    go_wp2_with fail
    refine (drawProd_any w.heap.size A n c w HB.out (Nat.le_refl _) hn).mono ?_
    rintro e w1 ⟨D, m, d, xs, rfl, hx1, hm, hmd, b1⟩
    have HB1 := Lib.hid (HB.out.keep (w' := w1) (fun p hp => b1.cell hp))
    have HX := Lib.hid hx1
    have s1 := b1.size
    have hi1 := hx1.ints
    clear hx1
    go_wp2_with fail
    refine (productOf_any _ _ _ xs _ hi1 (by omega)).mono ?_
    rintro e w' ⟨rfl, rfl⟩
    go_wp2_with fail
    refine (specProductOf_any _ _ _ xs _ hi1 (by omega)).mono ?_
    rintro e w' ⟨rfl, rfl⟩
    go_wp2_with fail
    refine (drawPower_any w.heap.size A n c w1 HB1.out s1 hn).mono ?_
    rintro e w2 ⟨a, b, rfl, a0, a1, c0, c1, b2⟩
    have b2' := below_trans' b1 b2
    have HB2 := Lib.hid (HB.out.keep (w' := w2) (fun p hp => b2'.cell hp))
    have s2 := b2'.size
    have hi2 := hi1.on b2
    clear b1 b2 HB1 s1 hi1
    go_wp2_with fail
    refine (powerOf_any _ _ _).mono ?_
    rintro e w' ⟨rfl, rfl⟩
    go_wp2_with fail
    refine (specPowerOf_any _ _ _).mono ?_
    rintro e w' ⟨rfl, rfl⟩
    go_wp2_with fail
    refine (drawSum_any w.heap.size A n c w2 HB2.out s2 hn).mono ?_
    rintro e w3 ⟨E, q, f, ys, rfl, hy, hq, hqf, b3⟩
    have b3' := below_trans' b2' b3
    have HB3 := Lib.hid (HB.out.keep (w' := w3) (fun p hp => b3'.cell hp))
    have s3 := b3'.size
    have hi3 := hi2.on b3
    have hy3 := hy.ints
    clear b2' b3 HB2 s2 hi2 HB
    go_wp2_with fail
    refine (sumOf_any _ _ _ ys _ hy3 (by omega)).mono ?_
    rintro e w' ⟨rfl, rfl⟩
    go_wp2_with fail
    refine (specSumOf_any _ _ _ ys _ hy3 (by omega)).mono ?_
    rintro e w' ⟨rfl, rfl⟩
    clear hy hy3
    go_upto_region 14 with (fail)
    go_cut [105] (fun v wx => BoolFor (powE a b = 0 ∧ 0 < b ∧ 0 < a) v ∧ w3 = wx)
    case first =>
      rcases k0 : (powE a b == 0) with _ | _
      · go_wp2_with fail
        go_meet
        exact ⟨⟨_, rfl, fun h => by cases h⟩, rfl⟩
      rcases k1 : decide (0 < b) with _ | _
      · go_wp2_with fail
        go_meet
        exact ⟨⟨_, rfl, fun h => by cases h⟩, rfl⟩
      rcases k2 : decide (0 < a) with _ | _
      · go_wp2_with fail
        go_meet
        exact ⟨⟨_, rfl, fun h => by cases h⟩, rfl⟩
      · go_wp2_with fail
        go_meet
        exact ⟨⟨_, rfl, fun _ => ⟨by simpa using k0, by simpa using k1, by simpa using k2⟩⟩, rfl⟩
    case rest =>
      obtain ⟨⟨p, rfl, hp⟩, rfl⟩ := hcut
      have HP := Lib.hid hp
      clear hp
      go_upto_if 105 with (fail)
      go_cut [] (fun wx => w3 = wx)
      case first =>
        rcases p with _ | _
        · go_wp2_with fail
          go_meet
          rfl
        · obtain ⟨q1, q2, q3⟩ := HP.out rfl
          obtain ⟨p1, p2, p3, p4, p5, p6, p7⟩ := pow_less q1 q2 q3
          have P2 := Lib.hid p2
          clear p2 q1
          go_wp2_with fail
          refine (powerOf_any _ _ _).mono ?_
          rintro e w' ⟨rfl, rfl⟩
          have p2 := P2.out
          go_wp2_with fail
          go_meet
          rfl
      case rest =>
        obtain rfl := hcut
        clear HP
        rcases k0 : (prodE xs == 0) with _ | _
        · go_wp2
          go_ret
          exact ⟨rfl, b3'⟩
        rcases k1 : ((m : Int) == 0) with _ | _
        · have hm0 : ¬ (m : Int) = 0 := by simpa using k1
          have m0 : 0 < m := by omega
          have HE := Lib.hid (show prodE xs = 0 by simpa using k0)
          clear hm0
          go_wp2_with fail
          refine (roll_any w.heap.size A n c _ _ HB3.out s3 hn).mono ?_
          rintro e w4 ⟨g, rfl, hg, hg1, h4, b4⟩
          have s4 := b4.size
          go_wp2_with fail
          refine (below_any w.heap.size g A n c _ _ h4 (by omega) (by omega)).mono ?_
          rintro e w5 ⟨r, rfl, r0, r1, h5, g5⟩
          have b5 := below_grown b4 g5 (fun q e => by injection e with e; omega)
          have HX5 := Lib.hid (hi3.on b5)
          have B5 := Lib.hid (below_trans' b3' b5)
          obtain ⟨k, rfl⟩ := Int.eq_ofNat_of_zero_le r0
          have hk : k < m := by omega
          clear b4 g5 h4 h5 b5 hi3 HB3 r0 r1 b3' HX
          obtain ⟨ad, v, rfl, hab, hv, hc⟩ := HX5.out.at_ hk
          clear hv hc
          have i0 : (0 : Int) ≤ (k : Int) := by omega
          have i1 : (k : Int) ≤ (m : Int) := by omega
          have i2 : (m : Int) ≤ (d : Int) := by omega
          have i3 : (k : Int) ≤ (d : Int) := by omega
          have hdk : ¬ d = k := by omega
          have HO := Lib.hid ((row_empty (t := 2) (Nat.le_refl w5.heap.size)).drew)
          have HI := Lib.hid (HX5.out.below (((Below.refl w5.heap.size w5).alloc (Nat.le_refl _) (.cells #[] 2)).drew))
          have HN := Lib.hid (HI.out.part (k := k) (ys := xs.drop k) (fun j u hu => by rw [List.getElem?_drop] at hu; exact hu))
          have HL := Lib.hid HX5.out.len
          go_upto_region 21 with (fail)
          go_cut [22] (fun v wx => ∃ A' c', v = .slice A' m c' ∧ Ints wx wx.heap.size A' m (xs.drop k ++ xs.take k) ∧ Below w.heap.size w wx)
          case first =>
            go_region_law (first
              | (refine step_append_own (by rfl) _ _ _ (by rfl) w5.heap.size 2 i0' _ 1 8 Try.underlying24 HT.out.1 HT.out.2.1 HT.out.2.2.1 HT.out.2.2.2 rfl (by omega) v1 _ _ (by rfl) hown1 ad k d (listI (xs.take k)) (by rfl) (by rw [listI_len, List.length_take, HL.out]; omega) ((ints_far HI.out hgrow1 (Nat.le_refl _) (by simp)).head k) (listI_one _) (by unfold maxLen; omega) (by omega) (by have := hgrow1.size; simp at this; omega) ?_; intro v2 w7 hown2 hgrow2)
              | (refine step_append_own (by rfl) _ _ _ (by rfl) w5.heap.size 2 i0' _ 1 8 Try.underlying24 HT.out.1 HT.out.2.1 HT.out.2.2.1 HT.out.2.2.2 rfl (by omega) (.slice (some ⟨w5.heap.size, 0, none⟩) 0 0) 0 (listI []) (by rfl) HO.out (ad.add k) (m - k) (d - k) (listI (xs.drop k)) (by rfl) (by rw [listI_len, List.length_drop, HL.out]; omega) HN.out (listI_one _) (by unfold maxLen; omega) (by omega) (by simp) ?_; intro v1 w6 hown1 hgrow1))
            have hR : w7.ownsRow w5.heap.size 2 1 v2 m (listI (xs.drop k ++ xs.take k)) := by
              have e1 : 0 + (m - k) + k = m := by omega
              have e2 : listI [] ++ listI (xs.drop k) ++ listI (xs.take k) = listI (xs.drop k ++ xs.take k) := by simp [listI]
              rw [e1, e2] at hown2
              exact hown2
            have hB6 := below_grown (B5.out.alloc B5.out.size (.cells #[] 2)).drew hgrow1 (fun q e => by have e : w5.heap.size = q := (by simpa [Value.ownBlock] using e); have := B5.out.size; omega)
            have hB7 := below_grown hB6 hgrow2 (fun q e => by have := row_base hown1 q e; have := B5.out.size; omega)
            obtain ⟨A2, c2, rfl, ho⟩ := row_ints hR (by rw [List.length_append, List.length_drop, List.length_take, HL.out]; omega)
            have HI7 := Lib.hid ho.ints
            have HB7 := Lib.hid hB7
            clear ho hB6 hB7 hR hown2 hgrow2 hown1 hgrow1
            go_wp2_with fail
            go_meet
            exact ⟨A2, c2, rfl, HI7.out, HB7.out⟩
          case rest =>
            obtain ⟨A2, c2, rfl, hi, hb⟩ := hcut
            obtain ⟨t1, t2⟩ := turned_prod HE.out k
            have T1 := Lib.hid t1
            have T2 := Lib.hid t2
            clear t1 t2 HO HI HN HL HX5 B5
            go_wp2_with fail
            refine (productOf_any _ _ _ _ _ hi (by omega)).mono ?_
            rintro e w' ⟨rfl, rfl⟩
            rw [T1.out, T2.out]
            go_wp2
            go_ret
            exact ⟨rfl, hb⟩
        · obtain rfl : m = 0 := by simpa using k1
          clear k1
          go_wp2
          all_goals
            go_ret
            exact ⟨rfl, b3'⟩
  · have d0 : decide (4096 < (n : Int)) = true := by simp; omega
    go_enter Try.func3, Try.ntmps3
    go_wp2_with fail
    refine (big_any _ _ _ _).mono ?_
    rintro e w' ⟨rfl, rfl⟩
    rw [d0]
    go_wp2
    go_ret
    exact ⟨rfl, Below.refl _ _⟩

end Go.Proofs.Ytnonmjllopcaeaa
