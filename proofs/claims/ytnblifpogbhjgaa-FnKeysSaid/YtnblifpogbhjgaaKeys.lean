/- FirstKeys of the program. -/
import Derived.Test.YtnblifpogbhjgaaPile
namespace Go.Proofs.Ytnblifpogbhjgaa
open Go.RowKit

def fkL (m : Mk) (n : Int) : List (List Int) := if m.ok && inB n 0 300 then (allKeys m).take n.toNat else []
def fkE (m : Mk) (n : Int) : Int := if m.ok then (if inB n 0 300 then 0 else 2) else 1
theorem fk_bad {m : Mk} {n : Int} (h : m.ok = false) : fkL m n = [] ∧ fkE m n = 1 := by simp [fkL, fkE, h]
theorem fk_no {m : Mk} {n : Int} (h : m.ok = true) (h2 : inB n 0 300 = false) : fkL m n = [] ∧ fkE m n = 2 := by simp [fkL, fkE, h, h2]
theorem fk_yes {m : Mk} {n : Int} (h : m.ok = true) (h2 : inB n 0 300 = true) : fkL m n = (allKeys m).take n.toNat ∧ fkE m n = 0 := by simp [fkL, fkE, h, h2]
def codeI (more : Bool) : Int := if more then 0 else 4
def lenOf : Value → Nat
  | .slice _ n _ => n
  | _ => 0

/-- the key at hand, and those that follow it: none is left, or the value kv is the first of R, a list of its own apart from the pile v -/
def AtHand (w : World) (lo p : Nat) (v : Value) (gs : List (Addr × Nat)) (kv : Value) (more : Bool) (R : List (List Int)) : Prop :=
  (R = [] ∧ more = false) ∨ ∃ a c y R', R = y :: R' ∧ more = true ∧ kv = .slice (some a) p c ∧ Self w a p y ∧ lo ≤ a.block ∧ p ≤ c ∧ c ≤ 9223372036854775807 ∧ v.ownBlock ≠ some a.block ∧ ∀ b ∈ gs, b.1.block ≠ a.block
theorem AtHand.next {w w' : World} {lo p n : Nat} {v : Value} {gs : List (Addr × Nat)} {yss : List (List Int)} {A : Option Addr} {c q : Nat} {y : List Int} {R : List (List Int)} (hp : 0 < p) (hpile : Pile w lo v n p gs yss) (hlo : lo ≤ w.heap.size)
    (ho : Own w' w.heap.size w'.heap.size A q y) (hy : y.length = p) (hc : q ≤ c) (hcm : c ≤ 9223372036854775807) : AtHand w' lo p v gs (.slice A q c) true (y :: R) := by
  obtain rfl : q = p := by rw [← ho.len, hy]
  obtain ⟨a, _, rfl, _⟩ := ho.at_ hp
  obtain ⟨h1, h2, h3⟩ := ho.self hp
  refine .inr ⟨a, c, y, R, rfl, rfl, rfl, h1, by omega, hc, hcm, ?_, ?_⟩
  · intro e
    rcases hpile.row.2 with ⟨rfl, _⟩ | ⟨g, cap, cur, rfl, _, hg, _⟩
    · cases e
    · have := heapLt hg
      have e' : g = a.block := by simpa [Value.ownBlock] using e
      omega
  · intro b hb e
    obtain ⟨j, hj⟩ := List.getElem?_of_mem hb
    have hjn : j < n := by rw [← hpile.glen]; exact (List.getElem?_eq_some_iff.1 hj).1
    obtain ⟨h4, _⟩ := hpile.inner j b yss[j]! hj (by rw [List.getElem!_eq_getElem?_getD, List.getElem?_eq_getElem (by rw [hpile.len]; exact hjn)]; rfl)
    have := h4.lt
    omega

set_option maxRecDepth 100000 in
set_option maxHeartbeats 4000000 in
theorem firstKeys_any (m : Mk) (n : Int) (w : World) :
    Calls Try.prog 32 #[.agg #[.int .i64 m.C, .int .i64 m.D, .int .i64 m.S, .int .i64 m.M, .int .i64 m.L], .int .i64 n] w
      (GivesLists w m.C.toNat (fkE m n) (fkL m n)) := by
  have b0 := (Below.refl w.heap.size w).alloc (Nat.le_refl _) (.cells #[.int .i64 m.C, .int .i64 m.D, .int .i64 m.S, .int .i64 m.M, .int .i64 m.L] 25)
  have hx := Boxed.new w 25 m
  rcases hm : m.ok with _ | _
  · obtain ⟨e1, e2⟩ := fk_bad (n := n) hm
    rw [e1, e2]; clear e1 e2
    go_enter Try.func32, Try.ntmps32
    go_wp2_with fail
    refine (isMaker_any m _).mono ?_
    rw [hm]
    rintro e w1 ⟨rfl, b1⟩
    have c1 := below_trans' b0 b1
    go_wp2
    go_ret2
    exact ⟨none, 0, 0, [], rfl, Pile.none_ ⟨rfl, .inl ⟨rfl, rfl⟩⟩, by omega, c1⟩
  have HM := Lib.hid hm
  clear hm
  obtain ⟨m1, m2, m3, m4, m5, m6, m7, m8, m9, m10, m11⟩ := Mk.ok_true HM.out
  rcases hq : inB n 0 300 with _ | _
  · obtain ⟨e1, e2⟩ := fk_no HM.out hq
    rw [e1, e2]; clear e1 e2
    go_enter Try.func32, Try.ntmps32
    go_wp2_with fail
    refine (isMaker_any m _).mono ?_
    rw [HM.out]
    rintro e w1 ⟨rfl, b1⟩
    have c1 := below_trans' b0 b1
    go_wp2_with fail
    refine (isWithin_at _ _ _ _ _ hq).mono ?_
    rintro e w' ⟨rfl, rfl⟩
    go_wp2
    go_ret2
    exact ⟨none, 0, 0, [], rfl, Pile.none_ ⟨rfl, .inl ⟨rfl, rfl⟩⟩, by omega, c1⟩
  obtain ⟨n0, n1⟩ := inB_true.1 hq
  have HQ := Lib.hid hq
  clear hq
  have hp : 0 < m.C.toNat := by omega
  obtain ⟨i0, hi, hz0, hz1, hz2⟩ := info_parts Try.info29'
  have HI := Lib.hid (And.intro hi (And.intro hz0 (And.intro hz1 hz2)))
  clear hi hz0 hz1 hz2
  go_enter Try.func32, Try.ntmps32
  go_wp2_with fail
  refine (isMaker_any m _).mono ?_
  rw [HM.out]
  rintro e w1 ⟨rfl, b1⟩
  have x1 := hx.on b1
  have c1 := below_trans' b0 b1
  have s1 := c1.size
  clear b0 b1 hx
  go_wp2_with fail
  refine (isWithin_at _ _ _ _ _ HQ.out).mono ?_
  rintro e w' ⟨rfl, rfl⟩
  have R1 := Lib.hid (Pile.none_ (p := m.C.toNat) (rowNil (w := w1) (t := 29) (s := 1) (base := w.heap.size + 1) x1.lt))
  have X1 := x1.alloc (.cells #[] 29)
  have C1 := c1.alloc s1 (.cells #[] 29)
  clear x1 c1
  obtain ⟨q0, q1, q2, q3, q4⟩ := X1.cells
  go_wp2_with fail
  clear q0 q1 q2 q3 q4
  refine (firstKey_any m _).mono ?_
  rintro e w2 ⟨A2, q2', c2', rfl, o2, hq2, hc2, hm2, b2⟩
  obtain ⟨y, R, hall⟩ : ∃ y R, allKeys m = y :: R := by
    rcases he : allKeys m with _ | ⟨y, R⟩
    · exact absurd he (all_some HM.out)
    · exact ⟨y, R, rfl⟩
  obtain ⟨f1, f2⟩ := first_yes HM.out (show (allKeys m).head? = some y by rw [hall]; rfl)
  have hyl : y.length = m.C.toNat := by
    have := key_len (m := m) (x := y) (by rw [hall]; simp) HM.out
    omega
  rw [f1] at o2
  rw [f2]
  have P2 := Lib.hid (R1.out.on b2)
  have X2 := Lib.hid (X1.on b2)
  have C2 := Lib.hid (below_trans' C1 b2)
  have H2 : Hid (AtHand w2 (w.heap.size + 1) m.C.toNat (.slice (some ⟨w1.heap.size, 0, none⟩) 0 0) [] (.slice A2 q2' c2') true (allKeys m)) := Lib.hid (by
    rw [hall]
    exact AtHand.next hp R1.out X1.lt o2 hyl hc2 hm2)
  clear f1 f2 hall hyl o2 b2 R1 X1 C1
  go_wp2
  go_loopw [6, 7, 8] (fun v kv cv wr => ∃ (i : Nat) (V : Option Addr) (c : Nat) (gs : List (Addr × Nat)) (yss R : List (List Int)) (more : Bool) (cd : Int), (i : Int) ≤ n ∧ v = .slice V i c ∧ cv = .int .i64 cd ∧ Hid (cd = codeI more) ∧ Hid (allKeys m = yss ++ R) ∧
      Hid (Pile wr (w.heap.size + 1) (.slice V i c) i m.C.toNat gs yss) ∧ Hid (AtHand wr (w.heap.size + 1) m.C.toNat (.slice V i c) gs kv more R) ∧ Boxed wr w.heap.size 25 m ∧ Below w.heap.size w wr) (fun v _ _ _ => 301 - lenOf v)
  case atStart => exact ⟨0, _, _, [], [], allKeys m, true, 0, by omega, rfl, rfl, Lib.hid rfl, Lib.hid rfl, P2, H2, X2.out, C2.out⟩
  case round =>
    obtain ⟨i, V, c, gs, yss, R, more, cd, hin, rfl, rfl, hcd, hall, hpile, hhand, hbox, hb⟩ := hrel
    have hsz := hb.size
    rcases hhand.out with ⟨rfl, rfl⟩ | ⟨a, ck, y, R', rfl, rfl, rfl, hself, hlo, hck, hckm, hva, hda⟩
    · obtain rfl : cd = 4 := hcd.out
      obtain ⟨e1, e2⟩ := fk_yes HM.out HQ.out
      have E := Lib.hid (And.intro e1 e2)
      have HE : Hid ((allKeys m).take n.toNat = yss) := Lib.hid (by
        rw [hall.out, List.append_nil]
        exact List.take_of_length_le (by rw [hpile.out.len]; omega))
      clear e1 e2 P2 X2 C2 H2
      go_wp2
      go_ret2
      refine ⟨V, i, c, gs, ret_si E.out.2.symm, ?_, by omega, hb⟩
      rw [E.out.1, HE.out]
      exact hpile.out.more (by omega)
    · obtain rfl : cd = 0 := hcd.out
      by_cases hlt : (i : Int) < n
      · have hi300 : i < 300 := by omega
        have HS := Lib.hid hself
        have HVA := Lib.hid hva
        have HDA := Lib.hid hda
        have HX := Lib.hid hbox
        have HB := Lib.hid hb
        have HN := Lib.hid (next_of HM.out hall.out)
        have HKY : Hid (cutsB m y = true) := Lib.hid (by
          obtain ⟨_, f2, f3, _⟩ := key_facts (all_are_keys HM.out (show y ∈ allKeys m by rw [hall.out]; simp))
          exact cuts_yes f2 f3)
        clear hself hva hda hbox hb hcd hhand P2 X2 C2 H2
        go_wp2_with (at_builtin; refine wpList_append_lies _ rfl _ _ 41 rfl (w.heap.size + 1) 29 i0 _ 1 24 Try.underlying41 HI.out.1 HI.out.2.1 HI.out.2.2.1 HI.out.2.2.2 rfl (by omega) _ i _ rfl (hpile.out.row.alloc _) ⟨wr.heap.size, 0, none⟩ 1 1 [.slice (some a) m.C.toNat ck] rfl rfl (World.news_of_block (cs := #[.slice (some a) m.C.toNat ck]) (t := 29) (fr := (0, 0)) (heap_alloc_new wr _)) (slice_one a _ ck) (by omega) (by unfold maxLen; omega) (by omega) (by simp; omega) (wr.heap.size + 1) (by simp) ?_; intro gg cap w5 hown1 hgrow hat hlt3; have X5 := (HX.out.alloc (.cells #[.slice (some a) m.C.toNat ck] 29)).grown hgrow (by intro e; have := rowBase hpile.out.row _ e.symm; omega); obtain ⟨q0, q1, q2, q3, q4⟩ := X5.cells)
        have P5 := Lib.hid (hpile.out.push HS.out (by omega) HVA.out hck hckm HDA.out hown1 hgrow hat)
        have S5 := (HS.out.on ((Below.refl wr.heap.size wr).alloc (Nat.le_refl _) (.cells #[.slice (some a) m.C.toNat ck] 29))).apart hgrow HVA.out
        have B5 := Lib.hid ((HB.out.alloc hsz (.cells #[.slice (some a) m.C.toNat ck] 29)).grown hgrow (by simp; omega) (fun q e => by have := rowBase hpile.out.row q e; omega))
        have l5 := X5.lt
        clear q0 q1 q2 q3 q4 hown1 hgrow hat
        refine (nextKey_any m _ _ _ y _ (Own.ints S5) (by omega)).mono ?_
        rintro e w6 ⟨A6, q6, c6, rfl, o6, hq6, hc6, hm6, b6⟩
        have P6 := Lib.hid (P5.out.on b6)
        have X6 := Lib.hid (X5.on b6)
        have B6 := Lib.hid (B5.out.trans (b6.mono B5.out.size))
        rcases R' with _ | ⟨y', R''⟩
        · obtain ⟨e1, e2⟩ := next_none HM.out HKY.out HN.out
          rw [e2]
          clear e1 e2 o6 b6 S5 X5
          go_wp2
          go_roundw
          case rel => exact ⟨i + 1, _, _, _, yss ++ [y], [], false, 4, by omega, rfl, rfl, Lib.hid rfl, Lib.hid (by rw [hall.out]; simp), P6, Lib.hid (.inl ⟨rfl, rfl⟩), X6.out, B6.out⟩
          case measure => simp [lenOf]; omega
        · obtain ⟨e1, e2⟩ := next_yes (ys := y') HM.out HKY.out (by rw [HN.out]; rfl)
          rw [e2]
          rw [e1] at o6
          have hyl : y'.length = m.C.toNat := by
            have := key_len (m := m) (x := y') (by rw [hall.out]; simp) HM.out
            omega
          have H6 := Lib.hid (AtHand.next (R := R'') hp P5.out l5 o6 hyl hc6 hm6)
          clear e1 e2 o6 b6 S5 X5 hyl
          go_wp2
          go_roundw
          case rel => exact ⟨i + 1, _, _, _, yss ++ [y], y' :: R'', true, 0, by omega, rfl, rfl, Lib.hid rfl, Lib.hid (by rw [hall.out]; simp), P6, H6, X6.out, B6.out⟩
          case measure => simp [lenOf]; omega
      · obtain ⟨e1, e2⟩ := fk_yes HM.out HQ.out
        have E := Lib.hid (And.intro e1 e2)
        have HE : Hid ((allKeys m).take n.toNat = yss) := Lib.hid (by
          have e : n.toNat = yss.length := by rw [hpile.out.len]; omega
          rw [hall.out, e]
          exact List.take_left' rfl)
        clear e1 e2 P2 X2 C2 H2
        go_wp2
        go_ret2
        refine ⟨V, i, c, gs, ret_si E.out.2.symm, ?_, by omega, hb⟩
        rw [E.out.1, HE.out]
        exact hpile.out.more (by omega)

end Go.Proofs.Ytnblifpogbhjgaa
