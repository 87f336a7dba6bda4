/- FirstKeys of the model. -/
import Derived.Test.YtnblifpogbhjgaaKeys
import Derived.Test.YtnblifpogbhjgaaLNext
namespace Go.Proofs.Ytnblifpogbhjgaa
open Go.RowKit

/-- what a call answers that gives a list of lists -/
def GivesPile (w : World) (p : Nat) (yss : List (List Int)) (e : Ending) (w' : World) : Prop :=
  ∃ V n c gs, e = .returned (.slice V n c) ∧ Pile w' w.heap.size (.slice V n c) n p gs yss ∧ n ≤ 300 ∧ Below w.heap.size w w'

set_option maxRecDepth 100000 in
set_option maxHeartbeats 4000000 in
theorem l02Keys_any (m : Mk) (hm : m.ok = true) (n : Int) (n0 : 0 ≤ n) (n1 : n ≤ 300) (w : World) :
    Calls Try.prog 72 #[.agg #[.int .i64 m.C, .int .i64 m.D, .int .i64 m.S, .int .i64 m.M, .int .i64 m.L], .int .i64 n] w
      (GivesPile w m.C.toNat ((allKeys m).take n.toNat)) := by
  have b0 := (Below.refl w.heap.size w).alloc (Nat.le_refl _) (.cells #[.int .i64 m.C, .int .i64 m.D, .int .i64 m.S, .int .i64 m.M, .int .i64 m.L] 25)
  have hx := Boxed.new w 25 m
  have HM := Lib.hid hm
  clear hm
  obtain ⟨m1, m2, m3, m4, m5, m6, m7, m8, m9, m10, m11⟩ := Mk.ok_true HM.out
  have hp : 0 < m.C.toNat := by omega
  obtain ⟨i0, hi, hz0, hz1, hz2⟩ := info_parts Try.info29'
  have HI := Lib.hid (And.intro hi (And.intro hz0 (And.intro hz1 hz2)))
  clear hi hz0 hz1 hz2
  have HF := Lib.hid (l02First_any m HM.out m.C.toNat)
  have R1 := Lib.hid (Pile.none_ (p := m.C.toNat) (rowNil (w := w.alloc (.cells #[.int .i64 m.C, .int .i64 m.D, .int .i64 m.S, .int .i64 m.M, .int .i64 m.L] 25)) (t := 29) (s := 1) (base := w.heap.size + 1) (by simp)))
  have X1 := Lib.hid (hx.alloc (.cells #[] 29))
  have C1 := Lib.hid (b0.alloc (by simp) (.cells #[] 29))
  clear b0 hx
  generalize hT : (allKeys m).take n.toNat = T
  have HT := Lib.hid hT
  clear hT
  go_enter Try.func72, Try.ntmps72
  go_wp2_with fail
  refine (HF.out none 0 0 [] _ _ (by omega) (Own.nil _ (Nat.le_refl _)) (Nat.le_refl _) (by omega) (by omega) (fun _ => ⟨rfl, rfl⟩) rfl).mono ?_
  rintro e w2 ⟨A2, q2', c2', ok, y, rfl, o2, hq2, hc2, hm2, b2, t2⟩
  rcases t2 with ⟨rfl, t2⟩ | ⟨rfl, t2⟩
  rotate_left
  · exact absurd t2 (all_some HM.out)
  obtain ⟨R, hall⟩ : ∃ R, allKeys m = y :: R := by
    have t2' : (allKeys m).head? = some y := t2
    rcases he : allKeys m with _ | ⟨y', R⟩
    · rw [he] at t2'; cases t2'
    · rw [he] at t2'
      injection t2' with t2'
      exact ⟨R, by rw [t2']⟩
  have hyl : y.length = m.C.toNat := by
    have := key_len (m := m) (x := y) (by rw [hall]; simp) HM.out
    omega
  have P2 := Lib.hid (R1.out.on b2)
  have X2 := Lib.hid (X1.out.on b2)
  have C2 := Lib.hid (below_trans' C1.out b2)
  have H2 : Hid (AtHand w2 (w.heap.size + 1) m.C.toNat (.slice (some ⟨(w.alloc (.cells #[.int .i64 m.C, .int .i64 m.D, .int .i64 m.S, .int .i64 m.M, .int .i64 m.L] 25)).heap.size, 0, none⟩) 0 0) [] (.slice A2 q2' c2') true (allKeys m)) := Lib.hid (by
    rw [hall]
    exact AtHand.next hp R1.out (by simp) o2 hyl hc2 hm2)
  have HP0 : Hid ((w.alloc (.cells #[.int .i64 m.C, .int .i64 m.D, .int .i64 m.S, .int .i64 m.M, .int .i64 m.L] 25)).heap.size = w.heap.size + 1) := Lib.hid (by simp)
  rw [HP0.out] at P2 H2
  clear hall hyl o2 b2 R1 X1 C1 t2 HF
  go_wp2
  go_loopw [5, 6, 7] (fun v kv cv wr => ∃ (i : Nat) (V : Option Addr) (c : Nat) (gs : List (Addr × Nat)) (yss R : List (List Int)) (more : Bool), (i : Int) ≤ n ∧ v = .slice V i c ∧ cv = .bool more ∧ Hid (allKeys m = yss ++ R) ∧
      Hid (Pile wr (w.heap.size + 1) (.slice V i c) i m.C.toNat gs yss) ∧ Hid (AtHand wr (w.heap.size + 1) m.C.toNat (.slice V i c) gs kv more R) ∧ Boxed wr w.heap.size 25 m ∧ Below w.heap.size w wr) (fun v _ _ _ => 301 - lenOf v)
  case atStart => exact ⟨0, _, _, [], [], allKeys m, true, by omega, rfl, rfl, Lib.hid rfl, P2, H2, X2.out, C2.out⟩
  case round =>
    obtain ⟨i, V, c, gs, yss, R, more, hin, rfl, rfl, hall, hpile, hhand, hbox, hb⟩ := hrel
    have hsz := hb.size
    rcases hhand.out with ⟨rfl, rfl⟩ | ⟨a, ck, y, R', rfl, rfl, rfl, hself, hlo, hck, hckm, hva, hda⟩
    · have HE : Hid (T = yss) := Lib.hid (by
        rw [← HT.out, hall.out, List.append_nil]
        exact List.take_of_length_le (by rw [hpile.out.len]; omega))
      clear P2 X2 C2 H2
      go_wp2
      go_ret
      refine ⟨V, i, c, gs, rfl, ?_, by omega, hb⟩
      rw [HE.out]
      exact hpile.out.more (by omega)
    · by_cases hlt : (i : Int) < n
      · have hi300 : i < 300 := by omega
        have HS := Lib.hid hself
        have HVA := Lib.hid hva
        have HDA := Lib.hid hda
        have HX := Lib.hid hbox
        have HB := Lib.hid hb
        have HN := Lib.hid (next_of HM.out hall.out)
        have HKY := Lib.hid (key_facts (all_are_keys HM.out (show y ∈ allKeys m by rw [hall.out]; simp)))
        clear hself hva hda hbox hb hhand P2 X2 C2 H2
        go_wp2_with (at_builtin; refine wpList_append_lies _ rfl _ _ 41 rfl (w.heap.size + 1) 29 i0 _ 1 24 Try.underlying41 HI.out.1 HI.out.2.1 HI.out.2.2.1 HI.out.2.2.2 rfl (by omega) _ i _ rfl (hpile.out.row.alloc _) ⟨wr.heap.size, 0, none⟩ 1 1 [.slice (some a) m.C.toNat ck] rfl rfl (World.news_of_block (cs := #[.slice (some a) m.C.toNat ck]) (t := 29) (fr := (0, 0)) (heap_alloc_new wr _)) (slice_one a _ ck) (by omega) (by unfold maxLen; omega) (by omega) (by simp; omega) (wr.heap.size + 1) (by simp) ?_; intro gg cap w5 hown1 hgrow hat hlt3; have X5 := (HX.out.alloc (.cells #[.slice (some a) m.C.toNat ck] 29)).grown hgrow (by intro e; have := rowBase hpile.out.row _ e.symm; omega); obtain ⟨q0, q1, q2, q3, q4⟩ := X5.cells)
        have P5 := Lib.hid (hpile.out.push HS.out (by omega) HVA.out hck hckm HDA.out hown1 hgrow hat)
        have S5 := (HS.out.on ((Below.refl wr.heap.size wr).alloc (Nat.le_refl _) (.cells #[.slice (some a) m.C.toNat ck] 29))).apart hgrow HVA.out
        have B5 := Lib.hid ((HB.out.alloc hsz (.cells #[.slice (some a) m.C.toNat ck] 29)).grown hgrow (by simp; omega) (fun q e => by have := rowBase hpile.out.row q e; omega))
        have l5 := X5.lt
        clear q0 q1 q2 q3 q4 hown1 hgrow hat
        refine (l02Next_any m HM.out _ _ _ y _ (Own.ints S5) (by omega) hck HKY.out.2.2.1).mono ?_
        rintro e w6 ⟨A6, q6, c6, ok, y', rfl, o6, hq6, hc6, hm6, b6, t6⟩
        have P6 := Lib.hid (P5.out.on b6)
        have X6 := Lib.hid (X5.on b6)
        have B6 := Lib.hid (B5.out.trans (b6.mono B5.out.size))
        rcases t6 with ⟨rfl, t6⟩ | ⟨rfl, t6⟩
        · rw [HN.out] at t6
          rcases R' with _ | ⟨y2, R''⟩
          · cases t6
          · obtain rfl : y2 = y' := by injection t6
            have hyl : y2.length = m.C.toNat := by
              have := key_len (m := m) (x := y2) (by rw [hall.out]; simp) HM.out
              omega
            have H6 := Lib.hid (AtHand.next (R := R'') hp P5.out l5 o6 hyl hc6 hm6)
            clear t6 o6 b6 S5 X5 hyl
            go_wp2
            go_roundw
            case rel => exact ⟨i + 1, _, _, _, yss ++ [y], y2 :: R'', true, by omega, rfl, rfl, Lib.hid (by rw [hall.out]; simp), P6, H6, X6.out, B6.out⟩
            case measure => simp [lenOf]; omega
        · rw [HN.out] at t6
          subst t6
          clear o6 b6 S5 X5
          go_wp2
          go_roundw
          case rel => exact ⟨i + 1, _, _, _, yss ++ [y], [], false, by omega, rfl, rfl, Lib.hid (by rw [hall.out]; simp), P6, Lib.hid (.inl ⟨rfl, rfl⟩), X6.out, B6.out⟩
          case measure => simp [lenOf]; omega
      · have HE : Hid (T = yss) := Lib.hid (by
          have e : n.toNat = yss.length := by rw [hpile.out.len]; omega
          rw [← HT.out, hall.out, e]
          exact List.take_left' rfl)
        clear P2 X2 C2 H2
        go_wp2
        go_ret
        refine ⟨V, i, c, gs, rfl, ?_, by omega, hb⟩
        rw [HE.out]
        exact hpile.out.more (by omega)

theorem specFirstKeys_any (m : Mk) (n : Int) (w : World) :
    Calls Try.prog 33 #[.agg #[.int .i64 m.C, .int .i64 m.D, .int .i64 m.S, .int .i64 m.M, .int .i64 m.L], .int .i64 n] w
      (GivesLists w m.C.toNat (fkE m n) (fkL m n)) := by
  have b0 := (Below.refl w.heap.size w).alloc (Nat.le_refl _) (.cells #[.int .i64 m.C, .int .i64 m.D, .int .i64 m.S, .int .i64 m.M, .int .i64 m.L] 25)
  have hx := Boxed.new w 25 m
  rcases hm : m.ok with _ | _
  · obtain ⟨e1, e2⟩ := fk_bad (n := n) hm
    rw [e1, e2]; clear e1 e2
    go_enter Try.func33, Try.ntmps33
    go_wp2_with fail
    refine (specIsMaker_any m _).mono ?_
    rw [hm]
    rintro e w1 ⟨rfl, b1⟩
    have c1 := below_trans' b0 b1
    go_wp2
    go_ret2
    exact ⟨none, 0, 0, [], rfl, Pile.none_ ⟨rfl, .inl ⟨rfl, rfl⟩⟩, by omega, c1⟩
  have HM := Lib.hid hm
  clear hm
  rcases hq : inB n 0 300 with _ | _
  · obtain ⟨e1, e2⟩ := fk_no HM.out hq
    rw [e1, e2]; clear e1 e2
    go_enter Try.func33, Try.ntmps33
    go_wp2_with fail
    refine (specIsMaker_any m _).mono ?_
    rw [HM.out]
    rintro e w1 ⟨rfl, b1⟩
    have c1 := below_trans' b0 b1
    go_wp2_with fail
    refine (l01In_at _ _ _ _ _ hq).mono ?_
    rintro e w' ⟨rfl, rfl⟩
    go_wp2
    go_ret2
    exact ⟨none, 0, 0, [], rfl, Pile.none_ ⟨rfl, .inl ⟨rfl, rfl⟩⟩, by omega, c1⟩
  obtain ⟨e1, e2⟩ := fk_yes HM.out hq
  rw [e1, e2]; clear e1 e2
  obtain ⟨n0, n1⟩ := inB_true.1 hq
  have HQ := Lib.hid hq
  clear hq
  go_enter Try.func33, Try.ntmps33
  go_wp2_with fail
  refine (specIsMaker_any m _).mono ?_
  rw [HM.out]
  rintro e w1 ⟨rfl, b1⟩
  have x1 := hx.on b1
  have c1 := below_trans' b0 b1
  clear b0 b1 hx
  go_wp2_with fail
  refine (l01In_at _ _ _ _ _ HQ.out).mono ?_
  rintro e w' ⟨rfl, rfl⟩
  obtain ⟨q0, q1, q2, q3, q4⟩ := x1.cells
  go_wp2_with fail
  clear q0 q1 q2 q3 q4
  refine (l02Keys_any m HM.out n n0 n1 _).mono ?_
  rintro e w2 ⟨V, i, c, gs, rfl, hpile, hi, b2⟩
  have c2 := below_trans' c1 b2
  have HP := Lib.hid (hpile.more c1.size)
  clear hpile b2 c1 x1
  go_wp2
  go_ret2
  exact ⟨V, i, c, gs, rfl, HP.out, hi, c2⟩

end Go.Proofs.Ytnblifpogbhjgaa
