/- Thickened sets: words; the code of a lock and a least number; thickSet of the program. -/
import Derived.Test.YtjoknbknhfnggaaHull
namespace Go.Proofs.Ytjoknbknhfnggaa
open Go Go.RowKit

/-- what stays of the depths behind one that stays -/
def thkF (least last : Int) : List Int → List Int
  | [] => []
  | y :: r => if least ≤ y - last then y :: thkF least y r else thkF least last r
def thk (least : Int) : List Int → List Int
  | [] => []
  | y :: r => y :: thkF least y r
def cfE (m : Mk) (yss : List (List Int)) (least : Int) : Int := if lockB m yss then (if inB least 1 m.D then 0 else 2) else 1
def tkL (m : Mk) (yss : List (List Int)) (least : Int) : List (List Int) := if cfE m yss least = 0 then yss.map (thk least) else []
theorem cf_no {m : Mk} {yss : List (List Int)} {least : Int} (h : lockB m yss = false) : cfE m yss least = 1 := by simp [cfE, h]
theorem cf_out {m : Mk} {yss : List (List Int)} {least : Int} (h : lockB m yss = true) (h2 : inB least 1 m.D = false) : cfE m yss least = 2 := by simp [cfE, h, h2]
theorem cf_yes {m : Mk} {yss : List (List Int)} {least : Int} (h : lockB m yss = true) (h2 : inB least 1 m.D = true) : cfE m yss least = 0 := by simp [cfE, h, h2]
theorem cf_zero {m : Mk} {yss : List (List Int)} {least : Int} (h : cfE m yss least = 0) : lockB m yss = true ∧ inB least 1 m.D = true := by
  unfold cfE at h
  rcases h1 : lockB m yss with _ | _
  · rw [h1] at h; simp at h
  · rcases h2 : inB least 1 m.D with _ | _
    · rw [h1, h2] at h; simp at h
    · exact ⟨rfl, rfl⟩
theorem thkF_len (least : Int) : ∀ (last : Int) (ys : List Int), (thkF least last ys).length ≤ ys.length
  | _, [] => Nat.le_refl _
  | last, y :: r => by
    unfold thkF
    split
    · have := thkF_len least y r
      simp; omega
    · have := thkF_len least last r
      simp; omega
theorem thk_len (least : Int) (ys : List Int) : (thk least ys).length ≤ ys.length := by
  cases ys with
  | nil => exact Nat.le_refl _
  | cons y r => have := thkF_len least y r; unfold thk; simp; omega
theorem thkF_in (least : Int) : ∀ (last : Int) (ys : List Int), ∀ v ∈ thkF least last ys, v ∈ ys
  | _, [], v, h => by cases h
  | last, y :: r, v, h => by
    unfold thkF at h
    split at h
    · rcases List.mem_cons.1 h with h | h
      · rw [h]; simp
      · exact List.mem_cons_of_mem _ (thkF_in least y r v h)
    · exact List.mem_cons_of_mem _ (thkF_in least last r v h)
theorem drop_cons {ys : List Int} {k : Nat} {v : Int} (h : ys[k]? = some v) : ys.drop k = v :: ys.drop (k + 1) := by
  obtain ⟨hl, e⟩ := List.getElem?_eq_some_iff.1 h
  rw [List.drop_eq_getElem_cons hl, e]

set_option maxHeartbeats 1000000 in
theorem codeForLeast_any (m : Mk) (V : Option Addr) (n c : Nat) (yss : List (List Int)) (least : Int) (w : World) (h : Sets w w.heap.size V n yss) (hn : n + sizeL yss ≤ 1048576) :
    Calls Try.prog 96 #[.agg #[.int .i64 m.C, .int .i64 m.D, .int .i64 m.S, .int .i64 m.M, .int .i64 m.L], .agg #[.slice V n c], .int .i64 least] w fun e w' => e = .returned (.int .i64 (cfE m yss least)) ∧ Below w.heap.size w w' := by
  have c0 := ((Below.refl w.heap.size w).alloc (Nat.le_refl _) (.cells #[.int .i64 m.C, .int .i64 m.D, .int .i64 m.S, .int .i64 m.M, .int .i64 m.L] 25)).alloc (by simp) (.cells #[.slice V n c] 30)
  have hx := (Boxed.new w 25 m).alloc (.cells #[.slice V n c] 30)
  have k0 := Cell1.new (w.alloc (.cells #[.int .i64 m.C, .int .i64 m.D, .int .i64 m.S, .int .i64 m.M, .int .i64 m.L] 25)) 30 (.slice V n c)
  rw [World.size_alloc] at k0
  have hs := h.on c0
  have HN := Lib.hid hn
  clear h hn
  obtain ⟨q0, q1, q2, q3, q4⟩ := hx.cells
  have ck := k0.cell
  rcases hL : lockB m yss with _ | _
  · rw [cf_no hL]
    go_enter Try.func96, Try.ntmps96
    go_wp2_with fail
    refine (isLock_any m _ _ _ yss _ hs HN.out).mono ?_
    rw [hL]
    rintro e w1 ⟨rfl, b1⟩
    have c1 := below_trans' c0 b1
    go_wp2
    go_ret
    exact ⟨rfl, c1⟩
  rcases hq : inB least 1 m.D with _ | _
  · rw [cf_out hL hq]
    go_enter Try.func96, Try.ntmps96
    go_wp2_with fail
    refine (isLock_any m _ _ _ yss _ hs HN.out).mono ?_
    rw [hL]
    rintro e w1 ⟨rfl, b1⟩
    have c1 := below_trans' c0 b1
    have x1 := hx.on b1
    clear q0 q1 q2 q3 q4 ck
    obtain ⟨q0, q1, q2, q3, q4⟩ := x1.cells
    go_wp2_with fail
    refine (isWithin_at _ _ _ _ false hq).mono ?_
    rintro e w' ⟨rfl, rfl⟩
    go_wp2
    go_ret
    exact ⟨rfl, c1⟩
  · rw [cf_yes hL hq]
    go_enter Try.func96, Try.ntmps96
    go_wp2_with fail
    refine (isLock_any m _ _ _ yss _ hs HN.out).mono ?_
    rw [hL]
    rintro e w1 ⟨rfl, b1⟩
    have c1 := below_trans' c0 b1
    have x1 := hx.on b1
    clear q0 q1 q2 q3 q4 ck
    obtain ⟨q0, q1, q2, q3, q4⟩ := x1.cells
    go_wp2_with fail
    refine (isWithin_at _ _ _ _ true hq).mono ?_
    rintro e w' ⟨rfl, rfl⟩
    go_wp2
    go_ret
    exact ⟨rfl, c1⟩

set_option maxHeartbeats 1000000 in
theorem l05Code_any (m : Mk) (V : Option Addr) (n c : Nat) (yss : List (List Int)) (least : Int) (w : World) (h : Sets w w.heap.size V n yss) (hn : n + sizeL yss ≤ 1048576) :
    Calls Try.prog 98 #[.agg #[.int .i64 m.C, .int .i64 m.D, .int .i64 m.S, .int .i64 m.M, .int .i64 m.L], .agg #[.slice V n c], .int .i64 least] w fun e w' => e = .returned (.int .i64 (cfE m yss least)) ∧ Below w.heap.size w w' := by
  have c0 := ((Below.refl w.heap.size w).alloc (Nat.le_refl _) (.cells #[.int .i64 m.C, .int .i64 m.D, .int .i64 m.S, .int .i64 m.M, .int .i64 m.L] 25)).alloc (by simp) (.cells #[.slice V n c] 30)
  have hx := (Boxed.new w 25 m).alloc (.cells #[.slice V n c] 30)
  have k0 := Cell1.new (w.alloc (.cells #[.int .i64 m.C, .int .i64 m.D, .int .i64 m.S, .int .i64 m.M, .int .i64 m.L] 25)) 30 (.slice V n c)
  rw [World.size_alloc] at k0
  have hs := h.on c0
  have HN := Lib.hid hn
  clear h hn
  obtain ⟨q0, q1, q2, q3, q4⟩ := hx.cells
  have ck := k0.cell
  rcases hL : lockB m yss with _ | _
  · rw [cf_no hL]
    go_enter Try.func98, Try.ntmps98
    go_wp2_with fail
    refine (specIsLock_any m _ _ _ yss _ hs HN.out).mono ?_
    rw [hL]
    rintro e w1 ⟨rfl, b1⟩
    have c1 := below_trans' c0 b1
    go_wp2
    go_ret
    exact ⟨rfl, c1⟩
  rcases hq : inB least 1 m.D with _ | _
  · rw [cf_out hL hq]
    go_enter Try.func98, Try.ntmps98
    go_wp2_with fail
    refine (specIsLock_any m _ _ _ yss _ hs HN.out).mono ?_
    rw [hL]
    rintro e w1 ⟨rfl, b1⟩
    have c1 := below_trans' c0 b1
    have x1 := hx.on b1
    clear q0 q1 q2 q3 q4 ck
    obtain ⟨q0, q1, q2, q3, q4⟩ := x1.cells
    go_wp2_with fail
    refine (l01In_at _ _ _ _ false hq).mono ?_
    rintro e w' ⟨rfl, rfl⟩
    go_wp2
    go_ret
    exact ⟨rfl, c1⟩
  · rw [cf_yes hL hq]
    go_enter Try.func98, Try.ntmps98
    go_wp2_with fail
    refine (specIsLock_any m _ _ _ yss _ hs HN.out).mono ?_
    rw [hL]
    rintro e w1 ⟨rfl, b1⟩
    have c1 := below_trans' c0 b1
    have x1 := hx.on b1
    clear q0 q1 q2 q3 q4 ck
    obtain ⟨q0, q1, q2, q3, q4⟩ := x1.cells
    go_wp2_with fail
    refine (l01In_at _ _ _ _ true hq).mono ?_
    rintro e w' ⟨rfl, rfl⟩
    go_wp2
    go_ret
    exact ⟨rfl, c1⟩

/-- what thickSet answers: a list of its own -/
def GivesRow (w : World) (xs : List Int) (e : Ending) (w' : World) : Prop := ∃ A n c, e = .returned (.slice A n c) ∧ Own w' w.heap.size w'.heap.size A n xs ∧ n ≤ c ∧ c ≤ 9223372036854775807 ∧ Below w.heap.size w w'

set_option maxRecDepth 100000 in
set_option maxHeartbeats 4000000 in
theorem thickSet_any (A : Option Addr) (n c : Nat) (xs : List Int) (least : Int) (w : World) (h : Ints w w.heap.size A n xs) (hc : n ≤ c) (hn : n ≤ 1048576) (hp : 0 < n) (hx : allIn 0 7 xs = true) :
    Calls Try.prog 97 #[.slice A n c, .int .i64 least] w (GivesRow w (thk least xs)) := by
  obtain ⟨ii, hi0, hz0, hz1, hz2⟩ := info_parts Try.info2'
  have HF := Lib.hid (And.intro hi0 (And.intro hz0 (And.intro hz1 hz2)))
  clear hi0 hz0 hz1 hz2
  have HL := Lib.hid h.len
  have HI := Lib.hid h
  have HX := Lib.hid hx
  obtain ⟨ad, y, rfl, hab, hy, hcy⟩ := h.at_ hp
  obtain ⟨y0, y7⟩ := allIn_at hx hy
  have HY := Lib.hid hy
  clear h hx hy
  have s1 : (1 : Int) ≤ (n : Int) := by omega
  have s2 : (n : Int) ≤ (c : Int) := by omega
  have R0 : Hid ((w.alloc (.cells #[.int .i64 y] 2)).ownsRow w.heap.size 2 1 (.slice (some ⟨w.heap.size, 0, none⟩) 1 1) [y].length (intsV [y])) := Lib.hid ⟨by simp [intsV], .inr ⟨w.heap.size, 1, _, rfl, Nat.le_refl _, heap_alloc_new w _, Nat.le_refl _, by unfold maxLen; omega, by simp, by simp [intsV]⟩⟩
  have B0 := Lib.hid ((Below.refl w.heap.size w).alloc (Nat.le_refl _) (.cells #[.int .i64 y] 2))
  rw [Addr.add_zero'] at hcy
  have I1 : Hid (Ints w w.heap.size (some (ad.add 1)) (n - 1) (xs.drop 1)) := Lib.hid ⟨by rw [List.length_drop, HL.out], fun _ => ⟨ad.add 1, rfl, by rw [block_of_add]; exact hab, fun j v hv => by
    rw [List.getElem?_drop] at hv
    obtain ⟨ad', e, _, hc'⟩ := HI.out.2 hp
    injection e with e
    subst e
    rw [Addr.add_add]
    exact hc' _ v hv⟩⟩
  have HT : Hid (thk least xs = [y] ++ thkF least y (xs.drop 1)) := Lib.hid (by
    have h0 : xs = y :: xs.drop 1 := by
      have := drop_cons HY.out
      simpa using this
    rw [h0]; rfl)
  have k1 : ((n : Int) - 1) = ((n - 1 : Nat) : Int) := by omega
  by_cases hc1 : c = 1
  · have hn1 : n = 1 := by omega
    have I2 : Hid (Ints w w.heap.size (some ad) (n - 1) (xs.drop 1)) := Lib.hid ⟨by rw [List.length_drop, HL.out], fun h => absurd h (by omega)⟩
    clear I1
    have I1 := I2
    clear I2
    go_enter Try.func97, Try.ntmps97
    go_wp2
    go_loopw [5, 6, 17] (fun l v x wr => ∃ (k : Nat) (last : Int) (done : List Int) (u : Value), l = .int .i64 last ∧ u = v ∧ x = .int .i64 k ∧ k ≤ n - 1 ∧ 0 ≤ last ∧ last ≤ 7 ∧ done.length ≤ k + 1 ∧ Hid (thk least xs = done ++ thkF least last ((xs.drop 1).drop k)) ∧ Hid (wr.ownsRow w.heap.size 2 1 u done.length (intsV done)) ∧ Hid (Below w.heap.size w wr)) (fun _ _ x _ => n - (intOf x).toNat)
    case atStart => exact ⟨0, y, [y], _, rfl, rfl, rfl, by omega, y0, y7, by simp, HT, R0, B0⟩
    case round =>
      obtain ⟨k, last, done, u, rfl, rfl, rfl, hk, l0, l7, hdl, hall, hrow, hbel⟩ := hrel
      clear R0 B0
      by_cases hlt : k < n - 1
      · omega
      · have HE : Hid (thk least xs = done) := Lib.hid (by
          rw [hall.out, List.drop_eq_nil_of_le (by rw [List.length_drop, HL.out]; omega)]
          simp [thkF])
        obtain ⟨A, cc, rfl, ho, h1, h2⟩ := rowInts hrow.out rfl
        have HO := Lib.hid ho
        clear hrow ho
        go_wp2
        go_ret
        exact ⟨A, _, cc, rfl, by rw [HE.out]; exact HO.out, h1, h2, hbel.out⟩
  · go_enter Try.func97, Try.ntmps97
    go_wp2
    go_loopw [5, 6, 17] (fun l v x wr => ∃ (k : Nat) (last : Int) (done : List Int) (u : Value), l = .int .i64 last ∧ u = v ∧ x = .int .i64 k ∧ k ≤ n - 1 ∧ 0 ≤ last ∧ last ≤ 7 ∧ done.length ≤ k + 1 ∧ Hid (thk least xs = done ++ thkF least last ((xs.drop 1).drop k)) ∧ Hid (wr.ownsRow w.heap.size 2 1 u done.length (intsV done)) ∧ Hid (Below w.heap.size w wr)) (fun _ _ x _ => n - (intOf x).toNat)
    case atStart => exact ⟨0, y, [y], _, rfl, rfl, rfl, by omega, y0, y7, by simp, HT, R0, B0⟩
    case round =>
      obtain ⟨k, last, done, u, rfl, rfl, rfl, hk, l0, l7, hdl, hall, hrow, hbel⟩ := hrel
      clear R0 B0
      by_cases hlt : k < n - 1
      · obtain ⟨ad1, v, e1, hab1, hv, hc1v⟩ := (I1.out.below hbel.out).at_ hlt
        injection e1 with e1
        subst e1
        have hvx : v ∈ xs := List.mem_of_mem_drop (List.mem_of_getElem? hv)
        obtain ⟨v0, v7⟩ : 0 ≤ v ∧ v ≤ 7 := by
          obtain ⟨j, hj⟩ := List.getElem?_of_mem hvx
          exact allIn_at HX.out hj
        have HD := Lib.hid (drop_cons hv)
        have sw : IntKind.i64.wrap (v - last) = v - last := IntWalk.i64_in _ (by omega)
        have hcc : wr.cell? ⟨ad.block, ad.off + 1 + k, none⟩ = some (.int .i64 v) := by
          have h0 := hc1v
          rw [show ad.add 1 = ⟨ad.block, ad.off + 1, none⟩ by simp [Addr.add], Addr.add_lit] at h0
          exact h0
        clear hv hvx
        by_cases hge : least ≤ v - last
        · have HA : Hid (thk least xs = (done ++ [v]) ++ thkF least v ((xs.drop 1).drop (k + 1))) := Lib.hid (by
            rw [hall.out, HD.out]
            show done ++ (if least ≤ v - last then _ else _) = _
            rw [if_pos hge]; simp)
          obtain ⟨q, hq⟩ : ∃ q, done.length = q := ⟨_, rfl⟩
          have HR := Lib.hid (show wr.ownsRow w.heap.size 2 1 u q (intsV done) by rw [← hq]; exact hrow.out)
          have HQ := Lib.hid hq
          rw [hq] at hdl
          have hsz := hbel.out.size
          have hbase : ∀ k, u.ownBlock = some k → w.heap.size ≤ k := rowBase HR.out
          clear hq hrow
          go_wp2_with (at_builtin; refine wpList_append_lies _ rfl _ _ 39 rfl w.heap.size 2 ii _ 1 8 Try.underlying39 HF.out.1 HF.out.2.1 HF.out.2.2.1 HF.out.2.2.2 rfl (by omega) _ q _ rfl (HR.out.alloc _) ⟨wr.heap.size, 0, none⟩ 1 1 [.int .i64 v] rfl rfl (World.news_of_block (cs := #[.int .i64 v]) (t := 2) (fr := (0, 0)) (heap_alloc_new wr _)) (by simp [Value.oneCell']) (by omega) (by unfold maxLen; omega) (by omega) (by simp; omega) (wr.heap.size + 1) (by simp) ?_; intro gg cap w5 hown1 hgrow hat hlt3)
          have R5 : Hid (w5.ownsRow w.heap.size 2 1 (.slice (some ⟨gg, 0, none⟩) (q + 1) cap) (done ++ [v]).length (intsV (done ++ [v]))) := Lib.hid (by
            rw [List.length_append, HQ.out, ← intsV_snoc]
            exact hown1)
          have B5 := Lib.hid ((hbel.out.alloc hsz (.cells #[.int .i64 v] 2)).grown hgrow (by simp; omega) (fun q e => hbase q e))
          have L5 : (done ++ [v]).length ≤ k + 1 + 1 := by rw [List.length_append, HQ.out]; simp; omega
          clear hown1 hgrow hat hlt3 hbase sw hc1v hcc
          go_wp2
          go_roundw
          case rel => exact ⟨k + 1, v, done ++ [v], _, rfl, rfl, by go_num, by omega, v0, v7, L5, HA, R5, B5⟩
          case measure => simp [intOf]; omega
        · have HA : Hid (thk least xs = done ++ thkF least last ((xs.drop 1).drop (k + 1))) := Lib.hid (by
            rw [hall.out, HD.out]
            show done ++ (if least ≤ v - last then _ else _) = _
            rw [if_neg hge])
          go_wp2
          go_roundw
          case rel => exact ⟨k + 1, last, done, _, rfl, rfl, by go_num, by omega, l0, l7, by omega, HA, hrow, hbel⟩
          case measure => simp [intOf]; omega
      · have HE : Hid (thk least xs = done) := Lib.hid (by
          rw [hall.out, List.drop_eq_nil_of_le (by rw [List.length_drop, HL.out]; omega)]
          simp [thkF])
        obtain ⟨A, cc, rfl, ho, h1, h2⟩ := rowInts hrow.out rfl
        have HO := Lib.hid ho
        clear hrow ho
        go_wp2
        go_ret
        exact ⟨A, _, cc, rfl, by rw [HE.out]; exact HO.out, h1, h2, hbel.out⟩

theorem below_alloc2 (W : World) (o : Obj) : Below W.heap.size W (W.alloc o) := (Below.refl _ _).alloc (Nat.le_refl _) o

end Go.Proofs.Ytjoknbknhfnggaa
