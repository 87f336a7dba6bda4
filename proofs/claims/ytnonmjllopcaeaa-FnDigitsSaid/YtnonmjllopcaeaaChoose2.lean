/- ChooseOf of the model, and the law's walk. -/
import Derived.Test.YtnonmjllopcaeaaChoose
import Derived.Test.YtnonmjllopcaeaaOwn
import Derived.Deep.AppendLies
import Derived.Deep.RegionHeld3
namespace Go.Proofs.Ytnonmjllopcaeaa
open Go.RowKit

def ints (xs : List Int) : List Value := xs.map (Value.int .i64)
theorem ints_len (xs : List Int) : (ints xs).length = xs.length := by simp [ints]
theorem ints_snoc (xs : List Int) (v : Int) : ints xs ++ [.int .i64 v] = ints (xs ++ [v]) := by simp [ints]
/-- a row of the call's own, its cells -/
theorem own_cell {w : World} {base t n k : Nat} {v : Value} {xs : List Int} {u : Int} (h : w.ownsRow base t 1 v n (ints xs)) (hu : xs[k]? = some u) (hk : k < n) : ∃ g cap, v = .slice (some ⟨g, 0, none⟩) n cap ∧ base ≤ g ∧ g < w.heap.size ∧ w.cell? ((⟨g, 0, none⟩ : Addr).add k) = some (.int .i64 u) := by
  obtain ⟨g, cap, hv, hb, hlt⟩ := h.form (by omega)
  exact ⟨g, cap, hv, hb, hlt, h.cells (g := g) (by rw [hv]; rfl) k _ (by unfold ints; rw [List.getElem?_map, hu]; rfl)⟩
theorem own_new {w : World} {base t : Nat} (u : Int) (hb : base ≤ w.heap.size) : (w.alloc (.cells #[.int .i64 u] t)).ownsRow base t 1 (.slice (some ⟨w.heap.size, 0, none⟩) 1 1) 1 (ints [u]) := by
  refine ⟨rfl, .inr ⟨w.heap.size, 1, #[.int .i64 u], rfl, hb, heap_alloc_new w _, Nat.le_refl _, by unfold maxLen; omega, rfl, rfl⟩⟩

theorem own_base {w : World} {base t n : Nat} {v : Value} {xs : List Value} (h : w.ownsRow base t 1 v n xs) : ∀ k, v.ownBlock = some k → base ≤ k := by
  intro k hk
  rcases h.2 with ⟨rfl, _⟩ | ⟨g, cap, cur, rfl, hb, _⟩
  · cases hk
  · have : g = k := by simpa [Value.ownBlock] using hk
    omega
theorem own_mono {w : World} {base base' t n : Nat} {v : Value} {xs : List Value} (h : w.ownsRow base t 1 v n xs) (hb : base' ≤ base) : w.ownsRow base' t 1 v n xs := by
  refine ⟨h.1, ?_⟩
  rcases h.2 with h0 | ⟨g, cap, cur, e, h1, h2⟩
  · exact .inl h0
  · exact .inr ⟨g, cap, cur, e, by omega, h2⟩
theorem add_zero_ (g k : Nat) : (⟨g, 0, none⟩ : Addr).add k = ⟨g, k, none⟩ := by
  unfold Addr.add
  split
  · next h => subst h; rfl
  · simp
theorem prow_get {a b : Nat} (h : b ≤ a) : ∃ u, (prow a)[b]? = some u ∧ (prow a).getD b 0 = u ∧ 0 ≤ u ∧ u ≤ 1000000000001 := by
  have hl : b < (prow a).length := by rw [prow_len]; omega
  refine ⟨(prow a)[b], List.getElem?_eq_getElem hl, ?_, prow_range a _ (List.getElem_mem hl)⟩
  rw [List.getD_eq_getElem?_getD, List.getElem?_eq_getElem hl]; rfl
theorem prow_next (a : Nat) : (1 :: mids (prow a) a) ++ [1] = prow (a + 1) := rfl
theorem mids_next (a b : Nat) (u v : Int) (hu : (prow a).getD b 0 = u) (hv : (prow a).getD (b + 1) 0 = v) : (1 :: mids (prow a) b) ++ [cut1 (u + v)] = 1 :: mids (prow a) (b + 1) := by
  rw [mids_snoc, hu, hv]; rfl

set_option maxHeartbeats 2000000 in
set_option maxRecDepth 100000 in
theorem specChooseOf_any (n k : Int) (w : World) :
    Calls Try.prog 20 #[.int .i64 n, .int .i64 k] w fun e w' => e = .returned (.tuple #[.int .i64 (chV n k), .int .i64 (chE n k)]) ∧ Below w.heap.size w w' := by
  rcases hn : inB n 0 60 with _ | _
  · obtain ⟨e1, e2⟩ := ch_no (n := n) (k := k) (.inl hn)
    rw [e1, e2]; clear e1 e2
    go_enter Try.func20, Try.ntmps20
    go_wp2_with (go_at_call 46; refine (l01In_any _ _ _ _).mono ?_; rintro e w' ⟨rfl, rfl⟩)
    go_ret2
    exact ⟨rfl, Below.refl _ _⟩
  rcases hk : inB k 0 n with _ | _
  · obtain ⟨e1, e2⟩ := ch_no (n := n) (k := k) (.inr hk)
    rw [e1, e2]; clear e1 e2
    go_enter Try.func20, Try.ntmps20
    go_wp2_with (go_at_call 46; refine (l01In_any _ _ _ _).mono ?_; rintro e w' ⟨rfl, rfl⟩)
    go_ret2
    exact ⟨rfl, Below.refl _ _⟩
  obtain ⟨n0, n1⟩ := inB_true.1 hn
  obtain ⟨k0, k1⟩ := inB_true.1 hk
  obtain ⟨N, rfl⟩ := Int.eq_ofNat_of_zero_le n0
  obtain ⟨K, rfl⟩ := Int.eq_ofNat_of_zero_le k0
  have HY := Lib.hid (ch_yes hn hk)
  have kN : K ≤ N := by omega
  have n60 : N ≤ 60 := by omega
  obtain ⟨i0, hi, hz0, hz1, hz2⟩ := info_parts Try.info2'
  have HI := Lib.hid (And.intro hi (And.intro hz0 (And.intro hz1 hz2)))
  clear hi hz0 hz1 hz2
  go_enter Try.func20, Try.ntmps20
  go_wp2_with (go_at_call 46; refine (l01In_any _ _ _ _).mono ?_; rintro e w' ⟨rfl, rfl⟩)
  clear hn hk n0 n1 k0 k1
  go_loopw [6, 7] (fun r i wr => ∃ a : Nat, a ≤ N ∧ i = .int .i64 a ∧ wr.ownsRow w.heap.size 2 1 r (a + 1) (ints (prow a)) ∧ Below w.heap.size w wr) (fun _ i _ => N - (intOf i).toNat)
  case atStart => exact ⟨0, Nat.zero_le _, rfl, own_new 1 (Nat.le_refl _), (Below.refl _ _).alloc (Nat.le_refl _) _⟩
  case round =>
    obtain ⟨a, ha, rfl, hrow, hb⟩ := hrel
    obtain ⟨g, cap, rfl, hg1, hg2⟩ := hrow.form (by omega)
    obtain ⟨wo, rfl⟩ : ∃ wo : World, wo = wr := ⟨_, rfl⟩
    by_cases hlt : a < N
    · have hs := hb.size
      have HR := Lib.hid hrow
      clear hrow
      go_wp2
      go_loopw [8, 9] (fun x j wi => ∃ b : Nat, b ≤ a ∧ j = .int .i64 ((b : Int) + 1) ∧ wi.ownsRow wo.heap.size 2 1 x (b + 1) (ints (1 :: mids (prow a) b)) ∧ Below wo.heap.size wo wi) (fun _ j _ => a + 1 - (intOf j).toNat)
      case atStart => exact ⟨0, Nat.zero_le _, rfl, own_new 1 (Nat.le_refl _), (Below.refl _ _).alloc (Nat.le_refl _) _⟩
      case round =>
        obtain ⟨b, hbl, rfl, hown, hbi⟩ := hrel
        have hsi := hbi.size
        by_cases hlt2 : b < a
        · have HO := Lib.hid hown
          have hN : u8.ownBlock ≠ some g := by
            obtain ⟨g8, c8, e8, h8, _⟩ := hown.form (by omega)
            rw [e8]
            intro e
            have : g8 = g := by simpa [Value.ownBlock] using e
            omega
          have HN := Lib.hid hN
          clear hown hN
          obtain ⟨u, hu, hu', u0, u1⟩ := prow_get (show b ≤ a by omega)
          obtain ⟨v, hv, hv', v0, v1⟩ := prow_get (show b + 1 ≤ a by omega)
          have hcu : wr.cell? ⟨g, b, none⟩ = some (.int .i64 u) := by
            have := HR.out.cells (g := g) rfl b _ (show (ints (prow a))[b]? = some (.int .i64 u) by unfold ints; rw [List.getElem?_map, hu]; rfl)
            rw [add_zero_] at this
            rw [hbi.cell (p := ⟨g, b, none⟩) hg2]; exact this
          have hcv : wr.cell? ⟨g, b + 1, none⟩ = some (.int .i64 v) := by
            have := HR.out.cells (g := g) rfl (b + 1) _ (show (ints (prow a))[b + 1]? = some (.int .i64 v) by unfold ints; rw [List.getElem?_map, hv]; rfl)
            rw [add_zero_] at this
            rw [hbi.cell (p := ⟨g, b + 1, none⟩) hg2]; exact this
          have HM := Lib.hid (mids_next a b u v hu' hv')
          clear hu hv hu' hv'
          have s1 : IntKind.i64.wrap ((b : Int) + 1 - 1) = (b : Int) := by rw [IntKind.wrap_i64]; omega
          have s0 : IntKind.i64.wrap (b : Int) = (b : Int) := by rw [IntKind.wrap_i64]; omega
          have s2 : IntKind.i64.wrap (u + v) = u + v := IntWalk.i64_in _ (by omega)
          have d1 : (0 : Int) ≤ (b : Int) := by omega
          have d2 : (b : Int) < (a : Int) + 1 := by omega
          have d3 : (0 : Int) ≤ (b : Int) + 1 := by omega
          have d4 : (b : Int) + 1 < (a : Int) + 1 := by omega
          have d5 : ((b : Int) + 1).toNat = b + 1 := by omega
          clear hlt
          go_wp2_with fail
          go_region_held3 (fun w' => w'.cell? ⟨g, b, none⟩ = some (.int .i64 u) ∧ w'.cell? ⟨g, b + 1, none⟩ = some (.int .i64 v))
            (first
              | go_keep
              | (go_split_ands
                 refine ⟨?_, ?_⟩
                 · (rw [hgrow.cell_far _ (by simp; omega) (Ne.symm HN.out)]; assumption)
                 · (rw [hgrow.cell_far _ (by simp; omega) (Ne.symm HN.out)]; assumption)))
            ((refine step_append_lies _ (by rfl) _ _ _ (by rfl) wo.heap.size 2 i0 _ 1 8 Try.underlying24 HI.out.1 HI.out.2.1 HI.out.2.2.1 HI.out.2.2.2 rfl (by omega) u8 (b + 1) _ (by rfl) ((HO.out.alloc _).drew)
                  ⟨wr.heap.size, 0, none⟩ 1 1 [.int .i64 (if u + v < 1000000000001 then u + v else 1000000000001)] (by rfl) (by rfl) (World.news_of_block (cs := #[.int .i64 (if u + v < 1000000000001 then u + v else 1000000000001)]) (t := 2) (fr := (0, 0)) (heap_alloc_new wr _)) (by simp [Value.oneCell'])
                  (by omega) (by unfold maxLen; omega) (by omega) (by simp; omega) (wr.heap.size + 1) (by simp) ?_; intro gg cap' w1 hown1 hgrow hat hlt))
          clear s0 s1 s2 d1 d2 d3 d4 d5
          go_wp2
          go_roundw
          case rel =>
            refine ⟨b + 1, by omega, by go_num, ?_, ?_⟩
            · rw [← HM.out, ← ints_snoc]; exact hown1
            · exact ((hbi.alloc hsi _).drew).grown hgrow (by simp; omega) (own_base HO.out)
          case measure => simp [intOf]; omega
        · have HB := Lib.hid (show b = a by omega)
          have hge : ¬ ((b : Int) + 1 < (a : Int) + 1) := by omega
          have HO := Lib.hid hown
          clear hown
          go_wp2_with (at_builtin; refine wpList_append_lies _ rfl _ _ 24 rfl wo.heap.size 2 i0 _ 1 8 Try.underlying24 HI.out.1 HI.out.2.1 HI.out.2.2.1 HI.out.2.2.2 rfl (by omega) u8 (b + 1) _ rfl (HO.out.alloc _) ⟨wr.heap.size, 0, none⟩ 1 1 [.int .i64 1] rfl rfl ?c1 ?c2 ?c3 ?c4 ?c5 ?c6 (wr.heap.size + 1) ?c7 ?_)
          case c2 => simp [Value.oneCell']
          case c4 => unfold maxLen; omega
          case c5 => omega
          case c6 => omega
          intro gg cap' w1 hown1 hgrow hat hlt3
          go_wp2
          go_roundw
          case rel =>
            obtain rfl := HB.out
            refine ⟨b + 1, by omega, by go_num, ?_, ?_⟩
            · rw [← prow_next, ← ints_snoc]
              exact own_mono hown1 hs
            · have h1 : Below wo.heap.size wo w1 := (hbi.alloc hsi _).grown hgrow (by simp; omega) (own_base HO.out)
              exact below_trans' hb h1
          case measure => simp [intOf]; omega
    · have HA := Lib.hid (show a = N by omega)
      obtain ⟨u, hu, hu', u0, u1⟩ := prow_get (show K ≤ a by omega)
      have hcu : wo.cell? ⟨g, K, none⟩ = some (.int .i64 u) := by
        have := hrow.cells (g := g) rfl K _ (show (ints (prow a))[K]? = some (.int .i64 u) by unfold ints; rw [List.getElem?_map, hu]; rfl)
        rwa [add_zero_] at this
      have HU := Lib.hid hu'
      have HH := Lib.hid hb
      clear hu hu' hrow
      go_wp2_with (go_at_call 39; refine (l01Result_any _ _).mono ?_; rintro e w' ⟨rfl, rfl⟩)
      go_ret2
      have e : u = cut1 (chooseN N K) := by
        obtain rfl := HA.out
        rw [← HU.out]; exact choose_row n60 kN
      exact ⟨ret_int2 (by rw [HY.out.1, e, resV_cut]) (by rw [HY.out.2, e, resC_cut]), HH.out⟩

end Go.Proofs.Ytnonmjllopcaeaa
