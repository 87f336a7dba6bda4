/- What is within reach of a key, and the nodes of a set whose parents do not belong to it. -/
import Derived.Test.YtnadcjclihflcaaPlA
namespace Go.Proofs.Ytnadcjclihflcaa
open Go Go.RowKit

theorem markR_any (l : Int) (g x : Nat) (p : Nat → Bool) (w : World) (h : Set24 w g p) (hx : x < 24) :
    Calls Try.prog 132 #[.int .i64 (x : Int), .int .i64 l, .pointer (some ⟨g, 0, none⟩)] w fun e w' => e = .returned (.tuple #[]) ∧ Set24 w' g (fun i => p i || i == x) ∧ w.grownBy w' (some g) := by
  have hc := h.cell hx
  have hf := h.thawed x
  have HP := Lib.hid (h.put x)
  have i0 : (0 : Int) ≤ (x : Int) := by omega
  have i1 : (x : Int) < 24 := by omega
  go_enter Try.func132, Try.ntmps132
  go_wp2
  go_end0
  exact ⟨rfl, HP.out, grown_set (p := ⟨g, x, none⟩) (World.grownBy.refl w _) rfl _⟩

/-- a load of many cells behind a guard that holds -/
theorem wpList_load_when {P : Program} {ops : Array Oper} {rest : List Oper} {op : Oper} {a : Act} {w : World} {Q : Exit → Act → World → Prop} (hw : Region.wanted op (yielded ops a.tmps) = true) (ty : TypeId) (x : Operand) (ho : op.op = .load ty x)
    (b o : Nat) (hx : a.eval x = .pointer (some ⟨b, o, none⟩)) (cs : List Value) (d : TypeDesc) (hc : w.rangeAt b o cs)
    (hu : P.underlying ty = some d) (hd : d.isRow = true) (hi : (P.info? ty).map (·.size) = some cs.length)
    (h : wpList P ops Q rest (a.put op.dst (.agg cs.toArray)) w) : wpList P ops Q (op :: rest) a w :=
  wpList_step fun K hK => by rw [if_pos hw]; exact wp_load_mid ty x ho b o hx cs d hc hu hd hi (hK _ _ h)
theorem Try.info4s : (Try.prog.info? 4).map (·.size) = some 1 := by kernel_rfl
theorem Try.und4s : Try.prog.underlying 4 = some .bool := by kernel_rfl
/-- a truth value of a set that stands in a slot -/
theorem run_index24 (w : World) (p : Nat → Bool) (i : Nat) (hi : i < 24) : (Instr.index 89 (.agg (set24 p)) (.int .i64 (i : Int))).run Try.prog w = .ok (.bool (p i)) w := by
  have h0 : (0 : Int) ≤ (i : Int) := by omega
  have hx := set24_at p hi
  have hz := Try.info4s
  cases hq : Try.prog.info? 4 with
  | none => simp [hq] at hz
  | some t =>
    have hs : t.size = 1 := by simpa [hq] using hz
    simp [Instr.index, asIntOf, Sem.run_bind, run_underlying Try.und24, h0, sizeOf, typeInfo, hq, hs, part, isAgg, run_underlying Try.und4s, hx, go_sem]
    intro h
    omega
theorem set24_setB (p : Nat → Bool) (x : Nat) (b : Bool) : (set24 p).setIfInBounds x (.bool b) = set24 (fun i => if i = x then b else p i) := by
  rw [set24_map, set24_map]
  apply Array.ext
  · simp
  · intro i h1 h2
    simp at h1
    simp
    by_cases e : x = i
    · subst e; simp
    · simp [e, Ne.symm e]
theorem Set24.putB {w : World} {g : Nat} {p : Nat → Bool} (h : Set24 w g p) (x : Nat) (b : Bool) : Set24 (w.setCell ⟨g, x, none⟩ (.bool b)) g (fun i => if i = x then b else p i) := by
  unfold Set24 at *
  rw [← set24_setB]
  simp [World.setCell, Array.getElem?_modify, h]
theorem Set24.congr {w : World} {g n : Nat} {p r : Nat → Bool} (h : Set24 w g (inN n p)) (hp : ∀ i, i < n → p i = r i) : Set24 w g (inN n r) := by
  unfold Set24 at *
  rw [h, set24_congr (fun i _ => ?_)]
  unfold inN
  by_cases e : i < n
  · rw [hp i e]
  · simp [e]

set_option maxRecDepth 100000 in
set_option maxHeartbeats 2000000 in
theorem reach_any (A B V : Option Addr) (n c k d q e0 K : Nat) (P : List Int) (D : List Bool) (R : List (List Int)) (w : World) (h : Pl w A n B k V q P D R) (hT : Tree P) (n0 : 0 < n) (n24 : n ≤ 24) (hK : K < q) (hq : q + sizeL R ≤ 1048576) (hr : ∀ x ∈ R.getD K [], 0 ≤ x ∧ x < n) :
    Calls Try.prog 85 #[.agg #[.slice A n c, .slice B k d, .slice V q e0], .int .i64 (K : Int)] w
      fun e w' => e = .returned (.agg (set24 (inN n (anyU P (R.getD K []))))) ∧ Below w.heap.size w w' := by
  have c0 := (((Below.refl w.heap.size w).alloc (Nat.le_refl _) (.cells #[.slice A n c, .slice B k d, .slice V q e0] 84)).alloc (by simp) (.cells #[.bool false, .bool false, .bool false, .bool false, .bool false, .bool false, .bool false, .bool false, .bool false, .bool false, .bool false, .bool false, .bool false, .bool false, .bool false, .bool false, .bool false, .bool false, .bool false, .bool false, .bool false, .bool false, .bool false, .bool false] 89)).alloc (by simp; omega) (.cells #[.bool false, .bool false, .bool false, .bool false, .bool false, .bool false, .bool false, .bool false, .bool false, .bool false, .bool false, .bool false, .bool false, .bool false, .bool false, .bool false, .bool false, .bool false, .bool false, .bool false, .bool false, .bool false, .bool false, .bool false] 89)
  have S1 := (Set24.new (w.alloc (.cells #[.slice A n c, .slice B k d, .slice V q e0] 84))).on ((Below.refl _ _).alloc (Nat.le_refl _) (.cells #[.bool false, .bool false, .bool false, .bool false, .bool false, .bool false, .bool false, .bool false, .bool false, .bool false, .bool false, .bool false, .bool false, .bool false, .bool false, .bool false, .bool false, .bool false, .bool false, .bool false, .bool false, .bool false, .bool false, .bool false] 89))
  have S2 := Set24.new ((w.alloc (.cells #[.slice A n c, .slice B k d, .slice V q e0] 84)).alloc (.cells #[.bool false, .bool false, .bool false, .bool false, .bool false, .bool false, .bool false, .bool false, .bool false, .bool false, .bool false, .bool false, .bool false, .bool false, .bool false, .bool false, .bool false, .bool false, .bool false, .bool false, .bool false, .bool false, .bool false, .bool false] 89))
  have k0 := ((Cell3.new w 84 (.slice A n c) (.slice B k d) (.slice V q e0)).alloc (.cells #[.bool false, .bool false, .bool false, .bool false, .bool false, .bool false, .bool false, .bool false, .bool false, .bool false, .bool false, .bool false, .bool false, .bool false, .bool false, .bool false, .bool false, .bool false, .bool false, .bool false, .bool false, .bool false, .bool false, .bool false] 89)).alloc (.cells #[.bool false, .bool false, .bool false, .bool false, .bool false, .bool false, .bool false, .bool false, .bool false, .bool false, .bool false, .bool false, .bool false, .bool false, .bool false, .bool false, .bool false, .bool false, .bool false, .bool false, .bool false, .bool false, .bool false, .bool false] 89)
  simp only [World.size_alloc] at S1 S2
  have HL := Lib.hid h.b.ps.len
  have HT := Lib.hid hT
  have HQ := Lib.hid hq
  have HR := Lib.hid hr
  have hA : ∀ a, 0 < n → A = some a → a.block < w.heap.size := fun a h0 e => by
    obtain ⟨ad, e', hlt, _⟩ := h.b.ps.2 h0
    rw [e] at e'; injection e' with e'; subst e'; exact hlt
  have HA := Lib.hid hA
  have H := Lib.hid h
  have C0 := Lib.hid c0
  have K0 := Lib.hid k0
  have HS1 := Lib.hid S1
  have J2 : Hid (Set24 (((w.alloc (.cells #[.slice A n c, .slice B k d, .slice V q e0] 84)).alloc (.cells #[.bool false, .bool false, .bool false, .bool false, .bool false, .bool false, .bool false, .bool false, .bool false, .bool false, .bool false, .bool false, .bool false, .bool false, .bool false, .bool false, .bool false, .bool false, .bool false, .bool false, .bool false, .bool false, .bool false, .bool false] 89)).alloc (.cells #[.bool false, .bool false, .bool false, .bool false, .bool false, .bool false, .bool false, .bool false, .bool false, .bool false, .bool false, .bool false, .bool false, .bool false, .bool false, .bool false, .bool false, .bool false, .bool false, .bool false, .bool false, .bool false, .bool false, .bool false] 89)) (w.heap.size + 1 + 1) (inN n (anyU P ([] : List Int)))) := Lib.hid (by unfold Set24 at *; rw [S2]; rw [set24_congr (fun i _ => ?_)]; simp [inN, anyU])
  obtain ⟨p0, p1, p2⟩ := k0.cells
  have i0 : (0 : Int) ≤ (K : Int) := by omega
  have i1 : (K : Int) < (q : Int) := by omega
  have hmf : ∀ (fn : Fn) (first cap : Array Value) (w : World), (Instr.makeFunc fn first cap).run Try.prog w = .ok (.func fn first cap) w := fun _ _ _ _ => rfl
  clear c0 S1 S2 k0 h hA hT hr
  obtain ⟨ad, ys, A2, q2, c2, rfl, hab, hy, hcell0, hi, _, _⟩ := H.out.r.at_ hK
  have hcell := C0.out.cell (p := ad.add K) (by rw [block_of_add]; exact hab) |>.trans hcell0
  have HY := Lib.hid hy
  have HI := Lib.hid hi
  have HG : Hid (R.getD K [] = ys) := Lib.hid (getD_list hy)
  have hq2 : q2 ≤ 1048576 := by have := fits_at hq hy; have := hi.len; omega
  have HR2 : Hid (∀ x ∈ ys, 0 ≤ x ∧ x < n) := Lib.hid (by rw [← HG.out]; exact HR.out)
  clear hy hi hq hab hcell0
  go_enter Try.func85, Try.ntmps85
  go_wp2
  clear p0 p1 p2 hcell
  go_loopw [14] (fun i wr => ∃ j : Nat, j ≤ q2 ∧ i = .int .i64 j ∧ Hid (Set24 wr (w.heap.size + 1 + 1) (inN n (anyU P (ys.take j)))) ∧ Hid (Set24 wr (w.heap.size + 1) (fun _ => false)) ∧ Hid (Cell3 wr w.heap.size 84 (.slice A n c) (.slice B k d) (.slice (some ad) q e0)) ∧ Hid (Below w.heap.size w wr)) (fun i _ => q2 - (intOf i).toNat)
  case atStart => exact ⟨0, Nat.zero_le _, rfl, J2, HS1, K0, C0⟩
  case round =>
    obtain ⟨j, hj, rfl, HS, HT1, HK, HB⟩ := hrel
    clear J2 HS1 K0 C0
    obtain ⟨p0, p1, p2⟩ := HK.out.cells
    by_cases hlt : j < q2
    · obtain ⟨bd, v, rfl, hb, hv, hc⟩ := (HI.out.on HB.out).at_ hlt
      have hv2 := HR2.out v (List.mem_of_getElem? hv)
      obtain ⟨X, rfl⟩ := Int.eq_ofNat_of_zero_le hv2.1
      have hX : X < n := by omega
      have HV := Lib.hid hv
      have i2 : (0 : Int) ≤ (j : Int) := by omega
      have i3 : (j : Int) < (q2 : Int) := by omega
      have lB := HS.out.lt
      clear hv hv2 hb
      have HC := Lib.hid (walkB_any A B n c k d P D 132 #[.pointer (some ⟨w.heap.size + 1 + 1, 0, none⟩)] (w.heap.size + 1 + 1) X HT.out HL.out n24 (enters_of Try.func132 (by kernel_rfl) rfl)
        (fun p w' => Set24 w' (w.heap.size + 1 + 1) (inN n p)) (anyU P (ys.take j)) wr
        (fun p w' y l hy _ hs => (markR_any l (w.heap.size + 1 + 1) y (inN n p) w' hs (by omega)).mono (by
          rintro e w2 ⟨rfl, s2, g2⟩
          refine ⟨rfl, ?_, g2⟩
          unfold Set24 at *
          rw [s2, set24_congr (fun i _ => ?_)]
          unfold inN
          by_cases e : i = y
          · subst e; simp [hy]
          · have : (i == y) = false := by simpa using e
            simp [this]))
        (fun p q w' hpq hs => hs.congr hpq)
        (fun p w1 w2 hs hb => hs.on hb) ((H.out.on HB.out).b) lB (fun a h0 e => by have := HA.out a h0 e; omega) hX HS.out)
      go_wp2_with fail
      refine HC.out.mono ?_
      rintro e w2 ⟨rfl, s2, g2⟩
      have HS3 : Hid (Set24 w2 (w.heap.size + 1 + 1) (inN n (anyU P (ys.take (j + 1))))) := Lib.hid (Set24.congr s2 (fun i _ => by rw [may_take HV.out, Int.toNat_natCast]))
      have T3 := Lib.hid (HT1.out.on' g2 (by omega))
      have K3 := Lib.hid (HK.out.grown g2 (fun e => by injection e with e; omega))
      have B3 := Lib.hid (below_grown HB.out g2 (fun g e => by injection e with e; omega))
      clear s2 g2 HC hc p0 p1 p2
      go_wp2
      go_roundw
      case rel => exact ⟨j + 1, by omega, by go_num, HS3, T3, K3, B3⟩
      case measure => simp [intOf]; omega
    · have HE : Hid (anyU P (R.getD K []) = anyU P (ys.take j)) := Lib.hid (by rw [HG.out, List.take_of_length_le (by have := HI.out.len; omega)])
      clear p0 p1 p2
      generalize anyU P (ys.take j) = pp at HS HE
      have R1 := Lib.hid HS.out.range
      have T1 := Lib.hid HT1.out.there
      have HZ := Lib.hid Try.info24
      have HU := Lib.hid Try.und24
      have HSO := Lib.hid (set24_one (inN n pp))
      go_wp2_with (first | (refine wpList_load_mid rfl 89 _ rfl (w.heap.size + 1 + 1) 0 rfl _ _ R1.out HU.out rfl HZ.out ?_) | (refine wpList_store_mid rfl 89 _ _ rfl (w.heap.size + 1) 0 _ rfl rfl T1.out HZ.out HSO.out ?_))
      have RR := World.rangeAt_setCells_same wr (w.heap.size + 1) 0 (set24 (inN n pp)).toList T1.out
      have HR := run_loadVar_mid (P := Try.prog) _ (w.heap.size + 1) 0 89 _ _ RR HU.out rfl HZ.out
      obtain ⟨f, hf⟩ : ∃ f : TypeId → Addr → Sem Value, f = loadVar := ⟨_, rfl⟩
      rw [← hf] at HR
      refine bodyPost_ret (v := .agg (set24 (inN n pp))) (by unfold results; rw [← hf]; simp [Try.results85, go_sem, HR]) rfl ⟨by rw [HE.out], below_setCells _ (by omega) _ _ _ HB.out⟩

theorem topB_no {P : List Int} {p : Nat → Bool} {i : Nat} (h : p i = false) : topB P p i = false := by unfold topB; rw [h]; rfl

set_option maxRecDepth 100000 in
set_option maxHeartbeats 2000000 in
theorem topsOf_any (A B V : Option Addr) (n c k d q e0 : Nat) (P : List Int) (D : List Bool) (p : Nat → Bool) (w : World) (h : Bld w A n B k P D) (hT : Tree P) (n0 : 0 < n) (n24 : n ≤ 24) :
    Calls Try.prog 98 #[.agg #[.slice A n c, .slice B k d, .slice V q e0], .agg (set24 p)] w (GivesOne w (topTo P p n)) := by
  have c1 := ((Below.refl w.heap.size w).alloc (Nat.le_refl _) (.cells #[.slice A n c, .slice B k d, .slice V q e0] 84)).alloc (by simp) (.cells (set24 p) 89)
  have H := Lib.hid h
  have HT := Lib.hid hT
  have HL := Lib.hid h.ps.len
  obtain ⟨ii, hi0, hz0, hz1, hz2⟩ := info_parts Try.info2'
  have HF := Lib.hid (And.intro hi0 (And.intro hz0 (And.intro hz1 hz2)))
  have S0 : Set24 ((w.alloc (.cells #[.slice A n c, .slice B k d, .slice V q e0] 84)).alloc (.cells (set24 p) 89)) (w.heap.size + 1) p := by
    have := heap_alloc_new (w.alloc (.cells #[.slice A n c, .slice B k d, .slice V q e0] 84)) (.cells (set24 p) 89)
    rw [World.size_alloc] at this
    exact this
  have K0 := (Cell3.new w 84 (.slice A n c) (.slice B k d) (.slice V q e0)).alloc (.cells (set24 p) 89)
  have C0 := Lib.hid c1
  have R2 := rowNil (w := (w.alloc (.cells #[.slice A n c, .slice B k d, .slice V q e0] 84)).alloc (.cells (set24 p) 89)) (t := 2) (s := 1) (base := w.heap.size + 1 + 1) (by simp)
  rw [World.size_alloc, World.size_alloc] at R2
  have R2 := Lib.hid R2
  have bB := (Below.refl ((w.alloc (.cells #[.slice A n c, .slice B k d, .slice V q e0] 84)).alloc (.cells (set24 p) 89)).heap.size ((w.alloc (.cells #[.slice A n c, .slice B k d, .slice V q e0] 84)).alloc (.cells (set24 p) 89))).alloc (Nat.le_refl _) (.cells #[] 2)
  have S3 := Lib.hid (S0.on bB)
  have C3 := Lib.hid (below_trans' C0.out bB)
  obtain ⟨p0, p1, p2⟩ := (K0.on bB).cells
  obtain ⟨pa, rfl, _⟩ := H.out.par_at (i := 0) n0
  clear bB S0 K0 c1 C0 h hT hi0 hz0 hz1 hz2
  go_enter Try.func98, Try.ntmps98
  go_wp2
  clear p0 p1 p2
  go_loopw [5, 13] (fun y x wr => ∃ (j r : Nat) (pv : Value), j ≤ n ∧ x = .int .i64 j ∧ y = pv ∧ r ≤ j ∧ Hid ((topTo P p j).length = r) ∧ Hid (wr.ownsRow (w.heap.size + 1 + 1) 2 1 pv r (intsV (topTo P p j))) ∧ Hid (Set24 wr (w.heap.size + 1) p) ∧ Hid (Below w.heap.size w wr)) (fun _ x _ => n - (intOf x).toNat)
  case atStart => exact ⟨0, 0, _, Nat.zero_le _, rfl, rfl, Nat.le_refl _, Lib.hid rfl, R2, S3, C3⟩
  case round =>
    obtain ⟨j, r, pv, hj, rfl, rfl, hr, HQ, HR, HS, HB⟩ := hrel
    clear R2 S3 C3
    obtain ⟨A1, c1, rfl, _, _, _⟩ := rowInts HR.out HQ.out
    by_cases hlt : j < n
    · obtain ⟨_, e, hpj⟩ := (H.out.on HB.out).par_at hlt
      injection e with e
      subst e
      have hcs := HS.out.cell (i := j) (by omega)
      have i0 : (0 : Int) ≤ (j : Int) := by omega
      have i1 : (j : Int) < 24 := by omega
      have i2 : (j : Int) < (n : Int) := by omega
      rcases hpb : p j with _ | _
      · have HN := Lib.hid (topTo_no (P := P) (topB_no hpb))
        rw [hpb] at hcs
        clear hpb
        go_wp2
        go_roundw
        case rel => exact ⟨j + 1, r, _, by omega, by go_num, rfl, by omega, Lib.hid (by rw [HN.out]; exact HQ.out), Lib.hid (by rw [HN.out]; exact HR.out), HS, HB⟩
        case measure => simp [intOf]; omega
      have HP := Lib.hid hpb
      rw [hpb] at hcs
      clear hpb
      rcases Nat.eq_zero_or_pos j with h00 | hjp
      · have HN : Hid (topTo P p (j + 1) = topTo P p j ++ [(j : Int)]) := Lib.hid (topTo_yes (by unfold topB; rw [HP.out, h00, HT.out.root]; rfl))
        have hroot : par P j = -1 := by rw [h00]; exact HT.out.root
        rw [hroot] at hpj
        clear hroot h00
        have hszw := HB.out.size
        have hls := HS.out.lt
        have HZV := Lib.hid (rowBase HR.out)
        go_wp2_with (at_builtin; refine wpList_append_lies _ rfl _ _ 24 rfl (w.heap.size + 1 + 1) 2 ii _ 1 8 Try.underlying24 HF.out.1 HF.out.2.1 HF.out.2.2.1 HF.out.2.2.2 rfl (by omega) _ r _ rfl (rowBelow HR.out ((Below.refl _ _).alloc (Nat.le_refl _) _)) ⟨wr.heap.size, 0, none⟩ 1 1 [.int .i64 (j : Int)] rfl rfl (World.news_of_block (cs := #[.int .i64 (j : Int)]) (t := 2) (fr := (0, 0)) (heap_alloc_new wr _)) (by simp [Value.oneCell']) (by omega) (by unfold maxLen; omega) (by omega) (by simp; omega) (wr.heap.size + 1) (by simp) ?_; intro gg cap w5 hown1 hgrow hat hlt3)
        have R5 : Hid (w5.ownsRow (w.heap.size + 1 + 1) 2 1 (.slice (some ⟨gg, 0, none⟩) (r + 1) cap) (r + 1) (intsV (topTo P p (j + 1)))) := Lib.hid (by rw [HN.out, ← intsV_snoc]; exact hown1)
        have Q5 : Hid ((topTo P p (j + 1)).length = r + 1) := Lib.hid (by rw [HN.out, List.length_append, HQ.out]; rfl)
        have S5 : Hid (Set24 w5 (w.heap.size + 1) p) := Lib.hid (by
          have s := HS.out.on ((Below.refl wr.heap.size wr).alloc (Nat.le_refl _) (.cells #[.int .i64 (j : Int)] 2))
          exact (hgrow.block _ s.lt (fun e => by have := HZV.out _ e.symm; omega)).trans s)
        have B5 := Lib.hid ((HB.out.alloc HB.out.size (.cells #[.int .i64 (j : Int)] 2)).grown hgrow (by simp; omega) (fun q e => by have := HZV.out q e; omega))
        clear hown1 hgrow hat hlt3 hpj hcs
        go_wp2
        go_roundw
        case rel => exact ⟨j + 1, r + 1, _, by omega, by go_num, rfl, by omega, Q5, R5, S5, B5⟩
        case measure => simp [intOf]; omega
      have hu := HT.out.up j hjp (by rw [HL.out]; exact hlt)
      obtain ⟨X, hX⟩ := Int.eq_ofNat_of_zero_le hu.1
      have hXj : X < j := by omega
      have hcx := HS.out.cell (i := X) (by omega)
      have hne : ((X : Int) == -1) = false := by simp
      have i3 : (0 : Int) ≤ (X : Int) := by omega
      have i4 : (X : Int) < 24 := by omega
      rcases hpx : p X with _ | _
      · have HN : Hid (topTo P p (j + 1) = topTo P p j ++ [(j : Int)]) := Lib.hid (topTo_yes (by unfold topB; rw [HP.out, hX, Int.toNat_natCast, hpx]; simp))
        rw [hX] at hpj
        rw [hpx] at hcx
        clear hX hpx hu
        have hszw := HB.out.size
        have hls := HS.out.lt
        have HZV := Lib.hid (rowBase HR.out)
        go_wp2_with (at_builtin; refine wpList_append_lies _ rfl _ _ 24 rfl (w.heap.size + 1 + 1) 2 ii _ 1 8 Try.underlying24 HF.out.1 HF.out.2.1 HF.out.2.2.1 HF.out.2.2.2 rfl (by omega) _ r _ rfl (rowBelow HR.out ((Below.refl _ _).alloc (Nat.le_refl _) _)) ⟨wr.heap.size, 0, none⟩ 1 1 [.int .i64 (j : Int)] rfl rfl (World.news_of_block (cs := #[.int .i64 (j : Int)]) (t := 2) (fr := (0, 0)) (heap_alloc_new wr _)) (by simp [Value.oneCell']) (by omega) (by unfold maxLen; omega) (by omega) (by simp; omega) (wr.heap.size + 1) (by simp) ?_; intro gg cap w5 hown1 hgrow hat hlt3)
        have R5 : Hid (w5.ownsRow (w.heap.size + 1 + 1) 2 1 (.slice (some ⟨gg, 0, none⟩) (r + 1) cap) (r + 1) (intsV (topTo P p (j + 1)))) := Lib.hid (by rw [HN.out, ← intsV_snoc]; exact hown1)
        have Q5 : Hid ((topTo P p (j + 1)).length = r + 1) := Lib.hid (by rw [HN.out, List.length_append, HQ.out]; rfl)
        have S5 : Hid (Set24 w5 (w.heap.size + 1) p) := Lib.hid (by
          have s := HS.out.on ((Below.refl wr.heap.size wr).alloc (Nat.le_refl _) (.cells #[.int .i64 (j : Int)] 2))
          exact (hgrow.block _ s.lt (fun e => by have := HZV.out _ e.symm; omega)).trans s)
        have B5 := Lib.hid ((HB.out.alloc HB.out.size (.cells #[.int .i64 (j : Int)] 2)).grown hgrow (by simp; omega) (fun q e => by have := HZV.out q e; omega))
        clear hown1 hgrow hat hlt3 hpj hcs
        go_wp2
        go_roundw
        case rel => exact ⟨j + 1, r + 1, _, by omega, by go_num, rfl, by omega, Q5, R5, S5, B5⟩
        case measure => simp [intOf]; omega
      · have HN : Hid (topTo P p (j + 1) = topTo P p j) := Lib.hid (topTo_no (by unfold topB; rw [HP.out, hX, Int.toNat_natCast, hpx, hne]; rfl))
        rw [hX] at hpj
        rw [hpx] at hcx
        clear hX hpx hu
        go_wp2
        go_roundw
        case rel => exact ⟨j + 1, r, _, by omega, by go_num, rfl, by omega, Lib.hid (by rw [HN.out]; exact HQ.out), Lib.hid (by rw [HN.out]; exact HR.out), HS, HB⟩
        case measure => simp [intOf]; omega
    · obtain rfl : j = n := by omega
      obtain ⟨A2, c2, e, ho, h1, h2⟩ := rowInts HR.out HQ.out
      injection e with e1 e2 e3
      subst e1; subst e3
      have HO := Lib.hid (ho.more (show w.heap.size ≤ w.heap.size + 1 + 1 by omega) (Nat.le_refl _) (Nat.le_refl _))
      have q1 : r ≤ 1048576 := by omega
      clear ho
      go_wp2
      go_ret
      exact ⟨_, r, _, rfl, HO.out, q1, h1, h2, HB.out⟩

end Go.Proofs.Ytnadcjclihflcaa
