/- The program's families in order: a range over their map that fills a row. CountFamilies and FamiliesOf of the program: contracts. -/
import Derived.Test.YtpabccgndhmcdaaFamP
import Derived.Maps.RangeWalk
import Derived.Deep.RegionHeld3
import Derived.Deep.RegionWith
namespace Go.Proofs.Ytpabccgndhmcdaa
open Go.RowKit Go.Maps

/-- one list of them is put in, in a block that is new since W -/
theorem Rag.fill {W w : World} {lo g n k : Nat} {gs : List (Option Addr × Nat × Nat)} {yss : List (List Int)} {a : Option Addr × Nat × Nat} {ys : List Int} (h : Rag W lo (some ⟨g, 0, none⟩) n gs yss) (hb : Below W.heap.size W w) (hk : k < n)
    (hsome : ∃ v, w.cell? ⟨g, k, none⟩ = some v)
    (h1 : ys.length = a.2.1) (h2 : a.2.1 ≤ a.2.2) (h3 : a.2.2 ≤ 9223372036854775807) (h4 : 0 < a.2.1 → ∃ ad, a.1 = some ad ∧ Self w ad a.2.1 ys ∧ W.heap.size ≤ ad.block) :
    Rag (w.setCell ⟨g, k, none⟩ (.slice a.1 a.2.1 a.2.2)) lo (some ⟨g, 0, none⟩) n (gs.set k a) (yss.set k ys) := by
  have hw := h.on hb
  obtain ⟨ad0, e0, l0, l1, hc0⟩ := h.outer (by omega)
  obtain rfl : (⟨g, 0, none⟩ : Addr) = ad0 := by injection e0
  have hgl : g < W.heap.size := l1
  have hlg : lo ≤ g := l0
  have add0 : ∀ j, (⟨g, 0, none⟩ : Addr).add j = ⟨g, j, none⟩ := fun j => by rcases j with _ | j <;> simp [Addr.add]
  have keep : ∀ (ad : Addr) (p : Nat) (zs : List Int), Self w ad p zs → g ≠ ad.block → Self (w.setCell ⟨g, k, none⟩ (.slice a.1 a.2.1 a.2.2)) ad p zs := by
    intro ad p zs hs hne
    exact hs.apart (row := some g) (grown_set (p := ⟨g, k, none⟩) (World.grownBy.refl w (some g)) rfl _) (by intro e; injection e with e; exact hne e)
  refine ⟨by rw [List.length_set, h.len], by rw [List.length_set, h.glen], by have := hw.low; simpa [World.setCell] using this, fun hn => ⟨_, rfl, l0, by have := hb.size; simp [World.setCell]; omega, ?_⟩, ?_, ?_⟩
  · intro j b hj
    rw [add0]
    by_cases e : j = k
    · subst e
      rw [List.getElem?_set_self (by rw [h.glen]; exact hk)] at hj
      injection hj with hj
      subst hj
      obtain ⟨v, hv⟩ := hsome
      exact World.cell?_setCell_same _ _ _ hv
    · rw [List.getElem?_set_ne (Ne.symm e)] at hj
      rw [World.cell?_setCell_other _ _ _ _ (by intro e'; injection e' with _ e2; exact e e2.symm)]
      obtain ⟨ad1, e1, _, _, hc1⟩ := hw.outer hn
      obtain rfl : (⟨g, 0, none⟩ : Addr) = ad1 := by injection e1
      rw [← add0]; exact hc1 j b hj
  · intro j b zs hj hz
    by_cases e : j = k
    · subst e
      rw [List.getElem?_set_self (by rw [h.glen]; exact hk)] at hj
      rw [List.getElem?_set_self (by rw [h.len]; exact hk)] at hz
      injection hj with hj
      injection hz with hz
      subst hj; subst hz
      refine ⟨h1, h2, h3, fun hp => ?_⟩
      obtain ⟨ad, e1, hs, hge⟩ := h4 hp
      exact ⟨ad, e1, keep ad _ _ hs (by omega), by omega, fun vd hv => by injection hv with hv; subst hv; simp; omega⟩
    · rw [List.getElem?_set_ne (Ne.symm e)] at hj hz
      obtain ⟨i1, i2, i3, i4⟩ := hw.inner j b zs hj hz
      refine ⟨i1, i2, i3, fun hp => ?_⟩
      obtain ⟨ad, e1, hs, q1, q2⟩ := i4 hp
      exact ⟨ad, e1, keep ad _ _ hs (q2 _ rfl), q1, q2⟩
  · -- blocks apart
    have old : ∀ (j : Nat) (b : Option Addr × Nat × Nat) (bd : Addr), j ≠ k → gs[j]? = some b → 0 < b.2.1 → b.1 = some bd → bd.block < W.heap.size := by
      intro j b bd _ hj hp eb
      have hj' : j < n := by rw [← h.glen]; exact (List.getElem?_eq_some_iff.1 hj).1
      have hy : yss[j]? = some (yss[j]'(by rw [h.len]; exact hj')) := List.getElem?_eq_getElem _
      obtain ⟨_, _, _, i4⟩ := h.inner j b _ hj hy
      obtain ⟨ad, e1, hs, _⟩ := i4 hp
      rw [eb] at e1
      injection e1 with e1
      subst e1
      exact hs.lt
    intro i j b b' bd bd' hij hi hj hpb hpb' eb eb'
    by_cases ei : i = k
    · subst ei
      rw [List.getElem?_set_self (by rw [h.glen]; exact hk)] at hi
      injection hi with hi
      subst hi
      rw [List.getElem?_set_ne (by omega)] at hj
      obtain ⟨ad, e1, hs, hge⟩ := h4 hpb
      rw [eb] at e1
      injection e1 with e1
      subst e1
      have := old j b' bd' (by omega) hj hpb' eb'
      omega
    · rw [List.getElem?_set_ne (Ne.symm ei)] at hi
      by_cases ej : j = k
      · subst ej
        rw [List.getElem?_set_self (by rw [h.glen]; exact hk)] at hj
        injection hj with hj
        subst hj
        obtain ⟨ad, e1, hs, hge⟩ := h4 hpb'
        rw [eb'] at e1
        injection e1 with e1
        subst e1
        have := old i b bd ei hi hpb eb
        omega
      · rw [List.getElem?_set_ne (Ne.symm ej)] at hj
        exact h.apart i j b b' bd bd' hij hi hj hpb hpb' eb eb'
/-- kept where a block turns that holds no cells -/
theorem Rag.miss {w w' : World} {lo n r : Nat} {V : Option Addr} {gs : List (Option Addr × Nat × Nat)} {yss : List (List Int)} (h : Rag w lo V n gs yss) (hg : w.grownBy w' (some r)) (hr : ∀ p : Addr, p.block = r → w.cell? p = none) : Rag w' lo V n gs yss := by
  refine ⟨h.len, h.glen, Nat.le_trans h.low hg.size, fun hn => ?_, fun j a ys hj hy => ?_, h.apart⟩
  · obtain ⟨ad, e, h1, h2, hc⟩ := h.outer hn
    refine ⟨ad, e, h1, Nat.lt_of_lt_of_le h2 hg.size, fun j a hj => ?_⟩
    have hcc := hc j a hj
    rw [World.cell?_of_block (w := w) (hg.block _ (by rw [block_of_add]; exact h2) (fun e' => by
      injection e' with e'
      rw [hr _ e'] at hcc; cases hcc))]
    exact hcc
  · obtain ⟨i1, i2, i3, i4⟩ := h.inner j a ys hj hy
    refine ⟨i1, i2, i3, fun hp => ?_⟩
    obtain ⟨ad, e, hs, h1, h2⟩ := i4 hp
    obtain ⟨ad2, u, e2, _, _, _, _, hcc⟩ := Own.at_ hs (k := 0) hp
    injection e2 with e2
    subst e2
    exact ⟨ad, e, hs.apart hg (fun er => by
      injection er with er
      rw [hr (ad.add 0) (by rw [block_of_add]; exact er.symm)] at hcc; cases hcc), h1, h2⟩
/-- a new row of lists that are nil -/
theorem Rag.fresh {w : World} {n : Nat} {lo : Nat} (h : lo ≤ w.heap.size) : Rag (w.alloc (.cells (madeCells #[.slice none 0 0] n) 24)) lo (some ⟨w.heap.size, 0, none⟩) n (List.replicate n (none, 0, 0)) (List.replicate n []) := by
  have hr := World.rowIs_made w (.slice none 0 0) n 24
  refine ⟨by simp, by simp, by simp; omega, fun hn => ⟨_, rfl, h, by simp, fun j a hj => ?_⟩, fun j a ys hj hy => ?_, fun i j a b ad bd _ hi hj hp => ?_⟩
  · obtain ⟨hj', e⟩ := List.getElem?_eq_some_iff.1 hj
    rw [List.getElem_replicate] at e
    subst e
    have add0 : (⟨w.heap.size, 0, none⟩ : Addr).add j = ⟨w.heap.size, j, none⟩ := by rcases j with _ | j <;> simp [Addr.add]
    rw [add0, hr.cell (by rw [List.length_replicate] at hj'; exact hj')]
  · obtain ⟨hj', e⟩ := List.getElem?_eq_some_iff.1 hj
    obtain ⟨hy', e2⟩ := List.getElem?_eq_some_iff.1 hy
    rw [List.getElem_replicate] at e e2
    subst e; subst e2
    exact ⟨rfl, Nat.le_refl _, by simp, fun h => absurd h (by simp)⟩
  · obtain ⟨hj', e⟩ := List.getElem?_eq_some_iff.1 hi
    rw [List.getElem_replicate] at e
    subst e
    simp at hp

/-- the row holds the families whose turn has been -/
def Placed (left : Lit → Bool) (F zss : List (List Int)) : Prop := zss.length = F.length ∧ ∀ (i : Nat) (f : List Int), F[i]? = some f → zss[i]? = some (if left (keyL f) then [] else f)
theorem Placed.start {s : Nat} {D : DataW Unit} {F : List (List Int)} (h : FamIs s D F) : Placed (Maps.has D) F (List.replicate F.length []) := by
  refine ⟨by simp, fun i f hf => ?_⟩
  have hi := (List.getElem?_eq_some_iff.1 hf).1
  rw [h.has f (List.mem_of_getElem? hf), List.getElem?_replicate, if_pos hi]
  rfl
theorem FamIs.place {s : Nat} {D : DataW Unit} {F : List (List Int)} (h : FamIs s D F) {i j : Nat} {f : List Int} (hi : F[i]? = some f) (hj : F[j]? = some f) : i = j := by
  have h1 := h.at_ i f hi (.lit (.int .i64 0))
  have h2 := h.at_ j f hj (.lit (.int .i64 0))
  rw [h1] at h2
  have : (i : Int) = (j : Int) := by simpa using h2
  omega
theorem Placed.step {s : Nat} {D : DataW Unit} {F zss : List (List Int)} {left : Lit → Bool} (hs : s ≤ 5) (hF : FamIs s D F) (h : Placed left F zss) {i : Nat} {f : List Int} (hi : F[i]? = some f) : Placed (fun z => left z && !z.sameKey (keyL f)) F (zss.set i f) := by
  refine ⟨by rw [List.length_set]; exact h.1, fun j g hj => ?_⟩
  have hil : i < zss.length := by rw [h.1]; exact (List.getElem?_eq_some_iff.1 hi).1
  have hfs := hF.small f (List.mem_of_getElem? hi)
  have hgs := hF.small g (List.mem_of_getElem? hj)
  by_cases e : j = i
  · subst e
    rw [hi] at hj
    injection hj with hj
    subst hj
    rw [List.getElem?_set_self hil]
    show some f = some (if (left (keyL f) && !(keyL f).sameKey (keyL f)) = true then [] else f)
    rw [WideAt.sameKey_self (keyL_key hfs.2)]
    simp
  · rw [List.getElem?_set_ne (Ne.symm e), h.2 j g hj]
    have hne : (keyL g).sameKey (keyL f) = false := by
      rcases hq : (keyL g).sameKey (keyL f) with _ | _
      · rfl
      · have e1 := keyL_inj hs hgs hfs (WideAt.sameKey_eq hq)
        subst e1
        exact absurd (hF.place hj hi) e
    show _ = some (if (left (keyL g) && !(keyL g).sameKey (keyL f)) = true then [] else g)
    rw [hne]
    simp
theorem Placed.end_ {F zss : List (List Int)} {left : Lit → Bool} (h : Placed left F zss) (hl : ∀ kl, left kl = false) : zss = F := by
  apply List.ext_getElem?
  intro i
  rcases hi : F[i]? with _ | f
  · rw [List.getElem?_eq_none_iff] at hi ⊢
    rw [h.1]; exact hi
  · rw [h.2 i f hi, hl]; rfl

/-- the step of a range over the families, at the operation -/
theorem wpList_next_fam (w : World) {ops : Array Oper} {rest : List Oper} {o : Oper} {a : Act} {Q : Exit → Act → World → Prop} (hg : o.guard = none) (it : Operand) (hop : o.op = Op.next it false) (b r n s : Nat) (D : DataW Unit) (F : List (List Int)) (left : Lit → Bool) (cnt : Nat)
    (hit : a.eval it = .pointer (some ⟨r, 0, none⟩)) (h : w.ranges Try.prog 83 (plainElem Try.prog 2) b r n D left cnt) (hF : FamIs s D F) (hl : ∀ kl, left kl = true → Maps.has D kl = true)
    (hDone : (∀ kl, left kl = false) → wpList Try.prog ops Q rest (a.put o.dst (.tuple #[.bool false])) w)
    (hMore : ∀ (i : Nat) (f : List Int) (w' : World) (cnt' : Nat), F[i]? = some f → left (keyL f) = true → w'.ranges Try.prog 83 (plainElem Try.prog 2) b r n D (fun z => left z && !z.sameKey (keyL f)) cnt' → cnt' < cnt → w.grownBy w' (some r) → w'.heap.size = w.heap.size →
      (Instr.entry (.pointer (some ⟨r, 0, none⟩))).run Try.prog w' = .ok (.tuple #[.agg #[.int .i64 (nth f 0), .int .i64 (nth f 1), .int .i64 (nth f 2), .int .i64 (nth f 3), .int .i64 (nth f 4)], .int .i64 (i : Int)]) w' →
      wpList Try.prog ops Q rest (a.put o.dst (.tuple #[.bool true, .agg #[.int .i64 (nth f 0), .int .i64 (nth f 1), .int .i64 (nth f 2), .int .i64 (nth f 3), .int .i64 (nth f 4)], .int .i64 (i : Int)])) w') :
    wpList Try.prog ops Q (o :: rest) a w := by
  refine wpList_plain hg fun K' hK' => ?_
  unfold Oper.wp
  rcases h.next sk_law o.type with ⟨h0, hl0, hrun⟩ | ⟨key, v, kl, y, w', cnt', hkey, hlk, hv, hat, hrun, hrg, hlt, hgr, hsz, hen⟩
  · simp [execOp, hop, hit, hrun, Result.andThen]
    exact hK' _ _ (hDone hl0)
  · obtain ⟨f, hf, rfl⟩ := hF.key kl (hl kl hlk)
    obtain ⟨i, hi⟩ := List.getElem?_of_mem hf
    have e1 : key = keyV f := sk_law.inj hkey (keyL_is (hF.small f hf).2)
    obtain ⟨c, rfl, hc, _⟩ := plainElem_int_inv Try.underlying2 hv
    have e2 := hat (.lit (.int .i64 0))
    rw [hF.at_ i f hi, hc] at e2
    have e3 : (i : Int) = c := by simpa using e2
    subst e3; subst e1
    simp [execOp, hop, hit, hrun, Result.andThen]
    exact hK' _ _ (hMore i f w' cnt' hi hlk hrg hlt hgr hsz hen)

theorem code_cells {w : World} {g s : Nat} {f : List Int} (h : Box5 w g f) (hl : f.length = s) (h5 : s ≤ 5) : ∀ (j : Nat) (u : Value), (intsV f)[j]? = some u → w.cell? ⟨g, 0 + j, none⟩ = some u := by
  intro j u hj
  unfold intsV at hj
  rw [List.getElem?_map] at hj
  rcases hq : f[j]? with _ | z
  · rw [hq] at hj; cases hj
  · rw [hq] at hj
    have e : Value.int .i64 z = u := by simpa using hj
    have hj5 : j < 5 := by have := (List.getElem?_eq_some_iff.1 hq).1; omega
    rw [Nat.zero_add, h.cell hj5, ← e]
    unfold nth
    rw [List.getD_eq_getElem?_getD, hq]; rfl
/-- what the range keeps -/
structure OrdW (W w : World) (s : Nat) (v : Int) (b r n : Nat) (D : DataW Unit) (F : List (List Int)) (left : Lit → Bool) (cnt : Nat) (gs : List (Option Addr × Nat × Nat)) (zss : List (List Int)) : Prop where
  box : Box2 w W.heap.size (s : Int) v
  rng : w.ranges Try.prog 83 (plainElem Try.prog 2) b r n D left cnt
  inD : ∀ kl, left kl = true → Maps.has D kl = true
  rag : Rag w W.heap.size (some ⟨W.heap.size + 1, 0, none⟩) F.length gs zss
  full : Placed left F zss
  below : Below W.heap.size W w
  rlow : W.heap.size + 1 < r
  row : ∃ cs, w.heap[W.heap.size + 1]? = some (.cells cs 24 (0, 0))
  blow : b < W.heap.size

set_option maxRecDepth 100000 in
set_option maxHeartbeats 4000000 in
theorem inOrder_any (s : Nat) (v : Int) (b n : Nat) (F : List (List Int)) (W : World) (h1 : 1 ≤ s) (h5 : s ≤ 5) (h : FamOf W b n s F) (hF : F.length ≤ 100000) :
    Calls Try.prog 53 #[.agg #[.int .i64 (s : Int), .int .i64 v], .map (some b)] W (GivesRag W F) := by
  obtain ⟨D, hown, hD⟩ := h
  have hlb := hown.lt
  have HD := Lib.hid hD
  have hln := (hown.alloc (.cells #[.int .i64 (s : Int), .int .i64 v] 66)).len Try.underlying70 3
  rw [hD.size] at hln
  have hmk := run_make_row' (P := Try.prog) 31 24 (.slice none 0 0) 24 Try.underlying31 Try.info24' rfl .i64 .i64 F.length (by omega) (by omega)
  have R2' := Rag.fresh (w := W.alloc (.cells #[.int .i64 (s : Int), .int .i64 v] 66)) (n := F.length) (lo := W.heap.size) (by simp)
  rw [World.size_alloc] at R2'
  have R2 := Lib.hid R2'
  have M2 := (hown.alloc (.cells #[.int .i64 (s : Int), .int .i64 v] 66)).alloc (.cells (madeCells #[.slice none 0 0] F.length) 24)
  have X2 := Lib.hid ((Box2.new W (s : Int) v).alloc (.cells (madeCells #[.slice none 0 0] F.length) 24))
  have B2 := Lib.hid ((below_box W (.cells #[.int .i64 (s : Int), .int .i64 v] 66)).alloc (by simp) (.cells (madeCells #[.slice none 0 0] F.length) 24))
  clear R2' hD hown
  go_enter Try.func53, Try.ntmps53
  go_wp2_with (at_range; refine wpList_range_own _ rfl _ 70 rfl 83 2 sk_law Try.underlying70 _ b n D rfl M2 ?_; intro w0 hrg0 hg0 hs0)
  go_frame
  have hz2 : ((W.alloc (.cells #[.int .i64 (s : Int), .int .i64 v] 66)).alloc (.cells (madeCells #[.slice none 0 0] F.length) 24)).heap.size = W.heap.size + 1 + 1 := by simp
  rw [hz2] at hrg0
  have HK : Hid (OrdW W w0 s v b (W.heap.size + 1 + 1) n D F (Maps.has D) (Maps.size D) (List.replicate F.length (none, 0, 0)) (List.replicate F.length [])) := Lib.hid
    ⟨X2.out.grown hg0 (by simp), hrg0, fun _ h => h, R2.out.aside hg0 (fun q e => by cases e), Placed.start HD.out, (B2.out.grown hg0 (by simp; omega) (fun q e => by cases e)), by omega, ⟨_, (hg0.block (W.heap.size + 1) (by rw [hz2]; omega) (by simp)).trans (by
      have := heap_alloc_new (W.alloc (.cells #[.int .i64 (s : Int), .int .i64 v] 66)) (.cells (madeCells #[.slice none 0 0] F.length) 24)
      rw [World.size_alloc] at this; exact this)⟩, hlb⟩
  rw [hz2]
  obtain ⟨i0, hi, hz0, hz1, hz3⟩ := info_parts Try.info2'
  have HI := Lib.hid (And.intro hi (And.intro hz0 (And.intro hz1 hz3)))
  clear hi hz0 hz1 hz3 X2 R2 B2 M2 hrg0 hg0 hs0 hln hmk hz2
  go_loopw [7] (fun _ wr => ∃ left cnt gs zss, Hid (OrdW W wr s v b (W.heap.size + 1 + 1) n D F left cnt gs zss)) (fun _ wr => wr.rangeLeft b (W.heap.size + 1 + 1))
  case atStart => exact ⟨_, _, _, _, HK⟩
  case round =>
    obtain ⟨left, cnt, gs, zss, HO⟩ := hrel
    clear HK
    go_wp2_with (at_next; refine wpList_next_fam _ rfl _ rfl b (W.heap.size + 1 + 1) n s D F left cnt rfl HO.out.rng HD.out HO.out.inD ?_ ?_)
    · intro hl0
      have HR : Hid (Rag wr W.heap.size (some ⟨W.heap.size + 1, 0, none⟩) F.length gs F) := Lib.hid (by have := HO.out.rag; rw [HO.out.full.end_ hl0] at this; exact this)
      go_wp2
      go_ret
      exact ⟨_, _, _, _, rfl, HR.out, Nat.le_refl _, by omega, HO.out.below⟩
    · intro i f w1 cnt1 hf hlf hrg1 hlt1 hg1 hs1 hen
      have HF := Lib.hid hf
      have hfs := HD.out.small f (List.mem_of_getElem? hf)
      have hil : i < F.length := (List.getElem?_eq_some_iff.1 hf).1
      have HS := Lib.hid hfs
      have HG := Lib.hid (And.intro hrg1 (And.intro hlt1 (And.intro hg1 hs1)))
      have s0 : (0 : Int) ≤ (s : Int) := by omega
      have s5 : (s : Int) ≤ 5 := by omega
      have z1 := (HO.out.box.grown hg1 (by have := HO.out.rlow; simp; omega)).cells.1
      have z2 := ((HO.out.box.grown hg1 (by have := HO.out.rlow; simp; omega)).alloc (.cells #[.int .i64 (nth f 0), .int .i64 (nth f 1), .int .i64 (nth f 2), .int .i64 (nth f 3), .int .i64 (nth f 4)] 83)).cells.1
      clear hf hfs hrg1 hlt1 hg1 hs1
      go_wp2_with fail
      refine (Try.slices_Clone i0 _ 1 8 HI.out.1 HI.out.2.1 HI.out.2.2.1 HI.out.2.2.2 rfl (by omega) (fun _ => by kernel_rfl) w1.heap.size 0 s 5 (intsV f) _ (by rw [intsV_len, HS.out.1]; omega) (by unfold maxLen; omega) (by omega) (code_cells (Box5.new w1 f) HS.out.1 h5) (intsV_one f)).mono ?_
      rintro e w2 ⟨v', rfl, O2, _, b2⟩
      obtain ⟨A, c, rfl, O3, hc1, hc2⟩ := rowInts O2 HS.out.1
      have hsz := HO.out.below.size
      have hrl := HO.out.rlow
      have hbl := HO.out.blow
      have hw1 : wr.heap.size = w1.heap.size := HG.out.2.2.2.symm
      have hrr := HO.out.rng.lt
      have G2 : Hid (wr.grownBy w2 (some (W.heap.size + 1 + 1))) := Lib.hid (grown_bel (HG.out.2.2.1.trans (World.grownBy_alloc w1 _ _)) (b2.mono (by simp; omega)))
      obtain ⟨cs, hcs⟩ := HO.out.row
      have hcs2 : w2.heap[W.heap.size + 1]? = some (.cells cs 24 (0, 0)) := (G2.out.block _ (heapLt hcs) (by simp)).trans hcs
      have hmi : ∀ p : Addr, p.block = W.heap.size + 1 + 1 → wr.cell? p = none := by
        obtain ⟨es, clock, since, seen, c0, _, _, _, _, hr, _⟩ := HO.out.rng
        intro p hp
        simp [World.cell?, hp, hr]
      have R1 := Lib.hid (HO.out.rag.miss HG.out.2.2.1 hmi)
      have BW := Lib.hid ((below_box w1 (.cells #[.int .i64 (nth f 0), .int .i64 (nth f 1), .int .i64 (nth f 2), .int .i64 (nth f 3), .int .i64 (nth f 4)] 83)).trans (b2.mono (by simp)))
      have hcell : w2.cell? ⟨W.heap.size + 1, i, none⟩ = some (.slice (gs.getD i (none, 0, 0)).1 (gs.getD i (none, 0, 0)).2.1 (gs.getD i (none, 0, 0)).2.2) := by
        obtain ⟨ad, a, ys, e, _, hlt, hgs, _, hc⟩ := R1.out.at_ hil
        obtain rfl : (⟨W.heap.size + 1, 0, none⟩ : Addr) = ad := by injection e
        have add0 : (⟨W.heap.size + 1, 0, none⟩ : Addr).add i = ⟨W.heap.size + 1, i, none⟩ := by rcases i with _ | i <;> simp [Addr.add]
        rw [add0] at hc
        have e3 : w2.cell? ⟨W.heap.size + 1, i, none⟩ = w1.cell? ⟨W.heap.size + 1, i, none⟩ := BW.out.cell hlt
        rw [e3, hc, List.getD_eq_getElem?_getD, hgs]; rfl
      have hfz := frozen_of_row w2 (W.heap.size + 1) i cs 24 hcs2
      have R3 : Hid (Rag (w2.setCell ⟨W.heap.size + 1, i, none⟩ (.slice A s c)) W.heap.size (some ⟨W.heap.size + 1, 0, none⟩) F.length (gs.set i (A, s, c)) (zss.set i f)) := Lib.hid
        (R1.out.fill (a := (A, s, c)) BW.out hil ⟨_, hcell⟩ HS.out.1 hc1 hc2 (fun hp => by
          obtain ⟨ad, e, _⟩ := O3.2.2 hp
          subst e
          obtain ⟨q1, q2, q3⟩ := Own.self O3 hp
          exact ⟨ad, rfl, q1, by simp at q2; omega⟩))
      have G3 : Hid (wr.grownBy (w2.setCell ⟨W.heap.size + 1, i, none⟩ (.slice A s c)) none ∨ True) := Lib.hid (.inr trivial)
      have gs3 : w2.grownBy (w2.setCell ⟨W.heap.size + 1, i, none⟩ (.slice A s c)) (some (W.heap.size + 1)) := grown_set (p := ⟨W.heap.size + 1, i, none⟩) (World.grownBy.refl w2 _) rfl _
      have HN : Hid (OrdW W (w2.setCell ⟨W.heap.size + 1, i, none⟩ (.slice A s c)) s v b (W.heap.size + 1 + 1) n D F (fun z => left z && !z.sameKey (keyL f)) cnt1 (gs.set i (A, s, c)) (zss.set i f)) := Lib.hid
        ⟨(HO.out.box.grown G2.out (by simp; omega)).grown gs3 (by simp), ((HG.out.1.kept (grown_of BW.out) (by simp) (by simp)).kept gs3 (by simp; omega) (by simp)), fun kl hkl => HO.out.inD kl (by simp at hkl; exact hkl.1), R3.out, HO.out.full.step h5 HD.out HF.out,
          (HO.out.below.grown G2.out hsz (fun q e => by injection e with e; omega)).grown gs3 (by have := G2.out.size; omega) (fun q e => by injection e with e; omega), hrl, ⟨_, heap_setCell_same w2 _ _ _ _ _ hcs2⟩, hbl⟩
      have HLT := Lib.hid HG.out.2.1
      have HRO := Lib.hid HO.out.rng.left_eq
      clear hcs hcs2 R1 R3 G3 gs3 BW hmi HO HG O2 O3 b2 G2 z1 z2
      have HRN := Lib.hid HN.out.rng.left_eq
      go_wp2
      go_roundw
      case rel => exact ⟨_, _, _, _, HN⟩
      case measure => rw [HRN.out, HRO.out]; exact HLT.out

end Go.Proofs.Ytpabccgndhmcdaa

namespace Go.Proofs.Ytpabccgndhmcdaa
open Go.RowKit Go.Maps

/-- all families -/
def famAll (s v d : Int) : List (List Int) := famTo s.toNat v d (powC v s.toNat).toNat
def cfV (s v d : Int) : Int := if sdB s v d then ((famAll s v d).length : Int) else 0
def cfE (s v d : Int) : Int := if sdB s v d then 0 else 2
theorem cf_no {s v d : Int} (h : sdB s v d = false) : cfV s v d = 0 ∧ cfE s v d = 2 := by simp [cfV, cfE, h]
theorem cf_yes {s v d : Int} (h : sdB s v d = true) : cfV s v d = ((famAll s v d).length : Int) ∧ cfE s v d = 0 := by simp [cfV, cfE, h]
theorem FamOf.len {w : World} {b n s : Nat} {F : List (List Int)} (h : FamOf w b n s F) (ty : TypeId) : (Builtin.len_ #[70] ty #[.map (some b)]).run Try.prog w = .ok (.int .i64 (F.length : Int)) w := by
  obtain ⟨D, hown, hD⟩ := h
  have := hown.len Try.underlying70 ty
  rwa [hD.size] at this
theorem all_take (s : Nat) (v d : Int) (n : Nat) : (famTo s v d n).take n = famTo s v d n := List.take_of_length_le (fam_count s v d n)
theorem families_at (s : Nat) (si v d mi : Int) (most : Nat) (W : World) (hsi : si = (s : Int)) (hmi : mi = (most : Int)) (hs : sdB (s : Int) v d = true) (hm : most ≤ 100000) :
    Calls Try.prog 54 #[.agg #[.int .i64 si, .int .i64 v], .int .i64 d, .int .i64 mi] W
      fun e w' => e = .returned (.map (some (W.heap.size + 1))) ∧ FamOf w' (W.heap.size + 1) 100000 s ((famTo s v d (powC v s).toNat).take most) ∧ Below W.heap.size W w' := by
  subst hsi; subst hmi; exact families_any s v d most W hs hm
theorem inOrder_at (s : Nat) (si v : Int) (b n : Nat) (F : List (List Int)) (W : World) (hsi : si = (s : Int)) (h1 : 1 ≤ s) (h5 : s ≤ 5) (h : FamOf W b n s F) (hF : F.length ≤ 100000) :
    Calls Try.prog 53 #[.agg #[.int .i64 si, .int .i64 v], .map (some b)] W (GivesRag W F) := by
  subst hsi; exact inOrder_any s v b n F W h1 h5 h hF
theorem Box2.drewN {w : World} {g : Nat} {s v : Int} (h : Box2 w g s v) (k : Nat) : Box2 (w.drewN k) g s v := h

set_option maxRecDepth 100000 in
set_option maxHeartbeats 4000000 in
theorem countFamilies_any (s v d : Int) (w : World) :
    Calls Try.prog 20 #[.int .i64 s, .int .i64 v, .int .i64 d] w fun e w' => e = .returned (.tuple #[.int .i64 (cfV s v d), .int .i64 (cfE s v d)]) ∧ Below w.heap.size w w' := by
  have b := below_box w (.cells #[.int .i64 s, .int .i64 v] 66)
  have x0 := Box2.new w s v
  rcases hs : sdB s v d with _ | _
  · rw [(cf_no hs).1, (cf_no hs).2]
    go_enter Try.func20, Try.ntmps20
    go_wp2_with fail
    refine (hasDistance_any s v d _).mono ?_
    rw [hs]
    rintro e w1 ⟨rfl, b1⟩
    have b2 := below_trans' b b1
    clear b b1 x0
    go_wp2
    go_ret2
    exact ⟨rfl, b2⟩
  · rw [(cf_yes hs).1, (cf_yes hs).2]
    obtain ⟨hy, d0, d1⟩ := sd_true hs
    obtain ⟨s0, s1, v0, v1⟩ := sys_true hy
    have HS := Lib.hid hs
    have HY := Lib.hid hy
    have HP := Lib.hid (pow_small (k := s.toNat) v0 v1 (by omega))
    have HSI : Hid (s = ((s.toNat : Nat) : Int)) := Lib.hid (by omega)
    have HSS : Hid (sdB ((s.toNat : Nat) : Int) v d = true) := Lib.hid (by rw [← HSI.out]; exact hs)
    clear hs hy
    go_enter Try.func20, Try.ntmps20
    go_wp2_with fail
    refine (hasDistance_any s v d _).mono ?_
    rw [HS.out]
    rintro e w1 ⟨rfl, b1⟩
    have K1 := Lib.hid (x0.on b1)
    have C1 := Lib.hid (below_trans' b b1)
    clear b b1 x0
    obtain ⟨q0, q1⟩ := K1.out.cells
    go_wp2
    go_region_with (first
      | (go_at_call 55; refine (count_any s v _ HY.out).mono ?_; rintro e w2 ⟨rfl, b2⟩; have K2 := Lib.hid ((K1.out.drewN 1).on b2); have C2 := Lib.hid (below_trans' (below_drewN C1.out 1) b2); obtain ⟨p0, p1⟩ := K2.out.cells)
      | (go_at_call 54; refine (families_at s.toNat _ v d _ (powC v s.toNat).toNat _ HSI.out (by have := HP.out; omega) HSS.out (by have := HP.out; omega)).mono ?_; rintro e w3 ⟨rfl, F3, b3⟩; have C3 := Lib.hid (below_trans' C2.out b3); have hl3 := F3.len 3))
    all_goals
      clear q0 q1 p0 p1 K1 K2 hl3 F3 b2 b3 C2
      have HE : Hid (((min (powC v s.toNat).toNat (famTo s.toNat v d (powC v s.toNat).toNat).length : Nat) : Int) = ((famAll s v d).length : Int)) := Lib.hid (by
        rw [Nat.min_eq_right (fam_count _ _ _ _)]; rfl)
      go_wp2
      go_ret2
      exact ⟨ret_int2 HE.out rfl, C3.out⟩

def foOk (s v d m : Int) : Bool := sdB s v d && inB m 0 60
def foL (s v d m : Int) : List (List Int) := if foOk s v d m then (famAll s v d).take m.toNat else []
def foE (s v d m : Int) : Int := if foOk s v d m then 0 else 2
theorem fo_no {s v d m : Int} (h : foOk s v d m = false) : foL s v d m = [] ∧ foE s v d m = 2 := by simp [foL, foE, h]
theorem fo_yes {s v d m : Int} (h : foOk s v d m = true) : foL s v d m = (famAll s v d).take m.toNat ∧ foE s v d m = 0 := by simp [foL, foE, h]

set_option maxRecDepth 100000 in
set_option maxHeartbeats 4000000 in
theorem familiesOf_any (s v d m : Int) (w : World) :
    Calls Try.prog 18 #[.int .i64 s, .int .i64 v, .int .i64 d, .int .i64 m] w (GivesRagE w (foE s v d m) (foL s v d m)) := by
  have b := below_box w (.cells #[.int .i64 s, .int .i64 v] 66)
  have x0 := Box2.new w s v
  rcases hs : sdB s v d with _ | _
  · rw [(fo_no (m := m) (by simp [foOk, hs])).1, (fo_no (m := m) (by simp [foOk, hs])).2]
    go_enter Try.func18, Try.ntmps18
    go_wp2_with fail
    refine (hasDistance_any s v d _).mono ?_
    rw [hs]
    rintro e w1 ⟨rfl, b1⟩
    have b2 := below_trans' b b1
    clear b b1 x0
    go_wp2
    go_ret2
    exact ⟨none, 0, 0, [], rfl, Rag.nil _ b2.size, Nat.le_refl _, by omega, b2⟩
  have HS := Lib.hid hs
  rcases hm : inB m 0 60 with _ | _
  · rw [(fo_no (m := m) (by simp [foOk, hm])).1, (fo_no (m := m) (by simp [foOk, hm])).2]
    clear hs
    go_enter Try.func18, Try.ntmps18
    go_wp2_with fail
    refine (hasDistance_any s v d _).mono ?_
    rw [HS.out]
    rintro e w1 ⟨rfl, b1⟩
    have b2 := below_trans' b b1
    clear b b1 x0
    go_wp2_with (go_at_call 62; refine (isWithin_at _ _ _ _ _ hm).mono ?_; rintro e w' ⟨rfl, rfl⟩)
    go_ret2
    exact ⟨none, 0, 0, [], rfl, Rag.nil _ b2.size, Nat.le_refl _, by omega, b2⟩
  · rw [(fo_yes (m := m) (by simp [foOk, hm, hs])).1, (fo_yes (m := m) (by simp [foOk, hm, hs])).2]
    obtain ⟨hy, d0, d1⟩ := sd_true hs
    obtain ⟨s0, s1, v0, v1⟩ := sys_true hy
    have hm0 := (inB_true.1 hm).1
    have hm1 := (inB_true.1 hm).2
    have HSI : Hid (s = ((s.toNat : Nat) : Int)) := Lib.hid (by omega)
    have HMI : Hid (m = ((m.toNat : Nat) : Int)) := Lib.hid (by omega)
    have HSS : Hid (sdB ((s.toNat : Nat) : Int) v d = true) := Lib.hid (by rw [← HSI.out]; exact hs)
    clear hs hy
    go_enter Try.func18, Try.ntmps18
    go_wp2_with fail
    refine (hasDistance_any s v d _).mono ?_
    rw [HS.out]
    rintro e w1 ⟨rfl, b1⟩
    have K1 := Lib.hid (x0.on b1)
    have C1 := Lib.hid (below_trans' b b1)
    clear b b1 x0
    obtain ⟨q0, q1⟩ := K1.out.cells
    go_wp2_with (go_at_call 62; refine (isWithin_at _ _ _ _ _ hm).mono ?_; rintro e w' ⟨rfl, rfl⟩)
    go_region_held3 (fun w' => w'.cell? ⟨w.heap.size, 0, none⟩ = some (.int .i64 s) ∧ w'.cell? ⟨w.heap.size, 1, none⟩ = some (.int .i64 v))
      (first
        | go_keep
        | with_reducible exact K2.out.cells
        | with_reducible exact K3.out.cells)
      (first
        | (go_at_call 54; refine (families_at s.toNat _ v d _ m.toNat _ HSI.out HMI.out HSS.out (by omega)).mono ?_; rintro e w2 ⟨rfl, F2, b2⟩; have K2 := Lib.hid ((K1.out.drewN 1).on b2); have C2 := Lib.hid (below_trans' (below_drewN C1.out 1) b2))
        | (go_at_call 53; refine (inOrder_at s.toNat _ v _ _ _ _ HSI.out (by omega) (by omega) F2 (by rw [List.length_take]; omega)).mono ?_; rintro e w3 ⟨V3, n3, c3, gs3, rfl, R3, z3, y3, b3⟩; have K3 := Lib.hid (K2.out.on b3); have C3 := Lib.hid (below_trans' C2.out b3)))
    all_goals
      have HR := Lib.hid (R3.more C2.out.size)
      clear q0 q1 K1 K2 K3 F2 b2 b3 R3
      go_wp2
      go_ret2
      exact ⟨_, _, _, _, rfl, HR.out, z3, y3, C3.out⟩

end Go.Proofs.Ytpabccgndhmcdaa
