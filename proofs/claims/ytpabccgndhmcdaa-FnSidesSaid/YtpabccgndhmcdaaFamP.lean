/- The program's families: a map of side codes to their numbers; contract of the function that fills it. -/
import Derived.Test.YtpabccgndhmcdaaOdo
import Derived.Test.YtpabccgndhmcdaaNearP
namespace Go.Proofs.Ytpabccgndhmcdaa
open Go.RowKit Go.Maps

theorem has_put_back {D : DataW Unit} {k k' : Lit} {d : DataW Unit} (h : Maps.has (D.put k d) k' = true) : Maps.has D k' = true ∨ k' = k := by
  by_cases e : k' = k
  · exact .inr e
  · rw [has_put_other e] at h
    exact .inl h
theorem has_put_keep {D : DataW Unit} (hD : IsMap D) {k k' : Lit} (hk : WideAt.IsKeyLit k) {d : DataW Unit} (h : Maps.has D k' = true ∨ k' = k) : Maps.has (D.put k d) k' = true := by
  by_cases e : k' = k
  · subst e
    exact has_put_same hD hk d
  · rw [has_put_other e]
    exact h.resolve_right e

/-- the map D holds just the families F, each with its place -/
structure FamIs (s : Nat) (D : DataW Unit) (F : List (List Int)) : Prop where
  tidy : Tidy D
  size : Maps.size D = F.length
  small : ∀ f ∈ F, Sc s f
  at_ : ∀ (i : Nat) (f : List Int), F[i]? = some f → ∀ z, D.atKey (keyL f) z = .lit (.int .i64 (i : Int))
  has : ∀ f ∈ F, Maps.has D (keyL f) = true
  key : ∀ kl, Maps.has D kl = true → ∃ f ∈ F, kl = keyL f
theorem FamIs.nil (s : Nat) : FamIs s (.map []) [] :=
  ⟨tidy_empty, rfl, fun f h => by simp at h, fun i f h => by simp at h, fun f h => by simp at h, fun kl h => by simp [Maps.has] at h⟩
theorem FamIs.push {s : Nat} {D : DataW Unit} {F : List (List Int)} {f : List Int} (h : FamIs s D F) (hs : s ≤ 5) (hf : Sc s f) (hn : f ∉ F) : FamIs s (D.put (keyL f) (.lit (.int .i64 (F.length : Int)))) (F ++ [f]) := by
  have hk := keyL_key hf.2
  have hno : Maps.has D (keyL f) = false := by
    rcases hq : Maps.has D (keyL f) with _ | _
    · rfl
    · obtain ⟨g, hg, e⟩ := h.key _ hq
      exact absurd (keyL_inj hs hf (h.small g hg) e ▸ hg) hn
  refine ⟨h.tidy.put hk _, ?_, ?_, ?_, ?_, ?_⟩
  · rw [size_put h.tidy, hno, h.size, List.length_append]; rfl
  · intro g hg
    rcases List.mem_append.1 hg with hg | hg
    · exact h.small g hg
    · obtain rfl : g = f := by simpa using hg
      exact hf
  · intro i g hg z
    rcases Nat.lt_or_ge i F.length with hi | hi
    · rw [List.getElem?_append_left hi] at hg
      have hm := List.mem_of_getElem? hg
      rw [atKey_put_other (fun e => hn (keyL_inj hs (h.small g hm) hf e ▸ hm))]
      exact h.at_ i g hg z
    · have hi' : i = F.length := by
        have := (List.getElem?_eq_some_iff.1 hg).1
        rw [List.length_append] at this
        simp at this
        omega
      subst hi'
      rw [List.getElem?_append_right (Nat.le_refl _), Nat.sub_self] at hg
      obtain rfl : f = g := by simpa using hg
      exact atKey_put_same h.tidy.isMap hk _ z
  · intro g hg
    refine has_put_keep h.tidy.isMap hk ?_
    rcases List.mem_append.1 hg with hg | hg
    · exact .inl (h.has g hg)
    · obtain rfl : g = f := by simpa using hg
      exact .inr rfl
  · intro kl hkl
    rcases has_put_back hkl with hq | hq
    · obtain ⟨g, hg, e⟩ := h.key kl hq
      exact ⟨g, by simp [hg], e⟩
    · exact ⟨f, by simp, hq⟩
theorem fam_small {s : Nat} {v d : Int} {k : Nat} {f : List Int} (hv : 2 ≤ v) (hv5 : v ≤ 5) (h : f ∈ famTo s v d k) : Sc s f := by
  obtain ⟨j, _, rfl⟩ := fam_mem h
  exact codeN_small j hv hv5
theorem far_new {s : Nat} {v d : Int} {k : Nat} (hd : 1 ≤ d) (h : farB d (famTo s v d k) (codeN s v k) = true) : codeN s v k ∉ famTo s v d k := by
  intro hm
  unfold farB at h
  have := List.all_eq_true.1 h _ hm
  simp only [decide_eq_true_eq] at this
  rw [show diffI (codeN s v k) (codeN s v k) = 0 from diffTo_self _ _] at this
  omega

/-- block b of w is a map of the families F to their places -/
def FamOf (w : World) (b n s : Nat) (F : List (List Int)) : Prop := ∃ D : DataW Unit, w.ownsMap Try.prog 83 (plainElem Try.prog 2) b n D ∧ FamIs s D F
theorem FamOf.kept {w w' : World} {b n s : Nat} {F : List (List Int)} {row : Option Nat} (h : FamOf w b n s F) (hg : w.grownBy w' row) (hr : some b ≠ row) : FamOf w' b n s F := by
  obtain ⟨D, h, k⟩ := h
  exact ⟨D, h.kept hg hr, k⟩
theorem FamOf.mono {w : World} {b n n' s : Nat} {F : List (List Int)} (h : FamOf w b n s F) (hn : n ≤ n') : FamOf w b n' s F := by
  obtain ⟨D, h, k⟩ := h
  exact ⟨D, h.mono hn, k⟩
theorem grown_of {w w' : World} (h : Below w.heap.size w w') : w.grownBy w' none := ⟨h.os, h.tape, h.output, h.size, fun i hi _ => h.block i hi⟩

/-- what the loop over all codes keeps -/
structure FamW (W w : World) (s : Nat) (v d : Int) (j k g hi gn gb : Nat) : Prop where
  box : Box2 w W.heap.size (s : Int) v
  fam : FamOf w (W.heap.size + 1) j s (famTo s v d j)
  near : NearOf w (W.heap.size + 1 + 1) (7776 * j) s (nearP s v d (famTo s v d j))
  code : Box5 w g (curC s v k)
  odo : Odo w (W.heap.size + 1 + 1 + 1) hi gn gb s v (k + 1)
  low : hi ≤ g
  below : Below W.heap.size W w

def numAt (w : World) (g : Nat) : Int := intOf ((w.cell? ⟨g, 0, none⟩).getD undef)
theorem FamW.num {W w : World} {s j k g hi gn gb : Nat} {v d : Int} (h : FamW W w s v d j k g hi gn gb) : numAt w gn = (k : Int) + 1 := by
  unfold numAt
  rw [cell_of_one h.odo.num]
  simp [intOf]
theorem FamW.start {W w1 w2 : World} {s gn gb : Nat} {v d : Int} (O : Odo w2 (W.heap.size + 1 + 1 + 1) w1.heap.size gn gb s v 1) (B1 : Below (W.heap.size + 1 + 1 + 1) (((W.alloc (.cells #[.int .i64 (s : Int), .int .i64 v] 66)).alloc (.map #[] 0)).alloc (.map #[] 0)) w1) (G : w1.grownBy w2 (some gn)) :
    FamW W (w2.alloc (.cells #[.int .i64 (nth (curC s v 0) 0), .int .i64 (nth (curC s v 0) 1), .int .i64 (nth (curC s v 0) 2), .int .i64 (nth (curC s v 0) 3), .int .i64 (nth (curC s v 0) 4)] 83)) s v d 0 0 w2.heap.size w1.heap.size gn gb := by
  have hz : (((W.alloc (.cells #[.int .i64 (s : Int), .int .i64 v] 66)).alloc (.map #[] 0)).alloc (.map #[] 0)).heap.size = W.heap.size + 1 + 1 + 1 := by simp
  have g1 : (((W.alloc (.cells #[.int .i64 (s : Int), .int .i64 v] 66)).alloc (.map #[] 0)).alloc (.map #[] 0)).grownBy w1 none := grown_of (by rw [hz]; exact B1)
  have hb1 := B1.size
  rw [hz] at hb1
  have hgn := O.lon
  have hb2 := G.size
  have m1 := (World.ownsMap_made (H := Unit) (W.alloc (.cells #[.int .i64 (s : Int), .int .i64 v] 66)) Try.prog 83 (plainElem Try.prog 2)).alloc (.map #[] 0)
  have m2 := World.ownsMap_made (H := Unit) ((W.alloc (.cells #[.int .i64 (s : Int), .int .i64 v] 66)).alloc (.map #[] 0)) Try.prog 83 (plainElem Try.prog 4)
  rw [World.size_alloc] at m1
  rw [World.size_alloc, World.size_alloc] at m2
  have x0 := ((Box2.new W (s : Int) v).alloc (.map #[] 0)).alloc (.map #[] 0)
  refine ⟨((x0.grown g1 (by simp)).grown G (by simp; omega)).alloc _, ?_, ?_, Box5.new w2 _, ?_, hb2, ?_⟩
  · exact ⟨_, ((m1.kept g1 (by simp)).kept G (by simp; omega)).alloc _, FamIs.nil s⟩
  · refine NearOf.alloc (NearOf.mono ?_ (Nat.zero_le _)) _
    exact ⟨_, (m2.kept g1 (by simp)).kept G (by simp; omega), NearIs.none s⟩
  · exact O.on (below_box _ _)
  · have b0 := ((below_box W (.cells #[.int .i64 (s : Int), .int .i64 v] 66)).alloc (by simp) (.map #[] 0)).alloc (by simp; omega) (.map #[] 0)
    have b1 := b0.trans (B1.mono (by omega))
    exact (b1.grown G b1.size (fun q e => by injection e with e; omega)).alloc (by omega) _

theorem FamW.pass {W w : World} {s k g hi gn gb : Nat} {v d : Int} (h : FamW W w s v d k k g hi gn gb) (hf : farB d (famTo s v d k) (codeN s v k) = false) : FamW W w s v d (k + 1) k g hi gn gb := by
  refine ⟨h.box, ?_, ?_, h.code, h.odo, h.low, h.below⟩
  · rw [fam_not hf]; exact h.fam.mono (by omega)
  · rw [fam_not hf]; exact h.near.mono (by omega)
theorem FamW.taken {W w w1 w2 : World} {s k g hi gn gb : Nat} {v d : Int} (h : FamW W w s v d k k g hi gn gb) (hf : farB d (famTo s v d k) (codeN s v k) = true)
    (h1 : FamOf w1 (W.heap.size + 1) (k + 1) s (famTo s v d k ++ [codeN s v k])) (g1 : w.grownBy w1 (some (W.heap.size + 1)))
    (h2 : NearOf w2 (W.heap.size + 1 + 1) (7776 * (k + 1)) s (nearP s v d (famTo s v d k ++ [codeN s v k]))) (g2 : w1.grownBy w2 (some (W.heap.size + 1 + 1))) : FamW W w2 s v d (k + 1) k g hi gn gb := by
  have hlo := h.odo.lon
  have hhi := h.odo.hin
  have hg := h.low
  have hb := h.below.size
  refine ⟨(h.box.grown g1 (by simp)).grown g2 (by simp; omega), ?_, ?_, (h.code.grown g1 (by simp; omega)).grown g2 (by simp; omega), (h.odo.grown g1 (fun q e => by injection e with e; omega)).grown g2 (fun q e => by injection e with e; omega), h.low, ?_⟩
  · rw [fam_yes hf]; exact h1.kept g2 (by simp)
  · rw [fam_yes hf]; exact h2
  · exact (h.below.grown g1 hb (fun q e => by injection e with e; omega)).grown g2 (by have := g1.size; omega) (fun q e => by injection e with e; omega)
theorem FamW.copied {W w : World} {s j k g hi gn gb : Nat} {v d : Int} (h : FamW W w s v d j k g hi gn gb) :
    FamW W (w.alloc (.cells #[.int .i64 (nth (curC s v k) 0), .int .i64 (nth (curC s v k) 1), .int .i64 (nth (curC s v k) 2), .int .i64 (nth (curC s v k) 3), .int .i64 (nth (curC s v k) 4)] 83)) s v d j k w.heap.size hi gn gb := by
  have g1 := World.grownBy_alloc w (.cells #[.int .i64 (nth (curC s v k) 0), .int .i64 (nth (curC s v k) 1), .int .i64 (nth (curC s v k) 2), .int .i64 (nth (curC s v k) 3), .int .i64 (nth (curC s v k) 4)] 83) none
  exact ⟨h.box.alloc _, h.fam.kept g1 (by simp), h.near.kept g1 (by simp), Box5.new w _, h.odo.on (below_box _ _), by have := h.code.lt; have := h.low; omega, h.below.alloc h.below.size _⟩
theorem FamW.turn {W w w2 : World} {s j k g hi gn gb : Nat} {v d : Int} (h : FamW W w s v d j k g hi gn gb) (O : Odo w2 (W.heap.size + 1 + 1 + 1) hi gn gb s v (k + 1 + 1)) (G : w.grownBy w2 (some gn)) :
    FamW W (putS w2 g (curC s v (k + 1))) s v d j (k + 1) g hi gn gb := by
  have hlo := h.odo.lon
  have hhi := h.odo.hin
  have hg := h.low
  have hgl := h.code.lt
  have hb := h.below.size
  have x5 := h.code.grown G (by simp; omega)
  have hf : FamOf w2 (W.heap.size + 1) j s (famTo s v d j) := h.fam.kept G (by simp; omega)
  have hn : NearOf w2 (W.heap.size + 1 + 1) (7776 * j) s (nearP s v d (famTo s v d j)) := h.near.kept G (by simp; omega)
  have hx := h.box.grown G (by simp; omega)
  have gp : w2.grownBy (putS w2 g (curC s v (k + 1))) (some g) :=
    (grown_set (p := ⟨g, 4, none⟩) (grown_set (p := ⟨g, 3, none⟩) (grown_set (p := ⟨g, 2, none⟩) (grown_set (p := ⟨g, 1, none⟩) (grown_set (p := ⟨g, 0, none⟩) (World.grownBy.refl w2 (some g)) rfl _) rfl _) rfl _) rfl _) rfl _)
  have hbb := h.below.grown G hb (fun q e => by injection e with e; omega)
  exact ⟨hx.grown gp (by simp; omega), hf.kept gp (by simp; omega), hn.kept gp (by simp; omega), x5.put _, O.grown gp (fun q e => by injection e with e; omega), h.low, hbb.grown gp hbb.size (fun q e => by injection e with e; omega)⟩

/-- a look-up in a set of side codes, at the operation -/
theorem wpList_lookup_near (w : World) {ops : Array Oper} {rest : List Oper} {o : Oper} {a : Act} {Q : Exit → Act → World → Prop}
    (hg : o.guard = none) (m x : Operand) (hop : o.op = Op.lookup 84 m x false) (b n s : Nat) (P : List Int → Bool) (hm : a.eval m = .map (some b)) (h : NearOf w b n s P)
    (xs : List Int) (hx : a.eval x = .agg #[.int .i64 (nth xs 0), .int .i64 (nth xs 1), .int .i64 (nth xs 2), .int .i64 (nth xs 3), .int .i64 (nth xs 4)]) (hxs : Sc s xs) (q : Bool) (hq : P xs = q)
    (hK : wpList Try.prog ops Q rest (a.put o.dst (.bool q)) w) : wpList Try.prog ops Q (o :: rest) a w := by
  obtain ⟨D, hown, hD⟩ := h
  refine wpList_lookup_own_bool w hg m x _ hop 83 4 sk_law Try.underlying84 Try.underlying4 (zero_bool _) b n D hm hown _ _ hx (keyL_is hxs.2) ?_
  intro c hc
  rw [hD xs hxs, hq] at hc
  have : q = c := by simpa using hc
  subst this
  exact hK
/-- a family is stored, at the operation -/
theorem wpList_store_fam (w : World) {ops : Array Oper} {rest : List Oper} {o : Oper} {a : Act} {Q : Exit → Act → World → Prop}
    (hg : o.guard = none) (m x u : Operand) (hop : o.op = Op.mapUpdate 70 m x u) (b n s : Nat) (F : List (List Int)) (hm : a.eval m = .map (some b)) (h : FamOf w b n s F) (hn : n ≤ 100000)
    (xs : List Int) (hx : a.eval x = .agg #[.int .i64 (nth xs 0), .int .i64 (nth xs 1), .int .i64 (nth xs 2), .int .i64 (nth xs 3), .int .i64 (nth xs 4)]) (hxs : Sc s xs) (hs : s ≤ 5) (hnew : xs ∉ F) (hu : a.eval u = .int .i64 (F.length : Int)) (hF : F.length ≤ 100000)
    (hK : ∀ w', FamOf w' b (n + 1) s (F ++ [xs]) → w.grownBy w' (some b) → wpList Try.prog ops Q rest (a.put o.dst undef) w') : wpList Try.prog ops Q (o :: rest) a w := by
  obtain ⟨D, hown, hD⟩ := h
  have hw : (Lit.int .i64 (F.length : Int)).wf = true := WalkArith.wf_i64 (by omega)
  refine wpList_mapUpdate_own w hg m x u _ hop 83 2 sk_law Try.underlying70 _ b n D hm hown (by unfold maxLen; omega) _ _ _ hx hu (keyL_is hxs.2) _ [] (plainElem_int Try.underlying2 hw) ?_
  intro w' hown' hgrow
  exact hK w' ⟨_, hown', hD.push hs hxs hnew⟩ hgrow

set_option maxRecDepth 100000 in
set_option maxHeartbeats 4000000 in
theorem families_any (s : Nat) (v d : Int) (most : Nat) (W : World) (hs : sdB (s : Int) v d = true) (hm : most ≤ 100000) :
    Calls Try.prog 54 #[.agg #[.int .i64 (s : Int), .int .i64 v], .int .i64 d, .int .i64 (most : Int)] W
      fun e w' => e = .returned (.map (some (W.heap.size + 1))) ∧ FamOf w' (W.heap.size + 1) 100000 s ((famTo s v d (powC v s).toNat).take most) ∧ Below W.heap.size W w' := by
  obtain ⟨hy, d0, d1⟩ := sd_true hs
  obtain ⟨s0, s1, v0, v1⟩ := sys_true hy
  have HP := Lib.hid (pow_small (k := s) v0 v1 (by omega))
  have hmm := @run_makeMap Try.prog
  have HY := Lib.hid hy
  clear hy hs
  go_enter Try.func54, Try.ntmps54
  go_wp2_with fail
  refine (odometer_any s v _ (by omega) (by omega)).mono ?_
  rintro e w1 ⟨gn, gb, rfl, O1', b1'⟩
  have hz : (((W.alloc (.cells #[.int .i64 (s : Int), .int .i64 v] 66)).alloc (.map #[] 0)).alloc (.map #[] 0)).heap.size = W.heap.size + 1 + 1 + 1 := by simp
  rw [hz] at O1' b1'
  have O1 := Lib.hid O1'
  have B1 := Lib.hid b1'
  clear O1' b1' hz hmm
  go_wp2_with fail
  refine (next_any s v _ _ gn gb 0 _ HY.out (by omega) O1.out).mono ?_
  rintro e w2 ⟨rfl, O2, g2⟩
  have HF := Lib.hid (FamW.start (d := d) O2 B1.out g2)
  clear O1 B1 O2 g2
  go_wp2
  go_loopw [10, 11] (fun p q wr => ∃ k g : Nat, p = .pointer (some ⟨g, 0, none⟩) ∧ q = .bool (decide ((k : Int) < powC v s)) ∧ (k : Int) ≤ powC v s ∧ Hid (FamW W wr s v d k k g w1.heap.size gn gb) ∧ Hid ((famTo s v d k).length ≤ most)) (fun _ _ wr => (5000 - numAt wr gn).toNat)
  case atStart => exact ⟨0, w2.heap.size, rfl, rfl, by have := HP.out; omega, HF, Lib.hid (by simp [famTo])⟩
  case round =>
    obtain ⟨k, g, rfl, rfl, hk, HK, HLE⟩ := hrel
    clear HF
    obtain ⟨DF, mF, iF⟩ := HK.out.fam
    have hln := mF.len Try.underlying70 3
    rw [iF.size] at hln
    clear mF iF
    by_cases hlt : (k : Int) < powC v s
    · by_cases hmo : (famTo s v d k).length < most
      · have hmi : ((famTo s v d k).length : Int) < (most : Int) := by omega
        have HN := Lib.hid HK.out.num
        have hk3 : k ≤ 3125 := by have := HP.out; omega
        have HC : Hid (curC s v k = codeN s v k) := Lib.hid (cur_yes hlt)
        have HS : Hid (Sc s (curC s v k)) := Lib.hid (by rw [HC.out]; exact codeN_small (s := s) k v0 v1)
        obtain ⟨y0, y1, y2, y3, y4⟩ := HK.out.code.cells
        obtain ⟨z0, z1⟩ := HK.out.box.cells
        rcases hfar : farB d (famTo s v d k) (codeN s v k) with _ | _
        · have HQ : Hid (nearP s v d (famTo s v d k) (curC s v k) = true) := Lib.hid (by rw [HC.out, near_far k v0, hfar]; rfl)
          have HX := Lib.hid (HK.out.pass hfar)
          have HL2 : Hid ((famTo s v d (k + 1)).length ≤ most) := Lib.hid (by rw [fam_not hfar]; exact HLE.out)
          have HM := Lib.hid HK.out.num
          clear hmo
          go_wp2_with (at_lookup; refine wpList_lookup_near _ rfl _ _ rfl _ _ s _ rfl HK.out.near (curC s v k) rfl HS.out true HQ.out ?_)
          clear y0 y1 y2 y3 y4 z0 z1 hln
          have HX2 := Lib.hid HX.out.copied
          clear HX
          refine (next_any s v _ _ gn gb (k + 1) _ HY.out (by omega) HX2.out.odo).mono ?_
          rintro e w7 ⟨rfl, O7, g7⟩
          have HT := Lib.hid (HX2.out.turn O7 g7)
          have X7 := Lib.hid (HX2.out.code.grown g7 (by have h1 := HX2.out.odo.hin; have h2 := HX2.out.low; simp; omega))
          clear HX2 O7 g7 HK HN HS HC HQ
          obtain ⟨x0, x1, x2, x3, x4⟩ := X7.out.cells
          have t0 := X7.out.thawed 0
          have t1 := X7.out.thawed 1
          have t2 := X7.out.thawed 2
          have t3 := X7.out.thawed 3
          have t4 := X7.out.thawed 4
          go_wp2
          clear x0 x1 x2 x3 x4 t0 t1 t2 t3 t4
          have HU := HT.out
          unfold putS at HU
          have HV := Lib.hid HU
          clear HU HT X7
          go_roundw
          case rel => exact ⟨k + 1, _, rfl, by simp, by omega, HV, HL2⟩
          case measure => rw [HV.out.num, HM.out]; omega
        · have HQ : Hid (nearP s v d (famTo s v d k) (curC s v k) = false) := Lib.hid (by rw [HC.out, near_far k v0, hfar]; rfl)
          have HNW : Hid (curC s v k ∉ famTo s v d k) := Lib.hid (by rw [HC.out]; exact far_new d0 hfar)
          have HAL : Hid (allIn 0 (v - 1) (curC s v k) = true) := Lib.hid (by rw [HC.out]; exact codeN_in k v0)
          have HL2 : Hid ((famTo s v d (k + 1)).length ≤ most) := Lib.hid (by rw [fam_yes hfar, List.length_append]; simp; omega)
          have HM := Lib.hid HK.out.num
          have hct : (famTo s v d k).length ≤ 100000 := by omega
          have H6 : Hid (6 ^ s ≤ 7776) := Lib.hid (by
            have : s = 1 ∨ s = 2 ∨ s = 3 ∨ s = 4 ∨ s = 5 := by omega
            rcases this with rfl | rfl | rfl | rfl | rfl <;> decide)
          clear hmo
          go_wp2_with (first | (at_lookup; refine wpList_lookup_near _ rfl _ _ rfl _ _ s _ rfl HK.out.near (curC s v k) rfl HS.out false HQ.out ?_) | (at_mapUpdate; refine wpList_store_fam _ rfl _ _ _ rfl _ _ s (famTo s v d k) rfl HK.out.fam (by omega) (curC s v k) rfl HS.out (by omega) HNW.out rfl hct ?_; intro w5 h5 g5; obtain ⟨z0', z1'⟩ := (HK.out.box.grown g5 (by simp)).cells; obtain ⟨y0', y1', y2', y3', y4'⟩ := (HK.out.code.grown g5 (by have h1 := HK.out.odo.lon; have h2 := HK.out.odo.hin; have h3 := HK.out.low; simp; omega)).cells))
          refine (addNear_any s v HY.out s (curC s v k) 0 _ _ _ (7776 * k) _ _ (by simp) (by omega) HS.out.1 HAL.out (by omega) (by omega) (HK.out.near.kept g5 (by simp)) (by have := H6.out; omega)).mono ?_
          rintro e w6 ⟨rfl, N6, g6⟩
          have HX := Lib.hid (HK.out.taken hfar (HC.out ▸ h5) g5 ((N6.mono (by have := H6.out; omega)).same fun ys hy => by rw [near_more, reach_zero, HC.out]) g6)
          clear h5 g5 N6 g6 z0' z1' y0' y1' y2' y3' y4' y0 y1 y2 y3 y4 z0 z1 HNW HAL H6 hln
          obtain ⟨y0, y1, y2, y3, y4⟩ := HX.out.code.cells
          go_wp2_with fail
          clear y0 y1 y2 y3 y4
          have HX2 := Lib.hid HX.out.copied
          clear HX
          refine (next_any s v _ _ gn gb (k + 1) _ HY.out (by omega) HX2.out.odo).mono ?_
          rintro e w7 ⟨rfl, O7, g7⟩
          have HT := Lib.hid (HX2.out.turn O7 g7)
          have X7 := Lib.hid (HX2.out.code.grown g7 (by have h1 := HX2.out.odo.hin; have h2 := HX2.out.low; simp; omega))
          clear HX2 O7 g7 HK HN HS HC HQ
          obtain ⟨x0, x1, x2, x3, x4⟩ := X7.out.cells
          have t0 := X7.out.thawed 0
          have t1 := X7.out.thawed 1
          have t2 := X7.out.thawed 2
          have t3 := X7.out.thawed 3
          have t4 := X7.out.thawed 4
          go_wp2
          clear x0 x1 x2 x3 x4 t0 t1 t2 t3 t4
          have HU := HT.out
          unfold putS at HU
          have HV := Lib.hid HU
          clear HU HT X7
          go_roundw
          case rel => exact ⟨k + 1, _, rfl, by simp, by omega, HV, HL2⟩
          case measure => rw [HV.out.num, HM.out]; omega
      · have HE : Hid (FamOf wr (W.heap.size + 1) 100000 s ((famTo s v d (powC v s).toNat).take most)) := Lib.hid (by
          rw [fam_take (k := k) (by omega) HLE.out (.inr (by have := HLE.out; omega))]
          exact HK.out.fam.mono (by have := HP.out; omega))
        have hmi : ¬ ((famTo s v d k).length : Int) < (most : Int) := by omega
        clear hmo
        go_wp2
        go_ret
        exact ⟨rfl, HE.out, HK.out.below⟩
    · have HE : Hid (FamOf wr (W.heap.size + 1) 100000 s ((famTo s v d (powC v s).toNat).take most)) := Lib.hid (by
        rw [fam_take (k := k) (by omega) HLE.out (.inl (by omega))]
        exact HK.out.fam.mono (by have := HP.out; omega))
      go_wp2
      go_ret
      exact ⟨rfl, HE.out, HK.out.below⟩

end Go.Proofs.Ytpabccgndhmcdaa
