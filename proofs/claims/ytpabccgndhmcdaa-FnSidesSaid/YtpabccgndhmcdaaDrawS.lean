/- The draw of AreApart: some codes, or some families, sometimes many. -/
import Derived.Test.YtpabccgndhmcdaaFamW
import Derived.Test.YtpabccgndhmcdaaDraw7
import Derived.Deep.DeepCutAuto
namespace Go.Proofs.Ytpabccgndhmcdaa
open Go.RowKit

/-- codes in a row that grows, all of them from a block on -/
structure Codes (w : World) (lo : Nat) (u : Value) (n : Nat) (vals : List Value) (yss : List (List Int)) : Prop where
  st : Stack w lo u n vals yss
  up : Highs lo vals
theorem Codes.apart {w w' : World} {lo g n : Nat} {u : Value} {vals : List Value} {yss : List (List Int)} (h : Codes w lo u n vals yss) (hg : w.grownBy w' (some g)) (hlt : g < lo) : Codes w' lo u n vals yss := by
  refine ⟨⟨rowPast h.st.row hg (fun k e e2 => ?_), h.st.len, fun j x ys hj hy => ?_⟩, h.up⟩
  · injection e2 with e2
    have := rowBase h.st.row k e
    omega
  · obtain ⟨A, q, c, rfl, h1, h2, h3, h4⟩ := h.st.inner j x ys hj hy
    refine ⟨A, q, c, rfl, h1.past hg (fun hq ad e e2 => ?_), h2, h3, h4⟩
    injection e2 with e2
    subst e
    have := h.up _ (List.mem_of_getElem? hj) ad q c rfl hq
    omega
theorem Codes.below {w w' : World} {lo n : Nat} {u : Value} {vals : List Value} {yss : List (List Int)} (h : Codes w lo u n vals yss) (hb : Below w.heap.size w w') : Codes w' lo u n vals yss := ⟨h.st.on hb, h.up⟩
theorem Codes.down {w : World} {lo lo' n : Nat} {u : Value} {vals : List Value} {yss : List (List Int)} (h : Stack w lo u n vals yss) (hh : Highs lo vals) (hl : lo' ≤ lo) : Codes w lo' u n vals yss :=
  ⟨⟨rowMore h.row hl, h.len, h.inner⟩, fun x hx ad q c e hq => Nat.le_trans hl (hh x hx ad q c e hq)⟩
/-- a list that stands beside such a row -/
def Aside (w : World) (lo : Nat) (u : Value) (A : Option Addr) (q : Nat) (xs : List Int) : Prop := Ints w w.heap.size A q xs ∧ (0 < q → ∀ ad, A = some ad → lo ≤ ad.block ∧ u.ownBlock ≠ some ad.block)
theorem Aside.apart {w w' : World} {lo g q : Nat} {u : Value} {A : Option Addr} {xs : List Int} (h : Aside w lo u A q xs) (hg : w.grownBy w' (some g)) (hlt : g < lo) : Aside w' lo u A q xs :=
  ⟨h.1.past hg (fun hq ad e e2 => by injection e2 with e2; have := (h.2 hq ad e).1; omega), h.2⟩
theorem Aside.push {w w' : World} {lo g n cap q : Nat} {u : Value} {A : Option Addr} {xs : List Int} {o : Obj} (h : Aside w lo u A q xs) (hg : (w.alloc o).grownBy w' u.ownBlock) (hat : u.ownBlock = some g ∨ w.heap.size ≤ g) :
    Aside w' lo (.slice (some ⟨g, 0, none⟩) (n + 1) cap) A q xs := by
  have hb0 := (Below.refl w.heap.size w).alloc (Nat.le_refl _) o
  refine ⟨(h.1.on hb0).past hg (fun hq ad e => (h.2 hq ad e).2), fun hq ad e => ⟨(h.2 hq ad e).1, fun e2 => ?_⟩⟩
  have e' : g = ad.block := by simpa [Value.ownBlock] using e2
  rcases hat with h1 | h1
  · exact (h.2 hq ad e).2 (by rw [h1, e'])
  · obtain ⟨bd, e3, hlt, _⟩ := h.1.2 hq
    rw [e] at e3; injection e3 with e3; subst e3
    omega
theorem Codes.top {w : World} {lo n : Nat} {u : Value} {vals : List Value} {yss : List (List Int)} (h : Codes w lo u n vals yss) : ∀ b, u.ownBlock = some b → lo ≤ b ∧ b < w.heap.size := fun b e => ⟨rowBase h.st.row b e, by
  rcases h.st.row.2 with ⟨e1, _⟩ | ⟨g', cap', cur, e1, _, hg', _⟩
  · rw [e1] at e; cases e
  · have h1 := heapLt hg'
    rw [e1] at e
    have : g' = b := by simpa [Value.ownBlock] using e
    omega⟩
theorem Codes.push {w w' : World} {lo n g cap q c : Nat} {u : Value} {vals : List Value} {yss : List (List Int)} {A : Option Addr} {ys : List Int} {o : Obj} (h : Codes w lo u n vals yss)
    (hi : Aside w lo u A q ys) (hc : q ≤ c) (hcm : c ≤ 9223372036854775807)
    (hrow : w'.ownsRow lo 24 1 (.slice (some ⟨g, 0, none⟩) (n + 1) cap) (n + 1) (vals ++ [.slice A q c])) (hg : (w.alloc o).grownBy w' u.ownBlock) (hat : u.ownBlock = some g ∨ w.heap.size ≤ g) :
    Codes w' lo (.slice (some ⟨g, 0, none⟩) (n + 1) cap) (n + 1) (vals ++ [.slice A q c]) (yss ++ [ys]) :=
  ⟨h.st.push hi.1 hc hcm (fun hq ad e => (hi.2 hq ad e).2) hrow hg hat, h.up.push (fun ad q' c' e hq => by
    obtain ⟨e1, e2, _⟩ := Value.slice.inj e
    subst e2
    exact (hi.2 hq ad e1).1)⟩
def Shorts (yss : List (List Int)) : Prop := ∀ ys ∈ yss, ys.length ≤ 101
theorem Shorts.push {yss : List (List Int)} {ys : List Int} (h : Shorts yss) (hy : ys.length ≤ 101) : Shorts (yss ++ [ys]) := fun x hx => by
  rw [List.mem_append, List.mem_singleton] at hx
  rcases hx with hx | rfl
  · exact h x hx
  · exact hy
theorem fo_shorts (s v d m : Int) : Shorts (foL s v d m) := by
  intro f hf
  rcases h : foOk s v d m with _ | _
  · rw [(fo_no h).1] at hf; simp at hf
  · rw [(fo_yes h).1] at hf
    have hs : sdB s v d = true := by unfold foOk at h; rw [Bool.and_eq_true] at h; exact h.1
    obtain ⟨s0, s1, _, _⟩ := sys_true (sd_true hs).1
    obtain ⟨j, _, rfl⟩ := fam_mem (List.mem_of_mem_take hf)
    rw [codeN_len]
    omega
theorem fo_eight {s v d : Int} : (foL s v d 8).length ≤ 8 := by
  rcases h : foOk s v d 8 with _ | _
  · rw [(fo_no h).1]; simp
  · rw [(fo_yes h).1, List.length_take]; omega

/-- what the draw of three numbers and of codes answers -/
def DrawnAA (w : World) (e : Ending) (w' : World) : Prop := ∃ (s v d : Int) (V : Option Addr) (n c : Nat) (yss : List (List Int)), e = .returned (.tuple #[.int .i64 s, .int .i64 v, .int .i64 d, .slice V n c]) ∧ Sets w' w'.heap.size V n yss ∧ n ≤ c ∧ c ≤ 9223372036854775807 ∧ n ≤ 61 ∧ Shorts yss ∧ Below w.heap.size w w'

set_option maxRecDepth 100000 in
set_option maxHeartbeats 4000000 in
theorem drawAreApart_any (B : Nat) (A : Option Addr) (n c : Nat) (w : World) (hb : Bts w B A n) (hB : B ≤ w.heap.size) (hn : n ≤ 4096) :
    Calls Try.prog 34 #[.slice A n c] w (DrawnAA w) := by
  obtain ⟨jj, hj0, hy0, hy1, hy2⟩ := info_parts Try.info24'
  have HG := Lib.hid (And.intro hj0 (And.intro hy0 (And.intro hy1 hy2)))
  clear hj0 hy0 hy1 hy2
  go_enter Try.func34, Try.ntmps34
  go_wp2_with fail
  refine (l01From_any B A n c _ hb hB hn).mono ?_
  rintro e w1 ⟨g, rfl, hg, hg1, h1, b1⟩
  have s1 := b1.size
  have B1 := Lib.hid b1
  clear b1 hb
  go_wp2_with fail
  refine (l07DrawSystem_any B g A n c _ h1).mono ?_
  rintro e w2 ⟨s, v, rfl, s0, s6, v0, v6, h2, g2⟩
  have B2 := Lib.hid (below_grown B1.out g2 (fun q e => by injection e with e; omega))
  have z2 := g2.size
  clear B1 g2 h1
  go_wp2_with fail
  refine (l07DrawDistance_any s B g A n c _ h2 s0 s6).mono ?_
  rintro e w3 ⟨d, rfl, d0, d1, h3, g3⟩
  have B3' := below_grown B2.out g3 (fun q e => by injection e with e; omega)
  have z3 := g3.size
  have l3 := h3.lt
  have H4 := Lib.hid (h3.alloc (.cells #[] 24))
  have B4 := Lib.hid (B3'.alloc (by omega) (.cells #[] 24))
  have C4 := Lib.hid (Codes.mk (Stack.none_ (rowNil (w := w3) (t := 24) (s := 1) (base := w3.heap.size) (Nat.le_refl _))) (fun u hu => by simp at hu))
  have hwz : w.heap.size ≤ w3.heap.size := by omega
  clear B2 g3 h2 h3 B3' z2 z3
  go_wp2_with fail
  refine (l01Next_any B g A n c _ _ H4.out (by omega)).mono ?_
  rintro e w5 ⟨x, rfl, x0, x1, h5, g5⟩
  have C5 := Lib.hid (C4.out.apart g5 l3)
  have B5 := Lib.hid (below_grown B4.out g5 (fun q e => by injection e with e; omega))
  have z5 := g5.size
  have hz5 : w3.heap.size < w5.heap.size := by simp at z5; omega
  have x2 : x ≤ 4 := by omega
  clear H4 C4 B4 g5 x1 z5
  go_wp2_with fail
  go_loopw [10, 11] (fun y m wr => ∃ (k : Nat) (z : Value) (vals : List Value) (yss : List (List Int)), z = y ∧ k ≤ 4 ∧ (k : Int) ≤ x ∧ m = .int .i64 (x - k) ∧ Hid (Codes wr w3.heap.size z k vals yss) ∧ Hid (Shorts yss) ∧ Src wr B g A n c ∧ Hid (Below w.heap.size w wr) ∧ w3.heap.size < wr.heap.size) (fun _ m _ => (intOf m).toNat)
  case atStart => exact ⟨0, _, [], [], rfl, Nat.zero_le _, by omega, by go_num, C5, Lib.hid (fun u hu => by simp at hu), h5, B5, hz5⟩
  case round =>
    clear C5 h5 B5 hz5
    obtain ⟨k, z, vals, yss, rfl, hk, hkx, rfl, HC, HS, hs, HB, hz⟩ := hrel
    by_cases hlt : (k : Int) < x
    · go_wp2_with fail
      refine (l07DrawCode_any s v B g A n c _ hs s0 s6 v0 v6).mono ?_
      rintro e w6 ⟨A', m, c', xs, rfl, ho, hm, hmc, hmx, h6, g6⟩
      have C6 := Lib.hid (HC.out.apart g6 l3)
      have B6 := Lib.hid (below_grown HB.out g6 (fun q e => by injection e with e; omega))
      have hz6 : w3.heap.size < w6.heap.size := by have := g6.size; omega
      have hT := HC.out.top
      have P6 : Hid (Aside w6 w3.heap.size z A' m xs) := Lib.hid ⟨ho.ints, fun hq ad e => by
        obtain ⟨ad', e', k1, k2, _⟩ := ho.2.2 hq
        rw [e] at e'; injection e' with e'; subst e'
        refine ⟨by omega, fun e2 => ?_⟩
        have := (hT _ e2).2
        omega⟩
      have S6 := Lib.hid h6
      have N6 : Hid (xs.length = m) := Lib.hid ho.len
      clear HC HB hs ho h6 g6 hT hz
      go_wp2_with (at_builtin; refine wpList_append_lies _ rfl _ _ 31 rfl w3.heap.size 24 jj _ 1 24 Try.underlying31 HG.out.1 HG.out.2.1 HG.out.2.2.1 HG.out.2.2.2 rfl (by omega) _ k _ rfl (C6.out.st.row.alloc _) ⟨w6.heap.size, 0, none⟩ 1 1 [.slice A' m c'] rfl rfl (World.news_of_block (cs := #[.slice A' m c']) (t := 24) (fr := (0, 0)) (heap_alloc_new w6 _)) (by simp [Value.oneCell']) (by omega) (by unfold maxLen; omega) (by omega) (by simp; omega) (w6.heap.size + 1) (by simp) ?_; intro gg cap w7 hown1 hgrow hat hlt3)
      have C7 := Lib.hid (C6.out.push P6.out hmc hmx hown1 hgrow (hat.imp id (fun e => by rw [e]; omega)))
      have S7 := Lib.hid ((S6.out.alloc (.cells #[.slice A' m c'] 24)).apart hgrow (fun q e => by have := (C6.out.top q e).1; omega))
      have B7 := Lib.hid ((B6.out.alloc (by omega) (.cells #[.slice A' m c'] 24)).grown hgrow (by simp; omega) (fun q e => by have := (C6.out.top q e).1; omega))
      have H7 := Lib.hid (HS.out.push (ys := xs) (by rw [N6.out]; exact hm))
      have hz7 : w3.heap.size < w7.heap.size := by have := hgrow.size; simp at this; omega
      clear hown1 hgrow hat hlt3 C6 S6 B6 P6 HS
      go_wp2
      go_roundw
      case rel => exact ⟨k + 1, _, _, _, rfl, by omega, by omega, by go_num, C7, H7, S7.out, B7, hz7⟩
      case measure => simp [intOf]; omega
    · clear hkx
      go_upto_region 9 with (fail)

      go_cut [45] (fun y wx => ∃ bb : Bool, y = .bool bb ∧ Codes wx w3.heap.size z k vals yss ∧ Src wx B g A n c ∧ Below w.heap.size w wx ∧ w3.heap.size < wx.heap.size)
      case first =>
        rcases hsd : sdB s v d with _ | _
        · go_wp2_with (go_at_call 57; refine (l07Distance_any _ _ _ _).mono ?_; rw [hsd]; rintro e w' ⟨rfl, rfl⟩)
          go_meet
          exact ⟨false, rfl, HC.out, hs, HB.out, hz⟩
        · go_wp2_with (go_at_call 57; refine (l07Distance_any _ _ _ _).mono ?_; rw [hsd]; rintro e w' ⟨rfl, rfl⟩)
          refine (l01Next_any B g A n c _ _ hs (by omega)).mono ?_
          rintro e w6 ⟨y, rfl, y0, y1, h6, g6⟩
          have C6 := HC.out.apart g6 l3
          have B6 := below_grown HB.out g6 (fun q e => by injection e with e; omega)
          have hz6 : w3.heap.size < w6.heap.size := by have := g6.size; omega
          go_wp2_with fail
          go_meet
          exact ⟨_, rfl, C6, h6, B6, hz6⟩
      case rest =>
        clear HC hs HB hz
        obtain ⟨bb, rfl, hC, h4, hB4, hz4⟩ := hcut
        obtain ⟨w4, rfl⟩ : ∃ w4, w4 = wc := ⟨_, rfl⟩
        have HC := Lib.hid hC
        have HB := Lib.hid hB4
        have H4 := Lib.hid h4
        clear hC hB4 h4
        go_upto_if 45 with (fail)
        go_cut [10] (fun y wx => ∃ (k : Nat) (vals : List Value) (yss : List (List Int)), k ≤ 8 ∧ Codes wx w3.heap.size y k vals yss ∧ Shorts yss ∧ Src wx B g A n c ∧ Below w.heap.size w wx ∧ w3.heap.size < wx.heap.size)
        case first =>
          cases bb with
          | false =>
            go_wp2_with fail
            go_meet
            exact ⟨k, vals, yss, by omega, HC.out, HS.out, H4.out, HB.out, hz4⟩
          | true =>
            go_wp2_with fail
            refine (specFamiliesOfW_any s v d 8 _).mono ?_
            rintro e w6 ⟨u6, n6, vals6, rfl, hst, hhi, b6⟩
            have C6 := Lib.hid (Codes.down (lo' := w3.heap.size) hst hhi (by omega))
            have B6 := Lib.hid (below_trans' HB.out b6)
            have S6 := Lib.hid (H4.out.on b6 (by omega))
            have L6 : Hid (n6 ≤ 8) := Lib.hid (by rw [← hst.len]; exact fo_eight)
            have hz6 : w3.heap.size < w6.heap.size := by have := b6.size; omega
            clear hst hhi b6
            go_wp2_with fail
            go_meet
            exact ⟨n6, vals6, _, L6.out, C6.out, fo_shorts s v d 8, S6.out, B6.out, hz6⟩
        case rest =>
          clear HC HB H4 HS hlt
          obtain ⟨k, vals, yss, hk8, hC, hS, h5, hB5, hz5⟩ := hcut
          obtain ⟨w5, rfl⟩ : ∃ w5, w5 = wc := ⟨_, rfl⟩
          have HC := Lib.hid hC
          have HB := Lib.hid hB5
          have HS := Lib.hid hS
          clear hC hB5 hS
          go_wp2_with fail
          refine (l01Next_any B g A n c _ _ h5 (by omega)).mono ?_
          rintro e w6 ⟨y, rfl, y0, y1, h6, g6⟩
          have C6 := Lib.hid (HC.out.apart g6 l3)
          have B6 := Lib.hid (below_grown HB.out g6 (fun q e => by injection e with e; omega))
          have hz6 : w3.heap.size < w6.heap.size := by have := g6.size; omega
          clear HC HB h5 g6 hz5 y1
          by_cases hy : y = 0
          · have b0 : (y == 0) = true := by simpa using hy
            clear hy
            go_wp2_with fail
            refine (l07DrawCode_any s v B g A n c _ h6 s0 s6 v0 v6).mono ?_
            rintro e w7 ⟨A', m, c', xs, rfl, ho, hm, hmc, hmx, h7, g7⟩
            have C7 := Lib.hid (C6.out.apart g7 l3)
            have B7 := Lib.hid (below_grown B6.out g7 (fun q e => by injection e with e; omega))
            have hz7 : w3.heap.size < w7.heap.size := by have := g7.size; omega
            have hT := C6.out.top
            have P7 := Lib.hid (show Aside w7 w3.heap.size _ A' m xs from ⟨ho.ints, fun hq ad e => by
              obtain ⟨ad', e', k1, k2, _⟩ := ho.2.2 hq
              rw [e] at e'; injection e' with e'; subst e'
              refine ⟨by omega, fun e2 => ?_⟩
              have := (hT _ e2).2
              omega⟩)
            have N7 : Hid (xs.length = m) := Lib.hid ho.len
            clear C6 B6 hT ho h6 g7 hz6
            obtain ⟨V0, c0, rfl, _, _, _⟩ := C7.out.st.sets
            go_wp2_with fail
            go_loopw [10] (fun u wr => ∃ (V : Option Addr) (k cv : Nat) (vals : List Value) (yss : List (List Int)), u = .slice V k cv ∧ k ≤ 61 ∧ Hid (Codes wr w3.heap.size (.slice V k cv) k vals yss) ∧ Hid (Aside wr w3.heap.size (.slice V k cv) A' m xs) ∧ Hid (Shorts yss) ∧ Src wr B g A n c ∧ Hid (Below w.heap.size w wr) ∧ w3.heap.size < wr.heap.size) (fun u _ => 62 - lenOfV u)
            case atStart => exact ⟨V0, k, c0, vals, yss, rfl, by omega, C7, P7, HS, h7, B7, hz7⟩
            case round =>
              clear C7 P7 HS h7 B7 hz7
              obtain ⟨V, k, cv, vals, yss, rfl, hk, HC, HP, HS, hs, HB, hz⟩ := hrel
              go_wp2_with fail
              refine (l01Next_any B g A n c _ _ hs (by omega)).mono ?_
              rintro e w8 ⟨r, rfl, r0, r1, h8, g8⟩
              have C8 := Lib.hid (HC.out.apart g8 l3)
              have P8 := Lib.hid (HP.out.apart g8 l3)
              have B8 := Lib.hid (below_grown HB.out g8 (fun q e => by injection e with e; omega))
              have hz8 : w3.heap.size < w8.heap.size := by have := g8.size; omega
              have r2 : r ≤ 1 := by omega
              clear HC HP HB hs g8 hz r1
              by_cases hlt : (k : Int) < 60 + r
              · have S8 := Lib.hid h8
                clear h8
                go_wp2_with (at_builtin; refine wpList_append_lies _ rfl _ _ 31 rfl w3.heap.size 24 jj _ 1 24 Try.underlying31 HG.out.1 HG.out.2.1 HG.out.2.2.1 HG.out.2.2.2 rfl (by omega) _ k _ rfl (C8.out.st.row.alloc _) ⟨w8.heap.size, 0, none⟩ 1 1 [.slice A' m c'] rfl rfl (World.news_of_block (cs := #[.slice A' m c']) (t := 24) (fr := (0, 0)) (heap_alloc_new w8 _)) (by simp [Value.oneCell']) (by omega) (by unfold maxLen; omega) (by omega) (by simp; omega) (w8.heap.size + 1) (by simp) ?_; intro gg cap w9 hown1 hgrow hat hlt3)
                have C9 := Lib.hid (C8.out.push P8.out hmc hmx hown1 hgrow (hat.imp id (fun e => by rw [e]; omega)))
                have P9 := Lib.hid (P8.out.push (n := k) (cap := cap) hgrow (hat.imp id (fun e => by rw [e]; omega)))
                have S9 := Lib.hid ((S8.out.alloc (.cells #[.slice A' m c'] 24)).apart hgrow (fun q e => by have := (C8.out.top q e).1; omega))
                have B9 := Lib.hid ((B8.out.alloc (by omega) (.cells #[.slice A' m c'] 24)).grown hgrow (by simp; omega) (fun q e => by have := (C8.out.top q e).1; omega))
                have H9 := Lib.hid (HS.out.push (ys := xs) (by rw [N7.out]; exact hm))
                have hz9 : w3.heap.size < w9.heap.size := by have := hgrow.size; simp at this; omega
                clear hown1 hgrow hat hlt3 C8 S8 B8 P8 HS
                go_wp2
                go_roundw
                case rel => exact ⟨_, k + 1, _, _, _, rfl, by omega, C9, P9, H9, S9.out, B9, hz9⟩
                case measure => simp [lenOfV]; omega
              · obtain ⟨V5, c5, e5, hs5, hc5, hx5⟩ := C8.out.st.sets
                obtain ⟨rfl, _, rfl⟩ := Value.slice.inj e5
                have HS5 := Lib.hid hs5
                clear hs5 e5
                go_wp2
                go_ret4
                exact ⟨s, v, d, _, k, _, yss, rfl, HS5.out, hc5, hx5, hk, HS.out, B8.out⟩
          · have b0 : (y == 0) = false := by simpa using hy
            obtain ⟨V, c5, rfl, hs5, hc5, hx5⟩ := C6.out.st.sets
            have HS5 := Lib.hid hs5
            clear hs5 hy
            go_wp2
            go_ret4
            exact ⟨s, v, d, V, k, c5, yss, rfl, HS5.out, hc5, hx5, by omega, HS.out, B6.out⟩

end Go.Proofs.Ytpabccgndhmcdaa
