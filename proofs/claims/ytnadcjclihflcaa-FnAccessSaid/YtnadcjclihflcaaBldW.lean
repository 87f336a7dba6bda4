/- The program's walk over the nodes under a node: a closure that calls itself through a variable. -/
import Derived.Test.YtnadcjclihflcaaBldI
namespace Go.Proofs.Ytnadcjclihflcaa
open Go Go.RowKit

/-- what the walk reads: its captured variables and the building -/
structure WalkW (w : World) (A : Option Addr) (n c : Nat) (B : Option Addr) (k d : Nat) (P : List Int) (vf : Nat) (vc : Array Value) (bv bb bd : Nat) : Prop where
  cv : Cell1 w bv 117 (.func (.func vf) #[] vc)
  cb : Cell2 w bb 27 (.slice A n c) (.slice B k d)
  cd : Cell1 w bd 117 (.func (.func 139) #[] #[.pointer (some ⟨bv, 0, none⟩), .pointer (some ⟨bb, 0, none⟩), .pointer (some ⟨bd, 0, none⟩)])
  ps : Ints w w.heap.size A n P
theorem Ints.pastB {w w' : World} {A : Option Addr} {n : Nat} {xs : List Int} {row : Option Nat} (h : Ints w w.heap.size A n xs) (hg : w.grownBy w' row) (hr : ∀ g a, row = some g → 0 < n → A = some a → a.block ≠ g) : Ints w' w'.heap.size A n xs :=
  ⟨h.1, fun hn => by
    obtain ⟨ad, e, h1, hc⟩ := h.2 hn
    refine ⟨ad, e, Nat.lt_of_lt_of_le h1 hg.size, fun j v hv => ?_⟩
    have hb := hg.block (ad.add j).block (by rw [block_of_add]; exact h1) (fun e' => by rw [block_of_add] at e'; exact hr _ ad e'.symm hn e rfl)
    rw [World.cell?_of_block (w := w) hb]
    exact hc j v hv⟩
theorem WalkW.grown {w w' : World} {A B : Option Addr} {n c k d : Nat} {P : List Int} {vf : Nat} {vc : Array Value} {bv bb bd g : Nat} (h : WalkW w A n c B k d P vf vc bv bb bd) (hg : w.grownBy w' (some g)) (h1 : g ≠ bv) (h2 : g ≠ bb) (h3 : g ≠ bd) (h4 : ∀ a, 0 < n → A = some a → a.block ≠ g) : WalkW w' A n c B k d P vf vc bv bb bd :=
  ⟨h.cv.grown hg (by simp; omega), h.cb.grown hg (by simp; omega), h.cd.grown hg (by simp; omega), h.ps.pastB hg (fun g' a e hn ha => by cases e; exact h4 a hn ha)⟩
theorem grownBy_trans {a b c : World} {row : Option Nat} (h : a.grownBy b row) (k : b.grownBy c row) : a.grownBy c row := h.trans k

set_option maxHeartbeats 1000000 in
theorem descend_any (A B : Option Addr) (n c k d : Nat) (P : List Int) (vf : Nat) (vc : Array Value) (bv bb bd g : Nat) (dl : Int) (hT : Tree P) (hL : P.length = n) (hn : n ≤ 24)
    (ev : ∀ args w, (callFunc vf args).run Try.prog w = .ok (.enter vf args) w) (J : (Nat → Bool) → World → Prop)
    (d0 : -100 ≤ dl) (d1 : dl ≤ 100)
    (hv : ∀ vis w (x : Nat) (l : Int), x < n → l = (depN P x : Int) + dl → J vis w → Calls Try.prog vf (#[.int .i64 (x : Int), .int .i64 l] ++ vc) w fun e w' => e = .returned (.tuple #[]) ∧ J (fun i => vis i || i == x) w' ∧ w.grownBy w' (some g))
    (hx : ∀ p q w, (∀ i, i < n → p i = q i) → J p w → J q w) (h1 : g ≠ bv) (h2 : g ≠ bb) (h3 : g ≠ bd) (h4 : ∀ a, 0 < n → A = some a → a.block ≠ g) :
    ∀ (m x : Nat) (l : Int) (vis : Nat → Bool) (w : World), x < n → l = (depN P x : Int) + dl → n - x ≤ m → J vis w → WalkW w A n c B k d P vf vc bv bb bd →
      Calls Try.prog 139 #[.int .i64 (x : Int), .int .i64 l, .pointer (some ⟨bv, 0, none⟩), .pointer (some ⟨bb, 0, none⟩), .pointer (some ⟨bd, 0, none⟩)] w
        fun e w' => e = .returned (.tuple #[]) ∧ J (fun i => vis i || und P x i) w' ∧ w.grownBy w' (some g) := by
  intro m
  induction m with
  | zero => intro x _ _ _ hxn _ hm; omega
  | succ m ih =>
    intro x l vis w hxn hl hm hj hw
    have IH := Lib.hid ih
    have HV := Lib.hid hv
    have HX := Lib.hid hx
    have HW := Lib.hid hw
    have H4 := Lib.hid h4
    have HT := Lib.hid hT
    have HL := Lib.hid hL
    have HM := Lib.hid hm
    have cv := hw.cv.cell
    have hd1 := dep_le HT.out x (by rw [HL.out]; exact hxn)
    have hd25 : l ≤ 125 := by omega
    have hd26 : -100 ≤ l := by omega
    have HLD := Lib.hid hl
    clear hd1 hl
    clear ih hv hx hw h4 hT hL hm
    go_enter Try.func139, Try.ntmps139
    go_wp2_with fail
    refine (HV.out vis w x l hxn HLD.out hj).mono ?_
    rintro e w1 ⟨rfl, j1, g1⟩
    have W1 := Lib.hid (HW.out.grown g1 h1 h2 h3 H4.out)
    have G1 := Lib.hid g1
    have J1 : Hid (J (fun i => vis i || i == x || viaTo P x i 0) w1) := Lib.hid (HX.out _ _ _ (fun i _ => by unfold viaTo; simp) j1)
    obtain ⟨p0, p1⟩ := W1.out.cb.cells
    clear j1 g1 cv hj HW
    go_wp2
    go_loopw [16] (fun i wr => ∃ j : Nat, j ≤ n ∧ i = .int .i64 j ∧ Hid (J (fun i => vis i || i == x || viaTo P x i j) wr) ∧ Hid (WalkW wr A n c B k d P vf vc bv bb bd) ∧ Hid (w.grownBy wr (some g))) (fun i _ => n - (intOf i).toNat)
    case atStart => exact ⟨0, Nat.zero_le _, rfl, J1, W1, G1⟩
    case round =>
      obtain ⟨j, hj, rfl, HJ, HWr, HG⟩ := hrel
      clear J1 W1 G1
      obtain ⟨p0, p1⟩ := HWr.out.cb.cells
      have cd := HWr.out.cd.cell
      by_cases hlt : j < n
      · obtain ⟨ad, v, rfl, hab, hvj, hc⟩ := HWr.out.ps.at_ hlt
        have hpv : par P j = v := by unfold par; rw [List.getD_eq_getElem?_getD, hvj]; rfl
        have HP := Lib.hid hpv
        have i0 : (0 : Int) ≤ (j : Int) := by omega
        have i1 : (j : Int) < (n : Int) := by omega
        clear hvj hpv
        by_cases he : v = (x : Int)
        · subst he
          have hj1 : 1 ≤ j := by
            rcases Nat.eq_zero_or_pos j with h0 | h0
            · have := HP.out; rw [h0, HT.out.root] at this; omega
            · exact h0
          have hup := HT.out.up j hj1 (by rw [HL.out]; exact hlt)
          have hxj : x < j := by have := HP.out; omega
          have hdj : depN P j = depN P x + 1 := by rw [dep_up HT.out hj1 (by rw [HL.out]; exact hlt), HP.out]; rfl
          have HC := Lib.hid (IH.out j (l + 1) (fun i => vis i || i == x || viaTo P x i j) wr hlt (by rw [HLD.out, hdj]; omega) (by have := HM.out; omega) HJ.out HWr.out)
          have HXJ := Lib.hid hxj
          clear hup hdj hj1 hxj
          go_wp2_with fail
          refine HC.out.mono ?_
          rintro e w2 ⟨rfl, j2, g2⟩
          have W2 := Lib.hid (HWr.out.grown g2 h1 h2 h3 H4.out)
          have G2 := Lib.hid (HG.out.trans g2)
          have J2 : Hid (J (fun i => vis i || i == x || viaTo P x i (j + 1)) w2) := Lib.hid (HX.out _ _ _ (fun i _ => by rw [viaTo_succ, HP.out]; simp [Bool.or_assoc]) j2)
          clear j2 g2 HJ HWr HG HC p0 p1 cd hc
          go_wp2
          go_roundw
          case rel => exact ⟨j + 1, by omega, by go_num, J2, W2, G2⟩
          case measure => simp [intOf]; omega
        · have hne : (v == (x : Int)) = false := by simpa using he
          have J2 : Hid (J (fun i => vis i || i == x || viaTo P x i (j + 1)) wr) := Lib.hid (HX.out _ _ _ (fun i _ => by rw [viaTo_succ, HP.out, hne]; simp) HJ.out)
          clear HJ
          go_wp2
          go_roundw
          case rel => exact ⟨j + 1, by omega, by go_num, J2, HWr, HG⟩
          case measure => simp [intOf]; omega
      · obtain rfl : j = n := by omega
        have J3 : Hid (J (fun i => vis i || und P x i) wr) := Lib.hid (HX.out _ _ _ (fun i hi => by rw [und_via HT.out x i (by rw [HL.out]; exact hi), HL.out, Bool.or_assoc]) HJ.out)
        go_wp2
        go_end0
        exact ⟨rfl, J3.out, HG.out⟩

set_option maxHeartbeats 1000000 in
theorem walkB_any (A B : Option Addr) (n c k d : Nat) (P : List Int) (D : List Bool) (vf : Nat) (vc : Array Value) (g x : Nat) (hT : Tree P) (hL : P.length = n) (hn : n ≤ 24)
    (ev : ∀ args w, (callFunc vf args).run Try.prog w = .ok (.enter vf args) w) (J : (Nat → Bool) → World → Prop) (vis : Nat → Bool) (w : World)
    (hv : ∀ vis w (y : Nat) (l : Int), y < n → l = (depN P y : Int) + (1 - (depN P x : Int)) → J vis w → Calls Try.prog vf (#[.int .i64 (y : Int), .int .i64 l] ++ vc) w fun e w' => e = .returned (.tuple #[]) ∧ J (fun i => vis i || i == y) w' ∧ w.grownBy w' (some g))
    (hx : ∀ p q w, (∀ i, i < n → p i = q i) → J p w → J q w) (hb : ∀ p w w', J p w → Below w.heap.size w w' → J p w')
    (h : Bld w A n B k P D) (hg : g < w.heap.size) (h4 : ∀ a, 0 < n → A = some a → a.block ≠ g) (hxn : x < n) (hj : J vis w) :
    Calls Try.prog 125 #[.agg #[.slice A n c, .slice B k d], .int .i64 (x : Int), .func (.func vf) #[] vc] w
      fun e w' => e = .returned (.tuple #[]) ∧ J (fun i => vis i || und P x i) w' ∧ w.grownBy w' (some g) := by
  have hd1 := dep_le hT x (by rw [hL]; exact hxn)
  have c0 := (((Below.refl w.heap.size w).alloc (Nat.le_refl _) (.cells #[.slice A n c, .slice B k d] 27)).alloc (by simp) (.cells #[.func (.func vf) #[] vc] 117)).alloc (by simp; omega) (.cells #[.func (.func 139) #[] #[.pointer (some ⟨w.heap.size + 1, 0, none⟩), .pointer (some ⟨w.heap.size, 0, none⟩), .pointer (some ⟨w.heap.size + 1 + 1, 0, none⟩)]] 117)
  have HW : Hid (WalkW (((w.alloc (.cells #[.slice A n c, .slice B k d] 27)).alloc (.cells #[.func (.func vf) #[] vc] 117)).alloc (.cells #[.func (.func 139) #[] #[.pointer (some ⟨w.heap.size + 1, 0, none⟩), .pointer (some ⟨w.heap.size, 0, none⟩), .pointer (some ⟨w.heap.size + 1 + 1, 0, none⟩)]] 117)) A n c B k d P vf vc (w.heap.size + 1) w.heap.size (w.heap.size + 1 + 1)) := Lib.hid (by
    have k1 := Cell1.new (w.alloc (.cells #[.slice A n c, .slice B k d] 27)) 117 (.func (.func vf) #[] vc)
    have k2 := Cell1.new ((w.alloc (.cells #[.slice A n c, .slice B k d] 27)).alloc (.cells #[.func (.func vf) #[] vc] 117)) 117 (.func (.func 139) #[] #[.pointer (some ⟨w.heap.size + 1, 0, none⟩), .pointer (some ⟨w.heap.size, 0, none⟩), .pointer (some ⟨w.heap.size + 1 + 1, 0, none⟩)])
    simp only [World.size_alloc] at k1 k2
    exact ⟨k1.alloc _, ((Cell2.new w 27 (.slice A n c) (.slice B k d)).alloc _).alloc _, k2, (h.on c0).ps⟩)
  have HJ := Lib.hid (hb _ _ _ hj c0)
  have C0 := Lib.hid c0
  have HC := Lib.hid (descend_any A B n c k d P vf vc (w.heap.size + 1) w.heap.size (w.heap.size + 1 + 1) g (1 - (depN P x : Int)) hT hL hn ev J (by omega) (by omega) hv hx (by omega) (by omega) (by omega) h4 (n - x) x 1 vis _ hxn (by omega) (Nat.le_refl _) HJ.out HW.out)
  have cd := HW.out.cd.cell
  have hmf : ∀ (fn : Fn) (first cap : Array Value) (w : World), (Instr.makeFunc fn first cap).run Try.prog w = .ok (.func fn first cap) w := fun _ _ _ _ => rfl
  clear c0 hd1 HJ HW hv hx hb hj h
  go_enter Try.func125, Try.ntmps125
  go_wp2_with fail
  refine HC.out.mono ?_
  rintro e w1 ⟨rfl, j1, g1⟩
  have J1 := Lib.hid j1
  have G1 : Hid (w.grownBy w1 (some g)) := Lib.hid ((⟨C0.out.os, C0.out.tape, C0.out.output, C0.out.size, fun i hi _ => C0.out.block i hi⟩ : w.grownBy _ (some g)).trans g1)
  clear j1 g1 HC cd
  go_wp2
  go_end0
  exact ⟨rfl, J1.out, G1.out⟩

end Go.Proofs.Ytnadcjclihflcaa
