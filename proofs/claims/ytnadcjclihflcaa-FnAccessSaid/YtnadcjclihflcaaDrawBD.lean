/- The draw of a building, rarely one that is not valid. -/
import Derived.Test.YtnadcjclihflcaaDrawB
import Derived.Deep.CutBlock
import Derived.StillTailTactics
import Derived.Deep.RegionHeld3
import Derived.Test.YtnadcjclihflcaaMay
namespace Go.Proofs.Ytnadcjclihflcaa
open Go Go.RowKit

/-- what is kept while a building is drawn: its lists, the result's box, its own box, the source -/
structure BdK (w wx : World) (b3 B g : Nat) (A : Option Addr) (n c : Nat) (A1 : Option Addr) (m c1 : Nat) (A2 : Option Addr) (c2 : Nat) (P : List Int) (D : List Bool) : Prop where
  own : BOwn wx (w.heap.size + 1) wx.heap.size A1 m A2 m P D
  r : Cell2 wx w.heap.size 27 (.slice none 0 0) (.slice none 0 0)
  q : Cell2 wx b3 27 (.slice A1 m c1) (.slice A2 m c2)
  h : Src wx B g A n c
  gr : w.grownBy wx (some g)
theorem BOwn.wide {w : World} {lo hi : Nat} {A B : Option Addr} {n k : Nat} {P : List Int} {D : List Bool} (h : BOwn w lo hi A n B k P D) : BOwn w lo w.heap.size A n B k P D := h.more (Nat.le_refl _) h.ps.size (Nat.le_refl _)
theorem BdK.grown {w wx wy : World} {b3 B g : Nat} {A : Option Addr} {n c : Nat} {A1 : Option Addr} {m c1 : Nat} {A2 : Option Addr} {c2 : Nat} {P : List Int} {D : List Bool} (k : BdK w wx b3 B g A n c A1 m c1 A2 c2 P D) (hg : wx.grownBy wy (some g)) (hs : Src wy B g A n c) (h1 : g < w.heap.size) (h3 : g ≠ b3) : BdK w wy b3 B g A n c A1 m c1 A2 c2 P D :=
  ⟨(k.own.apart hg (fun q e => by injection e with e; omega)).wide, k.r.grown hg (fun e => by injection e with e; omega), k.q.grown hg (fun e => by injection e with e; omega), hs, grown_trans' k.gr hg⟩
theorem BdK.alloc {w wx : World} {b3 B g : Nat} {A : Option Addr} {n c : Nat} {A1 : Option Addr} {m c1 : Nat} {A2 : Option Addr} {c2 : Nat} {P : List Int} {D : List Bool} (k : BdK w wx b3 B g A n c A1 m c1 A2 c2 P D) (o : Obj) : BdK w (wx.alloc o) b3 B g A n c A1 m c1 A2 c2 P D :=
  ⟨(k.own.below ((Below.refl _ _).alloc (Nat.le_refl _) o)).wide, k.r.alloc o, k.q.alloc o, k.h.alloc o, grown_alloc k.gr o⟩
theorem BdK.drew {w wx : World} {b3 B g : Nat} {A : Option Addr} {n c : Nat} {A1 : Option Addr} {m c1 : Nat} {A2 : Option Addr} {c2 : Nat} {P : List Int} {D : List Bool} (k : BdK w wx b3 B g A n c A1 m c1 A2 c2 P D) (j : Nat) : BdK w (wx.drewN j) b3 B g A n c A1 m c1 A2 c2 P D :=
  ⟨k.own.below (below_drewN (Below.refl _ _) j), k.r, k.q, k.h, grown_drewN k.gr j⟩
theorem BdK.drew1 {w wx : World} {b3 B g : Nat} {A : Option Addr} {n c : Nat} {A1 : Option Addr} {m c1 : Nat} {A2 : Option Addr} {c2 : Nat} {P : List Int} {D : List Bool} (k : BdK w wx b3 B g A n c A1 m c1 A2 c2 P D) : BdK w wx.drew b3 B g A n c A1 m c1 A2 c2 P D :=
  ⟨k.own.below (Below.refl _ _).drew, k.r, k.q, k.h, grown_drewN k.gr 1⟩
theorem Trio.drewN {w : World} {base : Nat} {x y z : Value} {jp jd q : Nat} {P : List Int} {D : List Bool} (h : Trio w base x y z jp jd q P D) (k : Nat) : Trio (w.drewN k) base x y z jp jd q P D := ⟨h.r1, h.r2, h.r3, h.n12, h.n13, h.n23, h.lp, h.ld, h.q1, h.up⟩
theorem BdK.putP {w wx : World} {b3 B g : Nat} {A : Option Addr} {n c : Nat} {ad : Addr} {m c1 : Nat} {A2 : Option Addr} {c2 : Nat} {P : List Int} {D : List Bool} (k : BdK w wx b3 B g A n c (some ad) m c1 A2 c2 P D) {K : Nat} (hK : K < m) (v : Int) (h1 : g < w.heap.size) (hb : ad.block ≠ b3) : BdK w (wx.setCell (ad.add K) (.int .i64 v)) b3 B g A n c (some ad) m c1 A2 c2 (P.set K v) D := by
  obtain ⟨a, _, e, l1, l2, _⟩ := k.own.ps.at_ hK
  injection e with e
  subst e
  have hg : wx.grownBy (wx.setCell (ad.add K) (.int .i64 v)) (some ad.block) := grown_set (World.grownBy.refl wx _) (block_of_add ad K) _
  have hz : (wx.setCell (ad.add K) (.int .i64 v)).heap.size = wx.heap.size := by simp [World.setCell]
  refine ⟨⟨by rw [hz]; exact k.own.ps.put v hK, by rw [hz]; exact k.own.ds.past hg (fun g' a' e hk ea eg => by injection e with e; exact k.own.ne ad a' (by omega) hk rfl ea (by rw [eg, ← e])), k.own.ne⟩, k.r.grown hg (fun e => by injection e with e; omega), k.q.grown hg (fun e => by injection e with e; omega), k.h.apart hg (fun q e => by injection e with e; omega), grown_own k.gr hg (fun q e => by injection e with e; omega)⟩
theorem BdK.putD {w wx : World} {b3 B g : Nat} {A : Option Addr} {n c : Nat} {ad : Addr} {m c1 : Nat} {A1 : Option Addr} {c2 : Nat} {P : List Int} {D : List Bool} (k : BdK w wx b3 B g A n c A1 m c1 (some ad) c2 P D) {K : Nat} (hK : K < m) (v : Bool) (h1 : g < w.heap.size) (hb : ad.block ≠ b3) : BdK w (wx.setCell (ad.add K) (.bool v)) b3 B g A n c A1 m c1 (some ad) c2 P (D.set K v) := by
  obtain ⟨a, _, e, l1, l2, _⟩ := k.own.ds.at_ hK
  injection e with e
  subst e
  have hg : wx.grownBy (wx.setCell (ad.add K) (.bool v)) (some ad.block) := grown_set (World.grownBy.refl wx _) (block_of_add ad K) _
  have hz : (wx.setCell (ad.add K) (.bool v)).heap.size = wx.heap.size := by simp [World.setCell]
  refine ⟨⟨by rw [hz]; exact k.own.ps.past hg (fun g' a' e hk ea eg => by injection e with e; exact k.own.ne a' ad hk (by omega) ea rfl (by rw [eg, ← e])), by rw [hz]; exact k.own.ds.put v hK, k.own.ne⟩, k.r.grown hg (fun e => by injection e with e; omega), k.q.grown hg (fun e => by injection e with e; omega), k.h.apart hg (fun q e => by injection e with e; omega), grown_own k.gr hg (fun q e => by injection e with e; omega)⟩
theorem add_small (g K : Nat) : (⟨g, 0, none⟩ : Addr).add K = ⟨g, K, none⟩ := by rcases K with _ | K <;> simp [Addr.add]

set_option maxRecDepth 100000 in
set_option maxHeartbeats 4000000 in
theorem l09Draw_any (B g : Nat) (A : Option Addr) (n c : Nat) (w : World) (h : Src w B g A n c) :
    Calls Try.prog 123 #[.pointer (some ⟨g, 0, none⟩)] w (DrawnB w B g A n c) := by
  have hg1 := h.lt
  obtain ⟨ii, hi0, hz0, hz1, hz2⟩ := info_parts Try.info2'
  have HF := Lib.hid (And.intro hi0 (And.intro hz0 (And.intro hz1 hz2)))
  clear hi0 hz0 hz1 hz2
  obtain ⟨jj, hi0, hz0, hz1, hz2⟩ := info_parts Try.info4'
  have HJ := Lib.hid (And.intro hi0 (And.intro hz0 (And.intro hz1 hz2)))
  clear hi0 hz0 hz1 hz2
  have S0 := Lib.hid (h.alloc (.cells #[.slice none 0 0, .slice none 0 0] 27))
  have K0 := Lib.hid (Cell2.new w 27 (.slice none 0 0) (.slice none 0 0))
  have G0 := Lib.hid (grown_alloc (World.grownBy.refl w (some g)) (.cells #[.slice none 0 0, .slice none 0 0] 27))
  clear h
  go_enter Try.func123, Try.ntmps123
  go_wp2_with fail
  refine (l09Valid_any B g A n c _ S0.out).mono ?_
  rintro e w1 ⟨x, y, z, m, q, P, D, rfl, hT, m2, m10, h1, g1⟩
  have K1 := Lib.hid (K0.out.grown g1 (fun e => by injection e with e; omega))
  have G1 := Lib.hid (grown_trans' G0.out g1)
  have sz := g1.size
  rw [World.size_alloc] at hT sz
  have T1 := Lib.hid hT
  obtain ⟨b1, c1, b2, c2, rfl, rfl, hO, n1, n2, n3, n4⟩ := hT.own
  have lb1 : b1 < w1.heap.size := by
    obtain ⟨ad, _, e, _, h2, _⟩ := hO.ps.at_ (k := 0) (by omega)
    injection e with e; subst e; exact h2
  have lb2 : b2 < w1.heap.size := by
    obtain ⟨ad, _, e, _, h2, _⟩ := hO.ds.at_ (k := 0) (by omega)
    injection e with e; subst e; exact h2
  have HO := Lib.hid (hO.more (show w.heap.size + 1 ≤ w.heap.size + 1 + 1 by omega) (Nat.le_refl _) (Nat.le_refl _))
  have bA := (Below.refl w1.heap.size w1).alloc (Nat.le_refl _) (.cells #[.slice (some ⟨b1, 0, none⟩) m c1, .slice (some ⟨b2, 0, none⟩) m c2] 27)
  have KK : Hid (BdK w (w1.alloc (.cells #[.slice (some ⟨b1, 0, none⟩) m c1, .slice (some ⟨b2, 0, none⟩) m c2] 27)) w1.heap.size B g A n c (some ⟨b1, 0, none⟩) m c1 (some ⟨b2, 0, none⟩) c2 P D) := Lib.hid ⟨(HO.out.below bA).wide, K1.out.alloc _, Cell2.new w1 _ _ _, h1.alloc _, grown_alloc G1.out _⟩
  have T2 := Lib.hid (T1.out.alloc (.cells #[.slice (some ⟨b1, 0, none⟩) m c1, .slice (some ⟨b2, 0, none⟩) m c2] 27))
  obtain ⟨p0, p1⟩ := KK.out.q.cells
  clear T1 hT hO HO bA K1 G1 h1 g1 G0 K0 S0
  go_wp2_with fail
  refine (l01Next_any B g A n c (m : Int) _ KK.out.h (by omega)).mono ?_
  rintro e w2 ⟨k, rfl, k0, k1, h2, g2⟩
  have K2 := Lib.hid (KK.out.grown g2 h2 hg1 (by omega))
  have T2' := Lib.hid (T2.out.apart g2 (by omega))
  have sz2 := g2.size
  obtain ⟨K, rfl⟩ := Int.eq_ofNat_of_zero_le k0
  have hK : K < m := by omega
  rw [World.size_alloc] at sz2
  clear k1 k0 h2 g2 KK T2 p0 p1
  go_wp2_with fail
  refine (l01Next_any B g A n c _ _ K2.out.h (by omega)).mono ?_
  rintro e w3 ⟨s, rfl, s0, s1, h3, g3⟩
  have K3 := Lib.hid (K2.out.grown g3 h3 hg1 (by omega))
  have T3 := Lib.hid (T2'.out.apart g3 (by omega))
  have sz3 := g3.size
  clear h3 g3 K2 T2'
  go_upto_block 0 with fail
  go_cut [] (fun wx => ∃ P2 D2, BdK w wx w1.heap.size B g A n c (some ⟨b1, 0, none⟩) m c1 (some ⟨b2, 0, none⟩) c2 P2 D2)
  case first =>
    obtain ⟨p0, p1⟩ := K3.out.q.cells
    by_cases e0 : s = 0
    · have d0 : (s == 0) = true := by simpa using e0
      have X4 := Lib.hid ((K3.out.alloc (.cells #[.int .i64 (-1), .int .i64 0, .int .i64 (K : Int), .int .i64 ((K : Int) + 1)] 2)).drew1)
      have HI := Lib.hid (show Ints (w3.alloc (.cells #[.int .i64 (-1), .int .i64 0, .int .i64 (K : Int), .int .i64 ((K : Int) + 1)] 2)).drew (w3.alloc (.cells #[.int .i64 (-1), .int .i64 0, .int .i64 (K : Int), .int .i64 ((K : Int) + 1)] 2)).drew.heap.size (some ⟨w3.heap.size, 0, none⟩) 4 [-1, 0, (K : Int), (K : Int) + 1] from ints_new w3 [-1, 0, (K : Int), (K : Int) + 1] 2)
      have i0 : (0 : Int) ≤ (K : Int) := by omega
      have i1 : (K : Int) < (m : Int) := by omega
      have hw : IntKind.i64.wrap ((K : Int) + 1) = (K : Int) + 1 := by rw [IntKind.wrap_i64]; omega
      clear e0 T3
      go_wp2
      go_region_held3 (fun w' => w'.cell? ⟨w1.heap.size, 0, none⟩ = some (.slice (some ⟨b1, 0, none⟩) m c1))
        (first
          | go_keep
          | with_reducible exact CL6
          | with_reducible exact CL7)
        (first
          | (go_at_call 105; refine (l01Pick_any B g A n c _ _ _ [-1, 0, (K : Int), (K : Int) + 1] _ X4.out.h HI.out (fun ad e => by injection e with e; subst e; show w3.heap.size ≠ g; omega) (by simp) (by simp)).mono ?_; rintro e w6 ⟨r, rfl, _, h6, g6⟩; have K6 := Lib.hid (X4.out.grown g6 h6 hg1 (by omega)); have CL6 := K6.out.q.cells.1; have K8 := Lib.hid (K6.out.putP hK r hg1 (by show b1 ≠ w1.heap.size; omega)); obtain ⟨_, _, e', _, _, _, hfz, hcl⟩ := K6.out.own.ps.at_ hK; injection e' with e'; subst e'; rw [add_small] at hfz hcl K8; have CL7 := K8.out.q.cells.1))
      go_wp2_with fail
      go_meet
      exact ⟨_, _, K8.out⟩
    have d0 : (s == 0) = false := by simpa using e0
    by_cases e1 : s = 1
    · have d1 : (s == 1) = true := by simpa using e1
      obtain ⟨_, v, e', _, _, _, hfz, hcl⟩ := K3.out.own.ds.at_ hK
      injection e' with e'
      subst e'
      have K4 := Lib.hid ((K3.out.drew1).putD hK (!v) hg1 (by show b2 ≠ w1.heap.size; omega))
      rw [add_small] at hfz hcl K4
      have i0 : (0 : Int) ≤ (K : Int) := by omega
      have i1 : (K : Int) < (m : Int) := by omega
      clear e0 e1 T3
      go_wp2
      go_still_tail 10, (by kernel_rfl)
      change wpList _ _ _ _ _ w3.drew
      have hfz' : w3.drew.frozen? ⟨b2, K, none⟩ = false := hfz
      have hcl' : w3.drew.cell? ⟨b2, K, none⟩ = some (.bool v) := hcl
      go_wp2_with fail
      go_meet
      exact ⟨_, _, K4.out⟩
    have d1 : (s == 1) = false := by simpa using e1
    by_cases e2 : s = 2
    · have d2 : (s == 2) = true := by simpa using e2
      have i0 : (0 : Int) ≤ (K : Int) := by omega
      have i1 : (K : Int) ≤ (m : Int) := by omega
      have i2 : (K : Int) ≤ (c1 : Int) := by omega
      have i2n : K ≤ c1 := by omega
      have i3n : K ≤ c2 := by omega
      have i3 : (K : Int) ≤ (c2 : Int) := by omega
      have f0 := K3.out.r.thawed 0
      have f1 := K3.out.r.thawed 1
      obtain ⟨r0, r1⟩ := K3.out.r.cells
      clear e0 e1 e2 T3
      go_wp2
      go_still_tail 9, (by kernel_rfl)
      change wpList _ _ _ _ _ w3.drew
      have KD := Lib.hid K3.out.drew1
      have f0' : w3.drew.frozen? ⟨w.heap.size, 0, none⟩ = false := f0
      have f1' : w3.drew.frozen? ⟨w.heap.size, 1, none⟩ = false := f1
      have r0' : w3.drew.cell? ⟨w.heap.size, 0, none⟩ = some (.slice none 0 0) := r0
      have r1' : w3.drew.cell? ⟨w.heap.size, 1, none⟩ = some (.slice none 0 0) := r1
      generalize w3.drew = wd at KD f0' f1' r0' r1' ⊢
      go_wp2
      clear f0 f1 r0 r1 f0' f1' r0' r1' p0 p1
      have R := ((KD.out.r.put0 (.slice (some ⟨b1, 0, none⟩) K c1)).put1 (.slice (some ⟨b2, 0, none⟩) K c2)).cells
      have s5 : wd.grownBy ((wd.setCell ⟨w.heap.size, 0, none⟩ (.slice (some ⟨b1, 0, none⟩) K c1)).setCell ⟨w.heap.size, 1, none⟩ (.slice (some ⟨b2, 0, none⟩) K c2)) (some w.heap.size) := grown_set (p := ⟨w.heap.size, 1, none⟩) (grown_set (p := ⟨w.heap.size, 0, none⟩) (World.grownBy.refl wd _) rfl _) rfl _
      refine bodyPost_ret (v := .agg #[.slice (some ⟨b1, 0, none⟩) K c1, .slice (some ⟨b2, 0, none⟩) K c2]) (by simp [results, Try.results123, go_sem, R.1, R.2]) rfl ⟨_, K, _, _, K, _, P.take K, D.take K, rfl, ?_, by omega, by omega, i2n, i3n, n2, n4, KD.out.h.apart s5 (fun k e => by injection e with e; omega), grown_own KD.out.gr s5 (fun k e => by injection e with e; omega)⟩
      have o6 := (show BOwn wd (w.heap.size + 1) wd.heap.size (some ⟨b1, 0, none⟩) K (some ⟨b2, 0, none⟩) K (P.take K) (D.take K) from ⟨KD.out.own.ps.take (by omega), KD.out.own.ds.take (by omega), fun a b _ _ ea eb => KD.out.own.ne a b (by omega) (by omega) ea eb⟩).apart s5 (fun g e => by injection e with e; omega)
      exact o6.wide.more (by omega) (Nat.le_refl _) (Nat.le_refl _)
    have d2 : (s == 2) = false := by simpa using e2
    by_cases e3 : s = 3
    · have d3 : (s == 3) = true := by simpa using e3
      have TL := Lib.hid T3.out.r3
      obtain ⟨gz, cz, _, rfl, _⟩ := T3.out.r3
      clear e0 e1 e2 e3
      go_wp2
      go_quiet (fail)
      have T4 : Hid (Trio (w3.drewN nq) (w.heap.size + 1 + 1) (.slice (some ⟨b1, 0, none⟩) m c1) (.slice (some ⟨b2, 0, none⟩) m c2) (.slice (some ⟨gz, 0, none⟩) q cz) m m q P D) := Lib.hid (T3.out.drewN nq)
      have K4 := Lib.hid (K3.out.drew nq)
      clear T3 K3 p0 p1 TL
      go_wp2
      go_loopw [5, 6] (fun a b wr => ∃ (j : Nat) (P : List Int) (D : List Bool), lenOfV a = j ∧ 2 ≤ j ∧ j ≤ 25 ∧ Hid (Trio wr (w.heap.size + 1 + 1) a b (.slice (some ⟨gz, 0, none⟩) q cz) j j q P D) ∧ Hid (Src wr B g A n c) ∧ Hid (Cell2 wr w.heap.size 27 (.slice none 0 0) (.slice none 0 0)) ∧ Hid (w.grownBy wr (some g))) (fun a _ _ => 25 - lenOfV a)
      case atStart => exact ⟨m, P, D, rfl, m2, by omega, T4, Lib.hid K4.out.h, Lib.hid K4.out.r, Lib.hid K4.out.gr⟩
      case round =>
        obtain ⟨j, P, D, hlen, hj2, hj25, HT, HS, HK, HG⟩ := hrel
        clear T4 K4
        obtain ⟨d1, e1, d2, e2, rfl, rfl, _⟩ := HT.out.own
        clear hlen
        go_wp2_with fail
        refine (l01Next_any B g A n c _ _ HS.out (by omega)).mono ?_
        rintro e w4 ⟨r, rfl, r0, r1, h4, g4⟩
        have T4 := Lib.hid (HT.out.apart g4 (by omega))
        have S4 := Lib.hid h4
        have K4 := Lib.hid (HK.out.grown g4 (fun e => by injection e with e; omega))
        have G4 := Lib.hid (grown_trans' HG.out g4)
        have sz4 := G4.out.size
        clear h4 g4 HT HS HK HG
        by_cases hlt : (j : Int) < 24 + r
        · obtain ⟨_, _, e, o1⟩ := T4.out.r1
          injection e with e1' e2' e3'
          injection e1' with e1'
          injection e1' with e1'
          subst e1'; subst e3'
          have O1 := Lib.hid o1
          have l1 := rowAt o1
          clear o1
          go_upto_region 14 with (at_builtin; refine wpList_append_lies _ rfl _ _ 24 rfl (w.heap.size + 1 + 1) 2 ii _ 1 8 Try.underlying24 HF.out.1 HF.out.2.1 HF.out.2.2.1 HF.out.2.2.2 rfl (by omega) _ _ _ rfl (rowBelow O1.out ((Below.refl _ _).alloc (Nat.le_refl _) _)) ⟨w4.heap.size, 0, none⟩ 1 1 [.int .i64 0] rfl rfl (World.news_of_block (cs := #[.int .i64 0]) (t := 2) (fr := (0, 0)) (heap_alloc_new w4 _)) (by simp [Value.oneCell']) (by omega) (by unfold maxLen; omega) (by omega) (by simp; omega) (w4.heap.size + 1) (by simp) ?_; intro gg cap wn hown1 hgrow hat hlt3)
          have T5 := Lib.hid ((T4.out.alloc (.cells #[.int .i64 0] 2)).pushP hown1 hgrow (hat.imp id (fun e => by rw [e]; simp)) ⟨by omega, by omega⟩)
          have S5 := Lib.hid ((S4.out.alloc (.cells #[.int .i64 0] 2)).apart hgrow (fun k e => by (have e2 : some d1 = some k := e); injection e2 with e2; omega))
          have K5 := Lib.hid ((K4.out.alloc (.cells #[.int .i64 0] 2)).grown hgrow (fun e => by (have e2 : some w.heap.size = some d1 := e); injection e2 with e2; omega))
          have G5 := Lib.hid (grown_own (grown_alloc G4.out (.cells #[.int .i64 0] 2)) hgrow (fun k e => by (have e2 : some d1 = some k := e); injection e2 with e2; omega))
          clear hown1 hgrow hat hlt3 T4 S4 K4 G4 O1
          obtain ⟨w5, rfl⟩ : ∃ w5, w5 = wn := ⟨_, rfl⟩
          obtain ⟨_, _, e, o2⟩ := T5.out.r2
          injection e with e1' e2' e3'
          injection e1' with e1'
          injection e1' with e1'
          subst e1'; subst e3'
          have O2 := Lib.hid o2
          have l2 := rowAt o2
          have sz5 := G5.out.size
          clear o2
          go_wp2_with (at_builtin; refine wpList_append_lies _ rfl _ _ 25 rfl (w.heap.size + 1 + 1) 4 jj _ 1 1 Try.underlying25 HJ.out.1 HJ.out.2.1 HJ.out.2.2.1 HJ.out.2.2.2 rfl (by omega) _ _ _ rfl (rowBelow O2.out ((Below.refl _ _).alloc (Nat.le_refl _) _)) ⟨w5.heap.size, 0, none⟩ 1 1 [.bool true] rfl rfl (World.news_of_block (cs := #[.bool true]) (t := 4) (fr := (0, 0)) (heap_alloc_new w5 _)) (by simp [Value.oneCell']) (by omega) (by unfold maxLen; omega) (by omega) (by simp; omega) (w5.heap.size + 1) (by simp) ?_; intro gd capd wm hown1 hgrow hat hlt3)
          have T6 := Lib.hid ((T5.out.alloc (.cells #[.bool true] 4)).pushD hown1 hgrow (hat.imp id (fun e => by rw [e]; simp)))
          have S6 := Lib.hid ((S5.out.alloc (.cells #[.bool true] 4)).apart hgrow (fun k e => by (have e2 : some d2 = some k := e); injection e2 with e2; omega))
          have K6 := Lib.hid ((K5.out.alloc (.cells #[.bool true] 4)).grown hgrow (fun e => by (have e2 : some w.heap.size = some d2 := e); injection e2 with e2; omega))
          have G6 := Lib.hid (grown_own (grown_alloc G5.out (.cells #[.bool true] 4)) hgrow (fun k e => by (have e2 : some d2 = some k := e); injection e2 with e2; omega))
          clear hown1 hgrow hat hlt3 T5 S5 K5 G5 O2
          go_wp2
          go_roundw
          case rel => exact ⟨j + 1, _, _, rfl, by omega, by omega, T6, S6, K6, G6⟩
          case measure => simp [lenOfV]; omega
        · obtain ⟨_, _, _, _, e, e', ho, n1', n2', n3', n4'⟩ := T4.out.own
          injection e with e1' e2' e3'
          injection e1' with e1'
          injection e1' with e1'
          subst e1'; subst e3'
          injection e' with e1' e2' e3'
          injection e1' with e1'
          injection e1' with e1'
          subst e1'; subst e3'
          have HO := Lib.hid ho
          have f0 := K4.out.thawed 0
          have f1 := K4.out.thawed 1
          obtain ⟨r0', r1'⟩ := K4.out.cells
          clear ho T4
          go_wp2
          clear f0 f1 r0' r1'
          have R := ((K4.out.put0 (.slice (some ⟨d1, 0, none⟩) j e1)).put1 (.slice (some ⟨d2, 0, none⟩) j e2)).cells
          have s5 : w4.grownBy ((w4.setCell ⟨w.heap.size, 0, none⟩ (.slice (some ⟨d1, 0, none⟩) j e1)).setCell ⟨w.heap.size, 1, none⟩ (.slice (some ⟨d2, 0, none⟩) j e2)) (some w.heap.size) := grown_set (p := ⟨w.heap.size, 1, none⟩) (grown_set (p := ⟨w.heap.size, 0, none⟩) (World.grownBy.refl w4 _) rfl _) rfl _
          refine bodyPost_ret (v := .agg #[.slice (some ⟨d1, 0, none⟩) j e1, .slice (some ⟨d2, 0, none⟩) j e2]) (by simp [results, Try.results123, go_sem, R.1, R.2]) rfl ⟨_, j, _, _, j, _, P, D, rfl, ?_, by omega, by omega, n1', n3', n2', n4', S4.out.apart s5 (fun k e => by injection e with e; omega), grown_own G4.out s5 (fun k e => by injection e with e; omega)⟩
          have o6 := HO.out.apart s5 (fun g e => by injection e with e; omega)
          exact o6.wide.more (by omega) (Nat.le_refl _) (Nat.le_refl _)
    have d3 : (s == 3) = false := by simpa using e3
    go_wp2_with fail
    go_meet
    exact ⟨P, D, K3.out⟩
  case rest =>
    clear K3
    obtain ⟨P2, D2, h6⟩ := hcut
    obtain ⟨w6, rfl⟩ : ∃ w6, w6 = wc := ⟨_, rfl⟩
    have H6 := Lib.hid h6
    obtain ⟨p0, p1⟩ := h6.q.cells
    have f0 := h6.r.thawed 0
    have f1 := h6.r.thawed 1
    obtain ⟨r0, r1⟩ := h6.r.cells
    clear h6 T3
    go_wp2
    clear p0 p1 f0 f1 r0 r1
    have R := ((H6.out.r.put0 (.slice (some ⟨b1, 0, none⟩) m c1)).put1 (.slice (some ⟨b2, 0, none⟩) m c2)).cells
    have s5 : w6.grownBy ((w6.setCell ⟨w.heap.size, 0, none⟩ (.slice (some ⟨b1, 0, none⟩) m c1)).setCell ⟨w.heap.size, 1, none⟩ (.slice (some ⟨b2, 0, none⟩) m c2)) (some w.heap.size) := grown_set (p := ⟨w.heap.size, 1, none⟩) (grown_set (p := ⟨w.heap.size, 0, none⟩) (World.grownBy.refl w6 _) rfl _) rfl _
    refine bodyPost_ret (v := .agg #[.slice (some ⟨b1, 0, none⟩) m c1, .slice (some ⟨b2, 0, none⟩) m c2]) (by simp [results, Try.results123, go_sem, R.1, R.2]) rfl ⟨_, m, c1, _, m, c2, P2, D2, rfl, ?_, by omega, by omega, n1, n3, n2, n4, H6.out.h.apart s5 (fun k e => by injection e with e; omega), grown_own H6.out.gr s5 (fun k e => by injection e with e; omega)⟩
    have o6 := H6.out.own.apart s5 (fun g e => by injection e with e; omega)
    exact o6.wide.more (by omega) (Nat.le_refl _) (Nat.le_refl _)

end Go.Proofs.Ytnadcjclihflcaa
