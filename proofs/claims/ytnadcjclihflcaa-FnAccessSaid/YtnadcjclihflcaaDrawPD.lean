/- The draw of a plan, rarely one that is not valid. -/
import Derived.Test.YtnadcjclihflcaaDrawPK
import Derived.Test.YtnadcjclihflcaaDrawBD
namespace Go.Proofs.Ytnadcjclihflcaa
open Go Go.RowKit

theorem Kods.los {w : World} {lo n : Nat} {u : Value} {vals : List Value} {yss : List (List Int)} (h : Kods w lo u n vals yss) : ∃ V c, u = .slice V n c ∧ LoS w lo V n yss := by
  rcases h.st.row.2 with ⟨e, e2⟩ | ⟨g, cap, cur, e, hb, hg, h1, h2, _⟩
  · subst e2
    exact ⟨Option.none, 0, e, h.st.len, fun h => absurd h (by omega)⟩
  · subst e
    refine ⟨_, cap, rfl, h.st.len, fun _ => ⟨_, rfl, hb, heapLt hg, fun j ys hy => ?_⟩⟩
    have hj : j < vals.length := by rw [h.st.vlen, ← h.st.len]; exact (List.getElem?_eq_some_iff.1 hy).1
    have hv : vals[j]? = some vals[j] := List.getElem?_eq_getElem hj
    obtain ⟨A, q, c, ev, k1, k2, k3, _⟩ := h.st.inner j _ ys hv hy
    refine ⟨A, q, c, ?_, ⟨k1, fun hq ad e => h.up _ (List.mem_of_getElem? hv) ad q c (by rw [ev, e]) hq⟩, k2, k3⟩
    rw [h.st.row.cells (g := g) rfl j _ hv, ev]

/-- what is kept while a plan is drawn -/
structure PdK (w wx : World) (lo b3 B g : Nat) (A : Option Addr) (n c : Nat) (A1 : Option Addr) (m c1 : Nat) (A2 : Option Addr) (c2 : Nat) (u : Value) (q : Nat) (vals : List Value) (P : List Int) (D : List Bool) (R : List (List Int)) : Prop where
  own : BOwn wx (w.heap.size + 1) lo A1 m A2 m P D
  ks : Kods wx lo u q vals R
  r : Cell3 wx w.heap.size 30 (.slice none 0 0) (.slice none 0 0) (.slice none 0 0)
  p : Cell3 wx b3 30 (.slice A1 m c1) (.slice A2 m c2) u
  h : Src wx B g A n c
  gr : w.grownBy wx (some g)
theorem PdK.grown {w wx wy : World} {lo b3 B g : Nat} {A : Option Addr} {n c : Nat} {A1 : Option Addr} {m c1 : Nat} {A2 : Option Addr} {c2 : Nat} {u : Value} {q : Nat} {vals : List Value} {P : List Int} {D : List Bool} {R : List (List Int)} (d : PdK w wx lo b3 B g A n c A1 m c1 A2 c2 u q vals P D R) (hg : wx.grownBy wy (some g)) (hs : Src wy B g A n c) (h1 : g < w.heap.size) (h2 : w.heap.size + 1 ≤ lo) (h3 : lo ≤ b3) : PdK w wy lo b3 B g A n c A1 m c1 A2 c2 u q vals P D R :=
  ⟨d.own.apart hg (fun z e => by injection e with e; omega), d.ks.apart hg (by omega), d.r.grown hg (fun e => by injection e with e; omega), d.p.grown hg (fun e => by injection e with e; omega), hs, grown_trans' d.gr hg⟩
theorem PdK.alloc {w wx : World} {lo b3 B g : Nat} {A : Option Addr} {n c : Nat} {A1 : Option Addr} {m c1 : Nat} {A2 : Option Addr} {c2 : Nat} {u : Value} {q : Nat} {vals : List Value} {P : List Int} {D : List Bool} {R : List (List Int)} (d : PdK w wx lo b3 B g A n c A1 m c1 A2 c2 u q vals P D R) (o : Obj) : PdK w (wx.alloc o) lo b3 B g A n c A1 m c1 A2 c2 u q vals P D R :=
  ⟨d.own.below ((Below.refl _ _).alloc (Nat.le_refl _) o), d.ks.below ((Below.refl _ _).alloc (Nat.le_refl _) o), d.r.alloc o, d.p.alloc o, d.h.alloc o, grown_alloc d.gr o⟩
theorem PdK.drew1 {w wx : World} {lo b3 B g : Nat} {A : Option Addr} {n c : Nat} {A1 : Option Addr} {m c1 : Nat} {A2 : Option Addr} {c2 : Nat} {u : Value} {q : Nat} {vals : List Value} {P : List Int} {D : List Bool} {R : List (List Int)} (d : PdK w wx lo b3 B g A n c A1 m c1 A2 c2 u q vals P D R) : PdK w wx.drew lo b3 B g A n c A1 m c1 A2 c2 u q vals P D R :=
  ⟨d.own.below (Below.refl _ _).drew, d.ks.below (Below.refl _ _).drew, d.r, d.p, d.h, grown_drewN d.gr 1⟩
/-- the first rights are put anew -/
theorem PdK.put0 {w wx : World} {lo b3 B g gb cap : Nat} {A : Option Addr} {n c : Nat} {A1 : Option Addr} {m c1 : Nat} {A2 : Option Addr} {c2 : Nat} {q : Nat} {vals : List Value} {P : List Int} {D : List Bool} {R : List (List Int)} {A' : Option Addr} {r c' : Nat} {ys : List Int} (d : PdK w wx lo b3 B g A n c A1 m c1 A2 c2 (.slice (some ⟨gb, 0, none⟩) q cap) q vals P D R) (hq : 0 < q) (h1 : g < w.heap.size) (h2 : w.heap.size + 1 ≤ lo) (hb : gb < b3) (hi : LoI wx lo A' r ys) (hv : 0 < r → ∀ ad, A' = some ad → ad.block ≠ gb) (hc : r ≤ c') (hcm : c' ≤ 9223372036854775807) : PdK w (wx.setCell ⟨gb, 0, none⟩ (.slice A' r c')) lo b3 B g A n c A1 m c1 A2 c2 (.slice (some ⟨gb, 0, none⟩) q cap) q (vals.set 0 (.slice A' r c')) P D (R.set 0 ys) := by
  obtain ⟨gb', cap', e, hlo, _, _, _, hset⟩ := rowSet0 d.ks.st.row hq
  injection e with e1 e2 e3
  injection e1 with e1
  injection e1 with e1
  subst e1; subst e3
  have hg : wx.grownBy (wx.setCell ⟨gb, 0, none⟩ (.slice A' r c')) (some gb) := grown_set (p := ⟨gb, 0, none⟩) (World.grownBy.refl wx _) rfl _
  exact ⟨d.own.apart hg (fun z e => by injection e with e; omega), d.ks.put0 hset rfl hi hv hc hcm, d.r.grown hg (fun e => by injection e with e; omega), d.p.grown hg (fun e => by injection e with e; omega), d.h.apart hg (fun z e => by injection e with e; omega), grown_own d.gr hg (fun z e => by injection e with e; omega)⟩

/-- the same, while a row of rights of its own grows -/
structure PdL (w wx : World) (lo b3 B g : Nat) (A : Option Addr) (n c : Nat) (A1 : Option Addr) (m c1 : Nat) (A2 : Option Addr) (c2 : Nat) (u : Value) (P : List Int) (D : List Bool) : Prop where
  own : BOwn wx (w.heap.size + 1) lo A1 m A2 m P D
  r : Cell3 wx w.heap.size 30 (.slice none 0 0) (.slice none 0 0) (.slice none 0 0)
  p : Cell3 wx b3 30 (.slice A1 m c1) (.slice A2 m c2) u
  h : Src wx B g A n c
  gr : w.grownBy wx (some g)
theorem PdL.step {w wx wy : World} {lo b3 B g : Nat} {A : Option Addr} {n c : Nat} {A1 : Option Addr} {m c1 : Nat} {A2 : Option Addr} {c2 : Nat} {u : Value} {P : List Int} {D : List Bool} {row : Option Nat} (d : PdL w wx lo b3 B g A n c A1 m c1 A2 c2 u P D) (hg : wx.grownBy wy row) (hs : Src wy B g A n c) (hr : ∀ z, row = some z → z = g ∨ (lo ≤ z ∧ z ≠ b3)) (h1 : g < w.heap.size) (h2 : w.heap.size + 1 ≤ lo) (h3 : lo ≤ b3) : PdL w wy lo b3 B g A n c A1 m c1 A2 c2 u P D :=
  ⟨d.own.apart hg (fun z e => by rcases hr z e with h | h <;> omega), d.r.grown hg (fun e => by rcases hr _ e.symm with h | h <;> omega), d.p.grown hg (fun e => by rcases hr _ e.symm with h | h <;> omega), hs, by
    rcases row with _ | z
    · exact grown_own d.gr hg (fun q e => by cases e)
    · rcases hr z rfl with rfl | hz
      · exact grown_trans' d.gr hg
      · exact grown_own d.gr hg (fun q e => by injection e with e; omega)⟩

/-- a plan is stored as the result -/
theorem pl_end {w wx : World} {B g n c m c1 k c2 q cq : Nat} {A A1 A2 V : Option Addr} {P : List Int} {D : List Bool} {R : List (List Int)} (hp : PlF wx (w.heap.size + 1) A1 m A2 k V q P D R) (hr : Cell3 wx w.heap.size 30 (.slice none 0 0) (.slice none 0 0) (.slice none 0 0)) (hs : Src wx B g A n c) (hg : w.grownBy wx (some g)) (h1 : g < w.heap.size) :
    ∀ wy, wy = ((wx.setCell ⟨w.heap.size, 0, none⟩ (.slice A1 m c1)).setCell ⟨w.heap.size, 1, none⟩ (.slice A2 k c2)).setCell ⟨w.heap.size, 2, none⟩ (.slice V q cq) → Cell3 wy w.heap.size 30 (.slice A1 m c1) (.slice A2 k c2) (.slice V q cq) ∧ PlF wy (w.heap.size + 1) A1 m A2 k V q P D R ∧ Src wy B g A n c ∧ w.grownBy wy (some g) := by
  rintro wy rfl
  have S5 : wx.grownBy (((wx.setCell ⟨w.heap.size, 0, none⟩ (.slice A1 m c1)).setCell ⟨w.heap.size, 1, none⟩ (.slice A2 k c2)).setCell ⟨w.heap.size, 2, none⟩ (.slice V q cq)) (some w.heap.size) := grown_set (p := ⟨w.heap.size, 2, none⟩) (grown_set (p := ⟨w.heap.size, 1, none⟩) (grown_set (p := ⟨w.heap.size, 0, none⟩) (World.grownBy.refl wx _) rfl _) rfl _) rfl _
  exact ⟨((hr.put0 _).put1 _).put2 _, hp.above (Above.of_grown S5 (fun r e => by injection e with e; omega)), hs.apart S5 (fun q e => by injection e with e; omega), grown_own hg S5 (fun q e => by injection e with e; omega)⟩

/-- what the draw of a plan answers -/
def DrawnPl (w : World) (B g : Nat) (A : Option Addr) (n c : Nat) (e : Ending) (w' : World) : Prop :=
  ∃ A1 m c1 A2 k c2 V q cq P D R, e = .returned (.agg #[.slice A1 m c1, .slice A2 k c2, .slice V q cq]) ∧ PlF w' (w.heap.size + 1) A1 m A2 k V q P D R ∧ m ≤ 64 ∧ k ≤ 64 ∧ q ≤ 11 ∧ (∀ ys ∈ R, ys.length ≤ 64) ∧ Src w' B g A n c ∧ w.grownBy w' (some g)

set_option maxRecDepth 100000 in
set_option maxHeartbeats 4000000 in
theorem l10Draw_any (B g : Nat) (A : Option Addr) (n c : Nat) (w : World) (h : Src w B g A n c) :
    Calls Try.prog 80 #[.pointer (some ⟨g, 0, none⟩)] w (DrawnPl w B g A n c) := by
  have hg1 := h.lt
  obtain ⟨jj, hj0, hy0, hy1, hy2⟩ := info_parts Try.info24'
  have HG := Lib.hid (And.intro hj0 (And.intro hy0 (And.intro hy1 hy2)))
  clear hj0 hy0 hy1 hy2
  have S0 := Lib.hid (h.alloc (.cells #[.slice none 0 0, .slice none 0 0, .slice none 0 0] 30))
  have K0 := Lib.hid (Cell3.new w 30 (.slice none 0 0) (.slice none 0 0) (.slice none 0 0))
  have G0 := Lib.hid (grown_alloc (World.grownBy.refl w (some g)) (.cells #[.slice none 0 0, .slice none 0 0, .slice none 0 0] 30))
  clear h
  go_enter Try.func80, Try.ntmps80
  go_wp2_with fail
  refine (l10Valid_any B g A n c _ S0.out).mono ?_
  rintro e w1 ⟨A1, m, c1, A2, c2, u, q, vals, P, D, R, lo, rfl, hO, hK, hlo, m2, m10, n1, n2, n3, n4, q1, q4, hR, h1, g1⟩
  have sz := g1.size
  rw [World.size_alloc] at hO hlo sz
  have hloz : lo ≤ w1.heap.size := Nat.le_trans hO.ps.size (Nat.le_refl _)
  obtain ⟨gb, cap, rfl, hgb1, hgb2, _⟩ := rowSet0 hK.st.row (by omega)
  have KK := Lib.hid (show PdK w (w1.alloc (.cells #[.slice A1 m c1, .slice A2 m c2, .slice (some ⟨gb, 0, none⟩) q cap] 30)) lo w1.heap.size B g A n c A1 m c1 A2 c2 (.slice (some ⟨gb, 0, none⟩) q cap) q vals P D R from ⟨(hO.below ((Below.refl _ _).alloc (Nat.le_refl _) _)).more (by omega) (Nat.le_refl _) (by simp; omega), hK.below ((Below.refl _ _).alloc (Nat.le_refl _) _), (K0.out.grown g1 (fun e => by injection e with e; omega)).alloc _, Cell3.new w1 _ _ _ _, h1.alloc _, grown_alloc (grown_trans' G0.out g1) _⟩)
  have HRL := Lib.hid hR
  have HA1 := Lib.hid n1
  clear hO hK h1 g1 K0 G0 S0 hR n1 n2 n3 n4
  obtain ⟨p0, p1, p2⟩ := KK.out.p.cells
  go_wp2_with fail
  refine (l01Next_any B g A n c _ _ KK.out.h (by omega)).mono ?_
  rintro e w3 ⟨s, rfl, s0, s1, h3, g3⟩
  have K3 := Lib.hid (KK.out.grown g3 h3 hg1 (by omega) hloz)
  have z3 := g3.size
  have hz3 : w1.heap.size < w3.heap.size := by simp at z3; omega
  clear h3 g3 KK p0 p1 p2 z3
  go_upto_block 0 with fail
  go_cut [] (fun wx => ∃ vals2 R2, PdK w wx lo w1.heap.size B g A n c A1 m c1 A2 c2 (.slice (some ⟨gb, 0, none⟩) q cap) q vals2 P D R2 ∧ (∀ ys ∈ R2, ys.length ≤ 64))
  case first =>
    obtain ⟨p0, p1, p2⟩ := K3.out.p.cells
    by_cases e0 : s = 0
    · have d0 : (s == 0) = true := by simpa using e0
      have X4 := Lib.hid ((K3.out.alloc (.cells #[.int .i64 (-1), .int .i64 0, .int .i64 (m : Int)] 2)).drew1)
      have HI := Lib.hid (show Ints (w3.alloc (.cells #[.int .i64 (-1), .int .i64 0, .int .i64 (m : Int)] 2)).drew (w3.alloc (.cells #[.int .i64 (-1), .int .i64 0, .int .i64 (m : Int)] 2)).drew.heap.size (some ⟨w3.heap.size, 0, none⟩) 3 [-1, 0, (m : Int)] from ints_new w3 [-1, 0, (m : Int)] 2)
      have hq0 : (0 : Int) < (q : Int) := by omega
      have hq1 : 0 < q := by omega
      have hq2 : (decide (0 < q)) = true := by simpa using hq1
      clear e0
      go_wp2
      go_region_held3 (fun w' => w'.cell? ⟨w1.heap.size, 2, none⟩ = some (.slice (some ⟨gb, 0, none⟩) q cap) ∧ w'.cell? ⟨w1.heap.size, 0, none⟩ = some (.slice A1 m c1))
        (first
          | go_keep
          | with_reducible exact CL6
          | with_reducible exact CL7)
        (first
          | (go_at_call 105; refine (l01Pick_any B g A n c _ _ _ [-1, 0, (m : Int)] _ X4.out.h HI.out (fun ad e => by injection e with e; subst e; show w3.heap.size ≠ g; omega) (by simp) (by simp)).mono ?_; rintro e w6 ⟨r, rfl, _, h6, g6⟩; have K6 := Lib.hid (X4.out.grown g6 h6 hg1 (by omega) hloz); have CL6 := And.intro K6.out.p.cells.2.2 K6.out.p.cells.1; have K7 := Lib.hid (K6.out.alloc (.cells #[.int .i64 r] 2)); have z6 := g6.size; have I7 := ints_new w6 [r] 2; obtain ⟨_, _, e, _, _, ⟨uu, hcl⟩, hfz, _⟩ := rowSet0 K7.out.ks.st.row (by omega); (injection e with ea eb ec; injection ea with ea; injection ea with ea; subst ea; subst ec); have K8 := Lib.hid (K7.out.put0 (A' := some ⟨w6.heap.size, 0, none⟩) (r := 1) (c' := 1) (ys := [r]) (by omega) hg1 (by omega) hgb2 ⟨I7, fun _ ad e => by injection e with e; subst e; show lo ≤ w6.heap.size; simp at z6; omega⟩ (fun _ ad e => by injection e with e; subst e; show w6.heap.size ≠ gb; simp at z6; omega) (Nat.le_refl _) (by omega)); have CL7 := And.intro K8.out.p.cells.2.2 K8.out.p.cells.1))
      have HR8 : Hid (∀ ys ∈ R.set 0 [r], ys.length ≤ 64) := Lib.hid (fun ys hy => by
        rcases List.mem_or_eq_of_mem_set hy with h | h
        · exact HRL.out ys h
        · subst h; simp)
      go_wp2_with fail
      go_meet
      exact ⟨_, _, K8.out, HR8.out⟩
    by_cases e1 : s = 1
    · have d0 : (s == 0) = false := by simpa using e0
      have d1 : (s == 1) = true := by simpa using e1
      obtain ⟨_, _, e, _, _, ⟨uu, hcl⟩, hfz, _⟩ := rowSet0 K3.out.ks.st.row (by omega)
      injection e with ea eb ec
      injection ea with ea
      injection ea with ea
      subst ea; subst ec
      have K4 := Lib.hid (K3.out.put0 (A' := none) (r := 0) (c' := 0) (ys := []) (by omega) hg1 (by omega) hgb2 ⟨⟨rfl, fun h => absurd h (by omega)⟩, fun h => absurd h (by omega)⟩ (fun h => absurd h (by omega)) (Nat.le_refl _) (by omega))
      have hq0 : (0 : Int) < (q : Int) := by omega
      have HR4 : Hid (∀ ys ∈ R.set 0 [], ys.length ≤ 64) := Lib.hid (fun ys hy => by
        rcases List.mem_or_eq_of_mem_set hy with h | h
        · exact HRL.out ys h
        · subst h; simp)
      clear e0 e1
      go_wp2_with fail
      go_meet
      exact ⟨_, _, K4.out, HR4.out⟩
    by_cases e2 : s = 2
    · have d0 : (s == 0) = false := by simpa using e0
      have d1 : (s == 1) = false := by simpa using e1
      have d2 : (s == 2) = true := by simpa using e2
      have X4 := Lib.hid (K3.out.drew1)
      have CL3 := X4.out.p.cells.2.2
      clear e0 e1 e2
      go_wp2
      go_region_held3 (fun w' => w'.cell? ⟨w1.heap.size, 2, none⟩ = some (.slice (some ⟨gb, 0, none⟩) q cap))
        (first
          | go_keep
          | with_reducible exact CL3
          | with_reducible exact CL6
          | with_reducible exact CL7)
        (first
          | (go_at_call 123; refine (l09Draw_any B g A n c _ X4.out.h).mono ?_; rintro e w6 ⟨Ax, mx, cx, Ay, ky, cy, Px, Dx, rfl, o6, hm6, hk6, _, _, _, _, h6, g6⟩; have K6 := Lib.hid (X4.out.grown g6 h6 hg1 (by omega) hloz); have z6 := g6.size; obtain ⟨V, cv, ev, hls⟩ := K6.out.ks.los; (injection ev with ea eb ec); subst ea; subst ec; have HPF : PlF w6 (w.heap.size + 1) Ax mx Ay ky (some ⟨gb, 0, none⟩) q Px Dx R := ⟨o6.ps.lo.down (by simp; omega), o6.ds.lo.down (by simp; omega), hls.down (by omega)⟩; have EE := Lib.hid (pl_end (w := w) (c1 := cx) (c2 := cy) (cq := cap) HPF K6.out.r K6.out.h K6.out.gr hg1 _ rfl); have CL6 := K6.out.p.cells.2.2; have CL7 := (K6.out.p.grown (grown_set (p := ⟨w.heap.size, 2, none⟩) (grown_set (p := ⟨w.heap.size, 1, none⟩) (grown_set (p := ⟨w.heap.size, 0, none⟩) (World.grownBy.refl w6 _) rfl (.slice Ax mx cx)) rfl (.slice Ay ky cy)) rfl (.slice (some ⟨gb, 0, none⟩) q cap)) (fun e => by injection e with e; have e : w1.heap.size = w.heap.size := e; omega)).cells.2.2; have f0 := K6.out.r.thawed 0; have f1 := K6.out.r.thawed 1; have f2 := K6.out.r.thawed 2; obtain ⟨r0, r1, r2⟩ := K6.out.r.cells))
      all_goals
        clear r0 r1 r2 f0 f1 f2 CL6 CL7 CL3 p0 p1 p2
        go_wp2
        obtain ⟨E1, E2, E3, E4⟩ := EE.out
        have RR := E1.cells
        refine bodyPost_ret (v := .agg #[.slice Ax mx cx, .slice Ay ky cy, .slice (some ⟨gb, 0, none⟩) q cap]) (by simp [results, Try.results80, go_sem, RR.1, RR.2.1, RR.2.2]) rfl ⟨_, _, _, _, _, _, _, _, _, _, _, _, rfl, E2, hm6, hk6, by omega, HRL.out, E3, E4⟩
    by_cases e3 : s = 3
    · have d0 : (s == 0) = false := by simpa using e0
      have d1 : (s == 1) = false := by simpa using e1
      have d2 : (s == 2) = false := by simpa using e2
      have d3 : (s == 3) = true := by simpa using e3
      have L3 : Hid (PdL w w3 lo w1.heap.size B g A n c A1 m c1 A2 c2 (.slice (some ⟨gb, 0, none⟩) q cap) P D) := Lib.hid ⟨K3.out.own, K3.out.r, K3.out.p, K3.out.h, K3.out.gr⟩
      have C3 := Lib.hid K3.out.ks
      clear e0 e1 e2 e3 K3
      go_wp2
      go_loopw [4] (fun y wr => ∃ (j cj gj : Nat) (vals3 : List Value) (yss : List (List Int)), y = .slice (some ⟨gj, 0, none⟩) j cj ∧ j ≤ 11 ∧ gj ≠ w1.heap.size ∧ Hid (Kods wr lo (.slice (some ⟨gj, 0, none⟩) j cj) j vals3 yss) ∧ Hid (∀ ys ∈ yss, ys.length ≤ 64) ∧ Hid (PdL w wr lo w1.heap.size B g A n c A1 m c1 A2 c2 (.slice (some ⟨gb, 0, none⟩) q cap) P D) ∧ w1.heap.size < wr.heap.size) (fun y _ => 11 - lenOfV y)
      case atStart => exact ⟨q, cap, gb, _, _, rfl, by omega, by omega, C3, HRL, L3, hz3⟩
      case round =>
        obtain ⟨j, cj, gj, vals3, yss, rfl, hj, hgj, HC, HS, HK, hz⟩ := hrel
        clear C3 L3 hz3 p0 p1 p2
        go_wp2_with fail
        refine (l01Next_any B g A n c _ _ HK.out.h (by omega)).mono ?_
        rintro e w4 ⟨v, rfl, v0, v1, h4, g4⟩
        have K4 := Lib.hid (HK.out.step g4 h4 (fun z e => by injection e with e; exact .inl e.symm) hg1 (by omega) hloz)
        have C4 := Lib.hid (HC.out.apart g4 (by omega))
        have z4 := g4.size
        have hz4 : w1.heap.size < w4.heap.size := by omega
        have hws : IntKind.i64.wrap (10 + v) = 10 + v := by rw [IntKind.wrap_i64]; omega
        clear h4 g4 HK HC z4
        by_cases hlt : (j : Int) < 10 + v
        · have LI : Hid (LoI (w4.alloc (.cells #[.int .i64 0] 2)) lo (some ⟨w4.heap.size, 0, none⟩) 1 [0]) := Lib.hid ⟨ints_new w4 [0] 2, fun _ ad e => by injection e with e; subst e; show lo ≤ w4.heap.size; omega⟩
          have KA := Lib.hid (K4.out.step (grown_alloc (World.grownBy.refl _ none) (.cells #[.int .i64 0] 2)) (K4.out.h.alloc _) (fun z e => by cases e) hg1 (by omega) hloz)
          have CA := Lib.hid (C4.out.below ((Below.refl _ _).alloc (Nat.le_refl _) (.cells #[.int .i64 0] 2)))
          have hgl : gj < w4.heap.size := (C4.out.top gj rfl).2
          have HV : Hid (0 < 1 → ∀ ad, some (⟨w4.heap.size, 0, none⟩ : Addr) = some ad → (Value.slice (some ⟨gj, 0, none⟩) j cj).ownBlock ≠ some ad.block) := Lib.hid (fun _ ad e e2 => by
            injection e with e; subst e
            injection e2 with e2
            have e2 : gj = w4.heap.size := e2
            omega)
          go_wp2_with (at_builtin; refine wpList_append_lies _ rfl _ _ 28 rfl lo 24 jj _ 1 24 Try.underlying28 HG.out.1 HG.out.2.1 HG.out.2.2.1 HG.out.2.2.2 rfl (by omega) _ j _ rfl (CA.out.st.row.alloc _) ⟨w4.heap.size + 1, 0, none⟩ 1 1 [.slice (some ⟨w4.heap.size, 0, none⟩) 1 1] rfl rfl (World.news_of_block (cs := #[.slice (some ⟨w4.heap.size, 0, none⟩) 1 1]) (t := 24) (fr := (0, 0)) (by simpa using heap_alloc_new (w4.alloc (.cells #[.int .i64 0] 2)) _)) (by simp [Value.oneCell']) (by omega) (by unfold maxLen; omega) (by omega) (by simp; omega) (w4.heap.size + 1 + 1) (by simp) ?_; intro gg capn w7 hown1 hgrow hat hlt3)
          have C7 := Lib.hid (CA.out.push LI.out HV.out (Nat.le_refl _) (by omega) hown1 hgrow (hat.imp id (fun e => by rw [e]; simp)))
          have S7 := (KA.out.h.alloc (.cells #[.slice (some ⟨w4.heap.size, 0, none⟩) 1 1] 24)).apart hgrow (fun q e => by injection e with e; have e : gj = q := e; have := (C4.out.top gj rfl).1; omega)
          have KB := KA.out.step (grown_alloc (World.grownBy.refl _ none) (.cells #[.slice (some ⟨w4.heap.size, 0, none⟩) 1 1] 24)) (KA.out.h.alloc _) (fun z e => by cases e) hg1 (by omega) hloz
          have K7 := Lib.hid (KB.step hgrow S7 (fun q e => by injection e with e; have e : gj = q := e; have := (C4.out.top gj rfl).1; exact .inr ⟨by omega, by omega⟩) hg1 (by omega) hloz)
          have H7 : Hid (∀ ys ∈ yss ++ [[0]], ys.length ≤ 64) := Lib.hid (fun ys hy => by
            rw [List.mem_append, List.mem_singleton] at hy
            rcases hy with hy | rfl
            · exact HS.out ys hy
            · simp)
          have hz7 := hgrow.size
          rw [World.size_alloc, World.size_alloc] at hz7
          have hz8 : w1.heap.size < w7.heap.size := by omega
          have hgg : gg ≠ w1.heap.size := by
            rcases hat with h | h
            · injection h with h; have h : gj = gg := h; omega
            · omega
          clear hown1 hgrow hat hlt3 C4 K4 KA KB CA S7 LI HV
          go_wp2
          go_roundw
          case rel => exact ⟨j + 1, capn, gg, _, _, rfl, by omega, hgg, C7, H7, K7, hz8⟩
          case measure => simp [lenOfV]; omega
        · have f0 := K4.out.r.thawed 0
          have f1 := K4.out.r.thawed 1
          have f2 := K4.out.r.thawed 2
          obtain ⟨r0, r1, r2⟩ := K4.out.r.cells
          obtain ⟨p0, p1, p2⟩ := K4.out.p.cells
          go_wp2
          clear f0 f1 f2 r0 r1 r2 p0 p1 p2
          obtain ⟨V, cv, ev, hls⟩ := C4.out.los
          injection ev with ea eb ec
          subst ea; subst ec
          have HPF : PlF w4 (w.heap.size + 1) A1 m A2 m (some ⟨gj, 0, none⟩) j P D yss := ⟨K4.out.own.ps.lo, K4.out.own.ds.lo, hls.down (by omega)⟩
          obtain ⟨E1, E2, E3, E4⟩ := pl_end (w := w) (c1 := c1) (c2 := c2) (cq := cj) HPF K4.out.r K4.out.h K4.out.gr hg1 _ rfl
          have RR := E1.cells
          refine bodyPost_ret (v := .agg #[.slice A1 m c1, .slice A2 m c2, .slice (some ⟨gj, 0, none⟩) j cj]) (by simp [results, Try.results80, go_sem, RR.1, RR.2.1, RR.2.2]) rfl ⟨_, _, _, _, _, _, _, _, _, _, _, _, rfl, E2, by omega, by omega, hj, HS.out, E3, E4⟩
    by_cases e4 : s = 4
    · have d0 : (s == 0) = false := by simpa using e0
      have d1 : (s == 1) = false := by simpa using e1
      have d2 : (s == 2) = false := by simpa using e2
      have d3 : (s == 3) = false := by simpa using e3
      have d4 : (s == 4) = true := by simpa using e4
      have f0 := K3.out.r.thawed 0
      have f1 := K3.out.r.thawed 1
      have f2 := K3.out.r.thawed 2
      obtain ⟨r0, r1, r2⟩ := K3.out.r.cells
      clear e0 e1 e2 e3 e4
      go_wp2
      clear f0 f1 f2 r0 r1 r2 p0 p1 p2
      have HPF : PlF w3 (w.heap.size + 1) A1 m A2 m none 0 P D [] := ⟨K3.out.own.ps.lo, K3.out.own.ds.lo, rfl, fun h => absurd h (by omega)⟩
      obtain ⟨E1, E2, E3, E4⟩ := pl_end (w := w) (c1 := c1) (c2 := c2) (cq := 0) HPF K3.out.r K3.out.h K3.out.gr hg1 _ rfl
      have RR := E1.cells
      refine bodyPost_ret (v := .agg #[.slice A1 m c1, .slice A2 m c2, .slice none 0 0]) (by simp [results, Try.results80, go_sem, RR.1, RR.2.1, RR.2.2]) rfl ⟨_, _, _, _, _, _, _, _, _, _, _, _, rfl, E2, by omega, by omega, by omega, (fun ys hy => by simp at hy), E3, E4⟩
    have d0 : (s == 0) = false := by simpa using e0
    have d1 : (s == 1) = false := by simpa using e1
    have d2 : (s == 2) = false := by simpa using e2
    have d3 : (s == 3) = false := by simpa using e3
    have d4 : (s == 4) = false := by simpa using e4
    go_wp2_with fail
    go_meet
    exact ⟨_, _, K3.out, HRL.out⟩
  case rest =>
    clear K3 HRL
    obtain ⟨vals2, R2, hK, hR⟩ := hcut
    have K5 := Lib.hid hK
    have HR5 := Lib.hid hR
    have f0 := hK.r.thawed 0
    have f1 := hK.r.thawed 1
    have f2 := hK.r.thawed 2
    obtain ⟨r0, r1, r2⟩ := hK.r.cells
    obtain ⟨p0, p1, p2⟩ := hK.p.cells
    clear hK hR
    go_wp2
    clear f0 f1 f2 r0 r1 r2 p0 p1 p2
    obtain ⟨V, cv, ev, hls⟩ := K5.out.ks.los
    injection ev with e1 e2 e3
    subst e1; subst e3
    have HPF : PlF wc (w.heap.size + 1) A1 m A2 m (some ⟨gb, 0, none⟩) q P D R2 := ⟨K5.out.own.ps.lo, K5.out.own.ds.lo, hls.down (by omega)⟩
    obtain ⟨E1, E2, E3, E4⟩ := pl_end (w := w) (c1 := c1) (c2 := c2) (cq := cap) HPF K5.out.r K5.out.h K5.out.gr hg1 _ rfl
    have RR := E1.cells
    refine bodyPost_ret (v := .agg #[.slice A1 m c1, .slice A2 m c2, .slice (some ⟨gb, 0, none⟩) q cap]) (by simp [results, Try.results80, go_sem, RR.1, RR.2.1, RR.2.2]) rfl ⟨_, _, _, _, _, _, _, _, _, _, _, _, rfl, E2, by omega, by omega, by omega, HR5.out, E3, E4⟩

end Go.Proofs.Ytnadcjclihflcaa
