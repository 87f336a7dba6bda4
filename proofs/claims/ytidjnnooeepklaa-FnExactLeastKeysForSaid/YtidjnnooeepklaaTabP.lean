/- The program's IsTable, its table of bits, tableOf. -/
import Derived.Test.YtidjnnooeepklaaTabS
import Derived.Deep.MidRow
namespace Go.Proofs.Ytidjnnooeepklaa
open Go Go.RowKit

theorem below_boxT (w : World) (o : Obj) : Below w.heap.size w (w.alloc o) := (Below.refl _ _).alloc (Nat.le_refl _) o

set_option maxRecDepth 100000 in
set_option maxHeartbeats 4000000 in
theorem isTable_any (V : Option Addr) (n c : Nat) (T : List (List Int)) (w : World) (h : Sets w w.heap.size V n T) (hn : n + sizeL T ≤ 1048576) :
    Calls Try.prog 28 #[.slice V n c] w fun e w' => e = .returned (.bool (tabB T)) ∧ Below w.heap.size w w' := by
  have HL := Lib.hid h.len
  have HN := Lib.hid hn
  have H := Lib.hid h
  have hn1 : n ≤ 1048576 := by omega
  clear hn h
  rcases hin : inB (n : Int) 1 10 with _ | _
  · have HE := Lib.hid (tabB_len HL.out hin)
    go_enter Try.func28, Try.ntmps28
    go_wp2_with (go_at_call 87; (with_reducible refine (isWithin_any _ _ _ _).mono ?_); rintro e w' ⟨rfl, rfl⟩)
    go_ret
    exact ⟨ret_bool HE.out.symm, Below.refl _ _⟩
  have hn10 := inB_true.1 hin
  have HIN := Lib.hid hin
  obtain ⟨ad, r0, A0, m, c0, rfl, hab0, hy0, hc0, hi0, _, _⟩ := H.out.at_ (k := 0) (by omega)
  have HM : Hid (colT T = m) := Lib.hid (by unfold colT; rw [List.getD_eq_getElem?_getD, hy0]; exact hi0.len)
  rw [addr_zero] at hc0
  have HC0 := Lib.hid hc0
  have HAB0 := Lib.hid hab0
  have hm0 : m ≤ 1048576 := by have := fits_at HN.out hy0; have := hi0.len; omega
  have i2 : 0 < n := by omega
  clear hy0 hi0 hab0
  rcases hcol : inB (m : Int) 1 12 with _ | _
  · have HE := Lib.hid (tabB_col HM.out hcol)
    go_enter Try.func28, Try.ntmps28
    go_wp2_with (go_at_call 87; (with_reducible refine (isWithin_any _ _ _ _).mono ?_); rintro e w' ⟨rfl, rfl⟩)
    go_ret
    exact ⟨ret_bool HE.out.symm, Below.refl _ _⟩
  have hm12 := inB_true.1 hcol
  have HCOL := Lib.hid hcol
  go_enter Try.func28, Try.ntmps28
  go_wp2_with (go_at_call 87; (with_reducible refine (isWithin_any _ _ _ _).mono ?_); rintro e w' ⟨rfl, rfl⟩)
  clear hin hcol hc0
  go_loop [19] (fun i => ∃ j : Nat, j ≤ n ∧ i = .int .i64 j ∧ Hid ((T.take j).all (rowB m) = true)) (fun i => n - (intOf i).toNat)
  case atStart => exact ⟨0, Nat.zero_le _, rfl, Lib.hid rfl⟩
  case round =>
    obtain ⟨j, hj, rfl, hall⟩ := hrel
    by_cases hlt : j < n
    · obtain ⟨_, ys, A2, q2, c2, e0, hab, hy, hc, hi, _, _⟩ := H.out.at_ hlt
      injection e0 with e0
      subst e0
      have HY := Lib.hid hy
      have HI := Lib.hid hi
      have hq2 : q2 ≤ 1048576 := by have := fits_at HN.out hy; have := hi.len; omega
      have hc0 := HC0.out
      have i0 : (0 : Int) ≤ (j : Int) := by omega
      have i1 : (j : Int) < (n : Int) := by omega
      clear hy hi
      by_cases hne : q2 = m
      · subst hne
        have HW : Hid (withB 0 1 ys = rowB q2 ys) := Lib.hid (by rw [withB_short HI.out.len (by omega), rowB_all HI.out.len rfl])
        rcases hin : rowB q2 ys with _ | _
        · have HE := Lib.hid (tabB_row HM.out HY.out hin)
          go_wp2_with (go_at_call 88; (with_reducible refine (areWithin_any _ _ _ ys _ _ _ HI.out hq2).mono ?_); rw [HW.out, hin]; rintro e w' ⟨rfl, rfl⟩)
          go_ret
          exact ⟨ret_bool HE.out.symm, Below.refl _ _⟩
        · have HA := Lib.hid (rows_step HY.out hall.out hin)
          go_wp2_with (go_at_call 88; (with_reducible refine (areWithin_any _ _ _ ys _ _ _ HI.out hq2).mono ?_); rw [HW.out, hin]; rintro e w' ⟨rfl, rfl⟩)
          go_round
          case rel => exact ⟨j + 1, by omega, by go_num, HA⟩
          case measure => simp [intOf]; omega
      · have HE := Lib.hid (tabB_row HM.out HY.out (rowB_len HI.out.len hne))
        have d1 : ((q2 : Int) != (m : Int)) = true := by simp; omega
        clear hne
        go_wp2
        go_ret
        exact ⟨ret_bool HE.out.symm, Below.refl _ _⟩
    · obtain rfl : j = n := by omega
      have HE := Lib.hid (tabB_yes HL.out HM.out HIN.out HCOL.out hall.out)
      go_wp2
      go_ret
      exact ⟨ret_bool HE.out.symm, Below.refl _ _⟩

/-! the table of bits in memory -/
def tabA (n m : Nat) (F : Nat → Nat) : Array Value := #[.int .i64 (n : Int), .int .i64 (m : Int), .int .u16 ((F 0 : Nat) : Int), .int .u16 ((F 1 : Nat) : Int), .int .u16 ((F 2 : Nat) : Int), .int .u16 ((F 3 : Nat) : Int), .int .u16 ((F 4 : Nat) : Int), .int .u16 ((F 5 : Nat) : Int), .int .u16 ((F 6 : Nat) : Int), .int .u16 ((F 7 : Nat) : Int), .int .u16 ((F 8 : Nat) : Int), .int .u16 ((F 9 : Nat) : Int)]
theorem tabA_map (n m : Nat) (F : Nat → Nat) : tabA n m F = (Value.int .i64 (n : Int) :: Value.int .i64 (m : Int) :: (List.range 10).map fun i => Value.int .u16 ((F i : Nat) : Int)).toArray := rfl
theorem tabA_at (n m : Nat) (F : Nat → Nat) {i : Nat} (h : i < 10) : (tabA n m F)[2 + i]? = some (.int .u16 ((F i : Nat) : Int)) := by
  rw [tabA_map, Nat.add_comm]; simp [h]
theorem tabA_congr {n m : Nat} {F G : Nat → Nat} (h : ∀ i, i < 10 → F i = G i) : tabA n m F = tabA n m G := by
  rw [tabA_map, tabA_map]
  congr 3
  exact List.map_congr_left (fun i hi => by rw [h i (List.mem_range.1 hi)])
def updN (F : Nat → Nat) (x v : Nat) (i : Nat) : Nat := if i = x then v else F i
theorem tabA_set (n m : Nat) (F : Nat → Nat) (x v : Nat) : (tabA n m F).setIfInBounds (2 + x) (.int .u16 ((v : Nat) : Int)) = tabA n m (updN F x v) := by
  rw [tabA_map, tabA_map, List.setIfInBounds_toArray, Nat.add_comm]
  congr 1
  rw [List.set_cons_succ, List.set_cons_succ]
  congr 2
  refine List.ext_getElem? (fun i => ?_)
  rw [List.getElem?_set]
  unfold updN
  by_cases e : x = i
  · subst e
    by_cases hx : x < 10
    · simp [hx]
    · simp [hx]
  · have e2 : ¬ i = x := fun h => e h.symm
    rw [if_neg e]
    by_cases hi : i < 10
    · simp [hi, e2]
    · simp [hi]
def TBox (w : World) (g n m : Nat) (F : Nat → Nat) : Prop := w.heap[g]? = some (.cells (tabA n m F) 83 (0, 0))
theorem TBox.lt {w : World} {g n m : Nat} {F : Nat → Nat} (h : TBox w g n m F) : g < w.heap.size := heapLt h
theorem TBox.on {w w' : World} {g n m : Nat} {F : Nat → Nat} (h : TBox w g n m F) (hb : Below w.heap.size w w') : TBox w' g n m F := (hb.block g h.lt).trans h
theorem TBox.grown {w w' : World} {g n m : Nat} {F : Nat → Nat} {row : Option Nat} (h : TBox w g n m F) (hg : w.grownBy w' row) (hne : some g ≠ row) : TBox w' g n m F := (hg.block g h.lt hne).trans h
theorem TBox.cell {w : World} {g n m : Nat} {F : Nat → Nat} (h : TBox w g n m F) {i : Nat} (hi : i < 10) : w.cell? ⟨g, 2 + i, none⟩ = some (.int .u16 ((F i : Nat) : Int)) := by
  unfold TBox at h; simp [World.cell?, h, tabA_at n m F hi]
theorem TBox.nm {w : World} {g n m : Nat} {F : Nat → Nat} (h : TBox w g n m F) : w.cell? ⟨g, 0, none⟩ = some (.int .i64 (n : Int)) ∧ w.cell? ⟨g, 1, none⟩ = some (.int .i64 (m : Int)) := by
  unfold TBox at h; exact ⟨by simp [World.cell?, h, tabA], by simp [World.cell?, h, tabA]⟩
theorem TBox.thawed {w : World} {g n m : Nat} {F : Nat → Nat} (h : TBox w g n m F) (i : Nat) : w.frozen? ⟨g, i, none⟩ = false := by
  unfold TBox at h; simp [World.frozen?, h]
theorem TBox.put {w : World} {g n m : Nat} {F : Nat → Nat} (h : TBox w g n m F) (x v : Nat) : TBox (w.setCell ⟨g, 2 + x, none⟩ (.int .u16 ((v : Nat) : Int))) g n m (updN F x v) := by
  unfold TBox at *
  rw [← tabA_set]
  simp [World.setCell, Array.getElem?_modify, h]
theorem TBox.aside {w : World} {g n m : Nat} {F : Nat → Nat} {p : Addr} (h : TBox w g n m F) (v : Value) (hp : p.block ≠ g) : TBox (w.setCell p v) g n m F :=
  h.grown (grown_set (World.grownBy.refl w _) rfl _) (fun e => by injection e with e; exact hp e.symm)
theorem TBox.congr {w : World} {g n m : Nat} {F G : Nat → Nat} (h : TBox w g n m F) (e : ∀ i, i < 10 → F i = G i) : TBox w g n m G := by
  unfold TBox at *; rw [h, tabA_congr e]
theorem TBox.new (w : World) (n m : Nat) (F : Nat → Nat) : TBox (w.alloc (.cells (tabA n m F) 83)) w.heap.size n m F := heap_alloc_new w _
theorem tabA_len (n m : Nat) (F : Nat → Nat) : (tabA n m F).toList.length = 12 := rfl
theorem tabA_one (n m : Nat) (F : Nat → Nat) : (tabA n m F).all (·.oneCell') = true := by simp [tabA, Value.oneCell']
theorem TBox.range {w : World} {g n m : Nat} {F : Nat → Nat} (h : TBox w g n m F) : w.rangeAt g 0 (tabA n m F).toList := by
  intro j v hv
  rw [Array.getElem?_toList] at hv
  unfold TBox at h
  simp [World.cell?, h, hv]
theorem TBox.there {w : World} {g n m : Nat} {F : Nat → Nat} (h : TBox w g n m F) : w.there g 0 12 := fun j hj => by
  rw [Nat.zero_add]
  refine ⟨?_, h.thawed j⟩
  have := h.range j ((tabA n m F)[j]'(by exact hj)) (by rw [Array.getElem?_toList]; exact Array.getElem?_eq_getElem _)
  rw [Nat.zero_add] at this
  rw [this]; rfl
theorem TBox.stored {w : World} {g n m n' m' : Nat} {F G : Nat → Nat} (h : TBox w g n m F) : TBox (w.setCells g 0 (tabA n' m' G).toList) g n' m' G := by
  unfold TBox at *
  simp [tabA, World.setCells, World.setCell, Array.getElem?_modify, h]
theorem Try.undT : (Try.prog.underlying 83).map (·.isRow) = some true := by kernel_rfl
theorem Try.infoT : (Try.prog.info? 83).map (·.size) = some 12 := by kernel_rfl
theorem undT : ∃ d, Try.prog.underlying 83 = some d ∧ d.isRow = true := by
  have := Try.undT
  cases h : Try.prog.underlying 83 with
  | none => rw [h] at this; cases this
  | some d => rw [h] at this; injection this with this; exact ⟨d, rfl, this⟩

theorem below_setCellsT {B : Nat} {a : World} (b : Nat) (hB : B ≤ b) : ∀ (vs : List Value) (o : Nat) (w : World), Below B a w → Below B a (w.setCells b o vs)
  | [], _, _, h => h
  | v :: r, o, w, h => by
    rw [World.setCells]
    exact below_setCellsT b hB r (o + 1) _ (h.setCell (p := ⟨b, o, none⟩) hB v)
/-- the rows that have been read: j of them -/
def rowF (T : List (List Int)) (j i : Nat) : Nat := if i < j then bitN (getR T i) else 0
def bitsT (T : List (List Int)) (i : Nat) : Nat := bitN (getR T i)
theorem rowF_all {T : List (List Int)} {n : Nat} (hl : T.length = n) (i : Nat) : rowF T n i = bitsT T i := by
  unfold rowF bitsT
  by_cases h : i < n
  · rw [if_pos h]
  · rw [if_neg h]
    have : getR T i = [] := by unfold getR; rw [List.getD_eq_getElem?_getD, List.getElem?_eq_none (by omega)]; rfl
    rw [this]; rfl
theorem bits_zero16 (a : Nat) (h : a < 65536) : bits .or .u16 (a : Int) 0 = (a : Int) := by
  have := nat_or16 a 0 h (by omega)
  rw [Nat.or_zero] at this
  exact this
theorem bits_pow16 {a d : Nat} (h : a < 65536) (hd : d < 12) : bits .or .u16 (a : Int) (IntKind.u16.wrap (2 ^ d)) = ((a ||| 2 ^ d : Nat) : Int) := by
  rw [IntKind.wrap_u16]
  have h2 : (2 : Nat) ^ d < 4096 := Nat.lt_of_lt_of_le (Nat.pow_lt_pow_right (by omega) hd) (by decide)
  have e : ((2 : Int) ^ d % 65536) = ((2 ^ d : Nat) : Int) := by
    have : ((2 : Int) ^ d) = ((2 ^ d : Nat) : Int) := by rw [Int.natCast_pow]; rfl
    rw [this]
    generalize (2 : Nat) ^ d = p at *
    omega
  rw [e]
  exact nat_or16 a _ h (by omega)

theorem updN_twice (F : Nat → Nat) (x u v i : Nat) : updN (updN F x u) x v i = updN F x v i := by
  unfold updN
  by_cases e : i = x
  · rw [if_pos e, if_pos e]
  · rw [if_neg e, if_neg e, if_neg e]
theorem tab_step {W0 w wr : World} {g n m j u : Nat} {F : Nat → Nat} {V A2 : Option Addr} {T : List (List Int)} {xs : List Int} {q : Nat} (v : Nat) (hG : TBox wr g n m (updN F j u)) (hO : TBox wr w.heap.size 0 0 (fun _ => 0)) (hC : Below w.heap.size w wr) (hX : Sets wr W0.heap.size V n T) (hI : Ints wr W0.heap.size A2 q xs) (hW : W0.heap.size ≤ g) (hg : w.heap.size < g) :
    TBox (wr.setCell ⟨g, 2 + j, none⟩ (.int .u16 ((v : Nat) : Int))).drew g n m (updN F j v) ∧ TBox (wr.setCell ⟨g, 2 + j, none⟩ (.int .u16 ((v : Nat) : Int))).drew w.heap.size 0 0 (fun _ => 0) ∧ Below w.heap.size w (wr.setCell ⟨g, 2 + j, none⟩ (.int .u16 ((v : Nat) : Int))).drew ∧ Sets (wr.setCell ⟨g, 2 + j, none⟩ (.int .u16 ((v : Nat) : Int))).drew W0.heap.size V n T ∧ Ints (wr.setCell ⟨g, 2 + j, none⟩ (.int .u16 ((v : Nat) : Int))).drew W0.heap.size A2 q xs := by
  have hb : Below W0.heap.size wr (wr.setCell ⟨g, 2 + j, none⟩ (.int .u16 ((v : Nat) : Int))).drew := by
    have h1 : Below W0.heap.size wr (wr.setCell ⟨g, 2 + j, none⟩ (.int .u16 ((v : Nat) : Int))) := (Below.refl _ wr).setCell (p := ⟨g, 2 + j, none⟩) hW _
    exact h1.drew
  refine ⟨((hG.put j v).congr (fun i _ => updN_twice F j u v i)).on (Below.refl _ _).drew, (hO.aside (p := ⟨g, 2 + j, none⟩) _ (by show g ≠ w.heap.size; omega)).on (Below.refl _ _).drew, (hC.setCell (p := ⟨g, 2 + j, none⟩) (Nat.le_of_lt hg) _).drew, hX.below hb, hI.below hb⟩
set_option maxRecDepth 100000 in
set_option maxHeartbeats 4000000 in
theorem tableOf_any (V : Option Addr) (n c : Nat) (T : List (List Int)) (N : Option Addr) (r e1 : Nat) (ks : List Int) (w : World) (h : Sets w w.heap.size V n T) (hn : n + sizeL T ≤ 1048576) (hx : Ints w w.heap.size N r ks) (hr : r ≤ 100) :
    Calls Try.prog 79 #[.slice V n c, .slice N r e1] w fun e w' => (∃ (a b : Nat) (F : Nat → Nat), e = .returned (.tuple #[.agg #[.int .i64 (a : Int), .int .i64 (b : Int), .int .u16 ((F 0 : Nat) : Int), .int .u16 ((F 1 : Nat) : Int), .int .u16 ((F 2 : Nat) : Int), .int .u16 ((F 3 : Nat) : Int), .int .u16 ((F 4 : Nat) : Int), .int .u16 ((F 5 : Nat) : Int), .int .u16 ((F 6 : Nat) : Int), .int .u16 ((F 7 : Nat) : Int), .int .u16 ((F 8 : Nat) : Int), .int .u16 ((F 9 : Nat) : Int)], .int .i64 (tksE T ks)]) ∧ (tksE T ks = 0 → a = n ∧ b = colT T ∧ F = bitsT T)) ∧ Below w.heap.size w w' := by
  have HL := Lib.hid h.len
  have HN := Lib.hid hn
  have c0 := below_boxT w (.cells #[.int .i64 0, .int .i64 0, .int .u16 0, .int .u16 0, .int .u16 0, .int .u16 0, .int .u16 0, .int .u16 0, .int .u16 0, .int .u16 0, .int .u16 0, .int .u16 0] 83)
  have H := Lib.hid (h.on c0)
  have X := Lib.hid (hx.on c0)
  have C0 := Lib.hid c0
  have B0 : Hid (TBox (w.alloc (.cells #[.int .i64 0, .int .i64 0, .int .u16 0, .int .u16 0, .int .u16 0, .int .u16 0, .int .u16 0, .int .u16 0, .int .u16 0, .int .u16 0, .int .u16 0, .int .u16 0] 83)) w.heap.size 0 0 (fun _ => 0)) := Lib.hid (TBox.new w 0 0 (fun _ => 0))
  have hn1 : n ≤ 1048576 := by omega
  obtain ⟨dd, hU, hD⟩ := undT
  have HU := Lib.hid hU
  have HD := Lib.hid hD
  have HZ := Lib.hid Try.infoT
  clear hn h hx c0 hU hD
  go_enter Try.func79, Try.ntmps79
  go_wp2_with fail
  refine (isTable_any V n c T _ H.out HN.out).mono ?_
  rcases hb : tabB T with _ | _
  · have HE : Hid (tksE T ks = 1) := Lib.hid (by unfold tksE; rw [hb]; rfl)
    rintro e w1 ⟨rfl, b1⟩
    have C1 := Lib.hid (below_trans' C0.out b1)
    have B1 := Lib.hid (B0.out.on b1)
    have T1 := Lib.hid B1.out.there
    have HSO := Lib.hid (tabA_one 0 0 (fun _ => 0))
    clear b1 hb
    go_wp2_with (refine wpList_store_mid rfl 83 _ _ rfl w.heap.size 0 _ rfl rfl T1.out HZ.out HSO.out ?_)
    have RR := World.rangeAt_setCells_same w1 w.heap.size 0 (tabA 0 0 (fun _ => 0)).toList T1.out
    have HR := run_loadVar_mid (P := Try.prog) _ w.heap.size 0 83 _ _ RR HU.out HD.out HZ.out
    have C2 := Lib.hid (below_setCellsT w.heap.size (Nat.le_refl _) (tabA 0 0 (fun _ => 0)).toList 0 _ C1.out)
    change bodyPost _ _ _ _ _ (w1.setCells w.heap.size 0 (tabA 0 0 (fun _ => 0)).toList)
    generalize w1.setCells w.heap.size 0 (tabA 0 0 (fun _ => 0)).toList = W at *
    obtain ⟨f, hf⟩ : ∃ f : TypeId → Addr → Sem Value, f = loadVar := ⟨_, rfl⟩
    rw [← hf] at HR
    clear H X C0 B0 HL HN RR T1 B1 C1
    refine bodyPost_ret (v := .tuple #[.agg (tabA 0 0 (fun _ => 0)), .int .i64 1]) (by unfold results; rw [← hf]; simp [Try.results79, go_sem, HR]) rfl ⟨⟨0, 0, fun _ => 0, by rw [HE.out]; rfl, fun h => by rw [HE.out] at h; cases h⟩, C2.out⟩
  obtain ⟨⟨t1, t2⟩, ⟨t3, t4⟩, _⟩ := tabB_true hb
  rw [HL.out] at t1 t2
  obtain ⟨m, hm⟩ : ∃ m, colT T = m := ⟨_, rfl⟩
  rw [hm] at t3 t4
  have HM := Lib.hid hm
  have HB := Lib.hid hb
  have hn0 : 0 < n := t1
  obtain ⟨ad, A0, c0, rfl, hab0, _, hc0, hi0, _, _⟩ := tab_at H.out hb hm (i := 0) hn0
  rw [addr_zero] at hc0
  clear hm hi0
  rintro e w1 ⟨rfl, b1⟩
  have hc1 := (b1.cell hab0).trans hc0
  have C1 := Lib.hid (below_trans' C0.out b1)
  have B1 := Lib.hid (B0.out.on b1)
  have H1 := Lib.hid (H.out.on b1)
  have X1 := Lib.hid (X.out.on b1)
  clear b1 hb hab0 hc0 B0 C0 H X
  have bA := below_boxT w1 (.cells #[.int .i64 (n : Int), .int .i64 (m : Int), .int .u16 0, .int .u16 0, .int .u16 0, .int .u16 0, .int .u16 0, .int .u16 0, .int .u16 0, .int .u16 0, .int .u16 0, .int .u16 0] 83)
  have B2 := Lib.hid (B1.out.on bA)
  have H2 := Lib.hid (H1.out.on bA)
  have X2 := Lib.hid (X1.out.on bA)
  have C2 := Lib.hid (below_trans' C1.out bA)
  have G2 : Hid (TBox (w1.alloc (.cells #[.int .i64 (n : Int), .int .i64 (m : Int), .int .u16 0, .int .u16 0, .int .u16 0, .int .u16 0, .int .u16 0, .int .u16 0, .int .u16 0, .int .u16 0, .int .u16 0, .int .u16 0] 83)) w1.heap.size n m (fun _ => 0)) := Lib.hid (TBox.new w1 n m (fun _ => 0))
  have T2 := Lib.hid G2.out.there
  have HSO := Lib.hid (tabA_one n m (fun _ => 0))
  obtain ⟨g0, g1⟩ := G2.out.nm
  clear bA
  rcases hin : withB 0 ((n : Int) - 1) ks with _ | _
  · have HE : Hid (tksE T ks = 2) := Lib.hid (by unfold tksE; rw [HB.out, HL.out, hin]; rfl)
    go_wp2_with fail
    refine (areWithin_any _ _ _ ks _ _ _ X2.out (by omega)).mono ?_
    rw [hin]
    rintro e w' ⟨rfl, rfl⟩
    have T3 := Lib.hid B2.out.there
    have HS3 := Lib.hid (tabA_one 0 0 (fun _ => 0))
    go_wp2_with (refine wpList_store_mid rfl 83 _ _ rfl w.heap.size 0 _ rfl rfl T3.out HZ.out HS3.out ?_)
    have RR := World.rangeAt_setCells_same (w1.alloc (.cells #[.int .i64 (n : Int), .int .i64 (m : Int), .int .u16 0, .int .u16 0, .int .u16 0, .int .u16 0, .int .u16 0, .int .u16 0, .int .u16 0, .int .u16 0, .int .u16 0, .int .u16 0] 83)) w.heap.size 0 (tabA 0 0 (fun _ => 0)).toList T3.out
    have HR := run_loadVar_mid (P := Try.prog) _ w.heap.size 0 83 _ _ RR HU.out HD.out HZ.out
    have C3 := Lib.hid (below_setCellsT w.heap.size (Nat.le_refl _) (tabA 0 0 (fun _ => 0)).toList 0 _ C2.out)
    change bodyPost _ _ _ _ _ ((w1.alloc (.cells #[.int .i64 (n : Int), .int .i64 (m : Int), .int .u16 0, .int .u16 0, .int .u16 0, .int .u16 0, .int .u16 0, .int .u16 0, .int .u16 0, .int .u16 0, .int .u16 0, .int .u16 0] 83)).setCells w.heap.size 0 (tabA 0 0 (fun _ => 0)).toList)
    generalize (w1.alloc (.cells #[.int .i64 (n : Int), .int .i64 (m : Int), .int .u16 0, .int .u16 0, .int .u16 0, .int .u16 0, .int .u16 0, .int .u16 0, .int .u16 0, .int .u16 0, .int .u16 0, .int .u16 0] 83)).setCells w.heap.size 0 (tabA 0 0 (fun _ => 0)).toList = W at *
    obtain ⟨f, hf⟩ : ∃ f : TypeId → Addr → Sem Value, f = loadVar := ⟨_, rfl⟩
    rw [← hf] at HR
    clear HL HN RR T3 T2 B2 H2 X2 C2 G2 B1 H1 X1 C1 g0 g1 hc1
    refine bodyPost_ret (v := .tuple #[.agg (tabA 0 0 (fun _ => 0)), .int .i64 2]) (by unfold results; rw [← hf]; simp [Try.results79, go_sem, HR]) rfl ⟨⟨0, 0, fun _ => 0, by rw [HE.out]; rfl, fun h => by rw [HE.out] at h; cases h⟩, C3.out⟩
  have HE : Hid (tksE T ks = 0) := Lib.hid (by unfold tksE; rw [HB.out, HL.out, hin]; rfl)
  have HAD := Lib.hid (HM.out)
  go_wp2_with fail
  refine (areWithin_any _ _ _ ks _ _ _ X2.out (by omega)).mono ?_
  rw [hin]
  rintro e w' ⟨rfl, rfl⟩
  have sz1 : w.heap.size < w1.heap.size := B1.out.lt
  have sz2 : w1.heap.size < (w1.alloc (.cells #[.int .i64 (n : Int), .int .i64 (m : Int), .int .u16 0, .int .u16 0, .int .u16 0, .int .u16 0, .int .u16 0, .int .u16 0, .int .u16 0, .int .u16 0, .int .u16 0, .int .u16 0] 83)).heap.size := by simp
  have HROW : Hid (∀ i, i < n → rowB m (getR T i) = true) := Lib.hid (fun i hi => tab_row HB.out HM.out HL.out hi)
  have HS1 := Lib.hid H1.out
  clear g0 g1 hc1 hin T2 HSO X2 X1 H1 C1 B1 hr
  obtain ⟨W0, hW0⟩ : ∃ W0, W0 = w1 := ⟨_, rfl⟩
  have H3 : Hid (Sets (w1.alloc (.cells #[.int .i64 (n : Int), .int .i64 (m : Int), .int .u16 0, .int .u16 0, .int .u16 0, .int .u16 0, .int .u16 0, .int .u16 0, .int .u16 0, .int .u16 0, .int .u16 0, .int .u16 0] 83)) W0.heap.size (some ad) n T) := Lib.hid (by rw [hW0]; exact HS1.out.below (below_boxT w1 _))
  have HFR : Hid (W0.heap.size ≤ w1.heap.size) := Lib.hid (by rw [hW0]; exact Nat.le_refl _)
  clear hW0 HS1 H2
  generalize w1.alloc (.cells #[.int .i64 (n : Int), .int .i64 (m : Int), .int .u16 0, .int .u16 0, .int .u16 0, .int .u16 0, .int .u16 0, .int .u16 0, .int .u16 0, .int .u16 0, .int .u16 0, .int .u16 0] 83) = W at *
  have G0 : Hid (TBox W w1.heap.size n m (rowF T 0)) := Lib.hid (G2.out.congr (fun i _ => by unfold rowF; rw [if_neg (by omega)]))
  clear G2
  generalize w1.heap.size = g at *
  go_wp2
  go_loopw [31] (fun i wr => ∃ j : Nat, j ≤ n ∧ i = .int .i64 j ∧ Hid (TBox wr g n m (rowF T j)) ∧ Hid (TBox wr w.heap.size 0 0 (fun _ => 0)) ∧ Hid (Below w.heap.size w wr) ∧ Hid (Sets wr W0.heap.size (some ad) n T)) (fun i _ => n - (intOf i).toNat)
  case atStart => exact ⟨0, Nat.zero_le _, rfl, G0, B2, C2, H3⟩
  case round =>
    obtain ⟨j, hj, rfl, HG, HO, HC, HX⟩ := hrel
    clear G0 B2 C2 H3
    by_cases hlt : j < n
    · obtain ⟨_, A2, c2, e0, hab, _, hc, hi, _, _⟩ := tab_at HX.out HB.out HM.out hlt
      injection e0 with e0
      subst e0
      have HI := Lib.hid hi
      have i0 : (0 : Int) ≤ (j : Int) := by omega
      have i1 : (j : Int) < (n : Int) := by omega
      have i2 : (j : Int) < 10 := by omega
      have hj10 : j < 10 := by omega
      clear hi
      obtain ⟨wo, rfl⟩ : ∃ wo, wo = wr := ⟨_, rfl⟩
      have HG1 : Hid (TBox wo g n m (updN (rowF T j) j (bitN ((getR T j).take 0)))) := Lib.hid (HG.out.congr (fun i _ => by
        unfold updN rowF
        by_cases e : i = j
        · subst e; rw [if_neg (by omega), if_pos rfl]; rfl
        · rw [if_neg e]))
      go_wp2
      go_loopw [38] (fun i wr => ∃ k : Nat, k ≤ m ∧ i = .int .i64 k ∧ Hid (TBox wr g n m (updN (rowF T j) j (bitN ((getR T j).take k)))) ∧ Hid (TBox wr w.heap.size 0 0 (fun _ => 0)) ∧ Hid (Below w.heap.size w wr) ∧ Hid (Sets wr W0.heap.size (some ad) n T) ∧ Hid (Ints wr W0.heap.size A2 m (getR T j))) (fun i _ => m - (intOf i).toNat)
      case atStart => exact ⟨0, Nat.zero_le _, rfl, HG1, HO, HC, HX, HI⟩
      case round =>
        obtain ⟨k, hk, rfl, HG3, HO3, HC3, HX3, HI3⟩ := hrel
        clear HG1 HO HC HX HI HG
        by_cases hkm : k < m
        · obtain ⟨bd, v, rfl, hbb, hv, hcv⟩ := HI3.out.at_ hkm
          have hv1 := allIn_at (rowB_true (HROW.out j hlt)).2 hv
          have hl12 : bitN ((getR T j).take k) < 4096 := bitN_12 (by rw [List.length_take]; omega)
          have k0 : (0 : Int) ≤ (k : Int) := by omega
          have k1 : (k : Int) < (m : Int) := by omega
          have hcc := HG3.out.cell (i := j) hj10
          rw [show updN (rowF T j) j (bitN ((getR T j).take k)) j = bitN ((getR T j).take k) by unfold updN; rw [if_pos rfl]] at hcc
          have hth := HG3.out.thawed (2 + j)
          by_cases hv0 : v = 0
          · subst hv0
            have HST := Lib.hid (bitN_no hv)
            have hor := bits_zero16 _ (show bitN ((getR T j).take k) < 65536 by omega)
            clear hv hv1
            generalize bitN ((getR T j).take k) = u at *
            have N3 := Lib.hid (tab_step (u := u) u HG3.out HO3.out HC3.out HX3.out HI3.out HFR.out (by omega))
            go_wp2
            go_region
            go_wp2
            go_roundw
            case rel => exact ⟨k + 1, by omega, by go_num, by rw [HST.out]; exact Lib.hid N3.out.1, Lib.hid N3.out.2.1, Lib.hid N3.out.2.2.1, Lib.hid N3.out.2.2.2.1, Lib.hid N3.out.2.2.2.2⟩
            case measure => simp [intOf]; omega
          · have hv11 : v = 1 := by omega
            subst hv11
            have HST := Lib.hid (bitN_yes hv)
            have hor := bits_pow16 (d := k) (show bitN ((getR T j).take k) < 65536 by omega) (by omega)
            clear hv hv1 hv0
            generalize bitN ((getR T j).take k) = u at *
            have N3 := Lib.hid (tab_step (u := u) (u ||| 2 ^ k) HG3.out HO3.out HC3.out HX3.out HI3.out HFR.out (by omega))
            go_wp2
            go_region
            go_wp2
            go_roundw
            case rel => exact ⟨k + 1, by omega, by go_num, by rw [HST.out]; exact Lib.hid N3.out.1, Lib.hid N3.out.2.1, Lib.hid N3.out.2.2.1, Lib.hid N3.out.2.2.2.1, Lib.hid N3.out.2.2.2.2⟩
            case measure => simp [intOf]; omega
        · have HTK : Hid ((getR T j).take k = getR T j) := Lib.hid (List.take_of_length_le (by have := HI3.out.len; omega))
          have HG4 : Hid (TBox wr g n m (rowF T (j + 1))) := Lib.hid (HG3.out.congr (fun i _ => by
            rw [HTK.out]
            unfold updN rowF
            by_cases e : i = j
            · subst e; rw [if_pos rfl, if_pos (by omega)]
            · rw [if_neg e]
              by_cases e2 : i < j
              · rw [if_pos e2, if_pos (by omega)]
              · rw [if_neg e2, if_neg (by omega)]))
          go_wp2
          go_roundw
          case rel => exact ⟨j + 1, by omega, by go_num, HG4, HO3, HC3, HX3⟩
          case measure => simp [intOf]; omega
    · obtain rfl : j = n := by omega
      have HBT : Hid (rowF T j = bitsT T) := Lib.hid (funext (rowF_all HL.out))
      have R1 := Lib.hid HG.out.range
      have T1 := Lib.hid HO.out.there
      have HSO := Lib.hid (tabA_one j m (rowF T j))
      go_wp2_with (first | (refine wpList_load_mid rfl 83 _ rfl g 0 rfl _ _ R1.out HU.out HD.out HZ.out ?_) | (refine wpList_store_mid rfl 83 _ _ rfl w.heap.size 0 _ rfl rfl T1.out HZ.out HSO.out ?_))
      have RR := World.rangeAt_setCells_same wr w.heap.size 0 (tabA j m (rowF T j)).toList T1.out
      have HR := run_loadVar_mid (P := Try.prog) _ w.heap.size 0 83 _ _ RR HU.out HD.out HZ.out
      have C3 := Lib.hid (below_setCellsT w.heap.size (Nat.le_refl _) (tabA j m (rowF T j)).toList 0 _ HC.out)
      change bodyPost _ _ _ _ _ (wr.setCells w.heap.size 0 (tabA j m (rowF T j)).toList)
      generalize wr.setCells w.heap.size 0 (tabA j m (rowF T j)).toList = W2 at *
      obtain ⟨f, hf⟩ : ∃ f : TypeId → Addr → Sem Value, f = loadVar := ⟨_, rfl⟩
      rw [← hf] at HR
      clear RR T1 R1 HG HO HX
      refine bodyPost_ret (v := .tuple #[.agg (tabA j m (rowF T j)), .int .i64 0]) (by unfold results; rw [← hf]; simp [Try.results79, go_sem, HR]) rfl ⟨⟨j, m, rowF T j, by rw [HE.out]; rfl, fun _ => ⟨rfl, HM.out.symm, HBT.out⟩⟩, C3.out⟩

end Go.Proofs.Ytidjnnooeepklaa
