/- append to a row of the call's own, with what becomes of the block in which the row lay: where the row moves, nothing that lay has turned. The stacks of the program: slices of one list that grows. stacks of the program: its walk. Stacks and pins of the model. -/
import Derived.Test.YtjoknbknhfnggaaRow
import Derived.Test.YtjoknbknhfnggaaSets
import Derived.Test.YtjoknbknhfnggaaLock
import Derived.Test.YtjoknbknhfnggaaThick
import Derived.Deep.RegionLaw
import Derived.Deep.AppendLies
namespace Go.Proofs.Ytjoknbknhfnggaa
open Go Go.RowKit

section
variable {P : Program} (w : World)

theorem run_append_kept (t ty : TypeId) (base : Nat) (e : TypeId) (i : TypeInfo) (z : Value) (size bytes : Nat) (ht : P.underlying t = some (.slice e)) (hi : P.info? e = some i) (hz : i.zero = some z)
    (hsize : i.size = size) (hby : i.bytes = bytes) (hzs : z.cells.size = size) (hsz : 0 < size)
    (v : Value) (n : Nat) (xs : List Value) (hown : w.ownsRow base e size v n xs)
    (ad : Addr) (m c : Nat) (news : List Value) (hl : news.length = m * size) (hnews : ∀ j u, news[j]? = some u → w.cell? (ad.add j) = some u) (h1 : ∀ u ∈ news, u.oneCell' = true)
    (hm : 0 < m) (h63 : n + m ≤ maxLen) (hbytes : (n + m) * bytes ≤ 140737488355328) (hbase : base ≤ w.heap.size) (H : Nat) (hH : w.heap.size = H) :
    ∃ g cap w', (Builtin.append_ #[t, t] ty #[v, .slice (some ad) m c]).run P w = .ok (.slice (some ⟨g, 0, none⟩) (n + m) cap) w' ∧
      w'.ownsRow base e size (.slice (some ⟨g, 0, none⟩) (n + m) cap) (n + m) (xs ++ news) ∧ w.grownBy w' v.ownBlock ∧ (v.ownBlock = some g ∨ g = H) ∧ g < w'.heap.size ∧ (∀ k, v.ownBlock = some k → k ≠ g → w'.heap[k]? = w.heap[k]?) := by
  have hsmall : n + m ≤ 9223372036854775807 := by simp only [maxLen] at h63; omega
  obtain ⟨g, cap, w', hr, h2, h3, h4, h5⟩ := run_append_lies (P := P) w t ty base e i z size bytes ht hi hz hsize hby hzs hsz v n xs hown ad m c news hl hnews h1 hm h63 hbytes hbase H hH
  refine ⟨g, cap, w', hr, h2, h3, h4, h5, fun k hk hne => ?_⟩
  subst hsize
  subst hby
  rcases hown.2 with ⟨rfl, _⟩ | ⟨g0, cap0, cur, rfl, hbg, hg, hnc, hcm, hcs, htake⟩
  · cases hk
  · have hgk : g0 = k := by simpa [Value.ownBlock] using hk
    subst hgk
    by_cases hroom : n + m ≤ cap0
    · have hfit : n * i.size + news.length ≤ cur.size := by rw [hl, hcs, ← Nat.add_mul]; exact Nat.mul_le_mul_right _ hroom
      have hr2 := run_append_room (P := P) w t ty e i ht hi g0 n cap0 cur hg ad m c news hl hnews h1 hroom hfit
      rw [hr] at hr2
      injection hr2 with e1 e2
      have := congrArg Value.ownBlock e1
      exact absurd (by simpa [Value.ownBlock] using this.symm) hne
    · have holds : ∀ j u, xs[j]? = some u → w.cell? ((⟨g0, 0, none⟩ : Addr).add j) = some u := hown.cells (g := g0) rfl
      have hr2 := run_append_grow (P := P) w t ty e i z ht hi hz ⟨g0, 0, none⟩ n cap0 xs hown.1 holds ad m c news hl hnews (by omega) (by omega) (growslice_fits (by omega) hbytes)
      rw [hr] at hr2
      injection hr2 with e1 e2
      rw [e2]
      exact Below.heap_alloc w.drew _ g0 (heapLt hg)

theorem wp_append_kept {o : Oper} {a : Act} {K : Act → World → Prop} {Q : Exit → Act → World → Prop} (s x : Operand) (t : TypeId)
    (ho : o.op = .call { callee := .builtin .append, args := #[s, x], argTypes := #[t, t] })
    (base : Nat) (e : TypeId) (i : TypeInfo) (z : Value) (size bytes : Nat) (ht : P.underlying t = some (.slice e)) (hi : P.info? e = some i) (hz : i.zero = some z)
    (hsize : i.size = size) (hby : i.bytes = bytes) (hzs : z.cells.size = size) (hsz : 0 < size)
    (v : Value) (n : Nat) (xs : List Value) (hs : a.eval s = v) (hown : w.ownsRow base e size v n xs)
    (ad : Addr) (m c : Nat) (news : List Value) (hx : a.eval x = .slice (some ad) m c) (hl : news.length = m * size) (hnews : ∀ j u, news[j]? = some u → w.cell? (ad.add j) = some u) (h1 : ∀ u ∈ news, u.oneCell' = true)
    (hm : 0 < m) (h63 : n + m ≤ maxLen) (hbytes : (n + m) * bytes ≤ 140737488355328) (hbase : base ≤ w.heap.size) (H : Nat) (hH : w.heap.size = H)
    (h : ∀ g cap w', w'.ownsRow base e size (.slice (some ⟨g, 0, none⟩) (n + m) cap) (n + m) (xs ++ news) → w.grownBy w' v.ownBlock → (v.ownBlock = some g ∨ g = H) → g < w'.heap.size → (∀ k, v.ownBlock = some k → k ≠ g → w'.heap[k]? = w.heap[k]?) → K (a.put o.dst (.slice (some ⟨g, 0, none⟩) (n + m) cap)) w') : o.wp P a w K Q := by
  obtain ⟨g, cap, w', hr, h2, h3, h4, h5, h6⟩ := run_append_kept (P := P) w t o.type base e i z size bytes ht hi hz hsize hby hzs hsz v n xs hown ad m c news hl hnews h1 hm h63 hbytes hbase H hH
  unfold Oper.wp execOp
  simp only [ho, resolve, invoke, builtin, Sem.run_bind, Sem.run_pure, Result.andThen_ok, List.map_toArray, List.map_cons, List.map_nil, hs, hx, hr]
  exact h g cap w' h2 h3 h4 h5 h6

theorem wpList_append_kept {ops : Array Oper} {rest : List Oper} {o : Oper} {a : Act} {Q : Exit → Act → World → Prop} (hgd : o.guard = none) (s x : Operand) (t : TypeId)
    (ho : o.op = .call { callee := .builtin .append, args := #[s, x], argTypes := #[t, t] })
    (base : Nat) (e : TypeId) (i : TypeInfo) (z : Value) (size bytes : Nat) (ht : P.underlying t = some (.slice e)) (hi : P.info? e = some i) (hz : i.zero = some z)
    (hsize : i.size = size) (hby : i.bytes = bytes) (hzs : z.cells.size = size) (hsz : 0 < size)
    (v : Value) (n : Nat) (xs : List Value) (hs : a.eval s = v) (hown : w.ownsRow base e size v n xs)
    (ad : Addr) (m c : Nat) (news : List Value) (hx : a.eval x = .slice (some ad) m c) (hl : news.length = m * size) (hnews : ∀ j u, news[j]? = some u → w.cell? (ad.add j) = some u) (h1 : ∀ u ∈ news, u.oneCell' = true)
    (hm : 0 < m) (h63 : n + m ≤ maxLen) (hbytes : (n + m) * bytes ≤ 140737488355328) (hbase : base ≤ w.heap.size) (H : Nat) (hH : w.heap.size = H)
    (h : ∀ g cap w', w'.ownsRow base e size (.slice (some ⟨g, 0, none⟩) (n + m) cap) (n + m) (xs ++ news) → w.grownBy w' v.ownBlock → (v.ownBlock = some g ∨ g = H) → g < w'.heap.size → (∀ k, v.ownBlock = some k → k ≠ g → w'.heap[k]? = w.heap[k]?) → wpList P ops Q rest (a.put o.dst (.slice (some ⟨g, 0, none⟩) (n + m) cap)) w') : wpList P ops Q (o :: rest) a w :=
  wpList_plain hgd fun _ hK => wp_append_kept w s x t ho base e i z size bytes ht hi hz hsize hby hzs hsz v n xs hs hown ad m c news hx hl hnews h1 hm h63 hbytes hbase H hH fun g cap w' h2 h3 h4 h5 h6 => hK _ _ (h g cap w' h2 h3 h4 h5 h6)

end

/-- what is kept of a cell behind such an append -/
theorem cell_kept1 {w w' : World} {base e q q' g cap : Nat} {v : Value} {xs : List Int} {x : Int} (h1 : w.ownsRow base e 1 v q (intsV xs)) (hl : xs.length = q) (h2 : w'.ownsRow base e 1 (.slice (some ⟨g, 0, none⟩) q' cap) q' (intsV (xs ++ [x])))
    (h3 : w.grownBy w' v.ownBlock) (h6 : ∀ k, v.ownBlock = some k → k ≠ g → w'.heap[k]? = w.heap[k]?) {b off : Nat} (hb : b < w.heap.size) (hs : v.ownBlock = some b → off < q) : w'.cell? ⟨b, off, none⟩ = w.cell? ⟨b, off, none⟩ := by
  by_cases hv : v.ownBlock = some b
  · by_cases hg : b = g
    · subst hg
      have ho := hs hv
      have hx : (intsV xs)[off]? = some (.int .i64 xs[off]) := by unfold intsV; rw [List.getElem?_map, List.getElem?_eq_getElem (by omega)]; rfl
      have hx2 : (intsV (xs ++ [x]))[off]? = some (.int .i64 xs[off]) := by
        unfold intsV; rw [List.getElem?_map, List.getElem?_append_left (by omega), List.getElem?_eq_getElem (by omega)]; rfl
      have c1 := h1.cells (g := b) hv off _ hx
      have c2 := h2.cells (g := b) rfl off _ hx2
      have e : (⟨b, 0, none⟩ : Addr).add off = ⟨b, off, none⟩ := by
        unfold Addr.add
        split
        · next h0 => subst h0; rfl
        · simp
      rw [e] at c1 c2
      rw [c1, c2]
    · exact World.cell?_of_block (w := w) (h6 b hv hg)
  · exact World.cell?_of_block (w := w) (h3.block b hb (fun e => hv e.symm))

end Go.Proofs.Ytjoknbknhfnggaa

namespace Go.Proofs.Ytjoknbknhfnggaa
open Go Go.RowKit

/-- the stack of a set, from a depth on -/
def stkF (D below : Int) : List Int → List Int
  | [] => [D - 1 - below]
  | y :: r => (y - below) :: stkF D y r
def stk (D : Int) (ys : List Int) : List Int := stkF D 0 ys
theorem stkF_len (D : Int) : ∀ (below : Int) (ys : List Int), (stkF D below ys).length = ys.length + 1
  | _, [] => rfl
  | below, y :: r => by unfold stkF; rw [List.length_cons, stkF_len D y r]; rfl
theorem stk_len (D : Int) (ys : List Int) : (stk D ys).length = ys.length + 1 := stkF_len D 0 ys

/-- the value of a stack -/
def stV (gs : List (Nat × Nat)) (zss : List (List Int)) (j : Nat) : Value :=
  match gs[j]?, zss[j]? with
  | some p, some zs => .slice (some ⟨p.1, p.2, none⟩) zs.length zs.length
  | _, _ => .slice none 0 0
/-- the first k stacks lie in the row g0, and their pins from block lo on, behind no pin of the list that still grows -/
structure Stacked (w : World) (lo g0 n k : Nat) (gs : List (Nat × Nat)) (zss : List (List Int)) (pv : Value) (q : Nat) : Prop where
  len : gs.length = k
  row : w.rowIs g0 39 n (stV gs zss)
  each : ∀ (j b o : Nat) (zs : List Int), gs[j]? = some (b, o) → zss[j]? = some zs → lo ≤ b ∧ b < w.heap.size ∧ (pv.ownBlock = some b → o + zs.length ≤ q) ∧ ∀ (i : Nat) (v : Int), zs[i]? = some v → w.cell? ⟨b, o + i, none⟩ = some (.int .i64 v)
theorem Stacked.on {w w' : World} {lo g0 n k q : Nat} {gs : List (Nat × Nat)} {zss : List (List Int)} {pv : Value} (h : Stacked w lo g0 n k gs zss pv q) (hb : Below w.heap.size w w') : Stacked w' lo g0 n k gs zss pv q :=
  ⟨h.len, World.rowIs.of_block h.row (hb.block g0 h.row.lt), fun j b o zs hg hz => by
    obtain ⟨h1, h2, h3, h4⟩ := h.each j b o zs hg hz
    exact ⟨h1, Nat.lt_of_lt_of_le h2 hb.size, h3, fun i v hv => (hb.cell (p := ⟨b, o + i, none⟩) h2).trans (h4 i v hv)⟩⟩
theorem Stacked.start {w : World} {lo n : Nat} {zss : List (List Int)} {pv : Value} : Stacked (w.alloc (.cells (madeCells #[.slice none 0 0] n) 39)) lo w.heap.size n 0 [] zss pv 0 :=
  ⟨rfl, (World.rowIs_made w (.slice none 0 0) n 39).congr (fun i _ => by simp [stV]), fun j b o zs hg => by simp at hg⟩
/-- the list of pins has grown -/
theorem Stacked.grow {w w' : World} {lo g0 n k q g cap : Nat} {gs : List (Nat × Nat)} {zss : List (List Int)} {pv : Value} {xs : List Int} {x : Int} (h : Stacked w lo g0 n k gs zss pv q) (hlo : g0 < lo)
    (h1 : w.ownsRow lo 2 1 pv q (intsV xs)) (hl : xs.length = q) (h2 : w'.ownsRow lo 2 1 (.slice (some ⟨g, 0, none⟩) (q + 1) cap) (q + 1) (intsV (xs ++ [x])))
    (h3 : w.grownBy w' pv.ownBlock) (h4 : pv.ownBlock = some g ∨ g = w.heap.size) (h6 : ∀ k, pv.ownBlock = some k → k ≠ g → w'.heap[k]? = w.heap[k]?) : Stacked w' lo g0 n k gs zss (.slice (some ⟨g, 0, none⟩) (q + 1) cap) (q + 1) := by
  refine ⟨h.len, World.rowIs.of_block h.row (h3.block g0 h.row.lt (fun e => by have := rowBase h1 g0 e.symm; omega)), fun j b o zs hg hz => ?_⟩
  obtain ⟨a1, a2, a3, a4⟩ := h.each j b o zs hg hz
  refine ⟨a1, Nat.lt_of_lt_of_le a2 h3.size, fun e => ?_, fun i v hv => ?_⟩
  · have e2 : g = b := by simpa [Value.ownBlock] using e
    subst e2
    rcases h4 with h4 | h4
    · have := a3 h4; omega
    · omega
  · have hi : i < zs.length := (List.getElem?_eq_some_iff.1 hv).1
    rw [cell_kept1 h1 hl h2 h3 h6 a2 (fun e => by have := a3 e; omega)]
    exact a4 i v hv
theorem add_at (b i : Nat) : (⟨b, 0, none⟩ : Addr).add i = ⟨b, i, none⟩ := by
  unfold Addr.add
  split
  · next h0 => subst h0; rfl
  · simp
/-- a stack has come -/
theorem Stacked.push {w : World} {lo g0 n k q0 g cap : Nat} {gs : List (Nat × Nat)} {zss : List (List Int)} {xs zs : List Int} (h : Stacked w lo g0 n k gs zss (.slice (some ⟨g, 0, none⟩) (q0 + zs.length) cap) (q0 + zs.length)) (hlo : g0 < lo)
    (h1 : w.ownsRow lo 2 1 (.slice (some ⟨g, 0, none⟩) (q0 + zs.length) cap) (q0 + zs.length) (intsV (xs ++ zs))) (hl : xs.length = q0) (hz : zss[k]? = some zs) (hp : 0 < zs.length) :
    Stacked (w.setCell ⟨g0, k, none⟩ (.slice (some ⟨g, q0, none⟩) zs.length zs.length)) lo g0 n (k + 1) (gs ++ [(g, q0)]) zss (.slice (some ⟨g, 0, none⟩) (q0 + zs.length) cap) (q0 + zs.length) := by
  have hlen := h.len
  have hgb := rowBase h1 g rfl
  have hother : ∀ (b o : Nat), lo ≤ b → (w.setCell ⟨g0, k, none⟩ (.slice (some ⟨g, q0, none⟩) zs.length zs.length)).cell? ⟨b, o, none⟩ = w.cell? ⟨b, o, none⟩ := fun b o hb =>
    World.cell?_setCell_other _ _ _ _ (fun e => by have := congrArg Addr.block e; simp at this; omega)
  refine ⟨by rw [List.length_append, hlen]; rfl, (h.row.set k _).congr (fun j _ => ?_), fun j b o zs' hg hz' => ?_⟩
  · by_cases hj : j = k
    · subst hj
      rw [if_pos rfl]
      unfold stV
      rw [List.getElem?_append_right (by omega), hlen, Nat.sub_self, hz]
      rfl
    · rw [if_neg hj]
      unfold stV
      rcases Nat.lt_or_ge j k with h' | h'
      · rw [List.getElem?_append_left (by omega)]
      · have n1 : gs[j]? = none := List.getElem?_eq_none (by rw [hlen]; omega)
        have n2 : (gs ++ [(g, q0)])[j]? = none := List.getElem?_eq_none (by rw [List.length_append, hlen]; simp; omega)
        rw [n1, n2]
  · have hsz : (w.setCell ⟨g0, k, none⟩ (.slice (some ⟨g, q0, none⟩) zs.length zs.length)).heap.size = w.heap.size := by simp [World.setCell]
    rcases Nat.lt_or_ge j k with h' | h'
    · rw [List.getElem?_append_left (by omega)] at hg
      obtain ⟨a1, a2, a3, a4⟩ := h.each j b o zs' hg hz'
      exact ⟨a1, by rw [hsz]; exact a2, a3, fun i v hv => (hother b _ a1).trans (a4 i v hv)⟩
    · have hj : j = k := by
        have := (List.getElem?_eq_some_iff.1 hg).1
        rw [List.length_append, hlen] at this
        simp at this; omega
      subst hj
      rw [List.getElem?_append_right (by omega), hlen, Nat.sub_self] at hg
      have hg' : (g, q0) = (b, o) := by simpa using hg
      injection hg' with e1 e2
      subst e1; subst e2
      rw [hz] at hz'
      injection hz' with e3
      subst e3
      refine ⟨hgb, ?_, fun _ => Nat.le_refl _, fun i v hv => ?_⟩
      · rw [hsz]
        obtain ⟨g', cap', he, _, hlt⟩ := h1.form (by omega)
        have : g = g' := by have := congrArg Value.ownBlock he; simpa [Value.ownBlock] using this
        omega
      · rw [hother g _ hgb]
        have hi : i < zs.length := (List.getElem?_eq_some_iff.1 hv).1
        have := h1.cells (g := g) rfl (q0 + i) (.int .i64 v) (by
          unfold intsV
          rw [List.getElem?_map, List.getElem?_append_right (by omega), hl, show q0 + i - q0 = i by omega, hv]; rfl)
        rwa [add_at] at this
/-- all stacks, as lists that may be read -/
theorem Stacked.sets {w : World} {lo g0 n q : Nat} {gs : List (Nat × Nat)} {zss : List (List Int)} {pv : Value} (h : Stacked w lo g0 n n gs zss pv q) (hl : zss.length = n) (hbig : ∀ zs ∈ zss, zs.length ≤ 9223372036854775807) : Sets w w.heap.size (some ⟨g0, 0, none⟩) n zss := by
  refine ⟨hl, fun _ => ⟨_, rfl, h.row.lt, fun j zs hz => ?_⟩⟩
  have hj : j < n := by have := (List.getElem?_eq_some_iff.1 hz).1; omega
  obtain ⟨p, hg⟩ : ∃ p, gs[j]? = some p := ⟨_, List.getElem?_eq_getElem (by rw [h.len]; exact hj)⟩
  obtain ⟨b, o⟩ := p
  obtain ⟨_, h2, _, h4⟩ := h.each j b o zs hg hz
  refine ⟨some ⟨b, o, none⟩, zs.length, zs.length, ?_, ⟨rfl, fun _ => ⟨_, rfl, h2, fun i v hv => ?_⟩⟩, Nat.le_refl _, hbig zs (List.mem_of_getElem? hz)⟩
  · rw [add_at, h.row.cell hj]
    unfold stV
    rw [hg, hz]
  · rw [Addr.add_lit]
    exact h4 i v hv

/-- what stacks answers -/
def GivesStacks (w : World) (n : Nat) (zss : List (List Int)) (e : Ending) (w' : World) : Prop :=
  ∃ (g0 : Nat) (gs : List (Nat × Nat)) (pv : Value) (q : Nat), e = .returned (.slice (some ⟨g0, 0, none⟩) n n) ∧ w.heap.size ≤ g0 ∧ Stacked w' (g0 + 1) g0 n n gs zss pv q ∧ Below w.heap.size w w'

end Go.Proofs.Ytjoknbknhfnggaa

namespace Go.Proofs.Ytjoknbknhfnggaa
open Go Go.RowKit

theorem rowHeap {w w2 : World} {base t s n : Nat} {v : Value} {xs : List Value} (h : w.ownsRow base t s v n xs) (hb : ∀ k, v.ownBlock = some k → w2.heap[k]? = w.heap[k]?) : w2.ownsRow base t s v n xs := by
  refine ⟨h.1, ?_⟩
  rcases h.2 with h0 | ⟨g, cap, cur, rfl, h1, hg, rest⟩
  · exact .inl h0
  · exact .inr ⟨g, cap, cur, rfl, h1, (hb g rfl).trans hg, rest⟩
theorem dropCons {ys : List Int} {k : Nat} {v : Int} (h : ys[k]? = some v) : ys.drop k = v :: ys.drop (k + 1) := by
  obtain ⟨hl, e⟩ := List.getElem?_eq_some_iff.1 h
  rw [List.drop_eq_getElem_cons hl, e]

set_option maxRecDepth 100000 in
set_option maxHeartbeats 8000000 in
theorem stacks_any (m : Mk) (V : Option Addr) (n c : Nat) (yss : List (List Int)) (w : World) (h : Sets w w.heap.size V n yss) (hn : n ≤ 6) (hD : 2 ≤ m.D) (hD8 : m.D ≤ 8) (hall : ∀ ys ∈ yss, allIn 0 7 ys = true ∧ ys.length ≤ 8) :
    Calls Try.prog 99 #[.agg #[.slice V n c], .agg #[.int .i64 m.C, .int .i64 m.D, .int .i64 m.S, .int .i64 m.M, .int .i64 m.L]] w (GivesStacks w n (yss.map (stk m.D))) := by
  obtain ⟨i0, hi, hz0, hz1, hz2⟩ := info_parts Try.info2'
  have HI := Lib.hid (And.intro hi (And.intro hz0 (And.intro hz1 hz2)))
  clear hi hz0 hz1 hz2
  have c0 := ((Below.refl w.heap.size w).alloc (Nat.le_refl _) (.cells #[.slice V n c] 30)).alloc (by simp) (.cells #[.int .i64 m.C, .int .i64 m.D, .int .i64 m.S, .int .i64 m.M, .int .i64 m.L] 25)
  have k0 := (Cell1.new w 30 (.slice V n c)).alloc (.cells #[.int .i64 m.C, .int .i64 m.D, .int .i64 m.S, .int .i64 m.M, .int .i64 m.L] 25)
  have x0 := Boxed.new (w.alloc (.cells #[.slice V n c] 30)) 25 m
  rw [World.size_alloc] at x0
  have ck := k0.cell
  have HS := Lib.hid h
  have HA := Lib.hid hall
  have HLN := Lib.hid h.len
  clear h hall
  have hmk := run_make_row' (P := Try.prog) 26 39 (.slice none 0 0) 24 Try.underlying26 Try.info39' rfl .i64 .i64 n (by omega) (by omega)
  have S0 := Lib.hid (Stacked.start (w := (w.alloc (.cells #[.slice V n c] 30)).alloc (.cells #[.int .i64 m.C, .int .i64 m.D, .int .i64 m.S, .int .i64 m.M, .int .i64 m.L] 25)) (lo := w.heap.size + 2 + 1) (n := n) (zss := yss.map (stk m.D)) (pv := .slice none 0 0))
  simp only [World.size_alloc] at S0
  have X0 := Lib.hid (x0.alloc (.cells (madeCells #[.slice none 0 0] n) 39))
  have K0 := k0.alloc (.cells (madeCells #[.slice none 0 0] n) 39)
  have ck1 := K0.cell
  have B0 := Lib.hid (c0.alloc (by simp; omega) (.cells (madeCells #[.slice none 0 0] n) 39))
  have Z0 : Hid (w.heap.size + 2 + 1 ≤ (((w.alloc (.cells #[.slice V n c] 30)).alloc (.cells #[.int .i64 m.C, .int .i64 m.D, .int .i64 m.S, .int .i64 m.M, .int .i64 m.L] 25)).alloc (.cells (madeCells #[.slice none 0 0] n) 39)).heap.size) := Lib.hid (by simp)
  clear c0 k0 x0 K0
  go_enter Try.func99, Try.ntmps99
  go_wp2
  clear hmk ck ck1
  go_loopw [6, 20] (fun v i wr => ∃ (k q : Nat) (gs : List (Nat × Nat)) (flat : List Int) (pv : Value), k ≤ n ∧ i = .int .i64 k ∧ v = pv ∧ q ≤ 9 * k ∧ Hid (flat.length = q) ∧ Hid (wr.ownsRow (w.heap.size + 2 + 1) 2 1 pv q (intsV flat)) ∧ Hid (Stacked wr (w.heap.size + 2 + 1) (w.heap.size + 1 + 1) n k gs (yss.map (stk m.D)) pv q) ∧ Hid (Boxed wr (w.heap.size + 1) 25 m) ∧ Hid (Below w.heap.size w wr) ∧ w.heap.size + 2 + 1 ≤ wr.heap.size) (fun _ i _ => n - (intOf i).toNat)
  case atStart => exact ⟨0, 0, [], [], _, Nat.zero_le _, rfl, rfl, Nat.le_refl _, Lib.hid rfl, Lib.hid (World.ownsRow_nil _ _ _ _), S0, X0, B0, Z0.out⟩
  case round =>
    clear S0 X0 B0 Z0
    obtain ⟨k, q, gs, flat, pv, hk, rfl, rfl, hq, HF, HR, HST, HX, HB, hz⟩ := hrel
    by_cases hlt : k < n
    · obtain ⟨ad, ys, A, l, cc, rfl, hab, hy, hc, hi, hl1, hl2⟩ := HS.out.at_ hlt
      obtain ⟨h7, h8⟩ := HA.out ys (List.mem_of_getElem? hy)
      have HY : Hid ((yss.map (stk m.D))[k]? = some (stk m.D ys)) := Lib.hid (by rw [List.getElem?_map, hy]; rfl)
      have HIN := Lib.hid hi
      have H7 := Lib.hid h7
      have hl8 : l ≤ 8 := by rw [← hi.len]; exact h8
      have hcw := (HB.out.cell (p := ad.add k) (by rw [block_of_add]; exact hab)).trans hc
      obtain ⟨A1, c1, rfl, _, hc1, hc2⟩ := rowInts HR.out HF.out
      clear hy hi hc h7 h8
      have HQ0 : Hid (0 ≤ q ∧ q ≤ 54) := Lib.hid (by omega)
      go_wp2
      clear hcw
      go_loopw [6, 10, 29] (fun v b x wr => ∃ (j : Nat) (done : List Int) (below : Int) (pv : Value), x = .int .i64 j ∧ b = .int .i64 below ∧ v = pv ∧ j ≤ l ∧ 0 ≤ below ∧ below ≤ 7 ∧ Hid (done.length = j) ∧ Hid (stk m.D ys = done ++ stkF m.D below (ys.drop j)) ∧ Hid (wr.ownsRow (w.heap.size + 2 + 1) 2 1 pv (q + j) (intsV (flat ++ done))) ∧ Hid (Stacked wr (w.heap.size + 2 + 1) (w.heap.size + 1 + 1) n k gs (yss.map (stk m.D)) pv (q + j)) ∧ Hid (Boxed wr (w.heap.size + 1) 25 m) ∧ Hid (Below w.heap.size w wr) ∧ w.heap.size + 2 + 1 ≤ wr.heap.size) (fun _ _ x _ => l - (intOf x).toNat)
      case atStart => exact ⟨0, [], 0, _, rfl, rfl, rfl, Nat.zero_le _, by omega, by omega, Lib.hid rfl, Lib.hid rfl, Lib.hid (by simpa using HR.out), HST, HX, HB, hz⟩
      case round =>
        clear HR HST HX HB hz
        obtain ⟨j, done, below, pv, rfl, rfl, rfl, hj, hb0, hb7, HDL, HDN, HR, HST, HX, HB, hz⟩ := hrel
        have HFL : Hid ((flat ++ done).length = q + j) := Lib.hid (by rw [List.length_append, HF.out, HDL.out])
        obtain ⟨A2, c2', rfl, _, hc1', hc2'⟩ := rowInts HR.out HFL.out
        by_cases hltj : j < l
        · obtain ⟨ad2, v, rfl, hab2, hv, hcv⟩ := (HIN.out.on HB.out).at_ hltj
          obtain ⟨v0, v7⟩ := allIn_at H7.out hv
          have HDR := Lib.hid (dropCons hv)
          have sw : IntKind.i64.wrap (v - below) = v - below := IntWalk.i64_in _ (by omega)
          clear hv
          go_wp2_with (at_builtin; refine wpList_append_kept _ rfl _ _ 39 rfl (w.heap.size + 2 + 1) 2 i0 _ 1 8 Try.underlying39 HI.out.1 HI.out.2.1 HI.out.2.2.1 HI.out.2.2.2 rfl (by omega) _ (q + j) _ rfl (HR.out.alloc _) ⟨wr.heap.size, 0, none⟩ 1 1 [.int .i64 (v - below)] rfl rfl (World.news_of_block (cs := #[.int .i64 (v - below)]) (t := 2) (fr := (0, 0)) (heap_alloc_new wr _)) (by simp [Value.oneCell']) (by omega) (by unfold maxLen; omega) (by omega) (by simp; omega) (wr.heap.size + 1) (by simp) ?_; intro gg cap w5 hown1 hgrow hat hlt3 hkp)
          have bA := (Below.refl wr.heap.size wr).alloc (Nat.le_refl _) (.cells #[.int .i64 (v - below)] 2)
          have R5 : Hid (w5.ownsRow (w.heap.size + 2 + 1) 2 1 (.slice (some ⟨gg, 0, none⟩) (q + j + 1) cap) (q + j + 1) (intsV (flat ++ done ++ [v - below]))) := Lib.hid (by rw [← intsV_snoc]; exact hown1)
          have ST5 := Lib.hid ((HST.out.on bA).grow (by omega) (HR.out.alloc (.cells #[.int .i64 (v - below)] 2)) HFL.out R5.out hgrow (by rcases hat with h | h; exact .inl h; exact .inr (by rw [h]; simp)) hkp)
          have X5 := Lib.hid ((HX.out.alloc (.cells #[.int .i64 (v - below)] 2)).grown hgrow (by intro e; have := rowBase HR.out _ e.symm; omega))
          have B5 := Lib.hid ((HB.out.alloc HB.out.size (.cells #[.int .i64 (v - below)] 2)).grown hgrow (by have := HB.out.size; simp; omega) (fun q e => by have := rowBase HR.out q e; omega))
          have z5 : w.heap.size + 2 + 1 ≤ w5.heap.size := by have := hgrow.size; simp at this; omega
          clear hown1 hgrow hat hlt3 hkp bA HR HST HX HB sw hcv
          go_wp2
          go_roundw
          case rel =>
            refine ⟨j + 1, done ++ [v - below], v, _, by go_num, rfl, rfl, by omega, v0, v7, Lib.hid (by rw [List.length_append, HDL.out]; rfl), Lib.hid ?_, Lib.hid (by rw [← List.append_assoc]; exact R5.out), ST5, X5, B5, z5⟩
            rw [HDN.out, HDR.out]
            show done ++ ((v - below) :: stkF m.D v (ys.drop (j + 1))) = _
            simp
          case measure => simp [intOf]; omega
        · obtain rfl : j = l := by omega
          have HE : Hid (stk m.D ys = done ++ [m.D - 1 - below]) := Lib.hid (by
            rw [HDN.out, List.drop_of_length_le (by rw [HIN.out.len]; exact Nat.le_refl _)]; rfl)
          obtain ⟨q0, q1, q2, q3, q4⟩ := HX.out.cells
          have sw1 : IntKind.i64.wrap (m.D - 1) = m.D - 1 := IntWalk.i64_in _ (by omega)
          have sw2 : IntKind.i64.wrap (m.D - 1 - below) = m.D - 1 - below := IntWalk.i64_in _ (by omega)
          have HZL : Hid ((stk m.D ys).length = j + 1) := Lib.hid (by rw [stk_len, HIN.out.len])
          have s0 : (0 : Int) ≤ (q : Int) := by omega
          have s1 : (q : Int) ≤ (q : Int) + (j : Int) + 1 := by omega
          go_wp2_with (at_builtin; refine wpList_append_kept _ rfl _ _ 39 rfl (w.heap.size + 2 + 1) 2 i0 _ 1 8 Try.underlying39 HI.out.1 HI.out.2.1 HI.out.2.2.1 HI.out.2.2.2 rfl (by omega) _ (q + j) _ rfl (HR.out.alloc _) ⟨wr.heap.size, 0, none⟩ 1 1 [.int .i64 (m.D - 1 - below)] rfl rfl (World.news_of_block (cs := #[.int .i64 (m.D - 1 - below)]) (t := 2) (fr := (0, 0)) (heap_alloc_new wr _)) (by simp [Value.oneCell']) (by omega) (by unfold maxLen; omega) (by omega) (by simp; omega) (wr.heap.size + 1) (by simp) ?_; intro gg cap w5 hown1 hgrow hat hlt3 hkp; have bA := (Below.refl wr.heap.size wr).alloc (Nat.le_refl _) (.cells #[.int .i64 (m.D - 1 - below)] 2); have R5 : Hid (w5.ownsRow (w.heap.size + 2 + 1) 2 1 (.slice (some ⟨gg, 0, none⟩) (q + j + 1) cap) (q + j + 1) (intsV (flat ++ done ++ [(m.D - 1 - below)]))) := Lib.hid (by rw [← intsV_snoc]; exact hown1); have ST5 := Lib.hid ((HST.out.on bA).grow (by omega) (HR.out.alloc (.cells #[.int .i64 (m.D - 1 - below)] 2)) HFL.out R5.out hgrow (by rcases hat with h | h; exact .inl h; exact .inr (by rw [h]; simp)) hkp); have X5 := Lib.hid ((HX.out.alloc (.cells #[.int .i64 (m.D - 1 - below)] 2)).grown hgrow (by intro e; have := rowBase HR.out _ e.symm; omega)); have B5 := Lib.hid ((HB.out.alloc HB.out.size (.cells #[.int .i64 (m.D - 1 - below)] 2)).grown hgrow (by have := HB.out.size; simp; omega) (fun q e => by have := rowBase HR.out q e; omega)); have z5 : w.heap.size + 2 + 1 ≤ w5.heap.size := (by have := hgrow.size; simp at this; omega); have hcap : q + j + 1 ≤ cap := (rowIntsAt R5.out (by rw [List.length_append, HFL.out]; rfl)).2.1; have hcap2 : cap ≤ 9223372036854775807 := (rowIntsAt R5.out (by rw [List.length_append, HFL.out]; rfl)).2.2; have hst := ST5.out.row.cell hlt; have hfz := ST5.out.row.frozen k; clear hown1 hgrow hat hlt3 hkp bA q0 q1 q2 q3 q4)
          go_roundw
          case rel =>
            have e : q + j + 1 = q + (stk m.D ys).length := by rw [HZL.out]; omega
            have e2 : q + j + 1 - q = (stk m.D ys).length := by rw [HZL.out]; omega
            have R6 : w5.ownsRow (w.heap.size + 2 + 1) 2 1 (.slice (some ⟨gg, 0, none⟩) (q + j + 1) cap) (q + j + 1) (intsV (flat ++ stk m.D ys)) := by rw [HE.out, ← List.append_assoc]; exact R5.out
            have hgg := rowBase R6 gg rfl
            have HP := Stacked.push (q0 := q) (zs := stk m.D ys) (xs := flat) (cap := cap) (g := gg) (by rw [← e]; exact ST5.out) (by omega) (by rw [← e]; exact R6) HF.out HY.out (by rw [HZL.out]; omega)
            rw [← e] at HP
            rw [e2]
            refine ⟨k + 1, q + j + 1, gs ++ [(gg, q)], flat ++ stk m.D ys, _, by omega, by go_num, rfl, by omega, Lib.hid (by rw [List.length_append, HF.out, HZL.out]; omega), Lib.hid ?_, Lib.hid HP, Lib.hid ?_, Lib.hid ?_, ?_⟩
            · exact rowHeap R6 (fun i hi => by
                have : gg = i := by simpa [Value.ownBlock] using hi
                subst this
                exact Below.heap_setCell w5 ⟨w.heap.size + 1 + 1, k, none⟩ _ gg (by show gg ≠ w.heap.size + 1 + 1; omega))
            · exact X5.out.grown (grown_set (p := ⟨w.heap.size + 1 + 1, k, none⟩) (World.grownBy.refl w5 (some (w.heap.size + 1 + 1))) rfl _) (by intro e; injection e with e; omega)
            · exact B5.out.setCell (p := ⟨w.heap.size + 1 + 1, k, none⟩) (by show w.heap.size ≤ w.heap.size + 1 + 1; omega) _
            · simp [World.setCell]; omega
          case measure => simp [intOf]; omega
    · obtain rfl : k = n := by omega
      go_wp2
      go_ret
      exact ⟨_, gs, _, q, rfl, by omega, HST.out, HB.out⟩

end Go.Proofs.Ytjoknbknhfnggaa

namespace Go.Proofs.Ytjoknbknhfnggaa
open Go Go.RowKit

theorem take_at {xs : List Int} {k : Nat} {v : Int} (h : xs[k]? = some v) : xs.take (k + 1) = xs.take k ++ [v] := by
  obtain ⟨hl, e⟩ := List.getElem?_eq_some_iff.1 h
  rw [List.take_succ_eq_append_getElem hl, e]
theorem stkF_pin (D : Int) : ∀ (below : Int) (ys : List Int) (p : Nat) (v u : Int), ys[p + 1]? = some v → ys[p]? = some u → (stkF D below ys)[p + 1]? = some (v - u)
  | _, [], p, v, u, h, _ => by simp at h
  | below, [y], p, v, u, h, _ => by simp at h
  | below, y :: z :: r, 0, v, u, h, h2 => by
    simp at h h2; subst h; subst h2; simp [stkF]
  | below, y :: z :: r, p + 1, v, u, h, h2 => by
    have := stkF_pin D y (z :: r) p v u (by simpa using h) (by simpa using h2)
    unfold stkF
    rw [List.getElem?_cons_succ]
    exact this
theorem stkF_last (D : Int) : ∀ (below : Int) (ys : List Int) (p : Nat) (u : Int), ys.length = p + 1 → ys[p]? = some u → (stkF D below ys)[p + 1]? = some (D - 1 - u)
  | _, [], p, u, h, _ => by simp at h
  | below, [y], p, u, h, h2 => by
    obtain rfl : p = 0 := by simp at h; omega
    simp at h2; subst h2; simp [stkF]
  | below, y :: z :: r, 0, u, h, h2 => by simp at h
  | below, y :: z :: r, p + 1, u, h, h2 => by
    have := stkF_last D y (z :: r) p u (by simpa using h) (by simpa using h2)
    unfold stkF
    rw [List.getElem?_cons_succ]
    exact this
theorem stk_one {D y : Int} {ys : List Int} (h : ys[0]? = some y) : (stk D ys).take 1 = [y] := by
  cases ys with
  | nil => simp at h
  | cons a r => simp at h; subst h; simp [stk, stkF]

/-- what a call answers that gives a list of its own -/
def GivesOwn (w : World) (xs : List Int) (e : Ending) (w' : World) : Prop :=
  ∃ A n c, e = .returned (.slice A n c) ∧ Own w' w.heap.size w'.heap.size A n xs ∧ n ≤ 1048577 ∧ n ≤ c ∧ c ≤ 9223372036854775807 ∧ Below w.heap.size w w'

set_option maxRecDepth 100000 in
set_option maxHeartbeats 8000000 in
theorem l05Stack_any (m : Mk) (A : Option Addr) (n c : Nat) (xs : List Int) (w : World) (h : Ints w w.heap.size A n xs) (h0 : 0 < n) (hn : n ≤ 1048576) (h7 : allIn 0 7 xs = true) (d0 : 2 ≤ m.D) (d1 : m.D ≤ 8) :
    Calls Try.prog 122 #[.agg #[.int .i64 m.C, .int .i64 m.D, .int .i64 m.S, .int .i64 m.M, .int .i64 m.L], .slice A n c] w (GivesOwn w (stk m.D xs)) := by
  have c0 := (Below.refl w.heap.size w).alloc (Nat.le_refl _) (.cells #[.int .i64 m.C, .int .i64 m.D, .int .i64 m.S, .int .i64 m.M, .int .i64 m.L] 25)
  have hx := Boxed.new w 25 m
  have HS := Lib.hid h
  have HL := Lib.hid h.len
  have H7 := Lib.hid h7
  obtain ⟨ad, y, rfl, hab, hv0, hcy⟩ := (h.on c0).at_ h0
  rw [Addr.add_zero'] at hcy
  have HV := Lib.hid (stk_one (D := m.D) hv0)
  have HY := Lib.hid (allIn_at h7 hv0)
  obtain ⟨ii, hi0, hz0, hz1, hz2⟩ := info_parts Try.info2'
  have HF := Lib.hid (And.intro hi0 (And.intro hz0 (And.intro hz1 hz2)))
  have R0 : Hid (((w.alloc (.cells #[.int .i64 m.C, .int .i64 m.D, .int .i64 m.S, .int .i64 m.M, .int .i64 m.L] 25)).alloc (.cells #[.int .i64 y] 2)).ownsRow (w.heap.size + 1) 2 1 (.slice (some ⟨w.heap.size + 1, 0, none⟩) 1 1) 1 (intsV ((stk m.D xs).take 1))) := Lib.hid (by
    have e := heap_alloc_new (w.alloc (.cells #[.int .i64 m.C, .int .i64 m.D, .int .i64 m.S, .int .i64 m.M, .int .i64 m.L] 25)) (.cells #[.int .i64 y] 2)
    rw [World.size_alloc] at e
    rw [HV.out]
    exact ⟨by simp [intsV], .inr ⟨w.heap.size + 1, 1, _, rfl, Nat.le_refl _, e, Nat.le_refl _, by unfold maxLen; omega, by simp, by simp [intsV]⟩⟩)
  have B0 := Lib.hid (c0.alloc (by simp) (.cells #[.int .i64 y] 2))
  have X0 := Lib.hid (hx.alloc (.cells #[.int .i64 y] 2))
  have s0 : (0 : Int) < (n : Int) := by omega
  clear hi0 hz0 hz1 hz2 h h7 c0 hx hv0 hab
  go_enter Try.func122, Try.ntmps122
  go_wp2
  clear hcy
  go_loopw [5, 6] (fun v x wr => ∃ (p : Nat) (pv : Value), x = .int .i64 p ∧ v = pv ∧ 1 ≤ p ∧ p ≤ n ∧ Hid (wr.ownsRow (w.heap.size + 1) 2 1 pv p (intsV ((stk m.D xs).take p))) ∧ Hid (Boxed wr w.heap.size 25 m) ∧ Hid (Below w.heap.size w wr)) (fun _ x _ => n - (intOf x).toNat)
  case atStart => exact ⟨1, _, rfl, rfl, Nat.le_refl _, h0, R0, X0, B0⟩
  case round =>
    obtain ⟨p, pv, rfl, rfl, hp1, hpn, HR, HX, HB⟩ := hrel
    clear R0 X0 B0
    have hlen : ((stk m.D xs).take p).length = p := by rw [List.length_take, stk_len, HL.out]; omega
    obtain ⟨A1, c1, rfl, _, _, _⟩ := rowInts HR.out hlen
    have HI := Lib.hid (HS.out.on HB.out)
    have hzv := rowBase HR.out
    have HZV := Lib.hid hzv
    have hbx := HX.out.lt
    have bD := below_drewN (Below.refl wr.heap.size wr) 1
    obtain ⟨ad4, u, e4, hab4, hu, hcu⟩ := HI.out.at_ (show p - 1 < n by omega)
    injection e4 with e4
    subst e4
    obtain ⟨u0, u7⟩ := allIn_at H7.out hu
    have w1' : IntKind.i64.wrap ((p : Int) - 1) = (p : Int) - 1 := IntWalk.i64_in _ (by omega)
    have w2' : (1 : Int) ≤ (p : Int) := by omega
    have w3' : ((p : Int) - 1).toNat = p - 1 := by omega
    have w4' : (p : Int) - 1 < (n : Int) := by omega
    clear hzv hlen
    by_cases hlt : (p : Int) < (n : Int)
    · obtain ⟨ad3, v, e3, _, hv, hcv⟩ := HI.out.at_ (show p < n by omega)
      injection e3 with e3
      subst e3
      obtain ⟨v0, v7⟩ := allIn_at H7.out hv
      have HT := Lib.hid (take_at (stkF_pin m.D 0 xs (p - 1) v u (by rw [Nat.sub_add_cancel hp1]; exact hv) hu))
      have w5' : (0 : Int) ≤ (p : Int) := by omega
      have sw : IntKind.i64.wrap (v - u) = v - u := IntWalk.i64_in _ (by omega)
      clear hv hu
      have bA := bD.alloc (Nat.le_refl _) (.cells #[.int .i64 (v - u)] 2)
      have X4 := Lib.hid (HX.out.on bA)
      have B4 := Lib.hid (below_trans' HB.out bA)
      clear bA bD
      go_wp2
      go_region_law (first
        | (refine step_append_lies _ (by rfl) _ _ _ (by rfl) (w.heap.size + 1) 2 ii _ 1 8 Try.underlying39 HF.out.1 HF.out.2.1 HF.out.2.2.1 HF.out.2.2.2 rfl (by omega) _ p (intsV ((stk m.D xs).take p)) (by rfl) ((rowDrewN HR.out 1).alloc _) ⟨wr.heap.size, 0, none⟩ 1 1 [.int .i64 (v - u)] (by rfl) (by rfl) (World.news_of_block (cs := #[.int .i64 (v - u)]) (t := 2) (fr := (0, 0)) (heap_alloc_new (wr.drewN 1) _)) (by simp [Value.oneCell']) (by omega) (by unfold maxLen; omega) (by omega) (by simp; omega) (wr.heap.size + 1) (by simp) ?_; intro gg cap w5 hown1 hgrow hat hlt3; have G5 := Lib.hid (And.intro hgrow (And.intro hown1 hat)); clear hown1 hgrow hat))
      all_goals
        have R5 : Hid (w5.ownsRow (w.heap.size + 1) 2 1 (.slice (some ⟨gg, 0, none⟩) (p + 1) cap) (p + 1) (intsV ((stk m.D xs).take (p + 1)))) := Lib.hid (by
          have e : (stk m.D xs).take (p + 1) = (stk m.D xs).take p ++ [v - u] := by have := HT.out; rwa [Nat.sub_add_cancel hp1] at this
          rw [e, ← intsV_snoc]; exact G5.out.2.1)
        have X5 := Lib.hid (X4.out.grown G5.out.1 (fun e => by have := HZV.out _ e.symm; omega))
        have B5 := Lib.hid (B4.out.grown G5.out.1 (by simp; omega) (fun q e => by have := HZV.out q e; omega))
        clear hcv hcu w1' w2' w3' w4' sw G5
        go_wp2
        go_roundw
        case rel => exact ⟨p + 1, _, by go_num, rfl, by omega, by omega, R5, X5, B5⟩
        case measure => simp [intOf]; omega
    · obtain rfl : p = n := by omega
      have HT := Lib.hid (take_at (stkF_last m.D 0 xs (p - 1) u (by rw [Nat.sub_add_cancel hp1]; exact HL.out) hu))
      obtain ⟨q0, q1, q2, q3, q4⟩ := HX.out.cells
      have sw1 : IntKind.i64.wrap (m.D - 1) = m.D - 1 := IntWalk.i64_in _ (by omega)
      have sw : IntKind.i64.wrap (m.D - 1 - u) = m.D - 1 - u := IntWalk.i64_in _ (by omega)
      have bA := bD.alloc (Nat.le_refl _) (.cells #[.int .i64 (m.D - 1 - u)] 2)
      have B4 := Lib.hid (below_trans' HB.out bA)
      clear hu bA bD
      go_wp2
      go_region_law (first
        | (refine step_append_lies _ (by rfl) _ _ _ (by rfl) (w.heap.size + 1) 2 ii _ 1 8 Try.underlying39 HF.out.1 HF.out.2.1 HF.out.2.2.1 HF.out.2.2.2 rfl (by omega) _ p (intsV ((stk m.D xs).take p)) (by rfl) ((rowDrewN HR.out 1).alloc _) ⟨wr.heap.size, 0, none⟩ 1 1 [.int .i64 (m.D - 1 - u)] (by rfl) (by rfl) (World.news_of_block (cs := #[.int .i64 (m.D - 1 - u)]) (t := 2) (fr := (0, 0)) (heap_alloc_new (wr.drewN 1) _)) (by simp [Value.oneCell']) (by omega) (by unfold maxLen; omega) (by omega) (by simp; omega) (wr.heap.size + 1) (by simp) ?_; intro gg cap w5 hown1 hgrow hat hlt3; have G5 := Lib.hid (And.intro hgrow (And.intro hown1 hat)); clear hown1 hgrow hat))
      all_goals
        have R5 : Hid (w5.ownsRow (w.heap.size + 1) 2 1 (.slice (some ⟨gg, 0, none⟩) (p + 1) cap) (p + 1) (intsV (stk m.D xs))) := Lib.hid (by
          have e : (stk m.D xs).take (p + 1) = (stk m.D xs).take p ++ [m.D - 1 - u] := by have := HT.out; rwa [Nat.sub_add_cancel hp1] at this
          rw [List.take_of_length_le (by rw [stk_len, HL.out]; exact Nat.le_refl _)] at e
          rw [e, ← intsV_snoc]; exact G5.out.2.1)
        obtain ⟨A5, c5, e5, ho, hc1, hc2⟩ := rowInts R5.out (by rw [stk_len, HL.out])
        injection e5 with e5 _ e6
        subst e5; subst e6
        have HO := Lib.hid (ho.more (show w.heap.size ≤ w.heap.size + 1 by omega) (Nat.le_refl _) (Nat.le_refl _))
        have B5 := Lib.hid (B4.out.grown G5.out.1 (by simp; omega) (fun q e => by have := HZV.out q e; omega))
        clear hcu w1' w2' w3' w4' sw sw1 G5 q0 q1 q2 q3 q4 ho
        go_wp2
        go_ret
        exact ⟨_, _, _, rfl, HO.out, by omega, hc1, hc2, B5.out⟩

/-- what a call answers that gives lists -/
def GivesSets0 (w : World) (yss : List (List Int)) (e : Ending) (w' : World) : Prop :=
  ∃ V n c, e = .returned (.slice V n c) ∧ Sets w' w'.heap.size V n yss ∧ n ≤ c ∧ c ≤ 9223372036854775807 ∧ Below w.heap.size w w'
theorem rowTop' {w : World} {base t s n : Nat} {v : Value} {xs : List Value} (h : w.ownsRow base t s v n xs) : ∀ k, v.ownBlock = some k → k < w.heap.size := by
  intro k hk
  rcases h.2 with ⟨rfl, _⟩ | ⟨g, cap, cur, rfl, hb, hg, _⟩
  · cases hk
  · have : g = k := by simpa [Value.ownBlock] using hk
    subst this
    exact heapLt hg
theorem take_map' {f : List Int → List Int} {yss : List (List Int)} {i : Nat} {ys : List Int} (h : yss[i]? = some ys) : (yss.take (i + 1)).map f = (yss.take i).map f ++ [f ys] := by
  obtain ⟨hl, e⟩ := List.getElem?_eq_some_iff.1 h
  rw [List.take_succ_eq_append_getElem hl, e, List.map_append]; rfl

set_option maxRecDepth 100000 in
set_option maxHeartbeats 8000000 in
theorem l05Pins_any (m : Mk) (V : Option Addr) (n c : Nat) (yss : List (List Int)) (w : World) (h : Sets w w.heap.size V n yss) (hn : n + sizeL yss ≤ 1048576) (hne : ∀ (k : Nat) (ys : List Int), yss[k]? = some ys → ys.length ≠ 0 ∧ allIn 0 7 ys = true) (d0 : 2 ≤ m.D) (d1 : m.D ≤ 8) :
    Calls Try.prog 101 #[.agg #[.int .i64 m.C, .int .i64 m.D, .int .i64 m.S, .int .i64 m.M, .int .i64 m.L], .agg #[.slice V n c]] w (GivesSets0 w (yss.map (stk m.D))) := by
  have c0 := ((Below.refl w.heap.size w).alloc (Nat.le_refl _) (.cells #[.int .i64 m.C, .int .i64 m.D, .int .i64 m.S, .int .i64 m.M, .int .i64 m.L] 25)).alloc (by simp) (.cells #[.slice V n c] 30)
  have hx := (Boxed.new w 25 m).alloc (.cells #[.slice V n c] 30)
  have k0 := Cell1.new (w.alloc (.cells #[.int .i64 m.C, .int .i64 m.D, .int .i64 m.S, .int .i64 m.M, .int .i64 m.L] 25)) 30 (.slice V n c)
  simp only [World.size_alloc] at k0
  have HN := Lib.hid hn
  have HLN := Lib.hid h.len
  have hn1 : n ≤ 1048576 := by omega
  have HS := Lib.hid h
  have H7 := Lib.hid hne
  obtain ⟨jj, hj0, hy0, hy1, hy2⟩ := info_parts Try.info39'
  have HG := Lib.hid (And.intro hj0 (And.intro hy0 (And.intro hy1 hy2)))
  have bA := below_alloc2 ((w.alloc (.cells #[.int .i64 m.C, .int .i64 m.D, .int .i64 m.S, .int .i64 m.M, .int .i64 m.L] 25)).alloc (.cells #[.slice V n c] 30)) (.cells #[] 39)
  have K0 := Lib.hid (k0.alloc (.cells #[] 39))
  have X0 := Lib.hid (hx.alloc (.cells #[] 39))
  have C0 := Lib.hid (below_trans' c0 bA)
  have R0 := Lib.hid (Stack.none_ (rowNil (w := (w.alloc (.cells #[.int .i64 m.C, .int .i64 m.D, .int .i64 m.S, .int .i64 m.M, .int .i64 m.L] 25)).alloc (.cells #[.slice V n c] 30)) (t := 39) (s := 1) (base := w.heap.size + 2) (by simp)))
  simp only [World.size_alloc] at R0
  clear hj0 hy0 hy1 hy2 h hn hne c0 hx k0 bA
  go_enter Try.func101, Try.ntmps101
  go_wp2
  go_loopw [5, 6] (fun y x wr => ∃ (i : Nat) (vals : List Value) (z : Value), z = y ∧ x = .int .i64 i ∧ i ≤ n ∧ Hid (Stack wr (w.heap.size + 2) z i vals ((yss.take i).map (stk m.D))) ∧ Hid (Boxed wr w.heap.size 25 m) ∧ Hid (Cell1 wr (w.heap.size + 1) 30 (.slice V n c)) ∧ Hid (Below w.heap.size w wr)) (fun _ x _ => n - (intOf x).toNat)
  case atStart => exact ⟨0, [], _, rfl, rfl, Nat.zero_le _, R0, X0, K0, C0⟩
  case round =>
    obtain ⟨i, vals, z, rfl, rfl, hi, hst, hbox, hcell, hbel⟩ := hrel
    clear R0 X0 K0 C0
    have ck := hcell.out.cell
    have hoz := hcell.out.lt
    by_cases hlt : (i : Int) < (n : Int)
    · have hltn : i < n := by omega
      obtain ⟨ad, ys, A, q, cc, rfl, hab, hy, hc, hi1, hqc, hqm⟩ := (HS.out.on hbel.out).at_ hltn
      obtain ⟨hne, h7⟩ := H7.out i ys hy
      have hq0 : 0 < q := by have := hi1.len; omega
      have hq1 : q ≤ 1048576 := by have := fits_at HN.out hy; have := hi1.len; omega
      obtain ⟨q0, q1, q2, q3, q4⟩ := hbox.out.cells
      have HY2 := Lib.hid (take_map' (f := stk m.D) hy)
      have HI := Lib.hid hi1
      have HA7 := Lib.hid h7
      have i0 : (0 : Int) ≤ (i : Int) := by omega
      have hzv : ∀ k, z.ownBlock = some k → w.heap.size + 2 ≤ k := rowBase hst.out.row
      have HZV := Lib.hid hzv
      have HZT := Lib.hid (rowTop' hst.out.row)
      have bD := Lib.hid (below_drewN (Below.refl wr.heap.size wr) 1)
      clear hy hi1 hne h7 hzv
      go_wp2
      go_region_law (first
        | (go_simp; go_at_call 122; refine (l05Stack_any m _ _ _ ys _ (HI.out.on bD.out) hq0 hq1 HA7.out d0 d1).mono ?_; rintro e w2 ⟨A2, n2, c2, rfl, O2', z2, y2, m2, b2'⟩; have O2 := Lib.hid O2'; have b2 := Lib.hid (below_trans' bD.out b2'); clear O2' b2'; have ST2 := Lib.hid (hst.out.on b2.out); have B2 := Lib.hid (below_trans' hbel.out b2.out); have K2 := Lib.hid (hcell.out.on b2.out); have X2 := Lib.hid (hbox.out.on b2.out); have z2' := b2.out.size)
        | (refine step_append_lies _ (by rfl) _ _ _ (by rfl) (w.heap.size + 2) 39 jj _ 1 24 Try.underlying26 HG.out.1 HG.out.2.1 HG.out.2.2.1 HG.out.2.2.2 rfl (by omega) _ i _ (by rfl) (ST2.out.row.alloc _) ⟨w2.heap.size, 0, none⟩ 1 1 [.slice A2 n2 c2] (by rfl) (by rfl) (World.news_of_block (cs := #[.slice A2 n2 c2]) (t := 39) (fr := (0, 0)) (heap_alloc_new w2 _)) (by simp [Value.oneCell']) (by omega) (by unfold maxLen; omega) (by omega) (by simp; omega) (w2.heap.size + 1) (by simp) ?_; intro gg cap w5 hown1 hgrow hat hlt3; have G5 := Lib.hid (And.intro hgrow (And.intro hown1 hat)); clear hown1 hgrow hat))
      all_goals
        have HNE : Hid (0 < n2 → ∀ ad, A2 = some ad → z.ownBlock ≠ some ad.block) := Lib.hid (by
          intro hp ad' e' e2
          obtain ⟨ad3, e3, h1, h2, _⟩ := O2.out.2.2 hp
          rw [e'] at e3
          injection e3 with e3
          subst e3
          have := HZT.out _ e2
          simp at h1
          omega)
        have P5 : Hid (Stack w5 (w.heap.size + 2) (.slice (some ⟨gg, 0, none⟩) (i + 1) cap) (i + 1) (vals ++ [.slice A2 n2 c2]) ((yss.take (i + 1)).map (stk m.D))) := Lib.hid (by
          rw [HY2.out]
          exact ST2.out.push O2.out.ints y2 m2 HNE.out G5.out.2.1 G5.out.1 (G5.out.2.2.imp id (fun e => by rw [e]; omega)))
        have K5 := Lib.hid ((K2.out.alloc (.cells #[.slice A2 n2 c2] 39)).grown G5.out.1 (fun e => by have := HZV.out _ e.symm; omega))
        have X5 := Lib.hid ((X2.out.alloc (.cells #[.slice A2 n2 c2] 39)).grown G5.out.1 (fun e => by have := HZV.out _ e.symm; omega))
        have B5 := Lib.hid ((B2.out.alloc B2.out.size (.cells #[.slice A2 n2 c2] 39)).grown G5.out.1 (by have := B2.out.size; simp; omega) (fun q e => by have := HZV.out q e; omega))
        clear G5 ck hc q0 q1 q2 q3 q4
        go_wp2
        go_roundw
        case rel => exact ⟨i + 1, _, _, rfl, by go_num, by omega, P5, X5, K5, B5⟩
        case measure => simp [intOf]; omega
    · have HTA : Hid ((yss.take i).map (stk m.D) = yss.map (stk m.D)) := Lib.hid (by rw [List.take_of_length_le (by rw [HLN.out]; omega)])
      have hst2 := hst.out
      rw [HTA.out] at hst2
      obtain ⟨VV, cV, e2, hsets, hc1, hc2⟩ := hst2.sets
      subst e2
      have HSS := Lib.hid hsets
      clear hst hst2 hsets
      go_wp2
      go_ret
      exact ⟨VV, i, cV, rfl, HSS.out, hc1, hc2, hbel.out⟩

end Go.Proofs.Ytjoknbknhfnggaa
