/- Plans as they come in: what the reading of an argument says of memory. -/
import Derived.Test.YtnadcjclihflcaaOpenB
import Derived.Test.YtnadcjclihflcaaPlK
namespace Go.Proofs.Ytnadcjclihflcaa
open Go Go.RowKit Go.WideShapes Go.ChangeShapes Go.Deep Go.ChangeAt Go.Joins

/-- a struct of a building and a list of lists that came in, by value -/
theorem pl3 {H : Type} {enc : TypeId × Value → H} {P : Program} {w : World} {base b0 : Nat} {spare : Nat → Bool} {held : Bool} {r : Reach} {t tb s1 s2 s3 i b : TypeId} {f0 f1 g0 g1 : Field} {v : Value} {d : DataW H} {p : List MemPlace}
    (hs : P.underlying t = some (.struct #[f0, f1])) (ho0 : f0.offset = 0) (ho1 : f1.offset = 2) (hC : P.cellsOf t = 3) (hsb : P.underlying tb = some (.struct #[g0, g1])) (hone : oneCellFields P #[g0, g1] = true) (hCb : P.cellsOf tb = 2)
    (h1 : P.underlying s1 = some (.slice i)) (hi : P.underlying i = some (.int .i64)) (hci : P.cellsOf i = 1) (h2 : P.underlying s2 = some (.slice b)) (hb : P.underlying b = some .bool) (hcb : P.cellsOf b = 1)
    (h3 : P.underlying s3 = some (.slice s1)) (hc1 : P.cellsOf s1 = 1) (hc3 : P.cellsOf s3 = 1)
    (hv : Value.okWide P w r b0 t v) (h : DataW.Trod enc P w base spare held t v d p) (e0 : f0.type = tb) (e1 : f1.type = s3) (e2 : g0.type = s1) (e3 : g1.type = s2) :
    ∃ A n c B k d V q e zs ys yss, v = .agg #[.slice A n c, .slice B k d, .slice V q e] ∧ Pl w A n B k V q zs ys yss ∧ n ≤ 9223372036854775807 ∧ k ≤ 9223372036854775807 ∧ q ≤ 9223372036854775807 := by
  obtain ⟨cs, rfl, hsz⟩ := okWide_struct hs hv
  obtain ⟨c0, c1, c2, rfl⟩ := array3 (hsz.trans hC)
  obtain ⟨fuel, hf⟩ := h
  obtain ⟨y0, y1, n, hx, _, k0, k1⟩ := trod_struct2 hs hf
  rw [ho0, e0, hCb] at k0
  rw [ho1, e1, hc3] at k1
  have k0' : DataW.trod enc P w base spare held n tb [c0, c1] = some y0 := by simpa [Value.cells] using k0
  have k1' : DataW.trod enc P w base spare held n s3 [c2] = some y1 := by simpa [Value.cells] using k1
  obtain ⟨z0, z1, m, hz, _, l0, l1⟩ := trod_struct2 hsb k0'
  obtain ⟨o0, q0⟩ := hone_of hone 0 g0 rfl
  obtain ⟨o1, q1⟩ := hone_of hone 1 g1 rfl
  rw [o0, q0, e2] at l0
  rw [o1, q1, e3] at l1
  obtain ⟨A, qa, c, zs, a1, r1, r2, r3⟩ := open_row h1 hi hci l0
  obtain ⟨B, kb, d, ys, a2, r4, r5, r6⟩ := open_rowB h2 hb hcb l1
  obtain ⟨V, qv, e, yss, a3, r7, r8, r9⟩ := open_sets h3 h1 hi hc1 hci k1'
  have a1' : c0 = .slice A qa c := by simpa using a1
  have a2' : c1 = .slice B kb d := by simpa using a2
  have a3' : c2 = .slice V qv e := by simpa using a3
  subst a1'; subst a2'; subst a3'
  exact ⟨A, qa, c, B, kb, d, V, qv, e, zs, ys, yss, rfl, ⟨⟨r1, r4⟩, r7⟩, by omega, by omega, by omega⟩

end Go.Proofs.Ytnadcjclihflcaa
