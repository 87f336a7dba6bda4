/- For every plan, valid or not, AccessOf of the program returns the rows and the error code that AccessOf of the model returns, as lists of its own, and leaves the plan as it was. Conditions: none. -/
import Derived.Test.YtnadcjclihflcaaRows
import Derived.Test.YtnadcjclihflcaaHead
import Derived.WalkKit
import Derived.ProofKit
import Derived.OpenShut
import Derived.ShutString
import Derived.ChangeOld
import Derived.Below
import Derived.Lib.SmallJoins
import Derived.Test.YtnadcjclihflcaaLPlA
import Derived.Test.YtnadcjclihflcaaOpenP
namespace Go.Proofs.Ytnadcjclihflcaa.fnExactAccessOf
open Go.ChangeShapes Go.WideShapes Go.ChangeAt Go.RowKit Go.Deep
open Go.ChangeMaps (open_string shut_string)
set_option linter.unusedVariables false

theorem own : ownKnob Try.prog.godebug = none := by kernel_rfl
theorem laidOut : laidOutB Try.prog = true := by kernel_rfl

/-- the law's walk -/
theorem walk (a0 : Option Addr) (len0 cap0 : Nat) (b0 : Option Addr) (ken0 kap0 : Nat) (vv0 : Option Addr) (qen0 qap0 : Nat) (z0 : List Int) (y0 : List Bool) (rr0 : List (List Int)) (w : World) (w0 : Pl w a0 len0 b0 ken0 vv0 qen0 z0 y0 rr0) (n0 : len0 ≤ 9223372036854775807) (m0 : ken0 ≤ 9223372036854775807) (l0 : qen0 ≤ 9223372036854775807) :
    Calls Try.prog 8 #[.agg #[.slice a0 len0 cap0, .slice b0 ken0 kap0, .slice vv0 qen0 qap0]] w fun e w' => e = .returned (.bool true) ∧ Below w.heap.size w w' := by
  exact lawAccessOf_any a0 len0 cap0 b0 ken0 kap0 vv0 qen0 qap0 z0 y0 rr0 w w0 n0 m0 l0

set_option maxRecDepth 100000 in
theorem lifted (os : Os) (started : os.Started) (H : Type) (enc : TypeId × Value → H) :
    ReturnsInHanded {} Try.checked os 8 .any (Rows.fnExactAccessOfSpec.pre6 enc Try.prog Try.f8 Rows.fnExactAccessOfRow.domain false) (Rows.fnExactAccessOfSpec.post enc Try.prog Try.f8 false true false false) := by
  refine returnsInHanded_of_change (C := Try.checked) own started (by kernel_rfl) Try.func8
    (ChangeSpec.witness6 (enc := enc) (C := Try.checked) false ⟨#[], #[.agg #[.slice none 0 0, .slice none 0 0, .slice none 0 0]], []⟩ 8 (by kernel_rfl) (by kernel_rfl) (by kernel_rfl) (by kernel_rfl)) ?_
  intro W base args ds gs before hval0 hW hcnd _
  have hval : ∀ (j : Nat) t v, Try.f8.params[j]? = some t → args[j]? = some v → Value.okWide Try.prog W .any base t v := hval0
  have hW' := hW
  obtain ⟨p, q, hA0, hV, rfl, hfz, hnd⟩ := hW
  have hA : DataW.TrodAll enc Try.prog W 0 (fun _ => true) true Try.f8.params.toList args.toList ds p := hA0
  rw [Try.params8] at hA hval
  obtain ⟨v0, vs0, d0, ds0, p0, q0, hargs, rfl, rfl, h0, r0⟩ := trodAll_cons hA
  obtain ⟨rfl, rfl, rfl⟩ := trodAll_nil r0
  obtain rfl : args = #[v0] := by cases args; simp_all
  obtain ⟨rfl, rfl⟩ := trodVars_none hV
  have k0 := h0
  have lt0 : ∀ x ∈ p0, x.block < W.heap.size := by obtain ⟨m, hm⟩ := k0; exact DataW.trod_lt m _ _ _ hm
  obtain ⟨a0, len0, cap0, b0, ken0, kap0, vv0, qen0, qap0, z0, y0, rr0, rfl, w0, n0, m0, l0⟩ := pl3 Try.underlying54 rfl rfl (by kernel_rfl) Try.underlying52 (by kernel_rfl) (by kernel_rfl) Try.underlying24 Try.underlying2 (by kernel_rfl) Try.underlying25 Try.underlying4 (by kernel_rfl) Try.underlying28 (by kernel_rfl) (by kernel_rfl) (hval 0 54 v0 rfl rfl) h0 rfl rfl rfl rfl
  clear hA0 hval0
  refine (walk a0 len0 cap0 b0 ken0 kap0 vv0 qen0 qap0 z0 y0 rr0 W w0 n0 m0 l0).mono fun e W' ⟨he, bel⟩ => ?_
  subst he
  exact ⟨_, rfl, _, _, _, [], _, [], hW', trodAll_mk1 (shut_bool Try.underlying4 _), (trodAll_cons_mk (Below.trod laidOut (by kernel_rfl) (of_decide_eq_true (by kernel_rfl)) k0 bel lt0) trodAll_mk0), rfl, bel.frame _, fun h => by cases h⟩

/-- the row's cells, each by the kernel -/
theorem makes : (Try.prog.make == some Rows.fnExactAccessOfRow.make) = true := by rw [head_make]; kernel_rfl
theorem lifts : (Rows.fnExactAccessOfRow.lifted == Try.prog.liftsFinal) = true := by rw [head_final]; kernel_rfl
set_option maxHeartbeats 4000000 in
theorem closed : joinedFacts Try.prog 8 Try.f8 Rows.fnExactAccessOfSpec Rows.fnExactAccessOfRow = true := by
  unfold joinedFacts
  repeat' (with_reducible refine and_mk ?_ ?_)
  all_goals first | with_reducible exact head_enters | with_reducible exact makes | with_reducible exact lifts | (as_aux_lemma => kernel_rfl)
theorem over : Rows.fnExactAccessOfRow.holds Try.pinned (OpenSpec.ofChange Rows.fnExactAccessOfSpec) :=
  OpenClaim.holds_of_wide 8 Try.f8 rfl rfl rfl rfl rfl rfl rfl ⟨rfl, rfl, rfl, rfl, rfl⟩ rfl rfl rfl rfl rfl (by kernel_rfl) Try.func8 closed
    (of_decide_eq_true (by kernel_rfl)) (by unfold Func.isWrapper; first | (rw [if_pos (by decide +kernel)]; kernel_rfl) | (rw [if_neg (by decide +kernel)]; exact ⟨rfl, rfl⟩))
    (fun os started H enc _ => lifted os started H enc)

/-- THE STATEMENT -/
theorem proved : Rows.FnExactAccessOfSaid := over
end Go.Proofs.Ytnadcjclihflcaa.fnExactAccessOf
