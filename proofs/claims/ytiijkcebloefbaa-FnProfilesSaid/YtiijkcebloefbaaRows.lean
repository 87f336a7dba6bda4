/-
  No cell of these rows narrows 'for every input' (looked for: loops, veiled, ifaces, maps, wideKeys, modest, calm, conditions, laid).
  DERIVED. THE GIVEN ROWS OF THIS SEAT. 8 by the template 'for every input the law returns true; each argument reads behind the call as it read before'; 0 by the template 'total and deterministic' (their statements: YtiijkcebloefbaaTotals.lean).
  GIVEN WITH THE SEED: the statements are not yours to turn. If you find one false, say at which input.
  Laid BY PROGRAM, IN A SANDBOX (cutbox-rows.mjs): the forced cells as the released guide's own fill.sh prints them over the translation 2aa929fa691b1385… (all of the seat's roots in one cut). By AI agents, Wed Nov 11 2026. No macro, syntax, notation, axiom, sorry.
-/
import Derived.Test.YtiijkcebloefbaaChecked
import GoSem.Claim
import GoSem.ClaimJoined
import GoSem.ClaimMapViews
import Derived.JoinedTies
import Derived.KernelRfl
namespace Go.Proofs.Ytiijkcebloefbaa
/- THE CELL 'sum', in the pinned program and in every row, IS THE sha256 OF THE DUMP (.gsa) THAT YtiijkcebloefbaaProg.lean LOADS. Nothing in Lean hashes anything: it is a label: what it is worth is what the hold of that sum in a sandbox is worth. -/
noncomputable def Try.pinned : Pinned := { name := "ytiijkcebloefbaa", sum := "2aa929fa691b13858fb7d2694491e0fa258f8ba1e1124aea61287b06dc5ff3e9", checked := Try.checked }
namespace Rows
def none {H : Type} : Left H := { results := [], args := [] }

/-- 'laws.FnProfiles': WHATEVER THE INPUT: true; the input reads as it did. -/
def fnProfilesSpec : ChangeSpec := { name := "fnProfiles", fn := fun _ => fun
  | [d] => { results := [.lit (.bool true)], args := [d] }
  | _ => none }
def fnProfilesRow : OpenClaim := { program := "ytiijkcebloefbaa", sum := "2aa929fa691b13858fb7d2694491e0fa258f8ba1e1124aea61287b06dc5ff3e9", func := "loop.example/g00947/laws.FnProfiles", spec := "fnProfiles", apart := false }
def FnProfilesSaid : Prop := fnProfilesRow.holds Try.pinned (OpenSpec.ofChange fnProfilesSpec)

/-- ITS FALSE NEIGHBOUR: 'it returns false'. Refute it at one input. -/
def fnProfilesWrong : ChangeSpec := { name := "fnProfiles", fn := fun _ => fun
  | [d] => { results := [.lit (.bool false)], args := [d] }
  | _ => none }
def FnProfilesWrongFalsely : Prop := fnProfilesRow.holds Try.pinned (OpenSpec.ofChange fnProfilesWrong)

/-- 'laws.FnExactEntersWay': WHATEVER THE INPUT: true; the input reads as it did. -/
def fnExactEntersWaySpec : ChangeSpec := { name := "fnExactEntersWay", fn := fun _ => fun
  | [d1, d2] => { results := [.lit (.bool true)], args := [d1, d2] }
  | _ => none }
def fnExactEntersWayRow : OpenClaim := { program := "ytiijkcebloefbaa", sum := "2aa929fa691b13858fb7d2694491e0fa258f8ba1e1124aea61287b06dc5ff3e9", func := "loop.example/g00947/laws.FnExactEntersWay", spec := "fnExactEntersWay", apart := false }
def FnExactEntersWaySaid : Prop := fnExactEntersWayRow.holds Try.pinned (OpenSpec.ofChange fnExactEntersWaySpec)

/-- ITS FALSE NEIGHBOUR: 'it returns false'. Refute it at one input. -/
def fnExactEntersWayWrong : ChangeSpec := { name := "fnExactEntersWay", fn := fun _ => fun
  | [d1, d2] => { results := [.lit (.bool false)], args := [d1, d2] }
  | _ => none }
def FnExactEntersWayWrongFalsely : Prop := fnExactEntersWayRow.holds Try.pinned (OpenSpec.ofChange fnExactEntersWayWrong)

/-- 'laws.FnExactWaysOf': WHATEVER THE INPUT: true; the input reads as it did. -/
def fnExactWaysOfSpec : ChangeSpec := { name := "fnExactWaysOf", fn := fun _ => fun
  | [d1, d2] => { results := [.lit (.bool true)], args := [d1, d2] }
  | _ => none }
def fnExactWaysOfRow : OpenClaim := { program := "ytiijkcebloefbaa", sum := "2aa929fa691b13858fb7d2694491e0fa258f8ba1e1124aea61287b06dc5ff3e9", func := "loop.example/g00947/laws.FnExactWaysOf", spec := "fnExactWaysOf", apart := false }
def FnExactWaysOfSaid : Prop := fnExactWaysOfRow.holds Try.pinned (OpenSpec.ofChange fnExactWaysOfSpec)

/-- ITS FALSE NEIGHBOUR: 'it returns false'. Refute it at one input. -/
def fnExactWaysOfWrong : ChangeSpec := { name := "fnExactWaysOf", fn := fun _ => fun
  | [d1, d2] => { results := [.lit (.bool false)], args := [d1, d2] }
  | _ => none }
def FnExactWaysOfWrongFalsely : Prop := fnExactWaysOfRow.holds Try.pinned (OpenSpec.ofChange fnExactWaysOfWrong)

/-- 'laws.FnExactCommonWay': WHATEVER THE INPUT: true; the input reads as it did. -/
def fnExactCommonWaySpec : ChangeSpec := { name := "fnExactCommonWay", fn := fun _ => fun
  | [d] => { results := [.lit (.bool true)], args := [d] }
  | _ => none }
def fnExactCommonWayRow : OpenClaim := { program := "ytiijkcebloefbaa", sum := "2aa929fa691b13858fb7d2694491e0fa258f8ba1e1124aea61287b06dc5ff3e9", func := "loop.example/g00947/laws.FnExactCommonWay", spec := "fnExactCommonWay", apart := false }
def FnExactCommonWaySaid : Prop := fnExactCommonWayRow.holds Try.pinned (OpenSpec.ofChange fnExactCommonWaySpec)

/-- ITS FALSE NEIGHBOUR: 'it returns false'. Refute it at one input. -/
def fnExactCommonWayWrong : ChangeSpec := { name := "fnExactCommonWay", fn := fun _ => fun
  | [d] => { results := [.lit (.bool false)], args := [d] }
  | _ => none }
def FnExactCommonWayWrongFalsely : Prop := fnExactCommonWayRow.holds Try.pinned (OpenSpec.ofChange fnExactCommonWayWrong)

/-- 'laws.FnExactExactBlank': WHATEVER THE INPUT: true; the input reads as it did. -/
def fnExactExactBlankSpec : ChangeSpec := { name := "fnExactExactBlank", fn := fun _ => fun
  | [d1, d2] => { results := [.lit (.bool true)], args := [d1, d2] }
  | _ => none }
def fnExactExactBlankRow : OpenClaim := { program := "ytiijkcebloefbaa", sum := "2aa929fa691b13858fb7d2694491e0fa258f8ba1e1124aea61287b06dc5ff3e9", func := "loop.example/g00947/laws.FnExactExactBlank", spec := "fnExactExactBlank", unfollowed := true, recurses := true, apart := false }
def FnExactExactBlankSaid : Prop := fnExactExactBlankRow.holds Try.pinned (OpenSpec.ofChange fnExactExactBlankSpec)

/-- ITS FALSE NEIGHBOUR: 'it returns false'. Refute it at one input. -/
def fnExactExactBlankWrong : ChangeSpec := { name := "fnExactExactBlank", fn := fun _ => fun
  | [d1, d2] => { results := [.lit (.bool false)], args := [d1, d2] }
  | _ => none }
def FnExactExactBlankWrongFalsely : Prop := fnExactExactBlankRow.holds Try.pinned (OpenSpec.ofChange fnExactExactBlankWrong)

/-- 'laws.FnExactCountExact': WHATEVER THE INPUT: true; the input reads as it did. -/
def fnExactCountExactSpec : ChangeSpec := { name := "fnExactCountExact", fn := fun _ => fun
  | [d1, d2] => { results := [.lit (.bool true)], args := [d1, d2] }
  | _ => none }
def fnExactCountExactRow : OpenClaim := { program := "ytiijkcebloefbaa", sum := "2aa929fa691b13858fb7d2694491e0fa258f8ba1e1124aea61287b06dc5ff3e9", func := "loop.example/g00947/laws.FnExactCountExact", spec := "fnExactCountExact", unfollowed := true, recurses := true, apart := false }
def FnExactCountExactSaid : Prop := fnExactCountExactRow.holds Try.pinned (OpenSpec.ofChange fnExactCountExactSpec)

/-- ITS FALSE NEIGHBOUR: 'it returns false'. Refute it at one input. -/
def fnExactCountExactWrong : ChangeSpec := { name := "fnExactCountExact", fn := fun _ => fun
  | [d1, d2] => { results := [.lit (.bool false)], args := [d1, d2] }
  | _ => none }
def FnExactCountExactWrongFalsely : Prop := fnExactCountExactRow.holds Try.pinned (OpenSpec.ofChange fnExactCountExactWrong)

/-- 'laws.FnExactProfileText': WHATEVER THE INPUT: true; the input reads as it did. -/
def fnExactProfileTextSpec : ChangeSpec := { name := "fnExactProfileText", fn := fun _ => fun
  | [d] => { results := [.lit (.bool true)], args := [d] }
  | _ => none }
def fnExactProfileTextRow : OpenClaim := { program := "ytiijkcebloefbaa", sum := "2aa929fa691b13858fb7d2694491e0fa258f8ba1e1124aea61287b06dc5ff3e9", func := "loop.example/g00947/laws.FnExactProfileText", spec := "fnExactProfileText", apart := false }
def FnExactProfileTextSaid : Prop := fnExactProfileTextRow.holds Try.pinned (OpenSpec.ofChange fnExactProfileTextSpec)

/-- ITS FALSE NEIGHBOUR: 'it returns false'. Refute it at one input. -/
def fnExactProfileTextWrong : ChangeSpec := { name := "fnExactProfileText", fn := fun _ => fun
  | [d] => { results := [.lit (.bool false)], args := [d] }
  | _ => none }
def FnExactProfileTextWrongFalsely : Prop := fnExactProfileTextRow.holds Try.pinned (OpenSpec.ofChange fnExactProfileTextWrong)

/-- 'laws.FnExactReadProfile': WHATEVER THE INPUT: true; the input reads as it did. -/
def fnExactReadProfileSpec : ChangeSpec := { name := "fnExactReadProfile", fn := fun _ => fun
  | [d] => { results := [.lit (.bool true)], args := [d] }
  | _ => none }
def fnExactReadProfileRow : OpenClaim := { program := "ytiijkcebloefbaa", sum := "2aa929fa691b13858fb7d2694491e0fa258f8ba1e1124aea61287b06dc5ff3e9", func := "loop.example/g00947/laws.FnExactReadProfile", spec := "fnExactReadProfile", apart := false }
def FnExactReadProfileSaid : Prop := fnExactReadProfileRow.holds Try.pinned (OpenSpec.ofChange fnExactReadProfileSpec)

/-- ITS FALSE NEIGHBOUR: 'it returns false'. Refute it at one input. -/
def fnExactReadProfileWrong : ChangeSpec := { name := "fnExactReadProfile", fn := fun _ => fun
  | [d] => { results := [.lit (.bool false)], args := [d] }
  | _ => none }
def FnExactReadProfileWrongFalsely : Prop := fnExactReadProfileRow.holds Try.pinned (OpenSpec.ofChange fnExactReadProfileWrong)

/- THE SECOND FORM. 'bulk': how many values and letters a reading holds, each counted each time it is reached (what is shared counts as often as it is met; a slice's spare places count too). A statement '..UptoSaid' is the law's where the arguments, and the package variables that the reading takes, are together of bulk at most 1048576: NARROWER than '..Said'. Prove '..Said' where nothing that the law and all that it calls make is longer than what came in: it says more and counts as full. Else prove '..UptoSaid'. A law counts once. -/
mutual
def uptoBulk {H : Type} : DataW H → Nat
  | .lit (.string bytes) => bytes.length + 1
  | .lit _ => 1
  | .nil => 1
  | .ptr d => uptoBulk d + 1
  | .slice elems spare => uptoBulkAll elems + uptoBulkAll spare + 1
  | .agg parts => uptoBulkAll parts + 1
  | .iface _ d => uptoBulk d + 1
  | .map entries => uptoBulkEntries entries + 1
  | .held _ => 1
def uptoBulkAll {H : Type} : List (DataW H) → Nat
  | [] => 0
  | d :: r => uptoBulk d + uptoBulkAll r
def uptoBulkEntries {H : Type} : List (Lit × DataW H) → Nat
  | [] => 0
  | x :: r => uptoBulkEntry x + uptoBulkEntries r
def uptoBulkEntry {H : Type} : Lit × DataW H → Nat
  | (.string bytes, d) => bytes.length + uptoBulk d + 1
  | (_, d) => uptoBulk d + 1
 end
def uptoSmall : (H : Type) → List (DataW H) → Bool := fun _ ds => decide (uptoBulkAll ds ≤ 1048576)
def OpenSpec.upto (s : _root_.Go.ChangeSpec) : _root_.Go.OpenSpec := { _root_.Go.OpenSpec.ofChange s with cond := some uptoSmall }

/-- 'laws.FnProfiles', WHERE WHAT IT READS IS OF BULK AT MOST 1048576: true; the input reads as it did. -/
def fnProfilesUptoRow : OpenClaim := { program := "ytiijkcebloefbaa", sum := "2aa929fa691b13858fb7d2694491e0fa258f8ba1e1124aea61287b06dc5ff3e9", func := "loop.example/g00947/laws.FnProfiles", spec := "fnProfiles", apart := false, narrowed := true }
def FnProfilesUptoSaid : Prop := fnProfilesUptoRow.holds Try.pinned (OpenSpec.upto fnProfilesSpec)

/-- 'laws.FnExactEntersWay', WHERE WHAT IT READS IS OF BULK AT MOST 1048576: true; the input reads as it did. -/
def fnExactEntersWayUptoRow : OpenClaim := { program := "ytiijkcebloefbaa", sum := "2aa929fa691b13858fb7d2694491e0fa258f8ba1e1124aea61287b06dc5ff3e9", func := "loop.example/g00947/laws.FnExactEntersWay", spec := "fnExactEntersWay", apart := false, narrowed := true }
def FnExactEntersWayUptoSaid : Prop := fnExactEntersWayUptoRow.holds Try.pinned (OpenSpec.upto fnExactEntersWaySpec)

/-- 'laws.FnExactWaysOf', WHERE WHAT IT READS IS OF BULK AT MOST 1048576: true; the input reads as it did. -/
def fnExactWaysOfUptoRow : OpenClaim := { program := "ytiijkcebloefbaa", sum := "2aa929fa691b13858fb7d2694491e0fa258f8ba1e1124aea61287b06dc5ff3e9", func := "loop.example/g00947/laws.FnExactWaysOf", spec := "fnExactWaysOf", apart := false, narrowed := true }
def FnExactWaysOfUptoSaid : Prop := fnExactWaysOfUptoRow.holds Try.pinned (OpenSpec.upto fnExactWaysOfSpec)

/-- 'laws.FnExactCommonWay', WHERE WHAT IT READS IS OF BULK AT MOST 1048576: true; the input reads as it did. -/
def fnExactCommonWayUptoRow : OpenClaim := { program := "ytiijkcebloefbaa", sum := "2aa929fa691b13858fb7d2694491e0fa258f8ba1e1124aea61287b06dc5ff3e9", func := "loop.example/g00947/laws.FnExactCommonWay", spec := "fnExactCommonWay", apart := false, narrowed := true }
def FnExactCommonWayUptoSaid : Prop := fnExactCommonWayUptoRow.holds Try.pinned (OpenSpec.upto fnExactCommonWaySpec)

/-- 'laws.FnExactExactBlank', WHERE WHAT IT READS IS OF BULK AT MOST 1048576: true; the input reads as it did. -/
def fnExactExactBlankUptoRow : OpenClaim := { program := "ytiijkcebloefbaa", sum := "2aa929fa691b13858fb7d2694491e0fa258f8ba1e1124aea61287b06dc5ff3e9", func := "loop.example/g00947/laws.FnExactExactBlank", spec := "fnExactExactBlank", unfollowed := true, recurses := true, apart := false, narrowed := true }
def FnExactExactBlankUptoSaid : Prop := fnExactExactBlankUptoRow.holds Try.pinned (OpenSpec.upto fnExactExactBlankSpec)

/-- 'laws.FnExactCountExact', WHERE WHAT IT READS IS OF BULK AT MOST 1048576: true; the input reads as it did. -/
def fnExactCountExactUptoRow : OpenClaim := { program := "ytiijkcebloefbaa", sum := "2aa929fa691b13858fb7d2694491e0fa258f8ba1e1124aea61287b06dc5ff3e9", func := "loop.example/g00947/laws.FnExactCountExact", spec := "fnExactCountExact", unfollowed := true, recurses := true, apart := false, narrowed := true }
def FnExactCountExactUptoSaid : Prop := fnExactCountExactUptoRow.holds Try.pinned (OpenSpec.upto fnExactCountExactSpec)

/-- 'laws.FnExactProfileText', WHERE WHAT IT READS IS OF BULK AT MOST 1048576: true; the input reads as it did. -/
def fnExactProfileTextUptoRow : OpenClaim := { program := "ytiijkcebloefbaa", sum := "2aa929fa691b13858fb7d2694491e0fa258f8ba1e1124aea61287b06dc5ff3e9", func := "loop.example/g00947/laws.FnExactProfileText", spec := "fnExactProfileText", apart := false, narrowed := true }
def FnExactProfileTextUptoSaid : Prop := fnExactProfileTextUptoRow.holds Try.pinned (OpenSpec.upto fnExactProfileTextSpec)

/-- 'laws.FnExactReadProfile', WHERE WHAT IT READS IS OF BULK AT MOST 1048576: true; the input reads as it did. -/
def fnExactReadProfileUptoRow : OpenClaim := { program := "ytiijkcebloefbaa", sum := "2aa929fa691b13858fb7d2694491e0fa258f8ba1e1124aea61287b06dc5ff3e9", func := "loop.example/g00947/laws.FnExactReadProfile", spec := "fnExactReadProfile", apart := false, narrowed := true }
def FnExactReadProfileUptoSaid : Prop := fnExactReadProfileUptoRow.holds Try.pinned (OpenSpec.upto fnExactReadProfileSpec)

end Rows
end Go.Proofs.Ytiijkcebloefbaa
