/-
  No cell of these rows narrows 'for every input' (looked for: loops, veiled, ifaces, maps, wideKeys, modest, calm, conditions, laid).
  DERIVED. THE GIVEN ROWS OF THIS SEAT. 14 by the template 'for every input the law returns true; each argument reads behind the call as it read before'; 0 by the template 'total and deterministic' (their statements: YtidjnnooeepklaaTotals.lean).
  GIVEN WITH THE SEED: the statements are not yours to turn. If you find one false, say at which input.
  Laid BY PROGRAM, IN A SANDBOX (cutbox-rows.mjs): the forced cells as the released guide's own fill.sh prints them over the translation 78defb62a6e1bc87… (all of the seat's roots in one cut). By AI agents, Wed Nov 11 2026. No macro, syntax, notation, axiom, sorry.
-/
import Derived.Test.YtidjnnooeepklaaChecked
import GoSem.Claim
import GoSem.ClaimJoined
import GoSem.ClaimMapViews
import Derived.JoinedTies
import Derived.KernelRfl
namespace Go.Proofs.Ytidjnnooeepklaa
/- THE CELL 'sum', in the pinned program and in every row, IS THE sha256 OF THE DUMP (.gsa) THAT YtidjnnooeepklaaProg.lean LOADS. Nothing in Lean hashes anything: it is a label: what it is worth is what the hold of that sum in a sandbox is worth. -/
noncomputable def Try.pinned : Pinned := { name := "ytidjnnooeepklaa", sum := "78defb62a6e1bc875fca49c7f56277451f9afb50312d19eeb19d2b46911f2566", checked := Try.checked }
namespace Rows
def none {H : Type} : Left H := { results := [], args := [] }

/-- 'laws.FnTables': WHATEVER THE INPUT: true; the input reads as it did. -/
def fnTablesSpec : ChangeSpec := { name := "fnTables", fn := fun _ => fun
  | [d] => { results := [.lit (.bool true)], args := [d] }
  | _ => none }
def fnTablesRow : OpenClaim := { program := "ytidjnnooeepklaa", sum := "78defb62a6e1bc875fca49c7f56277451f9afb50312d19eeb19d2b46911f2566", func := "loop.example/g00947/laws.FnTables", spec := "fnTables", unfollowed := true, recurses := true, apart := false }
def FnTablesSaid : Prop := fnTablesRow.holds Try.pinned (OpenSpec.ofChange fnTablesSpec)

/-- ITS FALSE NEIGHBOUR: 'it returns false'. Refute it at one input. -/
def fnTablesWrong : ChangeSpec := { name := "fnTables", fn := fun _ => fun
  | [d] => { results := [.lit (.bool false)], args := [d] }
  | _ => none }
def FnTablesWrongFalsely : Prop := fnTablesRow.holds Try.pinned (OpenSpec.ofChange fnTablesWrong)

/-- 'laws.FnHierarchies': WHATEVER THE INPUT: true; the input reads as it did. -/
def fnHierarchiesSpec : ChangeSpec := { name := "fnHierarchies", fn := fun _ => fun
  | [d] => { results := [.lit (.bool true)], args := [d] }
  | _ => none }
def fnHierarchiesRow : OpenClaim := { program := "ytidjnnooeepklaa", sum := "78defb62a6e1bc875fca49c7f56277451f9afb50312d19eeb19d2b46911f2566", func := "loop.example/g00947/laws.FnHierarchies", spec := "fnHierarchies", unfollowed := true, recurses := true, apart := false }
def FnHierarchiesSaid : Prop := fnHierarchiesRow.holds Try.pinned (OpenSpec.ofChange fnHierarchiesSpec)

/-- ITS FALSE NEIGHBOUR: 'it returns false'. Refute it at one input. -/
def fnHierarchiesWrong : ChangeSpec := { name := "fnHierarchies", fn := fun _ => fun
  | [d] => { results := [.lit (.bool false)], args := [d] }
  | _ => none }
def FnHierarchiesWrongFalsely : Prop := fnHierarchiesRow.holds Try.pinned (OpenSpec.ofChange fnHierarchiesWrong)

/-- 'laws.FnExactIsTable': WHATEVER THE INPUT: true; the input reads as it did. -/
def fnExactIsTableSpec : ChangeSpec := { name := "fnExactIsTable", fn := fun _ => fun
  | [d] => { results := [.lit (.bool true)], args := [d] }
  | _ => none }
def fnExactIsTableRow : OpenClaim := { program := "ytidjnnooeepklaa", sum := "78defb62a6e1bc875fca49c7f56277451f9afb50312d19eeb19d2b46911f2566", func := "loop.example/g00947/laws.FnExactIsTable", spec := "fnExactIsTable", apart := false }
def FnExactIsTableSaid : Prop := fnExactIsTableRow.holds Try.pinned (OpenSpec.ofChange fnExactIsTableSpec)

/-- ITS FALSE NEIGHBOUR: 'it returns false'. Refute it at one input. -/
def fnExactIsTableWrong : ChangeSpec := { name := "fnExactIsTable", fn := fun _ => fun
  | [d] => { results := [.lit (.bool false)], args := [d] }
  | _ => none }
def FnExactIsTableWrongFalsely : Prop := fnExactIsTableRow.holds Try.pinned (OpenSpec.ofChange fnExactIsTableWrong)

/-- 'laws.FnExactIsHierarchical': WHATEVER THE INPUT: true; the input reads as it did. -/
def fnExactIsHierarchicalSpec : ChangeSpec := { name := "fnExactIsHierarchical", fn := fun _ => fun
  | [d] => { results := [.lit (.bool true)], args := [d] }
  | _ => none }
def fnExactIsHierarchicalRow : OpenClaim := { program := "ytidjnnooeepklaa", sum := "78defb62a6e1bc875fca49c7f56277451f9afb50312d19eeb19d2b46911f2566", func := "loop.example/g00947/laws.FnExactIsHierarchical", spec := "fnExactIsHierarchical", apart := false }
def FnExactIsHierarchicalSaid : Prop := fnExactIsHierarchicalRow.holds Try.pinned (OpenSpec.ofChange fnExactIsHierarchicalSpec)

/-- ITS FALSE NEIGHBOUR: 'it returns false'. Refute it at one input. -/
def fnExactIsHierarchicalWrong : ChangeSpec := { name := "fnExactIsHierarchical", fn := fun _ => fun
  | [d] => { results := [.lit (.bool false)], args := [d] }
  | _ => none }
def FnExactIsHierarchicalWrongFalsely : Prop := fnExactIsHierarchicalRow.holds Try.pinned (OpenSpec.ofChange fnExactIsHierarchicalWrong)

/-- 'laws.FnExactContainedIn': WHATEVER THE INPUT: true; the input reads as it did. -/
def fnExactContainedInSpec : ChangeSpec := { name := "fnExactContainedIn", fn := fun _ => fun
  | [d1, d2] => { results := [.lit (.bool true)], args := [d1, d2] }
  | _ => none }
def fnExactContainedInRow : OpenClaim := { program := "ytidjnnooeepklaa", sum := "78defb62a6e1bc875fca49c7f56277451f9afb50312d19eeb19d2b46911f2566", func := "loop.example/g00947/laws.FnExactContainedIn", spec := "fnExactContainedIn", unfollowed := true, recurses := true, apart := false }
def FnExactContainedInSaid : Prop := fnExactContainedInRow.holds Try.pinned (OpenSpec.ofChange fnExactContainedInSpec)

/-- ITS FALSE NEIGHBOUR: 'it returns false'. Refute it at one input. -/
def fnExactContainedInWrong : ChangeSpec := { name := "fnExactContainedIn", fn := fun _ => fun
  | [d1, d2] => { results := [.lit (.bool false)], args := [d1, d2] }
  | _ => none }
def FnExactContainedInWrongFalsely : Prop := fnExactContainedInRow.holds Try.pinned (OpenSpec.ofChange fnExactContainedInWrong)

/-- 'laws.FnExactEqualRows': WHATEVER THE INPUT: true; the input reads as it did. -/
def fnExactEqualRowsSpec : ChangeSpec := { name := "fnExactEqualRows", fn := fun _ => fun
  | [d] => { results := [.lit (.bool true)], args := [d] }
  | _ => none }
def fnExactEqualRowsRow : OpenClaim := { program := "ytidjnnooeepklaa", sum := "78defb62a6e1bc875fca49c7f56277451f9afb50312d19eeb19d2b46911f2566", func := "loop.example/g00947/laws.FnExactEqualRows", spec := "fnExactEqualRows", apart := false }
def FnExactEqualRowsSaid : Prop := fnExactEqualRowsRow.holds Try.pinned (OpenSpec.ofChange fnExactEqualRowsSpec)

/-- ITS FALSE NEIGHBOUR: 'it returns false'. Refute it at one input. -/
def fnExactEqualRowsWrong : ChangeSpec := { name := "fnExactEqualRows", fn := fun _ => fun
  | [d] => { results := [.lit (.bool false)], args := [d] }
  | _ => none }
def FnExactEqualRowsWrongFalsely : Prop := fnExactEqualRowsRow.holds Try.pinned (OpenSpec.ofChange fnExactEqualRowsWrong)

/-- 'laws.FnExactMasterKeys': WHATEVER THE INPUT: true; the input reads as it did. -/
def fnExactMasterKeysSpec : ChangeSpec := { name := "fnExactMasterKeys", fn := fun _ => fun
  | [d] => { results := [.lit (.bool true)], args := [d] }
  | _ => none }
def fnExactMasterKeysRow : OpenClaim := { program := "ytidjnnooeepklaa", sum := "78defb62a6e1bc875fca49c7f56277451f9afb50312d19eeb19d2b46911f2566", func := "loop.example/g00947/laws.FnExactMasterKeys", spec := "fnExactMasterKeys", unfollowed := true, recurses := true, apart := false }
def FnExactMasterKeysSaid : Prop := fnExactMasterKeysRow.holds Try.pinned (OpenSpec.ofChange fnExactMasterKeysSpec)

/-- ITS FALSE NEIGHBOUR: 'it returns false'. Refute it at one input. -/
def fnExactMasterKeysWrong : ChangeSpec := { name := "fnExactMasterKeys", fn := fun _ => fun
  | [d] => { results := [.lit (.bool false)], args := [d] }
  | _ => none }
def FnExactMasterKeysWrongFalsely : Prop := fnExactMasterKeysRow.holds Try.pinned (OpenSpec.ofChange fnExactMasterKeysWrong)

/-- 'laws.FnExactLeastKeysFor': WHATEVER THE INPUT: true; the input reads as it did. -/
def fnExactLeastKeysForSpec : ChangeSpec := { name := "fnExactLeastKeysFor", fn := fun _ => fun
  | [d1, d2] => { results := [.lit (.bool true)], args := [d1, d2] }
  | _ => none }
def fnExactLeastKeysForRow : OpenClaim := { program := "ytidjnnooeepklaa", sum := "78defb62a6e1bc875fca49c7f56277451f9afb50312d19eeb19d2b46911f2566", func := "loop.example/g00947/laws.FnExactLeastKeysFor", spec := "fnExactLeastKeysFor", unfollowed := true, recurses := true, apart := false }
def FnExactLeastKeysForSaid : Prop := fnExactLeastKeysForRow.holds Try.pinned (OpenSpec.ofChange fnExactLeastKeysForSpec)

/-- ITS FALSE NEIGHBOUR: 'it returns false'. Refute it at one input. -/
def fnExactLeastKeysForWrong : ChangeSpec := { name := "fnExactLeastKeysFor", fn := fun _ => fun
  | [d1, d2] => { results := [.lit (.bool false)], args := [d1, d2] }
  | _ => none }
def FnExactLeastKeysForWrongFalsely : Prop := fnExactLeastKeysForRow.holds Try.pinned (OpenSpec.ofChange fnExactLeastKeysForWrong)

/-- 'laws.FnExactTurnTable': WHATEVER THE INPUT: true; the input reads as it did. -/
def fnExactTurnTableSpec : ChangeSpec := { name := "fnExactTurnTable", fn := fun _ => fun
  | [d] => { results := [.lit (.bool true)], args := [d] }
  | _ => none }
def fnExactTurnTableRow : OpenClaim := { program := "ytidjnnooeepklaa", sum := "78defb62a6e1bc875fca49c7f56277451f9afb50312d19eeb19d2b46911f2566", func := "loop.example/g00947/laws.FnExactTurnTable", spec := "fnExactTurnTable", apart := false }
def FnExactTurnTableSaid : Prop := fnExactTurnTableRow.holds Try.pinned (OpenSpec.ofChange fnExactTurnTableSpec)

/-- ITS FALSE NEIGHBOUR: 'it returns false'. Refute it at one input. -/
def fnExactTurnTableWrong : ChangeSpec := { name := "fnExactTurnTable", fn := fun _ => fun
  | [d] => { results := [.lit (.bool false)], args := [d] }
  | _ => none }
def FnExactTurnTableWrongFalsely : Prop := fnExactTurnTableRow.holds Try.pinned (OpenSpec.ofChange fnExactTurnTableWrong)

/-- 'laws.FnExactCountDoors': WHATEVER THE INPUT: true; the input reads as it did. -/
def fnExactCountDoorsSpec : ChangeSpec := { name := "fnExactCountDoors", fn := fun _ => fun
  | [d1, d2] => { results := [.lit (.bool true)], args := [d1, d2] }
  | _ => none }
def fnExactCountDoorsRow : OpenClaim := { program := "ytidjnnooeepklaa", sum := "78defb62a6e1bc875fca49c7f56277451f9afb50312d19eeb19d2b46911f2566", func := "loop.example/g00947/laws.FnExactCountDoors", spec := "fnExactCountDoors", apart := false }
def FnExactCountDoorsSaid : Prop := fnExactCountDoorsRow.holds Try.pinned (OpenSpec.ofChange fnExactCountDoorsSpec)

/-- ITS FALSE NEIGHBOUR: 'it returns false'. Refute it at one input. -/
def fnExactCountDoorsWrong : ChangeSpec := { name := "fnExactCountDoors", fn := fun _ => fun
  | [d1, d2] => { results := [.lit (.bool false)], args := [d1, d2] }
  | _ => none }
def FnExactCountDoorsWrongFalsely : Prop := fnExactCountDoorsRow.holds Try.pinned (OpenSpec.ofChange fnExactCountDoorsWrong)

/-- 'laws.FnExactDoorsInCommon': WHATEVER THE INPUT: true; the input reads as it did. -/
def fnExactDoorsInCommonSpec : ChangeSpec := { name := "fnExactDoorsInCommon", fn := fun _ => fun
  | [d1, d2, d3] => { results := [.lit (.bool true)], args := [d1, d2, d3] }
  | _ => none }
def fnExactDoorsInCommonRow : OpenClaim := { program := "ytidjnnooeepklaa", sum := "78defb62a6e1bc875fca49c7f56277451f9afb50312d19eeb19d2b46911f2566", func := "loop.example/g00947/laws.FnExactDoorsInCommon", spec := "fnExactDoorsInCommon", apart := false }
def FnExactDoorsInCommonSaid : Prop := fnExactDoorsInCommonRow.holds Try.pinned (OpenSpec.ofChange fnExactDoorsInCommonSpec)

/-- ITS FALSE NEIGHBOUR: 'it returns false'. Refute it at one input. -/
def fnExactDoorsInCommonWrong : ChangeSpec := { name := "fnExactDoorsInCommon", fn := fun _ => fun
  | [d1, d2, d3] => { results := [.lit (.bool false)], args := [d1, d2, d3] }
  | _ => none }
def FnExactDoorsInCommonWrongFalsely : Prop := fnExactDoorsInCommonRow.holds Try.pinned (OpenSpec.ofChange fnExactDoorsInCommonWrong)

/-- 'laws.FnExactAddKey': WHATEVER THE INPUT: true; the input reads as it did. -/
def fnExactAddKeySpec : ChangeSpec := { name := "fnExactAddKey", fn := fun _ => fun
  | [d1, d2] => { results := [.lit (.bool true)], args := [d1, d2] }
  | _ => none }
def fnExactAddKeyRow : OpenClaim := { program := "ytidjnnooeepklaa", sum := "78defb62a6e1bc875fca49c7f56277451f9afb50312d19eeb19d2b46911f2566", func := "loop.example/g00947/laws.FnExactAddKey", spec := "fnExactAddKey", apart := false }
def FnExactAddKeySaid : Prop := fnExactAddKeyRow.holds Try.pinned (OpenSpec.ofChange fnExactAddKeySpec)

/-- ITS FALSE NEIGHBOUR: 'it returns false'. Refute it at one input. -/
def fnExactAddKeyWrong : ChangeSpec := { name := "fnExactAddKey", fn := fun _ => fun
  | [d1, d2] => { results := [.lit (.bool false)], args := [d1, d2] }
  | _ => none }
def FnExactAddKeyWrongFalsely : Prop := fnExactAddKeyRow.holds Try.pinned (OpenSpec.ofChange fnExactAddKeyWrong)

/-- 'laws.FnRights': WHATEVER THE INPUT: true; the input reads as it did. -/
def fnRightsSpec : ChangeSpec := { name := "fnRights", fn := fun _ => fun
  | [d] => { results := [.lit (.bool true)], args := [d] }
  | _ => none }
def fnRightsRow : OpenClaim := { program := "ytidjnnooeepklaa", sum := "78defb62a6e1bc875fca49c7f56277451f9afb50312d19eeb19d2b46911f2566", func := "loop.example/g00947/laws.FnRights", spec := "fnRights", unfollowed := true, recurses := true, apart := false }
def FnRightsSaid : Prop := fnRightsRow.holds Try.pinned (OpenSpec.ofChange fnRightsSpec)

/-- ITS FALSE NEIGHBOUR: 'it returns false'. Refute it at one input. -/
def fnRightsWrong : ChangeSpec := { name := "fnRights", fn := fun _ => fun
  | [d] => { results := [.lit (.bool false)], args := [d] }
  | _ => none }
def FnRightsWrongFalsely : Prop := fnRightsRow.holds Try.pinned (OpenSpec.ofChange fnRightsWrong)

/-- 'laws.FnPlans': WHATEVER THE INPUT: true; the input reads as it did. -/
def fnPlansSpec : ChangeSpec := { name := "fnPlans", fn := fun _ => fun
  | [d] => { results := [.lit (.bool true)], args := [d] }
  | _ => none }
def fnPlansRow : OpenClaim := { program := "ytidjnnooeepklaa", sum := "78defb62a6e1bc875fca49c7f56277451f9afb50312d19eeb19d2b46911f2566", func := "loop.example/g00947/laws.FnPlans", spec := "fnPlans", unfollowed := true, recurses := true, apart := false }
def FnPlansSaid : Prop := fnPlansRow.holds Try.pinned (OpenSpec.ofChange fnPlansSpec)

/-- ITS FALSE NEIGHBOUR: 'it returns false'. Refute it at one input. -/
def fnPlansWrong : ChangeSpec := { name := "fnPlans", fn := fun _ => fun
  | [d] => { results := [.lit (.bool false)], args := [d] }
  | _ => none }
def FnPlansWrongFalsely : Prop := fnPlansRow.holds Try.pinned (OpenSpec.ofChange fnPlansWrong)

/- THE SECOND FORM. 'bulk': how many values and letters a reading holds, each counted each time it is reached (what is shared counts as often as it is met; a slice's spare places count too). A statement '..UptoSaid' is the law's where the arguments, and the package variables that the reading takes, are together of bulk at most 1048576: NARROWER than '..Said'. Prove '..Said' where nothing that the law and all that it calls make is longer than what came in: it says more and counts as full. Else prove '..UptoSaid'. A law counts once. -/
mutual
def uptoBulk {H : Type} : DataW H → Nat
  | .lit (.string bytes) => bytes.length + 1
  | .lit _ => 1
  | .nil => 1
  | .ptr d => uptoBulk d + 1
  | .slice elems spare => uptoBulkAll elems + uptoBulkAll spare + 1
  | .agg parts => uptoBulkAll parts + 1
  | .iface _ d => uptoBulk d + 1
  | .map entries => uptoBulkEntries entries + 1
  | .held _ => 1
def uptoBulkAll {H : Type} : List (DataW H) → Nat
  | [] => 0
  | d :: r => uptoBulk d + uptoBulkAll r
def uptoBulkEntries {H : Type} : List (Lit × DataW H) → Nat
  | [] => 0
  | x :: r => uptoBulkEntry x + uptoBulkEntries r
def uptoBulkEntry {H : Type} : Lit × DataW H → Nat
  | (.string bytes, d) => bytes.length + uptoBulk d + 1
  | (_, d) => uptoBulk d + 1
 end
def uptoSmall : (H : Type) → List (DataW H) → Bool := fun _ ds => decide (uptoBulkAll ds ≤ 1048576)
def OpenSpec.upto (s : _root_.Go.ChangeSpec) : _root_.Go.OpenSpec := { _root_.Go.OpenSpec.ofChange s with cond := some uptoSmall }

/-- 'laws.FnTables', WHERE WHAT IT READS IS OF BULK AT MOST 1048576: true; the input reads as it did. -/
def fnTablesUptoRow : OpenClaim := { program := "ytidjnnooeepklaa", sum := "78defb62a6e1bc875fca49c7f56277451f9afb50312d19eeb19d2b46911f2566", func := "loop.example/g00947/laws.FnTables", spec := "fnTables", unfollowed := true, recurses := true, apart := false, narrowed := true }
def FnTablesUptoSaid : Prop := fnTablesUptoRow.holds Try.pinned (OpenSpec.upto fnTablesSpec)

/-- 'laws.FnHierarchies', WHERE WHAT IT READS IS OF BULK AT MOST 1048576: true; the input reads as it did. -/
def fnHierarchiesUptoRow : OpenClaim := { program := "ytidjnnooeepklaa", sum := "78defb62a6e1bc875fca49c7f56277451f9afb50312d19eeb19d2b46911f2566", func := "loop.example/g00947/laws.FnHierarchies", spec := "fnHierarchies", unfollowed := true, recurses := true, apart := false, narrowed := true }
def FnHierarchiesUptoSaid : Prop := fnHierarchiesUptoRow.holds Try.pinned (OpenSpec.upto fnHierarchiesSpec)

/-- 'laws.FnExactIsTable', WHERE WHAT IT READS IS OF BULK AT MOST 1048576: true; the input reads as it did. -/
def fnExactIsTableUptoRow : OpenClaim := { program := "ytidjnnooeepklaa", sum := "78defb62a6e1bc875fca49c7f56277451f9afb50312d19eeb19d2b46911f2566", func := "loop.example/g00947/laws.FnExactIsTable", spec := "fnExactIsTable", apart := false, narrowed := true }
def FnExactIsTableUptoSaid : Prop := fnExactIsTableUptoRow.holds Try.pinned (OpenSpec.upto fnExactIsTableSpec)

/-- 'laws.FnExactIsHierarchical', WHERE WHAT IT READS IS OF BULK AT MOST 1048576: true; the input reads as it did. -/
def fnExactIsHierarchicalUptoRow : OpenClaim := { program := "ytidjnnooeepklaa", sum := "78defb62a6e1bc875fca49c7f56277451f9afb50312d19eeb19d2b46911f2566", func := "loop.example/g00947/laws.FnExactIsHierarchical", spec := "fnExactIsHierarchical", apart := false, narrowed := true }
def FnExactIsHierarchicalUptoSaid : Prop := fnExactIsHierarchicalUptoRow.holds Try.pinned (OpenSpec.upto fnExactIsHierarchicalSpec)

/-- 'laws.FnExactContainedIn', WHERE WHAT IT READS IS OF BULK AT MOST 1048576: true; the input reads as it did. -/
def fnExactContainedInUptoRow : OpenClaim := { program := "ytidjnnooeepklaa", sum := "78defb62a6e1bc875fca49c7f56277451f9afb50312d19eeb19d2b46911f2566", func := "loop.example/g00947/laws.FnExactContainedIn", spec := "fnExactContainedIn", unfollowed := true, recurses := true, apart := false, narrowed := true }
def FnExactContainedInUptoSaid : Prop := fnExactContainedInUptoRow.holds Try.pinned (OpenSpec.upto fnExactContainedInSpec)

/-- 'laws.FnExactEqualRows', WHERE WHAT IT READS IS OF BULK AT MOST 1048576: true; the input reads as it did. -/
def fnExactEqualRowsUptoRow : OpenClaim := { program := "ytidjnnooeepklaa", sum := "78defb62a6e1bc875fca49c7f56277451f9afb50312d19eeb19d2b46911f2566", func := "loop.example/g00947/laws.FnExactEqualRows", spec := "fnExactEqualRows", apart := false, narrowed := true }
def FnExactEqualRowsUptoSaid : Prop := fnExactEqualRowsUptoRow.holds Try.pinned (OpenSpec.upto fnExactEqualRowsSpec)

/-- 'laws.FnExactMasterKeys', WHERE WHAT IT READS IS OF BULK AT MOST 1048576: true; the input reads as it did. -/
def fnExactMasterKeysUptoRow : OpenClaim := { program := "ytidjnnooeepklaa", sum := "78defb62a6e1bc875fca49c7f56277451f9afb50312d19eeb19d2b46911f2566", func := "loop.example/g00947/laws.FnExactMasterKeys", spec := "fnExactMasterKeys", unfollowed := true, recurses := true, apart := false, narrowed := true }
def FnExactMasterKeysUptoSaid : Prop := fnExactMasterKeysUptoRow.holds Try.pinned (OpenSpec.upto fnExactMasterKeysSpec)

/-- 'laws.FnExactLeastKeysFor', WHERE WHAT IT READS IS OF BULK AT MOST 1048576: true; the input reads as it did. -/
def fnExactLeastKeysForUptoRow : OpenClaim := { program := "ytidjnnooeepklaa", sum := "78defb62a6e1bc875fca49c7f56277451f9afb50312d19eeb19d2b46911f2566", func := "loop.example/g00947/laws.FnExactLeastKeysFor", spec := "fnExactLeastKeysFor", unfollowed := true, recurses := true, apart := false, narrowed := true }
def FnExactLeastKeysForUptoSaid : Prop := fnExactLeastKeysForUptoRow.holds Try.pinned (OpenSpec.upto fnExactLeastKeysForSpec)

/-- 'laws.FnExactTurnTable', WHERE WHAT IT READS IS OF BULK AT MOST 1048576: true; the input reads as it did. -/
def fnExactTurnTableUptoRow : OpenClaim := { program := "ytidjnnooeepklaa", sum := "78defb62a6e1bc875fca49c7f56277451f9afb50312d19eeb19d2b46911f2566", func := "loop.example/g00947/laws.FnExactTurnTable", spec := "fnExactTurnTable", apart := false, narrowed := true }
def FnExactTurnTableUptoSaid : Prop := fnExactTurnTableUptoRow.holds Try.pinned (OpenSpec.upto fnExactTurnTableSpec)

/-- 'laws.FnExactCountDoors', WHERE WHAT IT READS IS OF BULK AT MOST 1048576: true; the input reads as it did. -/
def fnExactCountDoorsUptoRow : OpenClaim := { program := "ytidjnnooeepklaa", sum := "78defb62a6e1bc875fca49c7f56277451f9afb50312d19eeb19d2b46911f2566", func := "loop.example/g00947/laws.FnExactCountDoors", spec := "fnExactCountDoors", apart := false, narrowed := true }
def FnExactCountDoorsUptoSaid : Prop := fnExactCountDoorsUptoRow.holds Try.pinned (OpenSpec.upto fnExactCountDoorsSpec)

/-- 'laws.FnExactDoorsInCommon', WHERE WHAT IT READS IS OF BULK AT MOST 1048576: true; the input reads as it did. -/
def fnExactDoorsInCommonUptoRow : OpenClaim := { program := "ytidjnnooeepklaa", sum := "78defb62a6e1bc875fca49c7f56277451f9afb50312d19eeb19d2b46911f2566", func := "loop.example/g00947/laws.FnExactDoorsInCommon", spec := "fnExactDoorsInCommon", apart := false, narrowed := true }
def FnExactDoorsInCommonUptoSaid : Prop := fnExactDoorsInCommonUptoRow.holds Try.pinned (OpenSpec.upto fnExactDoorsInCommonSpec)

/-- 'laws.FnExactAddKey', WHERE WHAT IT READS IS OF BULK AT MOST 1048576: true; the input reads as it did. -/
def fnExactAddKeyUptoRow : OpenClaim := { program := "ytidjnnooeepklaa", sum := "78defb62a6e1bc875fca49c7f56277451f9afb50312d19eeb19d2b46911f2566", func := "loop.example/g00947/laws.FnExactAddKey", spec := "fnExactAddKey", apart := false, narrowed := true }
def FnExactAddKeyUptoSaid : Prop := fnExactAddKeyUptoRow.holds Try.pinned (OpenSpec.upto fnExactAddKeySpec)

/-- 'laws.FnRights', WHERE WHAT IT READS IS OF BULK AT MOST 1048576: true; the input reads as it did. -/
def fnRightsUptoRow : OpenClaim := { program := "ytidjnnooeepklaa", sum := "78defb62a6e1bc875fca49c7f56277451f9afb50312d19eeb19d2b46911f2566", func := "loop.example/g00947/laws.FnRights", spec := "fnRights", unfollowed := true, recurses := true, apart := false, narrowed := true }
def FnRightsUptoSaid : Prop := fnRightsUptoRow.holds Try.pinned (OpenSpec.upto fnRightsSpec)

/-- 'laws.FnPlans', WHERE WHAT IT READS IS OF BULK AT MOST 1048576: true; the input reads as it did. -/
def fnPlansUptoRow : OpenClaim := { program := "ytidjnnooeepklaa", sum := "78defb62a6e1bc875fca49c7f56277451f9afb50312d19eeb19d2b46911f2566", func := "loop.example/g00947/laws.FnPlans", spec := "fnPlans", unfollowed := true, recurses := true, apart := false, narrowed := true }
def FnPlansUptoSaid : Prop := fnPlansUptoRow.holds Try.pinned (OpenSpec.upto fnPlansSpec)

end Rows
end Go.Proofs.Ytidjnnooeepklaa
