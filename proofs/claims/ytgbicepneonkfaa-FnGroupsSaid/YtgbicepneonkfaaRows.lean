/-
  No cell of these rows narrows 'for every input' (looked for: loops, veiled, ifaces, maps, wideKeys, modest, calm, conditions, laid).
  DERIVED. THE GIVEN ROWS OF THIS SEAT. 11 by the template 'for every input the law returns true; each argument reads behind the call as it read before'; 0 by the template 'total and deterministic' (their statements: YtgbicepneonkfaaTotals.lean).
  GIVEN WITH THE SEED: the statements are not yours to turn. If you find one false, say at which input.
  Laid BY PROGRAM, IN A SANDBOX (cutbox-rows.mjs): the forced cells as the released guide's own fill.sh prints them over the translation a2f50340f2cb641d… (all of the seat's roots in one cut). By AI agents, Wed Nov 11 2026. No macro, syntax, notation, axiom, sorry.
-/
import Derived.Test.YtgbicepneonkfaaChecked
import GoSem.Claim
import GoSem.ClaimJoined
import GoSem.ClaimMapViews
import Derived.JoinedTies
import Derived.KernelRfl
namespace Go.Proofs.Ytgbicepneonkfaa
/- THE CELL 'sum', in the pinned program and in every row, IS THE sha256 OF THE DUMP (.gsa) THAT YtgbicepneonkfaaProg.lean LOADS. Nothing in Lean hashes anything: it is a label: what it is worth is what the hold of that sum in a sandbox is worth. -/
noncomputable def Try.pinned : Pinned := { name := "ytgbicepneonkfaa", sum := "a2f50340f2cb641d0ec7547cf4c2b2126d6e56054e454fd685500ec743188866", checked := Try.checked }
namespace Rows
def none {H : Type} : Left H := { results := [], args := [] }

/-- 'laws.FnHulls': WHATEVER THE INPUT: true; the input reads as it did. -/
def fnHullsSpec : ChangeSpec := { name := "fnHulls", fn := fun _ => fun
  | [d] => { results := [.lit (.bool true)], args := [d] }
  | _ => none }
def fnHullsRow : OpenClaim := { program := "ytgbicepneonkfaa", sum := "a2f50340f2cb641d0ec7547cf4c2b2126d6e56054e454fd685500ec743188866", func := "loop.example/g00947/laws.FnHulls", spec := "fnHulls", unfollowed := true, recurses := true, apart := false }
def FnHullsSaid : Prop := fnHullsRow.holds Try.pinned (OpenSpec.ofChange fnHullsSpec)

/-- ITS FALSE NEIGHBOUR: 'it returns false'. Refute it at one input. -/
def fnHullsWrong : ChangeSpec := { name := "fnHulls", fn := fun _ => fun
  | [d] => { results := [.lit (.bool false)], args := [d] }
  | _ => none }
def FnHullsWrongFalsely : Prop := fnHullsRow.holds Try.pinned (OpenSpec.ofChange fnHullsWrong)

/-- 'laws.FnThick': WHATEVER THE INPUT: true; the input reads as it did. -/
def fnThickSpec : ChangeSpec := { name := "fnThick", fn := fun _ => fun
  | [d] => { results := [.lit (.bool true)], args := [d] }
  | _ => none }
def fnThickRow : OpenClaim := { program := "ytgbicepneonkfaa", sum := "a2f50340f2cb641d0ec7547cf4c2b2126d6e56054e454fd685500ec743188866", func := "loop.example/g00947/laws.FnThick", spec := "fnThick", recurses := true, apart := false }
def FnThickSaid : Prop := fnThickRow.holds Try.pinned (OpenSpec.ofChange fnThickSpec)

/-- ITS FALSE NEIGHBOUR: 'it returns false'. Refute it at one input. -/
def fnThickWrong : ChangeSpec := { name := "fnThick", fn := fun _ => fun
  | [d] => { results := [.lit (.bool false)], args := [d] }
  | _ => none }
def FnThickWrongFalsely : Prop := fnThickRow.holds Try.pinned (OpenSpec.ofChange fnThickWrong)

/-- 'laws.FnAncestors': WHATEVER THE INPUT: true; the input reads as it did. -/
def fnAncestorsSpec : ChangeSpec := { name := "fnAncestors", fn := fun _ => fun
  | [d] => { results := [.lit (.bool true)], args := [d] }
  | _ => none }
def fnAncestorsRow : OpenClaim := { program := "ytgbicepneonkfaa", sum := "a2f50340f2cb641d0ec7547cf4c2b2126d6e56054e454fd685500ec743188866", func := "loop.example/g00947/laws.FnAncestors", spec := "fnAncestors", unfollowed := true, recurses := true, apart := false }
def FnAncestorsSaid : Prop := fnAncestorsRow.holds Try.pinned (OpenSpec.ofChange fnAncestorsSpec)

/-- ITS FALSE NEIGHBOUR: 'it returns false'. Refute it at one input. -/
def fnAncestorsWrong : ChangeSpec := { name := "fnAncestors", fn := fun _ => fun
  | [d] => { results := [.lit (.bool false)], args := [d] }
  | _ => none }
def FnAncestorsWrongFalsely : Prop := fnAncestorsRow.holds Try.pinned (OpenSpec.ofChange fnAncestorsWrong)

/-- 'laws.FnGroups': WHATEVER THE INPUT: true; the input reads as it did. -/
def fnGroupsSpec : ChangeSpec := { name := "fnGroups", fn := fun _ => fun
  | [d] => { results := [.lit (.bool true)], args := [d] }
  | _ => none }
def fnGroupsRow : OpenClaim := { program := "ytgbicepneonkfaa", sum := "a2f50340f2cb641d0ec7547cf4c2b2126d6e56054e454fd685500ec743188866", func := "loop.example/g00947/laws.FnGroups", spec := "fnGroups", unfollowed := true, recurses := true, apart := false }
def FnGroupsSaid : Prop := fnGroupsRow.holds Try.pinned (OpenSpec.ofChange fnGroupsSpec)

/-- ITS FALSE NEIGHBOUR: 'it returns false'. Refute it at one input. -/
def fnGroupsWrong : ChangeSpec := { name := "fnGroups", fn := fun _ => fun
  | [d] => { results := [.lit (.bool false)], args := [d] }
  | _ => none }
def FnGroupsWrongFalsely : Prop := fnGroupsRow.holds Try.pinned (OpenSpec.ofChange fnGroupsWrong)

/-- 'laws.FnExactStockOf': WHATEVER THE INPUT: true; the input reads as it did. -/
def fnExactStockOfSpec : ChangeSpec := { name := "fnExactStockOf", fn := fun _ => fun
  | [d1, d2] => { results := [.lit (.bool true)], args := [d1, d2] }
  | _ => none }
def fnExactStockOfRow : OpenClaim := { program := "ytgbicepneonkfaa", sum := "a2f50340f2cb641d0ec7547cf4c2b2126d6e56054e454fd685500ec743188866", func := "loop.example/g00947/laws.FnExactStockOf", spec := "fnExactStockOf", apart := false }
def FnExactStockOfSaid : Prop := fnExactStockOfRow.holds Try.pinned (OpenSpec.ofChange fnExactStockOfSpec)

/-- ITS FALSE NEIGHBOUR: 'it returns false'. Refute it at one input. -/
def fnExactStockOfWrong : ChangeSpec := { name := "fnExactStockOf", fn := fun _ => fun
  | [d1, d2] => { results := [.lit (.bool false)], args := [d1, d2] }
  | _ => none }
def FnExactStockOfWrongFalsely : Prop := fnExactStockOfRow.holds Try.pinned (OpenSpec.ofChange fnExactStockOfWrong)

/-- 'laws.FnExactIsBuilding': WHATEVER THE INPUT: true; the input reads as it did. -/
def fnExactIsBuildingSpec : ChangeSpec := { name := "fnExactIsBuilding", fn := fun _ => fun
  | [d] => { results := [.lit (.bool true)], args := [d] }
  | _ => none }
def fnExactIsBuildingRow : OpenClaim := { program := "ytgbicepneonkfaa", sum := "a2f50340f2cb641d0ec7547cf4c2b2126d6e56054e454fd685500ec743188866", func := "loop.example/g00947/laws.FnExactIsBuilding", spec := "fnExactIsBuilding", apart := false }
def FnExactIsBuildingSaid : Prop := fnExactIsBuildingRow.holds Try.pinned (OpenSpec.ofChange fnExactIsBuildingSpec)

/-- ITS FALSE NEIGHBOUR: 'it returns false'. Refute it at one input. -/
def fnExactIsBuildingWrong : ChangeSpec := { name := "fnExactIsBuilding", fn := fun _ => fun
  | [d] => { results := [.lit (.bool false)], args := [d] }
  | _ => none }
def FnExactIsBuildingWrongFalsely : Prop := fnExactIsBuildingRow.holds Try.pinned (OpenSpec.ofChange fnExactIsBuildingWrong)

/-- 'laws.FnExactDoorsOf': WHATEVER THE INPUT: true; the input reads as it did. -/
def fnExactDoorsOfSpec : ChangeSpec := { name := "fnExactDoorsOf", fn := fun _ => fun
  | [d] => { results := [.lit (.bool true)], args := [d] }
  | _ => none }
def fnExactDoorsOfRow : OpenClaim := { program := "ytgbicepneonkfaa", sum := "a2f50340f2cb641d0ec7547cf4c2b2126d6e56054e454fd685500ec743188866", func := "loop.example/g00947/laws.FnExactDoorsOf", spec := "fnExactDoorsOf", unfollowed := true, recurses := true, apart := false }
def FnExactDoorsOfSaid : Prop := fnExactDoorsOfRow.holds Try.pinned (OpenSpec.ofChange fnExactDoorsOfSpec)

/-- ITS FALSE NEIGHBOUR: 'it returns false'. Refute it at one input. -/
def fnExactDoorsOfWrong : ChangeSpec := { name := "fnExactDoorsOf", fn := fun _ => fun
  | [d] => { results := [.lit (.bool false)], args := [d] }
  | _ => none }
def FnExactDoorsOfWrongFalsely : Prop := fnExactDoorsOfRow.holds Try.pinned (OpenSpec.ofChange fnExactDoorsOfWrong)

/-- 'laws.FnExactDoorsUnder': WHATEVER THE INPUT: true; the input reads as it did. -/
def fnExactDoorsUnderSpec : ChangeSpec := { name := "fnExactDoorsUnder", fn := fun _ => fun
  | [d1, d2] => { results := [.lit (.bool true)], args := [d1, d2] }
  | _ => none }
def fnExactDoorsUnderRow : OpenClaim := { program := "ytgbicepneonkfaa", sum := "a2f50340f2cb641d0ec7547cf4c2b2126d6e56054e454fd685500ec743188866", func := "loop.example/g00947/laws.FnExactDoorsUnder", spec := "fnExactDoorsUnder", unfollowed := true, recurses := true, apart := false }
def FnExactDoorsUnderSaid : Prop := fnExactDoorsUnderRow.holds Try.pinned (OpenSpec.ofChange fnExactDoorsUnderSpec)

/-- ITS FALSE NEIGHBOUR: 'it returns false'. Refute it at one input. -/
def fnExactDoorsUnderWrong : ChangeSpec := { name := "fnExactDoorsUnder", fn := fun _ => fun
  | [d1, d2] => { results := [.lit (.bool false)], args := [d1, d2] }
  | _ => none }
def FnExactDoorsUnderWrongFalsely : Prop := fnExactDoorsUnderRow.holds Try.pinned (OpenSpec.ofChange fnExactDoorsUnderWrong)

/-- 'laws.FnExactAncestorsOf': WHATEVER THE INPUT: true; the input reads as it did. -/
def fnExactAncestorsOfSpec : ChangeSpec := { name := "fnExactAncestorsOf", fn := fun _ => fun
  | [d1, d2] => { results := [.lit (.bool true)], args := [d1, d2] }
  | _ => none }
def fnExactAncestorsOfRow : OpenClaim := { program := "ytgbicepneonkfaa", sum := "a2f50340f2cb641d0ec7547cf4c2b2126d6e56054e454fd685500ec743188866", func := "loop.example/g00947/laws.FnExactAncestorsOf", spec := "fnExactAncestorsOf", apart := false }
def FnExactAncestorsOfSaid : Prop := fnExactAncestorsOfRow.holds Try.pinned (OpenSpec.ofChange fnExactAncestorsOfSpec)

/-- ITS FALSE NEIGHBOUR: 'it returns false'. Refute it at one input. -/
def fnExactAncestorsOfWrong : ChangeSpec := { name := "fnExactAncestorsOf", fn := fun _ => fun
  | [d1, d2] => { results := [.lit (.bool false)], args := [d1, d2] }
  | _ => none }
def FnExactAncestorsOfWrongFalsely : Prop := fnExactAncestorsOfRow.holds Try.pinned (OpenSpec.ofChange fnExactAncestorsOfWrong)

/-- 'laws.FnExactHeightOf': WHATEVER THE INPUT: true; the input reads as it did. -/
def fnExactHeightOfSpec : ChangeSpec := { name := "fnExactHeightOf", fn := fun _ => fun
  | [d] => { results := [.lit (.bool true)], args := [d] }
  | _ => none }
def fnExactHeightOfRow : OpenClaim := { program := "ytgbicepneonkfaa", sum := "a2f50340f2cb641d0ec7547cf4c2b2126d6e56054e454fd685500ec743188866", func := "loop.example/g00947/laws.FnExactHeightOf", spec := "fnExactHeightOf", unfollowed := true, recurses := true, apart := false }
def FnExactHeightOfSaid : Prop := fnExactHeightOfRow.holds Try.pinned (OpenSpec.ofChange fnExactHeightOfSpec)

/-- ITS FALSE NEIGHBOUR: 'it returns false'. Refute it at one input. -/
def fnExactHeightOfWrong : ChangeSpec := { name := "fnExactHeightOf", fn := fun _ => fun
  | [d] => { results := [.lit (.bool false)], args := [d] }
  | _ => none }
def FnExactHeightOfWrongFalsely : Prop := fnExactHeightOfRow.holds Try.pinned (OpenSpec.ofChange fnExactHeightOfWrong)

/-- 'laws.FnExactCommonGroup': WHATEVER THE INPUT: true; the input reads as it did. -/
def fnExactCommonGroupSpec : ChangeSpec := { name := "fnExactCommonGroup", fn := fun _ => fun
  | [d1, d2] => { results := [.lit (.bool true)], args := [d1, d2] }
  | _ => none }
def fnExactCommonGroupRow : OpenClaim := { program := "ytgbicepneonkfaa", sum := "a2f50340f2cb641d0ec7547cf4c2b2126d6e56054e454fd685500ec743188866", func := "loop.example/g00947/laws.FnExactCommonGroup", spec := "fnExactCommonGroup", unfollowed := true, recurses := true, apart := false }
def FnExactCommonGroupSaid : Prop := fnExactCommonGroupRow.holds Try.pinned (OpenSpec.ofChange fnExactCommonGroupSpec)

/-- ITS FALSE NEIGHBOUR: 'it returns false'. Refute it at one input. -/
def fnExactCommonGroupWrong : ChangeSpec := { name := "fnExactCommonGroup", fn := fun _ => fun
  | [d1, d2] => { results := [.lit (.bool false)], args := [d1, d2] }
  | _ => none }
def FnExactCommonGroupWrongFalsely : Prop := fnExactCommonGroupRow.holds Try.pinned (OpenSpec.ofChange fnExactCommonGroupWrong)

/- THE SECOND FORM. 'bulk': how many values and letters a reading holds, each counted each time it is reached (what is shared counts as often as it is met; a slice's spare places count too). A statement '..UptoSaid' is the law's where the arguments, and the package variables that the reading takes, are together of bulk at most 1048576: NARROWER than '..Said'. Prove '..Said' where nothing that the law and all that it calls make is longer than what came in: it says more and counts as full. Else prove '..UptoSaid'. A law counts once. -/
mutual
def uptoBulk {H : Type} : DataW H → Nat
  | .lit (.string bytes) => bytes.length + 1
  | .lit _ => 1
  | .nil => 1
  | .ptr d => uptoBulk d + 1
  | .slice elems spare => uptoBulkAll elems + uptoBulkAll spare + 1
  | .agg parts => uptoBulkAll parts + 1
  | .iface _ d => uptoBulk d + 1
  | .map entries => uptoBulkEntries entries + 1
  | .held _ => 1
def uptoBulkAll {H : Type} : List (DataW H) → Nat
  | [] => 0
  | d :: r => uptoBulk d + uptoBulkAll r
def uptoBulkEntries {H : Type} : List (Lit × DataW H) → Nat
  | [] => 0
  | x :: r => uptoBulkEntry x + uptoBulkEntries r
def uptoBulkEntry {H : Type} : Lit × DataW H → Nat
  | (.string bytes, d) => bytes.length + uptoBulk d + 1
  | (_, d) => uptoBulk d + 1
 end
def uptoSmall : (H : Type) → List (DataW H) → Bool := fun _ ds => decide (uptoBulkAll ds ≤ 1048576)
def OpenSpec.upto (s : _root_.Go.ChangeSpec) : _root_.Go.OpenSpec := { _root_.Go.OpenSpec.ofChange s with cond := some uptoSmall }

/-- 'laws.FnHulls', WHERE WHAT IT READS IS OF BULK AT MOST 1048576: true; the input reads as it did. -/
def fnHullsUptoRow : OpenClaim := { program := "ytgbicepneonkfaa", sum := "a2f50340f2cb641d0ec7547cf4c2b2126d6e56054e454fd685500ec743188866", func := "loop.example/g00947/laws.FnHulls", spec := "fnHulls", unfollowed := true, recurses := true, apart := false, narrowed := true }
def FnHullsUptoSaid : Prop := fnHullsUptoRow.holds Try.pinned (OpenSpec.upto fnHullsSpec)

/-- 'laws.FnThick', WHERE WHAT IT READS IS OF BULK AT MOST 1048576: true; the input reads as it did. -/
def fnThickUptoRow : OpenClaim := { program := "ytgbicepneonkfaa", sum := "a2f50340f2cb641d0ec7547cf4c2b2126d6e56054e454fd685500ec743188866", func := "loop.example/g00947/laws.FnThick", spec := "fnThick", recurses := true, apart := false, narrowed := true }
def FnThickUptoSaid : Prop := fnThickUptoRow.holds Try.pinned (OpenSpec.upto fnThickSpec)

/-- 'laws.FnAncestors', WHERE WHAT IT READS IS OF BULK AT MOST 1048576: true; the input reads as it did. -/
def fnAncestorsUptoRow : OpenClaim := { program := "ytgbicepneonkfaa", sum := "a2f50340f2cb641d0ec7547cf4c2b2126d6e56054e454fd685500ec743188866", func := "loop.example/g00947/laws.FnAncestors", spec := "fnAncestors", unfollowed := true, recurses := true, apart := false, narrowed := true }
def FnAncestorsUptoSaid : Prop := fnAncestorsUptoRow.holds Try.pinned (OpenSpec.upto fnAncestorsSpec)

/-- 'laws.FnGroups', WHERE WHAT IT READS IS OF BULK AT MOST 1048576: true; the input reads as it did. -/
def fnGroupsUptoRow : OpenClaim := { program := "ytgbicepneonkfaa", sum := "a2f50340f2cb641d0ec7547cf4c2b2126d6e56054e454fd685500ec743188866", func := "loop.example/g00947/laws.FnGroups", spec := "fnGroups", unfollowed := true, recurses := true, apart := false, narrowed := true }
def FnGroupsUptoSaid : Prop := fnGroupsUptoRow.holds Try.pinned (OpenSpec.upto fnGroupsSpec)

/-- 'laws.FnExactStockOf', WHERE WHAT IT READS IS OF BULK AT MOST 1048576: true; the input reads as it did. -/
def fnExactStockOfUptoRow : OpenClaim := { program := "ytgbicepneonkfaa", sum := "a2f50340f2cb641d0ec7547cf4c2b2126d6e56054e454fd685500ec743188866", func := "loop.example/g00947/laws.FnExactStockOf", spec := "fnExactStockOf", apart := false, narrowed := true }
def FnExactStockOfUptoSaid : Prop := fnExactStockOfUptoRow.holds Try.pinned (OpenSpec.upto fnExactStockOfSpec)

/-- 'laws.FnExactIsBuilding', WHERE WHAT IT READS IS OF BULK AT MOST 1048576: true; the input reads as it did. -/
def fnExactIsBuildingUptoRow : OpenClaim := { program := "ytgbicepneonkfaa", sum := "a2f50340f2cb641d0ec7547cf4c2b2126d6e56054e454fd685500ec743188866", func := "loop.example/g00947/laws.FnExactIsBuilding", spec := "fnExactIsBuilding", apart := false, narrowed := true }
def FnExactIsBuildingUptoSaid : Prop := fnExactIsBuildingUptoRow.holds Try.pinned (OpenSpec.upto fnExactIsBuildingSpec)

/-- 'laws.FnExactDoorsOf', WHERE WHAT IT READS IS OF BULK AT MOST 1048576: true; the input reads as it did. -/
def fnExactDoorsOfUptoRow : OpenClaim := { program := "ytgbicepneonkfaa", sum := "a2f50340f2cb641d0ec7547cf4c2b2126d6e56054e454fd685500ec743188866", func := "loop.example/g00947/laws.FnExactDoorsOf", spec := "fnExactDoorsOf", unfollowed := true, recurses := true, apart := false, narrowed := true }
def FnExactDoorsOfUptoSaid : Prop := fnExactDoorsOfUptoRow.holds Try.pinned (OpenSpec.upto fnExactDoorsOfSpec)

/-- 'laws.FnExactDoorsUnder', WHERE WHAT IT READS IS OF BULK AT MOST 1048576: true; the input reads as it did. -/
def fnExactDoorsUnderUptoRow : OpenClaim := { program := "ytgbicepneonkfaa", sum := "a2f50340f2cb641d0ec7547cf4c2b2126d6e56054e454fd685500ec743188866", func := "loop.example/g00947/laws.FnExactDoorsUnder", spec := "fnExactDoorsUnder", unfollowed := true, recurses := true, apart := false, narrowed := true }
def FnExactDoorsUnderUptoSaid : Prop := fnExactDoorsUnderUptoRow.holds Try.pinned (OpenSpec.upto fnExactDoorsUnderSpec)

/-- 'laws.FnExactAncestorsOf', WHERE WHAT IT READS IS OF BULK AT MOST 1048576: true; the input reads as it did. -/
def fnExactAncestorsOfUptoRow : OpenClaim := { program := "ytgbicepneonkfaa", sum := "a2f50340f2cb641d0ec7547cf4c2b2126d6e56054e454fd685500ec743188866", func := "loop.example/g00947/laws.FnExactAncestorsOf", spec := "fnExactAncestorsOf", apart := false, narrowed := true }
def FnExactAncestorsOfUptoSaid : Prop := fnExactAncestorsOfUptoRow.holds Try.pinned (OpenSpec.upto fnExactAncestorsOfSpec)

/-- 'laws.FnExactHeightOf', WHERE WHAT IT READS IS OF BULK AT MOST 1048576: true; the input reads as it did. -/
def fnExactHeightOfUptoRow : OpenClaim := { program := "ytgbicepneonkfaa", sum := "a2f50340f2cb641d0ec7547cf4c2b2126d6e56054e454fd685500ec743188866", func := "loop.example/g00947/laws.FnExactHeightOf", spec := "fnExactHeightOf", unfollowed := true, recurses := true, apart := false, narrowed := true }
def FnExactHeightOfUptoSaid : Prop := fnExactHeightOfUptoRow.holds Try.pinned (OpenSpec.upto fnExactHeightOfSpec)

/-- 'laws.FnExactCommonGroup', WHERE WHAT IT READS IS OF BULK AT MOST 1048576: true; the input reads as it did. -/
def fnExactCommonGroupUptoRow : OpenClaim := { program := "ytgbicepneonkfaa", sum := "a2f50340f2cb641d0ec7547cf4c2b2126d6e56054e454fd685500ec743188866", func := "loop.example/g00947/laws.FnExactCommonGroup", spec := "fnExactCommonGroup", unfollowed := true, recurses := true, apart := false, narrowed := true }
def FnExactCommonGroupUptoSaid : Prop := fnExactCommonGroupUptoRow.holds Try.pinned (OpenSpec.upto fnExactCommonGroupSpec)

end Rows
end Go.Proofs.Ytgbicepneonkfaa
