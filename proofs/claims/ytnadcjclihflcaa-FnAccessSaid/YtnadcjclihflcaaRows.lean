/-
  No cell of these rows narrows 'for every input' (looked for: loops, veiled, ifaces, maps, wideKeys, modest, calm, conditions, laid).
  DERIVED. THE GIVEN ROWS OF THIS SEAT. 16 by the template 'for every input the law returns true; each argument reads behind the call as it read before'; 0 by the template 'total and deterministic' (their statements: YtnadcjclihflcaaTotals.lean).
  GIVEN WITH THE SEED: the statements are not yours to turn. If you find one false, say at which input.
  Laid BY PROGRAM, IN A SANDBOX (cutbox-rows.mjs): the forced cells as the released guide's own fill.sh prints them over the translation a4f1a703ebb10663… (all of the seat's roots in one cut). By AI agents, Wed Nov 11 2026. No macro, syntax, notation, axiom, sorry.
-/
import Derived.Test.YtnadcjclihflcaaChecked
import GoSem.Claim
import GoSem.ClaimJoined
import GoSem.ClaimMapViews
import Derived.JoinedTies
import Derived.KernelRfl
namespace Go.Proofs.Ytnadcjclihflcaa
/- THE CELL 'sum', in the pinned program and in every row, IS THE sha256 OF THE DUMP (.gsa) THAT YtnadcjclihflcaaProg.lean LOADS. Nothing in Lean hashes anything: it is a label: what it is worth is what the hold of that sum in a sandbox is worth. -/
noncomputable def Try.pinned : Pinned := { name := "ytnadcjclihflcaa", sum := "a4f1a703ebb10663f75235fe956c5dfbba072bc704a0547eac1eb79002faff12", checked := Try.checked }
namespace Rows
def none {H : Type} : Left H := { results := [], args := [] }

/-- 'laws.FnAccess': WHATEVER THE INPUT: true; the input reads as it did. -/
def fnAccessSpec : ChangeSpec := { name := "fnAccess", fn := fun _ => fun
  | [d] => { results := [.lit (.bool true)], args := [d] }
  | _ => none }
def fnAccessRow : OpenClaim := { program := "ytnadcjclihflcaa", sum := "a4f1a703ebb10663f75235fe956c5dfbba072bc704a0547eac1eb79002faff12", func := "loop.example/g00947/laws.FnAccess", spec := "fnAccess", unfollowed := true, recurses := true, apart := false }
def FnAccessSaid : Prop := fnAccessRow.holds Try.pinned (OpenSpec.ofChange fnAccessSpec)

/-- ITS FALSE NEIGHBOUR: 'it returns false'. Refute it at one input. -/
def fnAccessWrong : ChangeSpec := { name := "fnAccess", fn := fun _ => fun
  | [d] => { results := [.lit (.bool false)], args := [d] }
  | _ => none }
def FnAccessWrongFalsely : Prop := fnAccessRow.holds Try.pinned (OpenSpec.ofChange fnAccessWrong)

/-- 'laws.FnRights': WHATEVER THE INPUT: true; the input reads as it did. -/
def fnRightsSpec : ChangeSpec := { name := "fnRights", fn := fun _ => fun
  | [d] => { results := [.lit (.bool true)], args := [d] }
  | _ => none }
def fnRightsRow : OpenClaim := { program := "ytnadcjclihflcaa", sum := "a4f1a703ebb10663f75235fe956c5dfbba072bc704a0547eac1eb79002faff12", func := "loop.example/g00947/laws.FnRights", spec := "fnRights", unfollowed := true, recurses := true, apart := false }
def FnRightsSaid : Prop := fnRightsRow.holds Try.pinned (OpenSpec.ofChange fnRightsSpec)

/-- ITS FALSE NEIGHBOUR: 'it returns false'. Refute it at one input. -/
def fnRightsWrong : ChangeSpec := { name := "fnRights", fn := fun _ => fun
  | [d] => { results := [.lit (.bool false)], args := [d] }
  | _ => none }
def FnRightsWrongFalsely : Prop := fnRightsRow.holds Try.pinned (OpenSpec.ofChange fnRightsWrong)

/-- 'laws.FnPlans': WHATEVER THE INPUT: true; the input reads as it did. -/
def fnPlansSpec : ChangeSpec := { name := "fnPlans", fn := fun _ => fun
  | [d] => { results := [.lit (.bool true)], args := [d] }
  | _ => none }
def fnPlansRow : OpenClaim := { program := "ytnadcjclihflcaa", sum := "a4f1a703ebb10663f75235fe956c5dfbba072bc704a0547eac1eb79002faff12", func := "loop.example/g00947/laws.FnPlans", spec := "fnPlans", unfollowed := true, recurses := true, apart := false }
def FnPlansSaid : Prop := fnPlansRow.holds Try.pinned (OpenSpec.ofChange fnPlansSpec)

/-- ITS FALSE NEIGHBOUR: 'it returns false'. Refute it at one input. -/
def fnPlansWrong : ChangeSpec := { name := "fnPlans", fn := fun _ => fun
  | [d] => { results := [.lit (.bool false)], args := [d] }
  | _ => none }
def FnPlansWrongFalsely : Prop := fnPlansRow.holds Try.pinned (OpenSpec.ofChange fnPlansWrong)

/-- 'laws.FnExactIsPlan': WHATEVER THE INPUT: true; the input reads as it did. -/
def fnExactIsPlanSpec : ChangeSpec := { name := "fnExactIsPlan", fn := fun _ => fun
  | [d] => { results := [.lit (.bool true)], args := [d] }
  | _ => none }
def fnExactIsPlanRow : OpenClaim := { program := "ytnadcjclihflcaa", sum := "a4f1a703ebb10663f75235fe956c5dfbba072bc704a0547eac1eb79002faff12", func := "loop.example/g00947/laws.FnExactIsPlan", spec := "fnExactIsPlan", apart := false }
def FnExactIsPlanSaid : Prop := fnExactIsPlanRow.holds Try.pinned (OpenSpec.ofChange fnExactIsPlanSpec)

/-- ITS FALSE NEIGHBOUR: 'it returns false'. Refute it at one input. -/
def fnExactIsPlanWrong : ChangeSpec := { name := "fnExactIsPlan", fn := fun _ => fun
  | [d] => { results := [.lit (.bool false)], args := [d] }
  | _ => none }
def FnExactIsPlanWrongFalsely : Prop := fnExactIsPlanRow.holds Try.pinned (OpenSpec.ofChange fnExactIsPlanWrong)

/-- 'laws.FnExactMayEnter': WHATEVER THE INPUT: true; the input reads as it did. -/
def fnExactMayEnterSpec : ChangeSpec := { name := "fnExactMayEnter", fn := fun _ => fun
  | [d1, d2, d3] => { results := [.lit (.bool true)], args := [d1, d2, d3] }
  | _ => none }
def fnExactMayEnterRow : OpenClaim := { program := "ytnadcjclihflcaa", sum := "a4f1a703ebb10663f75235fe956c5dfbba072bc704a0547eac1eb79002faff12", func := "loop.example/g00947/laws.FnExactMayEnter", spec := "fnExactMayEnter", unfollowed := true, recurses := true, apart := false }
def FnExactMayEnterSaid : Prop := fnExactMayEnterRow.holds Try.pinned (OpenSpec.ofChange fnExactMayEnterSpec)

/-- ITS FALSE NEIGHBOUR: 'it returns false'. Refute it at one input. -/
def fnExactMayEnterWrong : ChangeSpec := { name := "fnExactMayEnter", fn := fun _ => fun
  | [d1, d2, d3] => { results := [.lit (.bool false)], args := [d1, d2, d3] }
  | _ => none }
def FnExactMayEnterWrongFalsely : Prop := fnExactMayEnterRow.holds Try.pinned (OpenSpec.ofChange fnExactMayEnterWrong)

/-- 'laws.FnExactAccessOf': WHATEVER THE INPUT: true; the input reads as it did. -/
def fnExactAccessOfSpec : ChangeSpec := { name := "fnExactAccessOf", fn := fun _ => fun
  | [d] => { results := [.lit (.bool true)], args := [d] }
  | _ => none }
def fnExactAccessOfRow : OpenClaim := { program := "ytnadcjclihflcaa", sum := "a4f1a703ebb10663f75235fe956c5dfbba072bc704a0547eac1eb79002faff12", func := "loop.example/g00947/laws.FnExactAccessOf", spec := "fnExactAccessOf", unfollowed := true, recurses := true, apart := false }
def FnExactAccessOfSaid : Prop := fnExactAccessOfRow.holds Try.pinned (OpenSpec.ofChange fnExactAccessOfSpec)

/-- ITS FALSE NEIGHBOUR: 'it returns false'. Refute it at one input. -/
def fnExactAccessOfWrong : ChangeSpec := { name := "fnExactAccessOf", fn := fun _ => fun
  | [d] => { results := [.lit (.bool false)], args := [d] }
  | _ => none }
def FnExactAccessOfWrongFalsely : Prop := fnExactAccessOfRow.holds Try.pinned (OpenSpec.ofChange fnExactAccessOfWrong)

/-- 'laws.FnExactDoorsFor': WHATEVER THE INPUT: true; the input reads as it did. -/
def fnExactDoorsForSpec : ChangeSpec := { name := "fnExactDoorsFor", fn := fun _ => fun
  | [d1, d2] => { results := [.lit (.bool true)], args := [d1, d2] }
  | _ => none }
def fnExactDoorsForRow : OpenClaim := { program := "ytnadcjclihflcaa", sum := "a4f1a703ebb10663f75235fe956c5dfbba072bc704a0547eac1eb79002faff12", func := "loop.example/g00947/laws.FnExactDoorsFor", spec := "fnExactDoorsFor", unfollowed := true, recurses := true, apart := false }
def FnExactDoorsForSaid : Prop := fnExactDoorsForRow.holds Try.pinned (OpenSpec.ofChange fnExactDoorsForSpec)

/-- ITS FALSE NEIGHBOUR: 'it returns false'. Refute it at one input. -/
def fnExactDoorsForWrong : ChangeSpec := { name := "fnExactDoorsFor", fn := fun _ => fun
  | [d1, d2] => { results := [.lit (.bool false)], args := [d1, d2] }
  | _ => none }
def FnExactDoorsForWrongFalsely : Prop := fnExactDoorsForRow.holds Try.pinned (OpenSpec.ofChange fnExactDoorsForWrong)

/-- 'laws.FnExactKeysFor': WHATEVER THE INPUT: true; the input reads as it did. -/
def fnExactKeysForSpec : ChangeSpec := { name := "fnExactKeysFor", fn := fun _ => fun
  | [d1, d2] => { results := [.lit (.bool true)], args := [d1, d2] }
  | _ => none }
def fnExactKeysForRow : OpenClaim := { program := "ytnadcjclihflcaa", sum := "a4f1a703ebb10663f75235fe956c5dfbba072bc704a0547eac1eb79002faff12", func := "loop.example/g00947/laws.FnExactKeysFor", spec := "fnExactKeysFor", unfollowed := true, recurses := true, apart := false }
def FnExactKeysForSaid : Prop := fnExactKeysForRow.holds Try.pinned (OpenSpec.ofChange fnExactKeysForSpec)

/-- ITS FALSE NEIGHBOUR: 'it returns false'. Refute it at one input. -/
def fnExactKeysForWrong : ChangeSpec := { name := "fnExactKeysFor", fn := fun _ => fun
  | [d1, d2] => { results := [.lit (.bool false)], args := [d1, d2] }
  | _ => none }
def FnExactKeysForWrongFalsely : Prop := fnExactKeysForRow.holds Try.pinned (OpenSpec.ofChange fnExactKeysForWrong)

/-- 'laws.FnExactShortRights': WHATEVER THE INPUT: true; the input reads as it did. -/
def fnExactShortRightsSpec : ChangeSpec := { name := "fnExactShortRights", fn := fun _ => fun
  | [d1, d2] => { results := [.lit (.bool true)], args := [d1, d2] }
  | _ => none }
def fnExactShortRightsRow : OpenClaim := { program := "ytnadcjclihflcaa", sum := "a4f1a703ebb10663f75235fe956c5dfbba072bc704a0547eac1eb79002faff12", func := "loop.example/g00947/laws.FnExactShortRights", spec := "fnExactShortRights", unfollowed := true, recurses := true, apart := false }
def FnExactShortRightsSaid : Prop := fnExactShortRightsRow.holds Try.pinned (OpenSpec.ofChange fnExactShortRightsSpec)

/-- ITS FALSE NEIGHBOUR: 'it returns false'. Refute it at one input. -/
def fnExactShortRightsWrong : ChangeSpec := { name := "fnExactShortRights", fn := fun _ => fun
  | [d1, d2] => { results := [.lit (.bool false)], args := [d1, d2] }
  | _ => none }
def FnExactShortRightsWrongFalsely : Prop := fnExactShortRightsRow.holds Try.pinned (OpenSpec.ofChange fnExactShortRightsWrong)

/-- 'laws.FnExactLeastRights': WHATEVER THE INPUT: true; the input reads as it did. -/
def fnExactLeastRightsSpec : ChangeSpec := { name := "fnExactLeastRights", fn := fun _ => fun
  | [d1, d2] => { results := [.lit (.bool true)], args := [d1, d2] }
  | _ => none }
def fnExactLeastRightsRow : OpenClaim := { program := "ytnadcjclihflcaa", sum := "a4f1a703ebb10663f75235fe956c5dfbba072bc704a0547eac1eb79002faff12", func := "loop.example/g00947/laws.FnExactLeastRights", spec := "fnExactLeastRights", unfollowed := true, recurses := true, apart := false }
def FnExactLeastRightsSaid : Prop := fnExactLeastRightsRow.holds Try.pinned (OpenSpec.ofChange fnExactLeastRightsSpec)

/-- ITS FALSE NEIGHBOUR: 'it returns false'. Refute it at one input. -/
def fnExactLeastRightsWrong : ChangeSpec := { name := "fnExactLeastRights", fn := fun _ => fun
  | [d1, d2] => { results := [.lit (.bool false)], args := [d1, d2] }
  | _ => none }
def FnExactLeastRightsWrongFalsely : Prop := fnExactLeastRightsRow.holds Try.pinned (OpenSpec.ofChange fnExactLeastRightsWrong)

/-- 'laws.FnExactAddKey': WHATEVER THE INPUT: true; the input reads as it did. -/
def fnExactAddKeySpec : ChangeSpec := { name := "fnExactAddKey", fn := fun _ => fun
  | [d1, d2] => { results := [.lit (.bool true)], args := [d1, d2] }
  | _ => none }
def fnExactAddKeyRow : OpenClaim := { program := "ytnadcjclihflcaa", sum := "a4f1a703ebb10663f75235fe956c5dfbba072bc704a0547eac1eb79002faff12", func := "loop.example/g00947/laws.FnExactAddKey", spec := "fnExactAddKey", apart := false }
def FnExactAddKeySaid : Prop := fnExactAddKeyRow.holds Try.pinned (OpenSpec.ofChange fnExactAddKeySpec)

/-- ITS FALSE NEIGHBOUR: 'it returns false'. Refute it at one input. -/
def fnExactAddKeyWrong : ChangeSpec := { name := "fnExactAddKey", fn := fun _ => fun
  | [d1, d2] => { results := [.lit (.bool false)], args := [d1, d2] }
  | _ => none }
def FnExactAddKeyWrongFalsely : Prop := fnExactAddKeyRow.holds Try.pinned (OpenSpec.ofChange fnExactAddKeyWrong)

/-- 'laws.FnExactUnusedDoors': WHATEVER THE INPUT: true; the input reads as it did. -/
def fnExactUnusedDoorsSpec : ChangeSpec := { name := "fnExactUnusedDoors", fn := fun _ => fun
  | [d] => { results := [.lit (.bool true)], args := [d] }
  | _ => none }
def fnExactUnusedDoorsRow : OpenClaim := { program := "ytnadcjclihflcaa", sum := "a4f1a703ebb10663f75235fe956c5dfbba072bc704a0547eac1eb79002faff12", func := "loop.example/g00947/laws.FnExactUnusedDoors", spec := "fnExactUnusedDoors", unfollowed := true, recurses := true, apart := false }
def FnExactUnusedDoorsSaid : Prop := fnExactUnusedDoorsRow.holds Try.pinned (OpenSpec.ofChange fnExactUnusedDoorsSpec)

/-- ITS FALSE NEIGHBOUR: 'it returns false'. Refute it at one input. -/
def fnExactUnusedDoorsWrong : ChangeSpec := { name := "fnExactUnusedDoors", fn := fun _ => fun
  | [d] => { results := [.lit (.bool false)], args := [d] }
  | _ => none }
def FnExactUnusedDoorsWrongFalsely : Prop := fnExactUnusedDoorsRow.holds Try.pinned (OpenSpec.ofChange fnExactUnusedDoorsWrong)

/-- 'laws.FnExactDoorsOf': WHATEVER THE INPUT: true; the input reads as it did. -/
def fnExactDoorsOfSpec : ChangeSpec := { name := "fnExactDoorsOf", fn := fun _ => fun
  | [d] => { results := [.lit (.bool true)], args := [d] }
  | _ => none }
def fnExactDoorsOfRow : OpenClaim := { program := "ytnadcjclihflcaa", sum := "a4f1a703ebb10663f75235fe956c5dfbba072bc704a0547eac1eb79002faff12", func := "loop.example/g00947/laws.FnExactDoorsOf", spec := "fnExactDoorsOf", unfollowed := true, recurses := true, apart := false }
def FnExactDoorsOfSaid : Prop := fnExactDoorsOfRow.holds Try.pinned (OpenSpec.ofChange fnExactDoorsOfSpec)

/-- ITS FALSE NEIGHBOUR: 'it returns false'. Refute it at one input. -/
def fnExactDoorsOfWrong : ChangeSpec := { name := "fnExactDoorsOf", fn := fun _ => fun
  | [d] => { results := [.lit (.bool false)], args := [d] }
  | _ => none }
def FnExactDoorsOfWrongFalsely : Prop := fnExactDoorsOfRow.holds Try.pinned (OpenSpec.ofChange fnExactDoorsOfWrong)

/-- 'laws.FnExactDoorsUnder': WHATEVER THE INPUT: true; the input reads as it did. -/
def fnExactDoorsUnderSpec : ChangeSpec := { name := "fnExactDoorsUnder", fn := fun _ => fun
  | [d1, d2] => { results := [.lit (.bool true)], args := [d1, d2] }
  | _ => none }
def fnExactDoorsUnderRow : OpenClaim := { program := "ytnadcjclihflcaa", sum := "a4f1a703ebb10663f75235fe956c5dfbba072bc704a0547eac1eb79002faff12", func := "loop.example/g00947/laws.FnExactDoorsUnder", spec := "fnExactDoorsUnder", unfollowed := true, recurses := true, apart := false }
def FnExactDoorsUnderSaid : Prop := fnExactDoorsUnderRow.holds Try.pinned (OpenSpec.ofChange fnExactDoorsUnderSpec)

/-- ITS FALSE NEIGHBOUR: 'it returns false'. Refute it at one input. -/
def fnExactDoorsUnderWrong : ChangeSpec := { name := "fnExactDoorsUnder", fn := fun _ => fun
  | [d1, d2] => { results := [.lit (.bool false)], args := [d1, d2] }
  | _ => none }
def FnExactDoorsUnderWrongFalsely : Prop := fnExactDoorsUnderRow.holds Try.pinned (OpenSpec.ofChange fnExactDoorsUnderWrong)

/-- 'laws.FnAncestors': WHATEVER THE INPUT: true; the input reads as it did. -/
def fnAncestorsSpec : ChangeSpec := { name := "fnAncestors", fn := fun _ => fun
  | [d] => { results := [.lit (.bool true)], args := [d] }
  | _ => none }
def fnAncestorsRow : OpenClaim := { program := "ytnadcjclihflcaa", sum := "a4f1a703ebb10663f75235fe956c5dfbba072bc704a0547eac1eb79002faff12", func := "loop.example/g00947/laws.FnAncestors", spec := "fnAncestors", unfollowed := true, recurses := true, apart := false }
def FnAncestorsSaid : Prop := fnAncestorsRow.holds Try.pinned (OpenSpec.ofChange fnAncestorsSpec)

/-- ITS FALSE NEIGHBOUR: 'it returns false'. Refute it at one input. -/
def fnAncestorsWrong : ChangeSpec := { name := "fnAncestors", fn := fun _ => fun
  | [d] => { results := [.lit (.bool false)], args := [d] }
  | _ => none }
def FnAncestorsWrongFalsely : Prop := fnAncestorsRow.holds Try.pinned (OpenSpec.ofChange fnAncestorsWrong)

/-- 'laws.FnGroups': WHATEVER THE INPUT: true; the input reads as it did. -/
def fnGroupsSpec : ChangeSpec := { name := "fnGroups", fn := fun _ => fun
  | [d] => { results := [.lit (.bool true)], args := [d] }
  | _ => none }
def fnGroupsRow : OpenClaim := { program := "ytnadcjclihflcaa", sum := "a4f1a703ebb10663f75235fe956c5dfbba072bc704a0547eac1eb79002faff12", func := "loop.example/g00947/laws.FnGroups", spec := "fnGroups", unfollowed := true, recurses := true, apart := false }
def FnGroupsSaid : Prop := fnGroupsRow.holds Try.pinned (OpenSpec.ofChange fnGroupsSpec)

/-- ITS FALSE NEIGHBOUR: 'it returns false'. Refute it at one input. -/
def fnGroupsWrong : ChangeSpec := { name := "fnGroups", fn := fun _ => fun
  | [d] => { results := [.lit (.bool false)], args := [d] }
  | _ => none }
def FnGroupsWrongFalsely : Prop := fnGroupsRow.holds Try.pinned (OpenSpec.ofChange fnGroupsWrong)

/- THE SECOND FORM. 'bulk': how many values and letters a reading holds, each counted each time it is reached (what is shared counts as often as it is met; a slice's spare places count too). A statement '..UptoSaid' is the law's where the arguments, and the package variables that the reading takes, are together of bulk at most 1048576: NARROWER than '..Said'. Prove '..Said' where nothing that the law and all that it calls make is longer than what came in: it says more and counts as full. Else prove '..UptoSaid'. A law counts once. -/
mutual
def uptoBulk {H : Type} : DataW H → Nat
  | .lit (.string bytes) => bytes.length + 1
  | .lit _ => 1
  | .nil => 1
  | .ptr d => uptoBulk d + 1
  | .slice elems spare => uptoBulkAll elems + uptoBulkAll spare + 1
  | .agg parts => uptoBulkAll parts + 1
  | .iface _ d => uptoBulk d + 1
  | .map entries => uptoBulkEntries entries + 1
  | .held _ => 1
def uptoBulkAll {H : Type} : List (DataW H) → Nat
  | [] => 0
  | d :: r => uptoBulk d + uptoBulkAll r
def uptoBulkEntries {H : Type} : List (Lit × DataW H) → Nat
  | [] => 0
  | x :: r => uptoBulkEntry x + uptoBulkEntries r
def uptoBulkEntry {H : Type} : Lit × DataW H → Nat
  | (.string bytes, d) => bytes.length + uptoBulk d + 1
  | (_, d) => uptoBulk d + 1
 end
def uptoSmall : (H : Type) → List (DataW H) → Bool := fun _ ds => decide (uptoBulkAll ds ≤ 1048576)
def OpenSpec.upto (s : _root_.Go.ChangeSpec) : _root_.Go.OpenSpec := { _root_.Go.OpenSpec.ofChange s with cond := some uptoSmall }

/-- 'laws.FnAccess', WHERE WHAT IT READS IS OF BULK AT MOST 1048576: true; the input reads as it did. -/
def fnAccessUptoRow : OpenClaim := { program := "ytnadcjclihflcaa", sum := "a4f1a703ebb10663f75235fe956c5dfbba072bc704a0547eac1eb79002faff12", func := "loop.example/g00947/laws.FnAccess", spec := "fnAccess", unfollowed := true, recurses := true, apart := false, narrowed := true }
def FnAccessUptoSaid : Prop := fnAccessUptoRow.holds Try.pinned (OpenSpec.upto fnAccessSpec)

/-- 'laws.FnRights', WHERE WHAT IT READS IS OF BULK AT MOST 1048576: true; the input reads as it did. -/
def fnRightsUptoRow : OpenClaim := { program := "ytnadcjclihflcaa", sum := "a4f1a703ebb10663f75235fe956c5dfbba072bc704a0547eac1eb79002faff12", func := "loop.example/g00947/laws.FnRights", spec := "fnRights", unfollowed := true, recurses := true, apart := false, narrowed := true }
def FnRightsUptoSaid : Prop := fnRightsUptoRow.holds Try.pinned (OpenSpec.upto fnRightsSpec)

/-- 'laws.FnPlans', WHERE WHAT IT READS IS OF BULK AT MOST 1048576: true; the input reads as it did. -/
def fnPlansUptoRow : OpenClaim := { program := "ytnadcjclihflcaa", sum := "a4f1a703ebb10663f75235fe956c5dfbba072bc704a0547eac1eb79002faff12", func := "loop.example/g00947/laws.FnPlans", spec := "fnPlans", unfollowed := true, recurses := true, apart := false, narrowed := true }
def FnPlansUptoSaid : Prop := fnPlansUptoRow.holds Try.pinned (OpenSpec.upto fnPlansSpec)

/-- 'laws.FnExactIsPlan', WHERE WHAT IT READS IS OF BULK AT MOST 1048576: true; the input reads as it did. -/
def fnExactIsPlanUptoRow : OpenClaim := { program := "ytnadcjclihflcaa", sum := "a4f1a703ebb10663f75235fe956c5dfbba072bc704a0547eac1eb79002faff12", func := "loop.example/g00947/laws.FnExactIsPlan", spec := "fnExactIsPlan", apart := false, narrowed := true }
def FnExactIsPlanUptoSaid : Prop := fnExactIsPlanUptoRow.holds Try.pinned (OpenSpec.upto fnExactIsPlanSpec)

/-- 'laws.FnExactMayEnter', WHERE WHAT IT READS IS OF BULK AT MOST 1048576: true; the input reads as it did. -/
def fnExactMayEnterUptoRow : OpenClaim := { program := "ytnadcjclihflcaa", sum := "a4f1a703ebb10663f75235fe956c5dfbba072bc704a0547eac1eb79002faff12", func := "loop.example/g00947/laws.FnExactMayEnter", spec := "fnExactMayEnter", unfollowed := true, recurses := true, apart := false, narrowed := true }
def FnExactMayEnterUptoSaid : Prop := fnExactMayEnterUptoRow.holds Try.pinned (OpenSpec.upto fnExactMayEnterSpec)

/-- 'laws.FnExactAccessOf', WHERE WHAT IT READS IS OF BULK AT MOST 1048576: true; the input reads as it did. -/
def fnExactAccessOfUptoRow : OpenClaim := { program := "ytnadcjclihflcaa", sum := "a4f1a703ebb10663f75235fe956c5dfbba072bc704a0547eac1eb79002faff12", func := "loop.example/g00947/laws.FnExactAccessOf", spec := "fnExactAccessOf", unfollowed := true, recurses := true, apart := false, narrowed := true }
def FnExactAccessOfUptoSaid : Prop := fnExactAccessOfUptoRow.holds Try.pinned (OpenSpec.upto fnExactAccessOfSpec)

/-- 'laws.FnExactDoorsFor', WHERE WHAT IT READS IS OF BULK AT MOST 1048576: true; the input reads as it did. -/
def fnExactDoorsForUptoRow : OpenClaim := { program := "ytnadcjclihflcaa", sum := "a4f1a703ebb10663f75235fe956c5dfbba072bc704a0547eac1eb79002faff12", func := "loop.example/g00947/laws.FnExactDoorsFor", spec := "fnExactDoorsFor", unfollowed := true, recurses := true, apart := false, narrowed := true }
def FnExactDoorsForUptoSaid : Prop := fnExactDoorsForUptoRow.holds Try.pinned (OpenSpec.upto fnExactDoorsForSpec)

/-- 'laws.FnExactKeysFor', WHERE WHAT IT READS IS OF BULK AT MOST 1048576: true; the input reads as it did. -/
def fnExactKeysForUptoRow : OpenClaim := { program := "ytnadcjclihflcaa", sum := "a4f1a703ebb10663f75235fe956c5dfbba072bc704a0547eac1eb79002faff12", func := "loop.example/g00947/laws.FnExactKeysFor", spec := "fnExactKeysFor", unfollowed := true, recurses := true, apart := false, narrowed := true }
def FnExactKeysForUptoSaid : Prop := fnExactKeysForUptoRow.holds Try.pinned (OpenSpec.upto fnExactKeysForSpec)

/-- 'laws.FnExactShortRights', WHERE WHAT IT READS IS OF BULK AT MOST 1048576: true; the input reads as it did. -/
def fnExactShortRightsUptoRow : OpenClaim := { program := "ytnadcjclihflcaa", sum := "a4f1a703ebb10663f75235fe956c5dfbba072bc704a0547eac1eb79002faff12", func := "loop.example/g00947/laws.FnExactShortRights", spec := "fnExactShortRights", unfollowed := true, recurses := true, apart := false, narrowed := true }
def FnExactShortRightsUptoSaid : Prop := fnExactShortRightsUptoRow.holds Try.pinned (OpenSpec.upto fnExactShortRightsSpec)

/-- 'laws.FnExactLeastRights', WHERE WHAT IT READS IS OF BULK AT MOST 1048576: true; the input reads as it did. -/
def fnExactLeastRightsUptoRow : OpenClaim := { program := "ytnadcjclihflcaa", sum := "a4f1a703ebb10663f75235fe956c5dfbba072bc704a0547eac1eb79002faff12", func := "loop.example/g00947/laws.FnExactLeastRights", spec := "fnExactLeastRights", unfollowed := true, recurses := true, apart := false, narrowed := true }
def FnExactLeastRightsUptoSaid : Prop := fnExactLeastRightsUptoRow.holds Try.pinned (OpenSpec.upto fnExactLeastRightsSpec)

/-- 'laws.FnExactAddKey', WHERE WHAT IT READS IS OF BULK AT MOST 1048576: true; the input reads as it did. -/
def fnExactAddKeyUptoRow : OpenClaim := { program := "ytnadcjclihflcaa", sum := "a4f1a703ebb10663f75235fe956c5dfbba072bc704a0547eac1eb79002faff12", func := "loop.example/g00947/laws.FnExactAddKey", spec := "fnExactAddKey", apart := false, narrowed := true }
def FnExactAddKeyUptoSaid : Prop := fnExactAddKeyUptoRow.holds Try.pinned (OpenSpec.upto fnExactAddKeySpec)

/-- 'laws.FnExactUnusedDoors', WHERE WHAT IT READS IS OF BULK AT MOST 1048576: true; the input reads as it did. -/
def fnExactUnusedDoorsUptoRow : OpenClaim := { program := "ytnadcjclihflcaa", sum := "a4f1a703ebb10663f75235fe956c5dfbba072bc704a0547eac1eb79002faff12", func := "loop.example/g00947/laws.FnExactUnusedDoors", spec := "fnExactUnusedDoors", unfollowed := true, recurses := true, apart := false, narrowed := true }
def FnExactUnusedDoorsUptoSaid : Prop := fnExactUnusedDoorsUptoRow.holds Try.pinned (OpenSpec.upto fnExactUnusedDoorsSpec)

/-- 'laws.FnExactDoorsOf', WHERE WHAT IT READS IS OF BULK AT MOST 1048576: true; the input reads as it did. -/
def fnExactDoorsOfUptoRow : OpenClaim := { program := "ytnadcjclihflcaa", sum := "a4f1a703ebb10663f75235fe956c5dfbba072bc704a0547eac1eb79002faff12", func := "loop.example/g00947/laws.FnExactDoorsOf", spec := "fnExactDoorsOf", unfollowed := true, recurses := true, apart := false, narrowed := true }
def FnExactDoorsOfUptoSaid : Prop := fnExactDoorsOfUptoRow.holds Try.pinned (OpenSpec.upto fnExactDoorsOfSpec)

/-- 'laws.FnExactDoorsUnder', WHERE WHAT IT READS IS OF BULK AT MOST 1048576: true; the input reads as it did. -/
def fnExactDoorsUnderUptoRow : OpenClaim := { program := "ytnadcjclihflcaa", sum := "a4f1a703ebb10663f75235fe956c5dfbba072bc704a0547eac1eb79002faff12", func := "loop.example/g00947/laws.FnExactDoorsUnder", spec := "fnExactDoorsUnder", unfollowed := true, recurses := true, apart := false, narrowed := true }
def FnExactDoorsUnderUptoSaid : Prop := fnExactDoorsUnderUptoRow.holds Try.pinned (OpenSpec.upto fnExactDoorsUnderSpec)

/-- 'laws.FnAncestors', WHERE WHAT IT READS IS OF BULK AT MOST 1048576: true; the input reads as it did. -/
def fnAncestorsUptoRow : OpenClaim := { program := "ytnadcjclihflcaa", sum := "a4f1a703ebb10663f75235fe956c5dfbba072bc704a0547eac1eb79002faff12", func := "loop.example/g00947/laws.FnAncestors", spec := "fnAncestors", unfollowed := true, recurses := true, apart := false, narrowed := true }
def FnAncestorsUptoSaid : Prop := fnAncestorsUptoRow.holds Try.pinned (OpenSpec.upto fnAncestorsSpec)

/-- 'laws.FnGroups', WHERE WHAT IT READS IS OF BULK AT MOST 1048576: true; the input reads as it did. -/
def fnGroupsUptoRow : OpenClaim := { program := "ytnadcjclihflcaa", sum := "a4f1a703ebb10663f75235fe956c5dfbba072bc704a0547eac1eb79002faff12", func := "loop.example/g00947/laws.FnGroups", spec := "fnGroups", unfollowed := true, recurses := true, apart := false, narrowed := true }
def FnGroupsUptoSaid : Prop := fnGroupsUptoRow.holds Try.pinned (OpenSpec.upto fnGroupsSpec)

end Rows
end Go.Proofs.Ytnadcjclihflcaa
