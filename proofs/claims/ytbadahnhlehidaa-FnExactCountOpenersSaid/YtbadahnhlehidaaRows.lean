/-
  No cell of these rows narrows 'for every input' (looked for: loops, veiled, ifaces, maps, wideKeys, modest, calm, conditions, laid).
  DERIVED. THE GIVEN ROWS OF THIS SEAT. 18 by the template 'for every input the law returns true; each argument reads behind the call as it read before'; 0 by the template 'total and deterministic' (their statements: YtbadahnhlehidaaTotals.lean).
  GIVEN WITH THE SEED: the statements are not yours to turn. If you find one false, say at which input.
  Laid BY PROGRAM, IN A SANDBOX (cutbox-rows.mjs): the forced cells as the released guide's own fill.sh prints them over the translation ea5d55ae47e4ac79… (all of the seat's roots in one cut). By AI agents, Wed Nov 11 2026. No macro, syntax, notation, axiom, sorry.
-/
import Derived.Test.YtbadahnhlehidaaChecked
import GoSem.Claim
import GoSem.ClaimJoined
import GoSem.ClaimMapViews
import Derived.JoinedTies
import Derived.KernelRfl
namespace Go.Proofs.Ytbadahnhlehidaa
/- THE CELL 'sum', in the pinned program and in every row, IS THE sha256 OF THE DUMP (.gsa) THAT YtbadahnhlehidaaProg.lean LOADS. Nothing in Lean hashes anything: it is a label: what it is worth is what the hold of that sum in a sandbox is worth. -/
noncomputable def Try.pinned : Pinned := { name := "ytbadahnhlehidaa", sum := "ea5d55ae47e4ac793968691bef9609b3a71ba2ffcc72049cd99a5b3719236441", checked := Try.checked }
namespace Rows
def none {H : Type} : Left H := { results := [], args := [] }

/-- 'laws.FnExactIsLock': WHATEVER THE INPUT: true; the input reads as it did. -/
def fnExactIsLockSpec : ChangeSpec := { name := "fnExactIsLock", fn := fun _ => fun
  | [d1, d2] => { results := [.lit (.bool true)], args := [d1, d2] }
  | _ => none }
def fnExactIsLockRow : OpenClaim := { program := "ytbadahnhlehidaa", sum := "ea5d55ae47e4ac793968691bef9609b3a71ba2ffcc72049cd99a5b3719236441", func := "loop.example/g00947/laws.FnExactIsLock", spec := "fnExactIsLock", apart := false }
def FnExactIsLockSaid : Prop := fnExactIsLockRow.holds Try.pinned (OpenSpec.ofChange fnExactIsLockSpec)

/-- ITS FALSE NEIGHBOUR: 'it returns false'. Refute it at one input. -/
def fnExactIsLockWrong : ChangeSpec := { name := "fnExactIsLock", fn := fun _ => fun
  | [d1, d2] => { results := [.lit (.bool false)], args := [d1, d2] }
  | _ => none }
def FnExactIsLockWrongFalsely : Prop := fnExactIsLockRow.holds Try.pinned (OpenSpec.ofChange fnExactIsLockWrong)

/-- 'laws.FnExactHullOf': WHATEVER THE INPUT: true; the input reads as it did. -/
def fnExactHullOfSpec : ChangeSpec := { name := "fnExactHullOf", fn := fun _ => fun
  | [d1, d2] => { results := [.lit (.bool true)], args := [d1, d2] }
  | _ => none }
def fnExactHullOfRow : OpenClaim := { program := "ytbadahnhlehidaa", sum := "ea5d55ae47e4ac793968691bef9609b3a71ba2ffcc72049cd99a5b3719236441", func := "loop.example/g00947/laws.FnExactHullOf", spec := "fnExactHullOf", unfollowed := true, recurses := true, apart := false }
def FnExactHullOfSaid : Prop := fnExactHullOfRow.holds Try.pinned (OpenSpec.ofChange fnExactHullOfSpec)

/-- ITS FALSE NEIGHBOUR: 'it returns false'. Refute it at one input. -/
def fnExactHullOfWrong : ChangeSpec := { name := "fnExactHullOf", fn := fun _ => fun
  | [d1, d2] => { results := [.lit (.bool false)], args := [d1, d2] }
  | _ => none }
def FnExactHullOfWrongFalsely : Prop := fnExactHullOfRow.holds Try.pinned (OpenSpec.ofChange fnExactHullOfWrong)

/-- 'laws.FnExactOpens': WHATEVER THE INPUT: true; the input reads as it did. -/
def fnExactOpensSpec : ChangeSpec := { name := "fnExactOpens", fn := fun _ => fun
  | [d1, d2, d3] => { results := [.lit (.bool true)], args := [d1, d2, d3] }
  | _ => none }
def fnExactOpensRow : OpenClaim := { program := "ytbadahnhlehidaa", sum := "ea5d55ae47e4ac793968691bef9609b3a71ba2ffcc72049cd99a5b3719236441", func := "loop.example/g00947/laws.FnExactOpens", spec := "fnExactOpens", unfollowed := true, recurses := true, apart := false }
def FnExactOpensSaid : Prop := fnExactOpensRow.holds Try.pinned (OpenSpec.ofChange fnExactOpensSpec)

/-- ITS FALSE NEIGHBOUR: 'it returns false'. Refute it at one input. -/
def fnExactOpensWrong : ChangeSpec := { name := "fnExactOpens", fn := fun _ => fun
  | [d1, d2, d3] => { results := [.lit (.bool false)], args := [d1, d2, d3] }
  | _ => none }
def FnExactOpensWrongFalsely : Prop := fnExactOpensRow.holds Try.pinned (OpenSpec.ofChange fnExactOpensWrong)

/-- 'laws.FnExactCountCombinations': WHATEVER THE INPUT: true; the input reads as it did. -/
def fnExactCountCombinationsSpec : ChangeSpec := { name := "fnExactCountCombinations", fn := fun _ => fun
  | [d1, d2] => { results := [.lit (.bool true)], args := [d1, d2] }
  | _ => none }
def fnExactCountCombinationsRow : OpenClaim := { program := "ytbadahnhlehidaa", sum := "ea5d55ae47e4ac793968691bef9609b3a71ba2ffcc72049cd99a5b3719236441", func := "loop.example/g00947/laws.FnExactCountCombinations", spec := "fnExactCountCombinations", apart := false }
def FnExactCountCombinationsSaid : Prop := fnExactCountCombinationsRow.holds Try.pinned (OpenSpec.ofChange fnExactCountCombinationsSpec)

/-- ITS FALSE NEIGHBOUR: 'it returns false'. Refute it at one input. -/
def fnExactCountCombinationsWrong : ChangeSpec := { name := "fnExactCountCombinations", fn := fun _ => fun
  | [d1, d2] => { results := [.lit (.bool false)], args := [d1, d2] }
  | _ => none }
def FnExactCountCombinationsWrongFalsely : Prop := fnExactCountCombinationsRow.holds Try.pinned (OpenSpec.ofChange fnExactCountCombinationsWrong)

/-- 'laws.FnExactCountOpeners': WHATEVER THE INPUT: true; the input reads as it did. -/
def fnExactCountOpenersSpec : ChangeSpec := { name := "fnExactCountOpeners", fn := fun _ => fun
  | [d1, d2] => { results := [.lit (.bool true)], args := [d1, d2] }
  | _ => none }
def fnExactCountOpenersRow : OpenClaim := { program := "ytbadahnhlehidaa", sum := "ea5d55ae47e4ac793968691bef9609b3a71ba2ffcc72049cd99a5b3719236441", func := "loop.example/g00947/laws.FnExactCountOpeners", spec := "fnExactCountOpeners", unfollowed := true, recurses := true, apart := false }
def FnExactCountOpenersSaid : Prop := fnExactCountOpenersRow.holds Try.pinned (OpenSpec.ofChange fnExactCountOpenersSpec)

/-- ITS FALSE NEIGHBOUR: 'it returns false'. Refute it at one input. -/
def fnExactCountOpenersWrong : ChangeSpec := { name := "fnExactCountOpeners", fn := fun _ => fun
  | [d1, d2] => { results := [.lit (.bool false)], args := [d1, d2] }
  | _ => none }
def FnExactCountOpenersWrongFalsely : Prop := fnExactCountOpenersRow.holds Try.pinned (OpenSpec.ofChange fnExactCountOpenersWrong)

/-- 'laws.FnExactOpenersOf': WHATEVER THE INPUT: true; the input reads as it did. -/
def fnExactOpenersOfSpec : ChangeSpec := { name := "fnExactOpenersOf", fn := fun _ => fun
  | [d1, d2, d3] => { results := [.lit (.bool true)], args := [d1, d2, d3] }
  | _ => none }
def fnExactOpenersOfRow : OpenClaim := { program := "ytbadahnhlehidaa", sum := "ea5d55ae47e4ac793968691bef9609b3a71ba2ffcc72049cd99a5b3719236441", func := "loop.example/g00947/laws.FnExactOpenersOf", spec := "fnExactOpenersOf", unfollowed := true, recurses := true, apart := false }
def FnExactOpenersOfSaid : Prop := fnExactOpenersOfRow.holds Try.pinned (OpenSpec.ofChange fnExactOpenersOfSpec)

/-- ITS FALSE NEIGHBOUR: 'it returns false'. Refute it at one input. -/
def fnExactOpenersOfWrong : ChangeSpec := { name := "fnExactOpenersOf", fn := fun _ => fun
  | [d1, d2, d3] => { results := [.lit (.bool false)], args := [d1, d2, d3] }
  | _ => none }
def FnExactOpenersOfWrongFalsely : Prop := fnExactOpenersOfRow.holds Try.pinned (OpenSpec.ofChange fnExactOpenersOfWrong)

/-- 'laws.FnExactCountWafers': WHATEVER THE INPUT: true; the input reads as it did. -/
def fnExactCountWafersSpec : ChangeSpec := { name := "fnExactCountWafers", fn := fun _ => fun
  | [d1, d2] => { results := [.lit (.bool true)], args := [d1, d2] }
  | _ => none }
def fnExactCountWafersRow : OpenClaim := { program := "ytbadahnhlehidaa", sum := "ea5d55ae47e4ac793968691bef9609b3a71ba2ffcc72049cd99a5b3719236441", func := "loop.example/g00947/laws.FnExactCountWafers", spec := "fnExactCountWafers", apart := false }
def FnExactCountWafersSaid : Prop := fnExactCountWafersRow.holds Try.pinned (OpenSpec.ofChange fnExactCountWafersSpec)

/-- ITS FALSE NEIGHBOUR: 'it returns false'. Refute it at one input. -/
def fnExactCountWafersWrong : ChangeSpec := { name := "fnExactCountWafers", fn := fun _ => fun
  | [d1, d2] => { results := [.lit (.bool false)], args := [d1, d2] }
  | _ => none }
def FnExactCountWafersWrongFalsely : Prop := fnExactCountWafersRow.holds Try.pinned (OpenSpec.ofChange fnExactCountWafersWrong)

/-- 'laws.FnExactMeetLocks': WHATEVER THE INPUT: true; the input reads as it did. -/
def fnExactMeetLocksSpec : ChangeSpec := { name := "fnExactMeetLocks", fn := fun _ => fun
  | [d1, d2, d3] => { results := [.lit (.bool true)], args := [d1, d2, d3] }
  | _ => none }
def fnExactMeetLocksRow : OpenClaim := { program := "ytbadahnhlehidaa", sum := "ea5d55ae47e4ac793968691bef9609b3a71ba2ffcc72049cd99a5b3719236441", func := "loop.example/g00947/laws.FnExactMeetLocks", spec := "fnExactMeetLocks", apart := false }
def FnExactMeetLocksSaid : Prop := fnExactMeetLocksRow.holds Try.pinned (OpenSpec.ofChange fnExactMeetLocksSpec)

/-- ITS FALSE NEIGHBOUR: 'it returns false'. Refute it at one input. -/
def fnExactMeetLocksWrong : ChangeSpec := { name := "fnExactMeetLocks", fn := fun _ => fun
  | [d1, d2, d3] => { results := [.lit (.bool false)], args := [d1, d2, d3] }
  | _ => none }
def FnExactMeetLocksWrongFalsely : Prop := fnExactMeetLocksRow.holds Try.pinned (OpenSpec.ofChange fnExactMeetLocksWrong)

/-- 'laws.FnExactJoinLocks': WHATEVER THE INPUT: true; the input reads as it did. -/
def fnExactJoinLocksSpec : ChangeSpec := { name := "fnExactJoinLocks", fn := fun _ => fun
  | [d1, d2, d3] => { results := [.lit (.bool true)], args := [d1, d2, d3] }
  | _ => none }
def fnExactJoinLocksRow : OpenClaim := { program := "ytbadahnhlehidaa", sum := "ea5d55ae47e4ac793968691bef9609b3a71ba2ffcc72049cd99a5b3719236441", func := "loop.example/g00947/laws.FnExactJoinLocks", spec := "fnExactJoinLocks", apart := false }
def FnExactJoinLocksSaid : Prop := fnExactJoinLocksRow.holds Try.pinned (OpenSpec.ofChange fnExactJoinLocksSpec)

/-- ITS FALSE NEIGHBOUR: 'it returns false'. Refute it at one input. -/
def fnExactJoinLocksWrong : ChangeSpec := { name := "fnExactJoinLocks", fn := fun _ => fun
  | [d1, d2, d3] => { results := [.lit (.bool false)], args := [d1, d2, d3] }
  | _ => none }
def FnExactJoinLocksWrongFalsely : Prop := fnExactJoinLocksRow.holds Try.pinned (OpenSpec.ofChange fnExactJoinLocksWrong)

/-- 'laws.FnHulls': WHATEVER THE INPUT: true; the input reads as it did. -/
def fnHullsSpec : ChangeSpec := { name := "fnHulls", fn := fun _ => fun
  | [d] => { results := [.lit (.bool true)], args := [d] }
  | _ => none }
def fnHullsRow : OpenClaim := { program := "ytbadahnhlehidaa", sum := "ea5d55ae47e4ac793968691bef9609b3a71ba2ffcc72049cd99a5b3719236441", func := "loop.example/g00947/laws.FnHulls", spec := "fnHulls", unfollowed := true, recurses := true, apart := false }
def FnHullsSaid : Prop := fnHullsRow.holds Try.pinned (OpenSpec.ofChange fnHullsSpec)

/-- ITS FALSE NEIGHBOUR: 'it returns false'. Refute it at one input. -/
def fnHullsWrong : ChangeSpec := { name := "fnHulls", fn := fun _ => fun
  | [d] => { results := [.lit (.bool false)], args := [d] }
  | _ => none }
def FnHullsWrongFalsely : Prop := fnHullsRow.holds Try.pinned (OpenSpec.ofChange fnHullsWrong)

/-- 'laws.FnOpeners': WHATEVER THE INPUT: true; the input reads as it did. -/
def fnOpenersSpec : ChangeSpec := { name := "fnOpeners", fn := fun _ => fun
  | [d] => { results := [.lit (.bool true)], args := [d] }
  | _ => none }
def fnOpenersRow : OpenClaim := { program := "ytbadahnhlehidaa", sum := "ea5d55ae47e4ac793968691bef9609b3a71ba2ffcc72049cd99a5b3719236441", func := "loop.example/g00947/laws.FnOpeners", spec := "fnOpeners", unfollowed := true, recurses := true, apart := false }
def FnOpenersSaid : Prop := fnOpenersRow.holds Try.pinned (OpenSpec.ofChange fnOpenersSpec)

/-- ITS FALSE NEIGHBOUR: 'it returns false'. Refute it at one input. -/
def fnOpenersWrong : ChangeSpec := { name := "fnOpeners", fn := fun _ => fun
  | [d] => { results := [.lit (.bool false)], args := [d] }
  | _ => none }
def FnOpenersWrongFalsely : Prop := fnOpenersRow.holds Try.pinned (OpenSpec.ofChange fnOpenersWrong)

/-- 'laws.FnMeetings': WHATEVER THE INPUT: true; the input reads as it did. -/
def fnMeetingsSpec : ChangeSpec := { name := "fnMeetings", fn := fun _ => fun
  | [d] => { results := [.lit (.bool true)], args := [d] }
  | _ => none }
def fnMeetingsRow : OpenClaim := { program := "ytbadahnhlehidaa", sum := "ea5d55ae47e4ac793968691bef9609b3a71ba2ffcc72049cd99a5b3719236441", func := "loop.example/g00947/laws.FnMeetings", spec := "fnMeetings", unfollowed := true, recurses := true, apart := false }
def FnMeetingsSaid : Prop := fnMeetingsRow.holds Try.pinned (OpenSpec.ofChange fnMeetingsSpec)

/-- ITS FALSE NEIGHBOUR: 'it returns false'. Refute it at one input. -/
def fnMeetingsWrong : ChangeSpec := { name := "fnMeetings", fn := fun _ => fun
  | [d] => { results := [.lit (.bool false)], args := [d] }
  | _ => none }
def FnMeetingsWrongFalsely : Prop := fnMeetingsRow.holds Try.pinned (OpenSpec.ofChange fnMeetingsWrong)

/-- 'laws.FnExactRankOf': WHATEVER THE INPUT: true; the input reads as it did. -/
def fnExactRankOfSpec : ChangeSpec := { name := "fnExactRankOf", fn := fun _ => fun
  | [d1, d2] => { results := [.lit (.bool true)], args := [d1, d2] }
  | _ => none }
def fnExactRankOfRow : OpenClaim := { program := "ytbadahnhlehidaa", sum := "ea5d55ae47e4ac793968691bef9609b3a71ba2ffcc72049cd99a5b3719236441", func := "loop.example/g00947/laws.FnExactRankOf", spec := "fnExactRankOf", unfollowed := true, recurses := true, apart := false }
def FnExactRankOfSaid : Prop := fnExactRankOfRow.holds Try.pinned (OpenSpec.ofChange fnExactRankOfSpec)

/-- ITS FALSE NEIGHBOUR: 'it returns false'. Refute it at one input. -/
def fnExactRankOfWrong : ChangeSpec := { name := "fnExactRankOf", fn := fun _ => fun
  | [d1, d2] => { results := [.lit (.bool false)], args := [d1, d2] }
  | _ => none }
def FnExactRankOfWrongFalsely : Prop := fnExactRankOfRow.holds Try.pinned (OpenSpec.ofChange fnExactRankOfWrong)

/-- 'laws.FnExactKeyAt': WHATEVER THE INPUT: true; the input reads as it did. -/
def fnExactKeyAtSpec : ChangeSpec := { name := "fnExactKeyAt", fn := fun _ => fun
  | [d1, d2] => { results := [.lit (.bool true)], args := [d1, d2] }
  | _ => none }
def fnExactKeyAtRow : OpenClaim := { program := "ytbadahnhlehidaa", sum := "ea5d55ae47e4ac793968691bef9609b3a71ba2ffcc72049cd99a5b3719236441", func := "loop.example/g00947/laws.FnExactKeyAt", spec := "fnExactKeyAt", unfollowed := true, recurses := true, apart := false }
def FnExactKeyAtSaid : Prop := fnExactKeyAtRow.holds Try.pinned (OpenSpec.ofChange fnExactKeyAtSpec)

/-- ITS FALSE NEIGHBOUR: 'it returns false'. Refute it at one input. -/
def fnExactKeyAtWrong : ChangeSpec := { name := "fnExactKeyAt", fn := fun _ => fun
  | [d1, d2] => { results := [.lit (.bool false)], args := [d1, d2] }
  | _ => none }
def FnExactKeyAtWrongFalsely : Prop := fnExactKeyAtRow.holds Try.pinned (OpenSpec.ofChange fnExactKeyAtWrong)

/-- 'laws.FnExactKeysNear': WHATEVER THE INPUT: true; the input reads as it did. -/
def fnExactKeysNearSpec : ChangeSpec := { name := "fnExactKeysNear", fn := fun _ => fun
  | [d1, d2, d3] => { results := [.lit (.bool true)], args := [d1, d2, d3] }
  | _ => none }
def fnExactKeysNearRow : OpenClaim := { program := "ytbadahnhlehidaa", sum := "ea5d55ae47e4ac793968691bef9609b3a71ba2ffcc72049cd99a5b3719236441", func := "loop.example/g00947/laws.FnExactKeysNear", spec := "fnExactKeysNear", unfollowed := true, recurses := true, apart := false }
def FnExactKeysNearSaid : Prop := fnExactKeysNearRow.holds Try.pinned (OpenSpec.ofChange fnExactKeysNearSpec)

/-- ITS FALSE NEIGHBOUR: 'it returns false'. Refute it at one input. -/
def fnExactKeysNearWrong : ChangeSpec := { name := "fnExactKeysNear", fn := fun _ => fun
  | [d1, d2, d3] => { results := [.lit (.bool false)], args := [d1, d2, d3] }
  | _ => none }
def FnExactKeysNearWrongFalsely : Prop := fnExactKeysNearRow.holds Try.pinned (OpenSpec.ofChange fnExactKeysNearWrong)

/-- 'laws.FnExactNearestKey': WHATEVER THE INPUT: true; the input reads as it did. -/
def fnExactNearestKeySpec : ChangeSpec := { name := "fnExactNearestKey", fn := fun _ => fun
  | [d1, d2] => { results := [.lit (.bool true)], args := [d1, d2] }
  | _ => none }
def fnExactNearestKeyRow : OpenClaim := { program := "ytbadahnhlehidaa", sum := "ea5d55ae47e4ac793968691bef9609b3a71ba2ffcc72049cd99a5b3719236441", func := "loop.example/g00947/laws.FnExactNearestKey", spec := "fnExactNearestKey", unfollowed := true, recurses := true, apart := false }
def FnExactNearestKeySaid : Prop := fnExactNearestKeyRow.holds Try.pinned (OpenSpec.ofChange fnExactNearestKeySpec)

/-- ITS FALSE NEIGHBOUR: 'it returns false'. Refute it at one input. -/
def fnExactNearestKeyWrong : ChangeSpec := { name := "fnExactNearestKey", fn := fun _ => fun
  | [d1, d2] => { results := [.lit (.bool false)], args := [d1, d2] }
  | _ => none }
def FnExactNearestKeyWrongFalsely : Prop := fnExactNearestKeyRow.holds Try.pinned (OpenSpec.ofChange fnExactNearestKeyWrong)

/-- 'laws.FnRanks': WHATEVER THE INPUT: true; the input reads as it did. -/
def fnRanksSpec : ChangeSpec := { name := "fnRanks", fn := fun _ => fun
  | [d] => { results := [.lit (.bool true)], args := [d] }
  | _ => none }
def fnRanksRow : OpenClaim := { program := "ytbadahnhlehidaa", sum := "ea5d55ae47e4ac793968691bef9609b3a71ba2ffcc72049cd99a5b3719236441", func := "loop.example/g00947/laws.FnRanks", spec := "fnRanks", unfollowed := true, recurses := true, apart := false }
def FnRanksSaid : Prop := fnRanksRow.holds Try.pinned (OpenSpec.ofChange fnRanksSpec)

/-- ITS FALSE NEIGHBOUR: 'it returns false'. Refute it at one input. -/
def fnRanksWrong : ChangeSpec := { name := "fnRanks", fn := fun _ => fun
  | [d] => { results := [.lit (.bool false)], args := [d] }
  | _ => none }
def FnRanksWrongFalsely : Prop := fnRanksRow.holds Try.pinned (OpenSpec.ofChange fnRanksWrong)

/-- 'laws.FnNeighbours': WHATEVER THE INPUT: true; the input reads as it did. -/
def fnNeighboursSpec : ChangeSpec := { name := "fnNeighbours", fn := fun _ => fun
  | [d] => { results := [.lit (.bool true)], args := [d] }
  | _ => none }
def fnNeighboursRow : OpenClaim := { program := "ytbadahnhlehidaa", sum := "ea5d55ae47e4ac793968691bef9609b3a71ba2ffcc72049cd99a5b3719236441", func := "loop.example/g00947/laws.FnNeighbours", spec := "fnNeighbours", unfollowed := true, recurses := true, apart := false }
def FnNeighboursSaid : Prop := fnNeighboursRow.holds Try.pinned (OpenSpec.ofChange fnNeighboursSpec)

/-- ITS FALSE NEIGHBOUR: 'it returns false'. Refute it at one input. -/
def fnNeighboursWrong : ChangeSpec := { name := "fnNeighbours", fn := fun _ => fun
  | [d] => { results := [.lit (.bool false)], args := [d] }
  | _ => none }
def FnNeighboursWrongFalsely : Prop := fnNeighboursRow.holds Try.pinned (OpenSpec.ofChange fnNeighboursWrong)

/- THE SECOND FORM. 'bulk': how many values and letters a reading holds, each counted each time it is reached (what is shared counts as often as it is met; a slice's spare places count too). A statement '..UptoSaid' is the law's where the arguments, and the package variables that the reading takes, are together of bulk at most 1048576: NARROWER than '..Said'. Prove '..Said' where nothing that the law and all that it calls make is longer than what came in: it says more and counts as full. Else prove '..UptoSaid'. A law counts once. -/
mutual
def uptoBulk {H : Type} : DataW H → Nat
  | .lit (.string bytes) => bytes.length + 1
  | .lit _ => 1
  | .nil => 1
  | .ptr d => uptoBulk d + 1
  | .slice elems spare => uptoBulkAll elems + uptoBulkAll spare + 1
  | .agg parts => uptoBulkAll parts + 1
  | .iface _ d => uptoBulk d + 1
  | .map entries => uptoBulkEntries entries + 1
  | .held _ => 1
def uptoBulkAll {H : Type} : List (DataW H) → Nat
  | [] => 0
  | d :: r => uptoBulk d + uptoBulkAll r
def uptoBulkEntries {H : Type} : List (Lit × DataW H) → Nat
  | [] => 0
  | x :: r => uptoBulkEntry x + uptoBulkEntries r
def uptoBulkEntry {H : Type} : Lit × DataW H → Nat
  | (.string bytes, d) => bytes.length + uptoBulk d + 1
  | (_, d) => uptoBulk d + 1
 end
def uptoSmall : (H : Type) → List (DataW H) → Bool := fun _ ds => decide (uptoBulkAll ds ≤ 1048576)
def OpenSpec.upto (s : _root_.Go.ChangeSpec) : _root_.Go.OpenSpec := { _root_.Go.OpenSpec.ofChange s with cond := some uptoSmall }

/-- 'laws.FnExactIsLock', WHERE WHAT IT READS IS OF BULK AT MOST 1048576: true; the input reads as it did. -/
def fnExactIsLockUptoRow : OpenClaim := { program := "ytbadahnhlehidaa", sum := "ea5d55ae47e4ac793968691bef9609b3a71ba2ffcc72049cd99a5b3719236441", func := "loop.example/g00947/laws.FnExactIsLock", spec := "fnExactIsLock", apart := false, narrowed := true }
def FnExactIsLockUptoSaid : Prop := fnExactIsLockUptoRow.holds Try.pinned (OpenSpec.upto fnExactIsLockSpec)

/-- 'laws.FnExactHullOf', WHERE WHAT IT READS IS OF BULK AT MOST 1048576: true; the input reads as it did. -/
def fnExactHullOfUptoRow : OpenClaim := { program := "ytbadahnhlehidaa", sum := "ea5d55ae47e4ac793968691bef9609b3a71ba2ffcc72049cd99a5b3719236441", func := "loop.example/g00947/laws.FnExactHullOf", spec := "fnExactHullOf", unfollowed := true, recurses := true, apart := false, narrowed := true }
def FnExactHullOfUptoSaid : Prop := fnExactHullOfUptoRow.holds Try.pinned (OpenSpec.upto fnExactHullOfSpec)

/-- 'laws.FnExactOpens', WHERE WHAT IT READS IS OF BULK AT MOST 1048576: true; the input reads as it did. -/
def fnExactOpensUptoRow : OpenClaim := { program := "ytbadahnhlehidaa", sum := "ea5d55ae47e4ac793968691bef9609b3a71ba2ffcc72049cd99a5b3719236441", func := "loop.example/g00947/laws.FnExactOpens", spec := "fnExactOpens", unfollowed := true, recurses := true, apart := false, narrowed := true }
def FnExactOpensUptoSaid : Prop := fnExactOpensUptoRow.holds Try.pinned (OpenSpec.upto fnExactOpensSpec)

/-- 'laws.FnExactCountCombinations', WHERE WHAT IT READS IS OF BULK AT MOST 1048576: true; the input reads as it did. -/
def fnExactCountCombinationsUptoRow : OpenClaim := { program := "ytbadahnhlehidaa", sum := "ea5d55ae47e4ac793968691bef9609b3a71ba2ffcc72049cd99a5b3719236441", func := "loop.example/g00947/laws.FnExactCountCombinations", spec := "fnExactCountCombinations", apart := false, narrowed := true }
def FnExactCountCombinationsUptoSaid : Prop := fnExactCountCombinationsUptoRow.holds Try.pinned (OpenSpec.upto fnExactCountCombinationsSpec)

/-- 'laws.FnExactCountOpeners', WHERE WHAT IT READS IS OF BULK AT MOST 1048576: true; the input reads as it did. -/
def fnExactCountOpenersUptoRow : OpenClaim := { program := "ytbadahnhlehidaa", sum := "ea5d55ae47e4ac793968691bef9609b3a71ba2ffcc72049cd99a5b3719236441", func := "loop.example/g00947/laws.FnExactCountOpeners", spec := "fnExactCountOpeners", unfollowed := true, recurses := true, apart := false, narrowed := true }
def FnExactCountOpenersUptoSaid : Prop := fnExactCountOpenersUptoRow.holds Try.pinned (OpenSpec.upto fnExactCountOpenersSpec)

/-- 'laws.FnExactOpenersOf', WHERE WHAT IT READS IS OF BULK AT MOST 1048576: true; the input reads as it did. -/
def fnExactOpenersOfUptoRow : OpenClaim := { program := "ytbadahnhlehidaa", sum := "ea5d55ae47e4ac793968691bef9609b3a71ba2ffcc72049cd99a5b3719236441", func := "loop.example/g00947/laws.FnExactOpenersOf", spec := "fnExactOpenersOf", unfollowed := true, recurses := true, apart := false, narrowed := true }
def FnExactOpenersOfUptoSaid : Prop := fnExactOpenersOfUptoRow.holds Try.pinned (OpenSpec.upto fnExactOpenersOfSpec)

/-- 'laws.FnExactCountWafers', WHERE WHAT IT READS IS OF BULK AT MOST 1048576: true; the input reads as it did. -/
def fnExactCountWafersUptoRow : OpenClaim := { program := "ytbadahnhlehidaa", sum := "ea5d55ae47e4ac793968691bef9609b3a71ba2ffcc72049cd99a5b3719236441", func := "loop.example/g00947/laws.FnExactCountWafers", spec := "fnExactCountWafers", apart := false, narrowed := true }
def FnExactCountWafersUptoSaid : Prop := fnExactCountWafersUptoRow.holds Try.pinned (OpenSpec.upto fnExactCountWafersSpec)

/-- 'laws.FnExactMeetLocks', WHERE WHAT IT READS IS OF BULK AT MOST 1048576: true; the input reads as it did. -/
def fnExactMeetLocksUptoRow : OpenClaim := { program := "ytbadahnhlehidaa", sum := "ea5d55ae47e4ac793968691bef9609b3a71ba2ffcc72049cd99a5b3719236441", func := "loop.example/g00947/laws.FnExactMeetLocks", spec := "fnExactMeetLocks", apart := false, narrowed := true }
def FnExactMeetLocksUptoSaid : Prop := fnExactMeetLocksUptoRow.holds Try.pinned (OpenSpec.upto fnExactMeetLocksSpec)

/-- 'laws.FnExactJoinLocks', WHERE WHAT IT READS IS OF BULK AT MOST 1048576: true; the input reads as it did. -/
def fnExactJoinLocksUptoRow : OpenClaim := { program := "ytbadahnhlehidaa", sum := "ea5d55ae47e4ac793968691bef9609b3a71ba2ffcc72049cd99a5b3719236441", func := "loop.example/g00947/laws.FnExactJoinLocks", spec := "fnExactJoinLocks", apart := false, narrowed := true }
def FnExactJoinLocksUptoSaid : Prop := fnExactJoinLocksUptoRow.holds Try.pinned (OpenSpec.upto fnExactJoinLocksSpec)

/-- 'laws.FnHulls', WHERE WHAT IT READS IS OF BULK AT MOST 1048576: true; the input reads as it did. -/
def fnHullsUptoRow : OpenClaim := { program := "ytbadahnhlehidaa", sum := "ea5d55ae47e4ac793968691bef9609b3a71ba2ffcc72049cd99a5b3719236441", func := "loop.example/g00947/laws.FnHulls", spec := "fnHulls", unfollowed := true, recurses := true, apart := false, narrowed := true }
def FnHullsUptoSaid : Prop := fnHullsUptoRow.holds Try.pinned (OpenSpec.upto fnHullsSpec)

/-- 'laws.FnOpeners', WHERE WHAT IT READS IS OF BULK AT MOST 1048576: true; the input reads as it did. -/
def fnOpenersUptoRow : OpenClaim := { program := "ytbadahnhlehidaa", sum := "ea5d55ae47e4ac793968691bef9609b3a71ba2ffcc72049cd99a5b3719236441", func := "loop.example/g00947/laws.FnOpeners", spec := "fnOpeners", unfollowed := true, recurses := true, apart := false, narrowed := true }
def FnOpenersUptoSaid : Prop := fnOpenersUptoRow.holds Try.pinned (OpenSpec.upto fnOpenersSpec)

/-- 'laws.FnMeetings', WHERE WHAT IT READS IS OF BULK AT MOST 1048576: true; the input reads as it did. -/
def fnMeetingsUptoRow : OpenClaim := { program := "ytbadahnhlehidaa", sum := "ea5d55ae47e4ac793968691bef9609b3a71ba2ffcc72049cd99a5b3719236441", func := "loop.example/g00947/laws.FnMeetings", spec := "fnMeetings", unfollowed := true, recurses := true, apart := false, narrowed := true }
def FnMeetingsUptoSaid : Prop := fnMeetingsUptoRow.holds Try.pinned (OpenSpec.upto fnMeetingsSpec)

/-- 'laws.FnExactRankOf', WHERE WHAT IT READS IS OF BULK AT MOST 1048576: true; the input reads as it did. -/
def fnExactRankOfUptoRow : OpenClaim := { program := "ytbadahnhlehidaa", sum := "ea5d55ae47e4ac793968691bef9609b3a71ba2ffcc72049cd99a5b3719236441", func := "loop.example/g00947/laws.FnExactRankOf", spec := "fnExactRankOf", unfollowed := true, recurses := true, apart := false, narrowed := true }
def FnExactRankOfUptoSaid : Prop := fnExactRankOfUptoRow.holds Try.pinned (OpenSpec.upto fnExactRankOfSpec)

/-- 'laws.FnExactKeyAt', WHERE WHAT IT READS IS OF BULK AT MOST 1048576: true; the input reads as it did. -/
def fnExactKeyAtUptoRow : OpenClaim := { program := "ytbadahnhlehidaa", sum := "ea5d55ae47e4ac793968691bef9609b3a71ba2ffcc72049cd99a5b3719236441", func := "loop.example/g00947/laws.FnExactKeyAt", spec := "fnExactKeyAt", unfollowed := true, recurses := true, apart := false, narrowed := true }
def FnExactKeyAtUptoSaid : Prop := fnExactKeyAtUptoRow.holds Try.pinned (OpenSpec.upto fnExactKeyAtSpec)

/-- 'laws.FnExactKeysNear', WHERE WHAT IT READS IS OF BULK AT MOST 1048576: true; the input reads as it did. -/
def fnExactKeysNearUptoRow : OpenClaim := { program := "ytbadahnhlehidaa", sum := "ea5d55ae47e4ac793968691bef9609b3a71ba2ffcc72049cd99a5b3719236441", func := "loop.example/g00947/laws.FnExactKeysNear", spec := "fnExactKeysNear", unfollowed := true, recurses := true, apart := false, narrowed := true }
def FnExactKeysNearUptoSaid : Prop := fnExactKeysNearUptoRow.holds Try.pinned (OpenSpec.upto fnExactKeysNearSpec)

/-- 'laws.FnExactNearestKey', WHERE WHAT IT READS IS OF BULK AT MOST 1048576: true; the input reads as it did. -/
def fnExactNearestKeyUptoRow : OpenClaim := { program := "ytbadahnhlehidaa", sum := "ea5d55ae47e4ac793968691bef9609b3a71ba2ffcc72049cd99a5b3719236441", func := "loop.example/g00947/laws.FnExactNearestKey", spec := "fnExactNearestKey", unfollowed := true, recurses := true, apart := false, narrowed := true }
def FnExactNearestKeyUptoSaid : Prop := fnExactNearestKeyUptoRow.holds Try.pinned (OpenSpec.upto fnExactNearestKeySpec)

/-- 'laws.FnRanks', WHERE WHAT IT READS IS OF BULK AT MOST 1048576: true; the input reads as it did. -/
def fnRanksUptoRow : OpenClaim := { program := "ytbadahnhlehidaa", sum := "ea5d55ae47e4ac793968691bef9609b3a71ba2ffcc72049cd99a5b3719236441", func := "loop.example/g00947/laws.FnRanks", spec := "fnRanks", unfollowed := true, recurses := true, apart := false, narrowed := true }
def FnRanksUptoSaid : Prop := fnRanksUptoRow.holds Try.pinned (OpenSpec.upto fnRanksSpec)

/-- 'laws.FnNeighbours', WHERE WHAT IT READS IS OF BULK AT MOST 1048576: true; the input reads as it did. -/
def fnNeighboursUptoRow : OpenClaim := { program := "ytbadahnhlehidaa", sum := "ea5d55ae47e4ac793968691bef9609b3a71ba2ffcc72049cd99a5b3719236441", func := "loop.example/g00947/laws.FnNeighbours", spec := "fnNeighbours", unfollowed := true, recurses := true, apart := false, narrowed := true }
def FnNeighboursUptoSaid : Prop := fnNeighboursUptoRow.holds Try.pinned (OpenSpec.upto fnNeighboursSpec)

end Rows
end Go.Proofs.Ytbadahnhlehidaa
