/-
  No cell of these rows narrows 'for every input' (looked for: loops, veiled, ifaces, maps, wideKeys, modest, calm, conditions, laid).
  DERIVED. THE GIVEN ROWS OF THIS SEAT. 12 by the template 'for every input the law returns true; each argument reads behind the call as it read before'; 0 by the template 'total and deterministic' (their statements: YtnfmcgfiaekaiaaTotals.lean).
  GIVEN WITH THE SEED: the statements are not yours to turn. If you find one false, say at which input.
  Laid BY PROGRAM, IN A SANDBOX (cutbox-rows.mjs): the forced cells as the released guide's own fill.sh prints them over the translation eeb21c38cf88891b… (all of the seat's roots in one cut). By AI agents, Wed Nov 11 2026. No macro, syntax, notation, axiom, sorry.
-/
import Derived.Test.YtnfmcgfiaekaiaaChecked
import GoSem.Claim
import GoSem.ClaimJoined
import GoSem.ClaimMapViews
import Derived.JoinedTies
import Derived.KernelRfl
namespace Go.Proofs.Ytnfmcgfiaekaiaa
/- THE CELL 'sum', in the pinned program and in every row, IS THE sha256 OF THE DUMP (.gsa) THAT YtnfmcgfiaekaiaaProg.lean LOADS. Nothing in Lean hashes anything: it is a label: what it is worth is what the hold of that sum in a sandbox is worth. -/
noncomputable def Try.pinned : Pinned := { name := "ytnfmcgfiaekaiaa", sum := "eeb21c38cf88891b5ff0c4798641bf41c903745366f3090eb22d327f26185057", checked := Try.checked }
namespace Rows
def none {H : Type} : Left H := { results := [], args := [] }

/-- 'laws.FnHulls': WHATEVER THE INPUT: true; the input reads as it did. -/
def fnHullsSpec : ChangeSpec := { name := "fnHulls", fn := fun _ => fun
  | [d] => { results := [.lit (.bool true)], args := [d] }
  | _ => none }
def fnHullsRow : OpenClaim := { program := "ytnfmcgfiaekaiaa", sum := "eeb21c38cf88891b5ff0c4798641bf41c903745366f3090eb22d327f26185057", func := "loop.example/g00947/laws.FnHulls", spec := "fnHulls", unfollowed := true, recurses := true, apart := false }
def FnHullsSaid : Prop := fnHullsRow.holds Try.pinned (OpenSpec.ofChange fnHullsSpec)

/-- ITS FALSE NEIGHBOUR: 'it returns false'. Refute it at one input. -/
def fnHullsWrong : ChangeSpec := { name := "fnHulls", fn := fun _ => fun
  | [d] => { results := [.lit (.bool false)], args := [d] }
  | _ => none }
def FnHullsWrongFalsely : Prop := fnHullsRow.holds Try.pinned (OpenSpec.ofChange fnHullsWrong)

/-- 'laws.FnOpeners': WHATEVER THE INPUT: true; the input reads as it did. -/
def fnOpenersSpec : ChangeSpec := { name := "fnOpeners", fn := fun _ => fun
  | [d] => { results := [.lit (.bool true)], args := [d] }
  | _ => none }
def fnOpenersRow : OpenClaim := { program := "ytnfmcgfiaekaiaa", sum := "eeb21c38cf88891b5ff0c4798641bf41c903745366f3090eb22d327f26185057", func := "loop.example/g00947/laws.FnOpeners", spec := "fnOpeners", unfollowed := true, recurses := true, apart := false }
def FnOpenersSaid : Prop := fnOpenersRow.holds Try.pinned (OpenSpec.ofChange fnOpenersSpec)

/-- ITS FALSE NEIGHBOUR: 'it returns false'. Refute it at one input. -/
def fnOpenersWrong : ChangeSpec := { name := "fnOpeners", fn := fun _ => fun
  | [d] => { results := [.lit (.bool false)], args := [d] }
  | _ => none }
def FnOpenersWrongFalsely : Prop := fnOpenersRow.holds Try.pinned (OpenSpec.ofChange fnOpenersWrong)

/-- 'laws.FnMeetings': WHATEVER THE INPUT: true; the input reads as it did. -/
def fnMeetingsSpec : ChangeSpec := { name := "fnMeetings", fn := fun _ => fun
  | [d] => { results := [.lit (.bool true)], args := [d] }
  | _ => none }
def fnMeetingsRow : OpenClaim := { program := "ytnfmcgfiaekaiaa", sum := "eeb21c38cf88891b5ff0c4798641bf41c903745366f3090eb22d327f26185057", func := "loop.example/g00947/laws.FnMeetings", spec := "fnMeetings", unfollowed := true, recurses := true, apart := false }
def FnMeetingsSaid : Prop := fnMeetingsRow.holds Try.pinned (OpenSpec.ofChange fnMeetingsSpec)

/-- ITS FALSE NEIGHBOUR: 'it returns false'. Refute it at one input. -/
def fnMeetingsWrong : ChangeSpec := { name := "fnMeetings", fn := fun _ => fun
  | [d] => { results := [.lit (.bool false)], args := [d] }
  | _ => none }
def FnMeetingsWrongFalsely : Prop := fnMeetingsRow.holds Try.pinned (OpenSpec.ofChange fnMeetingsWrong)

/-- 'laws.FnThick': WHATEVER THE INPUT: true; the input reads as it did. -/
def fnThickSpec : ChangeSpec := { name := "fnThick", fn := fun _ => fun
  | [d] => { results := [.lit (.bool true)], args := [d] }
  | _ => none }
def fnThickRow : OpenClaim := { program := "ytnfmcgfiaekaiaa", sum := "eeb21c38cf88891b5ff0c4798641bf41c903745366f3090eb22d327f26185057", func := "loop.example/g00947/laws.FnThick", spec := "fnThick", recurses := true, apart := false }
def FnThickSaid : Prop := fnThickRow.holds Try.pinned (OpenSpec.ofChange fnThickSpec)

/-- ITS FALSE NEIGHBOUR: 'it returns false'. Refute it at one input. -/
def fnThickWrong : ChangeSpec := { name := "fnThick", fn := fun _ => fun
  | [d] => { results := [.lit (.bool false)], args := [d] }
  | _ => none }
def FnThickWrongFalsely : Prop := fnThickRow.holds Try.pinned (OpenSpec.ofChange fnThickWrong)

/-- 'laws.FnExactOpenersOf': WHATEVER THE INPUT: true; the input reads as it did. -/
def fnExactOpenersOfSpec : ChangeSpec := { name := "fnExactOpenersOf", fn := fun _ => fun
  | [d1, d2, d3] => { results := [.lit (.bool true)], args := [d1, d2, d3] }
  | _ => none }
def fnExactOpenersOfRow : OpenClaim := { program := "ytnfmcgfiaekaiaa", sum := "eeb21c38cf88891b5ff0c4798641bf41c903745366f3090eb22d327f26185057", func := "loop.example/g00947/laws.FnExactOpenersOf", spec := "fnExactOpenersOf", unfollowed := true, recurses := true, apart := false }
def FnExactOpenersOfSaid : Prop := fnExactOpenersOfRow.holds Try.pinned (OpenSpec.ofChange fnExactOpenersOfSpec)

/-- ITS FALSE NEIGHBOUR: 'it returns false'. Refute it at one input. -/
def fnExactOpenersOfWrong : ChangeSpec := { name := "fnExactOpenersOf", fn := fun _ => fun
  | [d1, d2, d3] => { results := [.lit (.bool false)], args := [d1, d2, d3] }
  | _ => none }
def FnExactOpenersOfWrongFalsely : Prop := fnExactOpenersOfRow.holds Try.pinned (OpenSpec.ofChange fnExactOpenersOfWrong)

/-- 'laws.FnExactMeetLocks': WHATEVER THE INPUT: true; the input reads as it did. -/
def fnExactMeetLocksSpec : ChangeSpec := { name := "fnExactMeetLocks", fn := fun _ => fun
  | [d1, d2, d3] => { results := [.lit (.bool true)], args := [d1, d2, d3] }
  | _ => none }
def fnExactMeetLocksRow : OpenClaim := { program := "ytnfmcgfiaekaiaa", sum := "eeb21c38cf88891b5ff0c4798641bf41c903745366f3090eb22d327f26185057", func := "loop.example/g00947/laws.FnExactMeetLocks", spec := "fnExactMeetLocks", apart := false }
def FnExactMeetLocksSaid : Prop := fnExactMeetLocksRow.holds Try.pinned (OpenSpec.ofChange fnExactMeetLocksSpec)

/-- ITS FALSE NEIGHBOUR: 'it returns false'. Refute it at one input. -/
def fnExactMeetLocksWrong : ChangeSpec := { name := "fnExactMeetLocks", fn := fun _ => fun
  | [d1, d2, d3] => { results := [.lit (.bool false)], args := [d1, d2, d3] }
  | _ => none }
def FnExactMeetLocksWrongFalsely : Prop := fnExactMeetLocksRow.holds Try.pinned (OpenSpec.ofChange fnExactMeetLocksWrong)

/-- 'laws.FnExactJoinLocks': WHATEVER THE INPUT: true; the input reads as it did. -/
def fnExactJoinLocksSpec : ChangeSpec := { name := "fnExactJoinLocks", fn := fun _ => fun
  | [d1, d2, d3] => { results := [.lit (.bool true)], args := [d1, d2, d3] }
  | _ => none }
def fnExactJoinLocksRow : OpenClaim := { program := "ytnfmcgfiaekaiaa", sum := "eeb21c38cf88891b5ff0c4798641bf41c903745366f3090eb22d327f26185057", func := "loop.example/g00947/laws.FnExactJoinLocks", spec := "fnExactJoinLocks", apart := false }
def FnExactJoinLocksSaid : Prop := fnExactJoinLocksRow.holds Try.pinned (OpenSpec.ofChange fnExactJoinLocksSpec)

/-- ITS FALSE NEIGHBOUR: 'it returns false'. Refute it at one input. -/
def fnExactJoinLocksWrong : ChangeSpec := { name := "fnExactJoinLocks", fn := fun _ => fun
  | [d1, d2, d3] => { results := [.lit (.bool false)], args := [d1, d2, d3] }
  | _ => none }
def FnExactJoinLocksWrongFalsely : Prop := fnExactJoinLocksRow.holds Try.pinned (OpenSpec.ofChange fnExactJoinLocksWrong)

/-- 'laws.FnExactPinsOf': WHATEVER THE INPUT: true; the input reads as it did. -/
def fnExactPinsOfSpec : ChangeSpec := { name := "fnExactPinsOf", fn := fun _ => fun
  | [d1, d2] => { results := [.lit (.bool true)], args := [d1, d2] }
  | _ => none }
def fnExactPinsOfRow : OpenClaim := { program := "ytnfmcgfiaekaiaa", sum := "eeb21c38cf88891b5ff0c4798641bf41c903745366f3090eb22d327f26185057", func := "loop.example/g00947/laws.FnExactPinsOf", spec := "fnExactPinsOf", apart := false }
def FnExactPinsOfSaid : Prop := fnExactPinsOfRow.holds Try.pinned (OpenSpec.ofChange fnExactPinsOfSpec)

/-- ITS FALSE NEIGHBOUR: 'it returns false'. Refute it at one input. -/
def fnExactPinsOfWrong : ChangeSpec := { name := "fnExactPinsOf", fn := fun _ => fun
  | [d1, d2] => { results := [.lit (.bool false)], args := [d1, d2] }
  | _ => none }
def FnExactPinsOfWrongFalsely : Prop := fnExactPinsOfRow.holds Try.pinned (OpenSpec.ofChange fnExactPinsOfWrong)

/-- 'laws.FnExactLockOfPins': WHATEVER THE INPUT: true; the input reads as it did. -/
def fnExactLockOfPinsSpec : ChangeSpec := { name := "fnExactLockOfPins", fn := fun _ => fun
  | [d1, d2] => { results := [.lit (.bool true)], args := [d1, d2] }
  | _ => none }
def fnExactLockOfPinsRow : OpenClaim := { program := "ytnfmcgfiaekaiaa", sum := "eeb21c38cf88891b5ff0c4798641bf41c903745366f3090eb22d327f26185057", func := "loop.example/g00947/laws.FnExactLockOfPins", spec := "fnExactLockOfPins", apart := false }
def FnExactLockOfPinsSaid : Prop := fnExactLockOfPinsRow.holds Try.pinned (OpenSpec.ofChange fnExactLockOfPinsSpec)

/-- ITS FALSE NEIGHBOUR: 'it returns false'. Refute it at one input. -/
def fnExactLockOfPinsWrong : ChangeSpec := { name := "fnExactLockOfPins", fn := fun _ => fun
  | [d1, d2] => { results := [.lit (.bool false)], args := [d1, d2] }
  | _ => none }
def FnExactLockOfPinsWrongFalsely : Prop := fnExactLockOfPinsRow.holds Try.pinned (OpenSpec.ofChange fnExactLockOfPinsWrong)

/-- 'laws.FnExactThinChambers': WHATEVER THE INPUT: true; the input reads as it did. -/
def fnExactThinChambersSpec : ChangeSpec := { name := "fnExactThinChambers", fn := fun _ => fun
  | [d1, d2, d3] => { results := [.lit (.bool true)], args := [d1, d2, d3] }
  | _ => none }
def fnExactThinChambersRow : OpenClaim := { program := "ytnfmcgfiaekaiaa", sum := "eeb21c38cf88891b5ff0c4798641bf41c903745366f3090eb22d327f26185057", func := "loop.example/g00947/laws.FnExactThinChambers", spec := "fnExactThinChambers", apart := false }
def FnExactThinChambersSaid : Prop := fnExactThinChambersRow.holds Try.pinned (OpenSpec.ofChange fnExactThinChambersSpec)

/-- ITS FALSE NEIGHBOUR: 'it returns false'. Refute it at one input. -/
def fnExactThinChambersWrong : ChangeSpec := { name := "fnExactThinChambers", fn := fun _ => fun
  | [d1, d2, d3] => { results := [.lit (.bool false)], args := [d1, d2, d3] }
  | _ => none }
def FnExactThinChambersWrongFalsely : Prop := fnExactThinChambersRow.holds Try.pinned (OpenSpec.ofChange fnExactThinChambersWrong)

/-- 'laws.FnExactThickenLock': WHATEVER THE INPUT: true; the input reads as it did. -/
def fnExactThickenLockSpec : ChangeSpec := { name := "fnExactThickenLock", fn := fun _ => fun
  | [d1, d2, d3] => { results := [.lit (.bool true)], args := [d1, d2, d3] }
  | _ => none }
def fnExactThickenLockRow : OpenClaim := { program := "ytnfmcgfiaekaiaa", sum := "eeb21c38cf88891b5ff0c4798641bf41c903745366f3090eb22d327f26185057", func := "loop.example/g00947/laws.FnExactThickenLock", spec := "fnExactThickenLock", apart := false }
def FnExactThickenLockSaid : Prop := fnExactThickenLockRow.holds Try.pinned (OpenSpec.ofChange fnExactThickenLockSpec)

/-- ITS FALSE NEIGHBOUR: 'it returns false'. Refute it at one input. -/
def fnExactThickenLockWrong : ChangeSpec := { name := "fnExactThickenLock", fn := fun _ => fun
  | [d1, d2, d3] => { results := [.lit (.bool false)], args := [d1, d2, d3] }
  | _ => none }
def FnExactThickenLockWrongFalsely : Prop := fnExactThickenLockRow.holds Try.pinned (OpenSpec.ofChange fnExactThickenLockWrong)

/-- 'laws.FnExactStockOf': WHATEVER THE INPUT: true; the input reads as it did. -/
def fnExactStockOfSpec : ChangeSpec := { name := "fnExactStockOf", fn := fun _ => fun
  | [d1, d2] => { results := [.lit (.bool true)], args := [d1, d2] }
  | _ => none }
def fnExactStockOfRow : OpenClaim := { program := "ytnfmcgfiaekaiaa", sum := "eeb21c38cf88891b5ff0c4798641bf41c903745366f3090eb22d327f26185057", func := "loop.example/g00947/laws.FnExactStockOf", spec := "fnExactStockOf", apart := false }
def FnExactStockOfSaid : Prop := fnExactStockOfRow.holds Try.pinned (OpenSpec.ofChange fnExactStockOfSpec)

/-- ITS FALSE NEIGHBOUR: 'it returns false'. Refute it at one input. -/
def fnExactStockOfWrong : ChangeSpec := { name := "fnExactStockOf", fn := fun _ => fun
  | [d1, d2] => { results := [.lit (.bool false)], args := [d1, d2] }
  | _ => none }
def FnExactStockOfWrongFalsely : Prop := fnExactStockOfRow.holds Try.pinned (OpenSpec.ofChange fnExactStockOfWrong)

/- THE SECOND FORM. 'bulk': how many values and letters a reading holds, each counted each time it is reached (what is shared counts as often as it is met; a slice's spare places count too). A statement '..UptoSaid' is the law's where the arguments, and the package variables that the reading takes, are together of bulk at most 1048576: NARROWER than '..Said'. Prove '..Said' where nothing that the law and all that it calls make is longer than what came in: it says more and counts as full. Else prove '..UptoSaid'. A law counts once. -/
mutual
def uptoBulk {H : Type} : DataW H → Nat
  | .lit (.string bytes) => bytes.length + 1
  | .lit _ => 1
  | .nil => 1
  | .ptr d => uptoBulk d + 1
  | .slice elems spare => uptoBulkAll elems + uptoBulkAll spare + 1
  | .agg parts => uptoBulkAll parts + 1
  | .iface _ d => uptoBulk d + 1
  | .map entries => uptoBulkEntries entries + 1
  | .held _ => 1
def uptoBulkAll {H : Type} : List (DataW H) → Nat
  | [] => 0
  | d :: r => uptoBulk d + uptoBulkAll r
def uptoBulkEntries {H : Type} : List (Lit × DataW H) → Nat
  | [] => 0
  | x :: r => uptoBulkEntry x + uptoBulkEntries r
def uptoBulkEntry {H : Type} : Lit × DataW H → Nat
  | (.string bytes, d) => bytes.length + uptoBulk d + 1
  | (_, d) => uptoBulk d + 1
 end
def uptoSmall : (H : Type) → List (DataW H) → Bool := fun _ ds => decide (uptoBulkAll ds ≤ 1048576)
def OpenSpec.upto (s : _root_.Go.ChangeSpec) : _root_.Go.OpenSpec := { _root_.Go.OpenSpec.ofChange s with cond := some uptoSmall }

/-- 'laws.FnHulls', WHERE WHAT IT READS IS OF BULK AT MOST 1048576: true; the input reads as it did. -/
def fnHullsUptoRow : OpenClaim := { program := "ytnfmcgfiaekaiaa", sum := "eeb21c38cf88891b5ff0c4798641bf41c903745366f3090eb22d327f26185057", func := "loop.example/g00947/laws.FnHulls", spec := "fnHulls", unfollowed := true, recurses := true, apart := false, narrowed := true }
def FnHullsUptoSaid : Prop := fnHullsUptoRow.holds Try.pinned (OpenSpec.upto fnHullsSpec)

/-- 'laws.FnOpeners', WHERE WHAT IT READS IS OF BULK AT MOST 1048576: true; the input reads as it did. -/
def fnOpenersUptoRow : OpenClaim := { program := "ytnfmcgfiaekaiaa", sum := "eeb21c38cf88891b5ff0c4798641bf41c903745366f3090eb22d327f26185057", func := "loop.example/g00947/laws.FnOpeners", spec := "fnOpeners", unfollowed := true, recurses := true, apart := false, narrowed := true }
def FnOpenersUptoSaid : Prop := fnOpenersUptoRow.holds Try.pinned (OpenSpec.upto fnOpenersSpec)

/-- 'laws.FnMeetings', WHERE WHAT IT READS IS OF BULK AT MOST 1048576: true; the input reads as it did. -/
def fnMeetingsUptoRow : OpenClaim := { program := "ytnfmcgfiaekaiaa", sum := "eeb21c38cf88891b5ff0c4798641bf41c903745366f3090eb22d327f26185057", func := "loop.example/g00947/laws.FnMeetings", spec := "fnMeetings", unfollowed := true, recurses := true, apart := false, narrowed := true }
def FnMeetingsUptoSaid : Prop := fnMeetingsUptoRow.holds Try.pinned (OpenSpec.upto fnMeetingsSpec)

/-- 'laws.FnThick', WHERE WHAT IT READS IS OF BULK AT MOST 1048576: true; the input reads as it did. -/
def fnThickUptoRow : OpenClaim := { program := "ytnfmcgfiaekaiaa", sum := "eeb21c38cf88891b5ff0c4798641bf41c903745366f3090eb22d327f26185057", func := "loop.example/g00947/laws.FnThick", spec := "fnThick", recurses := true, apart := false, narrowed := true }
def FnThickUptoSaid : Prop := fnThickUptoRow.holds Try.pinned (OpenSpec.upto fnThickSpec)

/-- 'laws.FnExactOpenersOf', WHERE WHAT IT READS IS OF BULK AT MOST 1048576: true; the input reads as it did. -/
def fnExactOpenersOfUptoRow : OpenClaim := { program := "ytnfmcgfiaekaiaa", sum := "eeb21c38cf88891b5ff0c4798641bf41c903745366f3090eb22d327f26185057", func := "loop.example/g00947/laws.FnExactOpenersOf", spec := "fnExactOpenersOf", unfollowed := true, recurses := true, apart := false, narrowed := true }
def FnExactOpenersOfUptoSaid : Prop := fnExactOpenersOfUptoRow.holds Try.pinned (OpenSpec.upto fnExactOpenersOfSpec)

/-- 'laws.FnExactMeetLocks', WHERE WHAT IT READS IS OF BULK AT MOST 1048576: true; the input reads as it did. -/
def fnExactMeetLocksUptoRow : OpenClaim := { program := "ytnfmcgfiaekaiaa", sum := "eeb21c38cf88891b5ff0c4798641bf41c903745366f3090eb22d327f26185057", func := "loop.example/g00947/laws.FnExactMeetLocks", spec := "fnExactMeetLocks", apart := false, narrowed := true }
def FnExactMeetLocksUptoSaid : Prop := fnExactMeetLocksUptoRow.holds Try.pinned (OpenSpec.upto fnExactMeetLocksSpec)

/-- 'laws.FnExactJoinLocks', WHERE WHAT IT READS IS OF BULK AT MOST 1048576: true; the input reads as it did. -/
def fnExactJoinLocksUptoRow : OpenClaim := { program := "ytnfmcgfiaekaiaa", sum := "eeb21c38cf88891b5ff0c4798641bf41c903745366f3090eb22d327f26185057", func := "loop.example/g00947/laws.FnExactJoinLocks", spec := "fnExactJoinLocks", apart := false, narrowed := true }
def FnExactJoinLocksUptoSaid : Prop := fnExactJoinLocksUptoRow.holds Try.pinned (OpenSpec.upto fnExactJoinLocksSpec)

/-- 'laws.FnExactPinsOf', WHERE WHAT IT READS IS OF BULK AT MOST 1048576: true; the input reads as it did. -/
def fnExactPinsOfUptoRow : OpenClaim := { program := "ytnfmcgfiaekaiaa", sum := "eeb21c38cf88891b5ff0c4798641bf41c903745366f3090eb22d327f26185057", func := "loop.example/g00947/laws.FnExactPinsOf", spec := "fnExactPinsOf", apart := false, narrowed := true }
def FnExactPinsOfUptoSaid : Prop := fnExactPinsOfUptoRow.holds Try.pinned (OpenSpec.upto fnExactPinsOfSpec)

/-- 'laws.FnExactLockOfPins', WHERE WHAT IT READS IS OF BULK AT MOST 1048576: true; the input reads as it did. -/
def fnExactLockOfPinsUptoRow : OpenClaim := { program := "ytnfmcgfiaekaiaa", sum := "eeb21c38cf88891b5ff0c4798641bf41c903745366f3090eb22d327f26185057", func := "loop.example/g00947/laws.FnExactLockOfPins", spec := "fnExactLockOfPins", apart := false, narrowed := true }
def FnExactLockOfPinsUptoSaid : Prop := fnExactLockOfPinsUptoRow.holds Try.pinned (OpenSpec.upto fnExactLockOfPinsSpec)

/-- 'laws.FnExactThinChambers', WHERE WHAT IT READS IS OF BULK AT MOST 1048576: true; the input reads as it did. -/
def fnExactThinChambersUptoRow : OpenClaim := { program := "ytnfmcgfiaekaiaa", sum := "eeb21c38cf88891b5ff0c4798641bf41c903745366f3090eb22d327f26185057", func := "loop.example/g00947/laws.FnExactThinChambers", spec := "fnExactThinChambers", apart := false, narrowed := true }
def FnExactThinChambersUptoSaid : Prop := fnExactThinChambersUptoRow.holds Try.pinned (OpenSpec.upto fnExactThinChambersSpec)

/-- 'laws.FnExactThickenLock', WHERE WHAT IT READS IS OF BULK AT MOST 1048576: true; the input reads as it did. -/
def fnExactThickenLockUptoRow : OpenClaim := { program := "ytnfmcgfiaekaiaa", sum := "eeb21c38cf88891b5ff0c4798641bf41c903745366f3090eb22d327f26185057", func := "loop.example/g00947/laws.FnExactThickenLock", spec := "fnExactThickenLock", apart := false, narrowed := true }
def FnExactThickenLockUptoSaid : Prop := fnExactThickenLockUptoRow.holds Try.pinned (OpenSpec.upto fnExactThickenLockSpec)

/-- 'laws.FnExactStockOf', WHERE WHAT IT READS IS OF BULK AT MOST 1048576: true; the input reads as it did. -/
def fnExactStockOfUptoRow : OpenClaim := { program := "ytnfmcgfiaekaiaa", sum := "eeb21c38cf88891b5ff0c4798641bf41c903745366f3090eb22d327f26185057", func := "loop.example/g00947/laws.FnExactStockOf", spec := "fnExactStockOf", apart := false, narrowed := true }
def FnExactStockOfUptoSaid : Prop := fnExactStockOfUptoRow.holds Try.pinned (OpenSpec.upto fnExactStockOfSpec)

end Rows
end Go.Proofs.Ytnfmcgfiaekaiaa
