/-
  No cell of these rows narrows 'for every input' (looked for: loops, veiled, ifaces, maps, wideKeys, modest, calm, conditions, laid).
  DERIVED. THE GIVEN ROWS OF THIS SEAT. 8 by the template 'for every input the law returns true; each argument reads behind the call as it read before'; 0 by the template 'total and deterministic' (their statements: YtjoknbknhfnggaaTotals.lean).
  GIVEN WITH THE SEED: the statements are not yours to turn. If you find one false, say at which input.
  Laid BY PROGRAM, IN A SANDBOX (cutbox-rows.mjs): the forced cells as the released guide's own fill.sh prints them over the translation 019cf8615c55f52a… (all of the seat's roots in one cut). By AI agents, Wed Nov 11 2026. No macro, syntax, notation, axiom, sorry.
-/
import Derived.Test.YtjoknbknhfnggaaChecked
import GoSem.Claim
import GoSem.ClaimJoined
import GoSem.ClaimMapViews
import Derived.JoinedTies
import Derived.KernelRfl
namespace Go.Proofs.Ytjoknbknhfnggaa
/- THE CELL 'sum', in the pinned program and in every row, IS THE sha256 OF THE DUMP (.gsa) THAT YtjoknbknhfnggaaProg.lean LOADS. Nothing in Lean hashes anything: it is a label: what it is worth is what the hold of that sum in a sandbox is worth. -/
noncomputable def Try.pinned : Pinned := { name := "ytjoknbknhfnggaa", sum := "019cf8615c55f52a521648385cc55a8417c2e25f6692683c60867225fc9978d7", checked := Try.checked }
namespace Rows
def none {H : Type} : Left H := { results := [], args := [] }

/-- 'laws.FnHulls': WHATEVER THE INPUT: true; the input reads as it did. -/
def fnHullsSpec : ChangeSpec := { name := "fnHulls", fn := fun _ => fun
  | [d] => { results := [.lit (.bool true)], args := [d] }
  | _ => none }
def fnHullsRow : OpenClaim := { program := "ytjoknbknhfnggaa", sum := "019cf8615c55f52a521648385cc55a8417c2e25f6692683c60867225fc9978d7", func := "loop.example/g00947/laws.FnHulls", spec := "fnHulls", unfollowed := true, recurses := true, apart := false }
def FnHullsSaid : Prop := fnHullsRow.holds Try.pinned (OpenSpec.ofChange fnHullsSpec)

/-- ITS FALSE NEIGHBOUR: 'it returns false'. Refute it at one input. -/
def fnHullsWrong : ChangeSpec := { name := "fnHulls", fn := fun _ => fun
  | [d] => { results := [.lit (.bool false)], args := [d] }
  | _ => none }
def FnHullsWrongFalsely : Prop := fnHullsRow.holds Try.pinned (OpenSpec.ofChange fnHullsWrong)

/-- 'laws.FnOpeners': WHATEVER THE INPUT: true; the input reads as it did. -/
def fnOpenersSpec : ChangeSpec := { name := "fnOpeners", fn := fun _ => fun
  | [d] => { results := [.lit (.bool true)], args := [d] }
  | _ => none }
def fnOpenersRow : OpenClaim := { program := "ytjoknbknhfnggaa", sum := "019cf8615c55f52a521648385cc55a8417c2e25f6692683c60867225fc9978d7", func := "loop.example/g00947/laws.FnOpeners", spec := "fnOpeners", unfollowed := true, recurses := true, apart := false }
def FnOpenersSaid : Prop := fnOpenersRow.holds Try.pinned (OpenSpec.ofChange fnOpenersSpec)

/-- ITS FALSE NEIGHBOUR: 'it returns false'. Refute it at one input. -/
def fnOpenersWrong : ChangeSpec := { name := "fnOpeners", fn := fun _ => fun
  | [d] => { results := [.lit (.bool false)], args := [d] }
  | _ => none }
def FnOpenersWrongFalsely : Prop := fnOpenersRow.holds Try.pinned (OpenSpec.ofChange fnOpenersWrong)

/-- 'laws.FnMeetings': WHATEVER THE INPUT: true; the input reads as it did. -/
def fnMeetingsSpec : ChangeSpec := { name := "fnMeetings", fn := fun _ => fun
  | [d] => { results := [.lit (.bool true)], args := [d] }
  | _ => none }
def fnMeetingsRow : OpenClaim := { program := "ytjoknbknhfnggaa", sum := "019cf8615c55f52a521648385cc55a8417c2e25f6692683c60867225fc9978d7", func := "loop.example/g00947/laws.FnMeetings", spec := "fnMeetings", unfollowed := true, recurses := true, apart := false }
def FnMeetingsSaid : Prop := fnMeetingsRow.holds Try.pinned (OpenSpec.ofChange fnMeetingsSpec)

/-- ITS FALSE NEIGHBOUR: 'it returns false'. Refute it at one input. -/
def fnMeetingsWrong : ChangeSpec := { name := "fnMeetings", fn := fun _ => fun
  | [d] => { results := [.lit (.bool false)], args := [d] }
  | _ => none }
def FnMeetingsWrongFalsely : Prop := fnMeetingsRow.holds Try.pinned (OpenSpec.ofChange fnMeetingsWrong)

/-- 'laws.FnThick': WHATEVER THE INPUT: true; the input reads as it did. -/
def fnThickSpec : ChangeSpec := { name := "fnThick", fn := fun _ => fun
  | [d] => { results := [.lit (.bool true)], args := [d] }
  | _ => none }
def fnThickRow : OpenClaim := { program := "ytjoknbknhfnggaa", sum := "019cf8615c55f52a521648385cc55a8417c2e25f6692683c60867225fc9978d7", func := "loop.example/g00947/laws.FnThick", spec := "fnThick", recurses := true, apart := false }
def FnThickSaid : Prop := fnThickRow.holds Try.pinned (OpenSpec.ofChange fnThickSpec)

/-- ITS FALSE NEIGHBOUR: 'it returns false'. Refute it at one input. -/
def fnThickWrong : ChangeSpec := { name := "fnThick", fn := fun _ => fun
  | [d] => { results := [.lit (.bool false)], args := [d] }
  | _ => none }
def FnThickWrongFalsely : Prop := fnThickRow.holds Try.pinned (OpenSpec.ofChange fnThickWrong)

/-- 'laws.FnExactPinsOf': WHATEVER THE INPUT: true; the input reads as it did. -/
def fnExactPinsOfSpec : ChangeSpec := { name := "fnExactPinsOf", fn := fun _ => fun
  | [d1, d2] => { results := [.lit (.bool true)], args := [d1, d2] }
  | _ => none }
def fnExactPinsOfRow : OpenClaim := { program := "ytjoknbknhfnggaa", sum := "019cf8615c55f52a521648385cc55a8417c2e25f6692683c60867225fc9978d7", func := "loop.example/g00947/laws.FnExactPinsOf", spec := "fnExactPinsOf", apart := false }
def FnExactPinsOfSaid : Prop := fnExactPinsOfRow.holds Try.pinned (OpenSpec.ofChange fnExactPinsOfSpec)

/-- ITS FALSE NEIGHBOUR: 'it returns false'. Refute it at one input. -/
def fnExactPinsOfWrong : ChangeSpec := { name := "fnExactPinsOf", fn := fun _ => fun
  | [d1, d2] => { results := [.lit (.bool false)], args := [d1, d2] }
  | _ => none }
def FnExactPinsOfWrongFalsely : Prop := fnExactPinsOfRow.holds Try.pinned (OpenSpec.ofChange fnExactPinsOfWrong)

/-- 'laws.FnExactLockOfPins': WHATEVER THE INPUT: true; the input reads as it did. -/
def fnExactLockOfPinsSpec : ChangeSpec := { name := "fnExactLockOfPins", fn := fun _ => fun
  | [d1, d2] => { results := [.lit (.bool true)], args := [d1, d2] }
  | _ => none }
def fnExactLockOfPinsRow : OpenClaim := { program := "ytjoknbknhfnggaa", sum := "019cf8615c55f52a521648385cc55a8417c2e25f6692683c60867225fc9978d7", func := "loop.example/g00947/laws.FnExactLockOfPins", spec := "fnExactLockOfPins", apart := false }
def FnExactLockOfPinsSaid : Prop := fnExactLockOfPinsRow.holds Try.pinned (OpenSpec.ofChange fnExactLockOfPinsSpec)

/-- ITS FALSE NEIGHBOUR: 'it returns false'. Refute it at one input. -/
def fnExactLockOfPinsWrong : ChangeSpec := { name := "fnExactLockOfPins", fn := fun _ => fun
  | [d1, d2] => { results := [.lit (.bool false)], args := [d1, d2] }
  | _ => none }
def FnExactLockOfPinsWrongFalsely : Prop := fnExactLockOfPinsRow.holds Try.pinned (OpenSpec.ofChange fnExactLockOfPinsWrong)

/-- 'laws.FnExactThinChambers': WHATEVER THE INPUT: true; the input reads as it did. -/
def fnExactThinChambersSpec : ChangeSpec := { name := "fnExactThinChambers", fn := fun _ => fun
  | [d1, d2, d3] => { results := [.lit (.bool true)], args := [d1, d2, d3] }
  | _ => none }
def fnExactThinChambersRow : OpenClaim := { program := "ytjoknbknhfnggaa", sum := "019cf8615c55f52a521648385cc55a8417c2e25f6692683c60867225fc9978d7", func := "loop.example/g00947/laws.FnExactThinChambers", spec := "fnExactThinChambers", apart := false }
def FnExactThinChambersSaid : Prop := fnExactThinChambersRow.holds Try.pinned (OpenSpec.ofChange fnExactThinChambersSpec)

/-- ITS FALSE NEIGHBOUR: 'it returns false'. Refute it at one input. -/
def fnExactThinChambersWrong : ChangeSpec := { name := "fnExactThinChambers", fn := fun _ => fun
  | [d1, d2, d3] => { results := [.lit (.bool false)], args := [d1, d2, d3] }
  | _ => none }
def FnExactThinChambersWrongFalsely : Prop := fnExactThinChambersRow.holds Try.pinned (OpenSpec.ofChange fnExactThinChambersWrong)

/-- 'laws.FnExactStockOf': WHATEVER THE INPUT: true; the input reads as it did. -/
def fnExactStockOfSpec : ChangeSpec := { name := "fnExactStockOf", fn := fun _ => fun
  | [d1, d2] => { results := [.lit (.bool true)], args := [d1, d2] }
  | _ => none }
def fnExactStockOfRow : OpenClaim := { program := "ytjoknbknhfnggaa", sum := "019cf8615c55f52a521648385cc55a8417c2e25f6692683c60867225fc9978d7", func := "loop.example/g00947/laws.FnExactStockOf", spec := "fnExactStockOf", apart := false }
def FnExactStockOfSaid : Prop := fnExactStockOfRow.holds Try.pinned (OpenSpec.ofChange fnExactStockOfSpec)

/-- ITS FALSE NEIGHBOUR: 'it returns false'. Refute it at one input. -/
def fnExactStockOfWrong : ChangeSpec := { name := "fnExactStockOf", fn := fun _ => fun
  | [d1, d2] => { results := [.lit (.bool false)], args := [d1, d2] }
  | _ => none }
def FnExactStockOfWrongFalsely : Prop := fnExactStockOfRow.holds Try.pinned (OpenSpec.ofChange fnExactStockOfWrong)

/- THE SECOND FORM. 'bulk': how many values and letters a reading holds, each counted each time it is reached (what is shared counts as often as it is met; a slice's spare places count too). A statement '..UptoSaid' is the law's where the arguments, and the package variables that the reading takes, are together of bulk at most 1048576: NARROWER than '..Said'. Prove '..Said' where nothing that the law and all that it calls make is longer than what came in: it says more and counts as full. Else prove '..UptoSaid'. A law counts once. -/
mutual
def uptoBulk {H : Type} : DataW H → Nat
  | .lit (.string bytes) => bytes.length + 1
  | .lit _ => 1
  | .nil => 1
  | .ptr d => uptoBulk d + 1
  | .slice elems spare => uptoBulkAll elems + uptoBulkAll spare + 1
  | .agg parts => uptoBulkAll parts + 1
  | .iface _ d => uptoBulk d + 1
  | .map entries => uptoBulkEntries entries + 1
  | .held _ => 1
def uptoBulkAll {H : Type} : List (DataW H) → Nat
  | [] => 0
  | d :: r => uptoBulk d + uptoBulkAll r
def uptoBulkEntries {H : Type} : List (Lit × DataW H) → Nat
  | [] => 0
  | x :: r => uptoBulkEntry x + uptoBulkEntries r
def uptoBulkEntry {H : Type} : Lit × DataW H → Nat
  | (.string bytes, d) => bytes.length + uptoBulk d + 1
  | (_, d) => uptoBulk d + 1
 end
def uptoSmall : (H : Type) → List (DataW H) → Bool := fun _ ds => decide (uptoBulkAll ds ≤ 1048576)
def OpenSpec.upto (s : _root_.Go.ChangeSpec) : _root_.Go.OpenSpec := { _root_.Go.OpenSpec.ofChange s with cond := some uptoSmall }

/-- 'laws.FnHulls', WHERE WHAT IT READS IS OF BULK AT MOST 1048576: true; the input reads as it did. -/
def fnHullsUptoRow : OpenClaim := { program := "ytjoknbknhfnggaa", sum := "019cf8615c55f52a521648385cc55a8417c2e25f6692683c60867225fc9978d7", func := "loop.example/g00947/laws.FnHulls", spec := "fnHulls", unfollowed := true, recurses := true, apart := false, narrowed := true }
def FnHullsUptoSaid : Prop := fnHullsUptoRow.holds Try.pinned (OpenSpec.upto fnHullsSpec)

/-- 'laws.FnOpeners', WHERE WHAT IT READS IS OF BULK AT MOST 1048576: true; the input reads as it did. -/
def fnOpenersUptoRow : OpenClaim := { program := "ytjoknbknhfnggaa", sum := "019cf8615c55f52a521648385cc55a8417c2e25f6692683c60867225fc9978d7", func := "loop.example/g00947/laws.FnOpeners", spec := "fnOpeners", unfollowed := true, recurses := true, apart := false, narrowed := true }
def FnOpenersUptoSaid : Prop := fnOpenersUptoRow.holds Try.pinned (OpenSpec.upto fnOpenersSpec)

/-- 'laws.FnMeetings', WHERE WHAT IT READS IS OF BULK AT MOST 1048576: true; the input reads as it did. -/
def fnMeetingsUptoRow : OpenClaim := { program := "ytjoknbknhfnggaa", sum := "019cf8615c55f52a521648385cc55a8417c2e25f6692683c60867225fc9978d7", func := "loop.example/g00947/laws.FnMeetings", spec := "fnMeetings", unfollowed := true, recurses := true, apart := false, narrowed := true }
def FnMeetingsUptoSaid : Prop := fnMeetingsUptoRow.holds Try.pinned (OpenSpec.upto fnMeetingsSpec)

/-- 'laws.FnThick', WHERE WHAT IT READS IS OF BULK AT MOST 1048576: true; the input reads as it did. -/
def fnThickUptoRow : OpenClaim := { program := "ytjoknbknhfnggaa", sum := "019cf8615c55f52a521648385cc55a8417c2e25f6692683c60867225fc9978d7", func := "loop.example/g00947/laws.FnThick", spec := "fnThick", recurses := true, apart := false, narrowed := true }
def FnThickUptoSaid : Prop := fnThickUptoRow.holds Try.pinned (OpenSpec.upto fnThickSpec)

/-- 'laws.FnExactPinsOf', WHERE WHAT IT READS IS OF BULK AT MOST 1048576: true; the input reads as it did. -/
def fnExactPinsOfUptoRow : OpenClaim := { program := "ytjoknbknhfnggaa", sum := "019cf8615c55f52a521648385cc55a8417c2e25f6692683c60867225fc9978d7", func := "loop.example/g00947/laws.FnExactPinsOf", spec := "fnExactPinsOf", apart := false, narrowed := true }
def FnExactPinsOfUptoSaid : Prop := fnExactPinsOfUptoRow.holds Try.pinned (OpenSpec.upto fnExactPinsOfSpec)

/-- 'laws.FnExactLockOfPins', WHERE WHAT IT READS IS OF BULK AT MOST 1048576: true; the input reads as it did. -/
def fnExactLockOfPinsUptoRow : OpenClaim := { program := "ytjoknbknhfnggaa", sum := "019cf8615c55f52a521648385cc55a8417c2e25f6692683c60867225fc9978d7", func := "loop.example/g00947/laws.FnExactLockOfPins", spec := "fnExactLockOfPins", apart := false, narrowed := true }
def FnExactLockOfPinsUptoSaid : Prop := fnExactLockOfPinsUptoRow.holds Try.pinned (OpenSpec.upto fnExactLockOfPinsSpec)

/-- 'laws.FnExactThinChambers', WHERE WHAT IT READS IS OF BULK AT MOST 1048576: true; the input reads as it did. -/
def fnExactThinChambersUptoRow : OpenClaim := { program := "ytjoknbknhfnggaa", sum := "019cf8615c55f52a521648385cc55a8417c2e25f6692683c60867225fc9978d7", func := "loop.example/g00947/laws.FnExactThinChambers", spec := "fnExactThinChambers", apart := false, narrowed := true }
def FnExactThinChambersUptoSaid : Prop := fnExactThinChambersUptoRow.holds Try.pinned (OpenSpec.upto fnExactThinChambersSpec)

/-- 'laws.FnExactStockOf', WHERE WHAT IT READS IS OF BULK AT MOST 1048576: true; the input reads as it did. -/
def fnExactStockOfUptoRow : OpenClaim := { program := "ytjoknbknhfnggaa", sum := "019cf8615c55f52a521648385cc55a8417c2e25f6692683c60867225fc9978d7", func := "loop.example/g00947/laws.FnExactStockOf", spec := "fnExactStockOf", apart := false, narrowed := true }
def FnExactStockOfUptoSaid : Prop := fnExactStockOfUptoRow.holds Try.pinned (OpenSpec.upto fnExactStockOfSpec)

end Rows
end Go.Proofs.Ytjoknbknhfnggaa
