/-
  No cell of these rows narrows 'for every input' (looked for: loops, veiled, ifaces, maps, wideKeys, modest, calm, conditions, laid).
  DERIVED. THE GIVEN ROWS OF THIS SEAT. 10 by the template 'for every input the law returns true; each argument reads behind the call as it read before'; 0 by the template 'total and deterministic' (their statements: YtpabccgndhmcdaaTotals.lean).
  GIVEN WITH THE SEED: the statements are not yours to turn. If you find one false, say at which input.
  Laid BY PROGRAM, IN A SANDBOX (cutbox-rows.mjs): the forced cells as the released guide's own fill.sh prints them over the translation b9ed25c859e35d89… (all of the seat's roots in one cut). By AI agents, Wed Nov 11 2026. No macro, syntax, notation, axiom, sorry.
-/
import Derived.Test.YtpabccgndhmcdaaChecked
import GoSem.Claim
import GoSem.ClaimJoined
import GoSem.ClaimMapViews
import Derived.JoinedTies
import Derived.KernelRfl
namespace Go.Proofs.Ytpabccgndhmcdaa
/- THE CELL 'sum', in the pinned program and in every row, IS THE sha256 OF THE DUMP (.gsa) THAT YtpabccgndhmcdaaProg.lean LOADS. Nothing in Lean hashes anything: it is a label: what it is worth is what the hold of that sum in a sandbox is worth. -/
noncomputable def Try.pinned : Pinned := { name := "ytpabccgndhmcdaa", sum := "b9ed25c859e35d898fd9bea933d157ada2c6efb604b2b0ada26fce12e0246c59", checked := Try.checked }
namespace Rows
def none {H : Type} : Left H := { results := [], args := [] }

/-- 'laws.FnFamilies': WHATEVER THE INPUT: true; the input reads as it did. -/
def fnFamiliesSpec : ChangeSpec := { name := "fnFamilies", fn := fun _ => fun
  | [d] => { results := [.lit (.bool true)], args := [d] }
  | _ => none }
def fnFamiliesRow : OpenClaim := { program := "ytpabccgndhmcdaa", sum := "b9ed25c859e35d898fd9bea933d157ada2c6efb604b2b0ada26fce12e0246c59", func := "loop.example/g00947/laws.FnFamilies", spec := "fnFamilies", unfollowed := true, recurses := true, plainKeys := false, apart := false }
def FnFamiliesSaid : Prop := fnFamiliesRow.holds Try.pinned (OpenSpec.ofChange fnFamiliesSpec)

/-- ITS FALSE NEIGHBOUR: 'it returns false'. Refute it at one input. -/
def fnFamiliesWrong : ChangeSpec := { name := "fnFamilies", fn := fun _ => fun
  | [d] => { results := [.lit (.bool false)], args := [d] }
  | _ => none }
def FnFamiliesWrongFalsely : Prop := fnFamiliesRow.holds Try.pinned (OpenSpec.ofChange fnFamiliesWrong)

/-- 'laws.FnSides': WHATEVER THE INPUT: true; the input reads as it did. -/
def fnSidesSpec : ChangeSpec := { name := "fnSides", fn := fun _ => fun
  | [d] => { results := [.lit (.bool true)], args := [d] }
  | _ => none }
def fnSidesRow : OpenClaim := { program := "ytpabccgndhmcdaa", sum := "b9ed25c859e35d898fd9bea933d157ada2c6efb604b2b0ada26fce12e0246c59", func := "loop.example/g00947/laws.FnSides", spec := "fnSides", unfollowed := true, recurses := true, plainKeys := false, apart := false }
def FnSidesSaid : Prop := fnSidesRow.holds Try.pinned (OpenSpec.ofChange fnSidesSpec)

/-- ITS FALSE NEIGHBOUR: 'it returns false'. Refute it at one input. -/
def fnSidesWrong : ChangeSpec := { name := "fnSides", fn := fun _ => fun
  | [d] => { results := [.lit (.bool false)], args := [d] }
  | _ => none }
def FnSidesWrongFalsely : Prop := fnSidesRow.holds Try.pinned (OpenSpec.ofChange fnSidesWrong)

/-- 'laws.FnExactIsSideCode': WHATEVER THE INPUT: true; the input reads as it did. -/
def fnExactIsSideCodeSpec : ChangeSpec := { name := "fnExactIsSideCode", fn := fun _ => fun
  | [d1, d2, d3] => { results := [.lit (.bool true)], args := [d1, d2, d3] }
  | _ => none }
def fnExactIsSideCodeRow : OpenClaim := { program := "ytpabccgndhmcdaa", sum := "b9ed25c859e35d898fd9bea933d157ada2c6efb604b2b0ada26fce12e0246c59", func := "loop.example/g00947/laws.FnExactIsSideCode", spec := "fnExactIsSideCode", plainKeys := false, apart := false }
def FnExactIsSideCodeSaid : Prop := fnExactIsSideCodeRow.holds Try.pinned (OpenSpec.ofChange fnExactIsSideCodeSpec)

/-- ITS FALSE NEIGHBOUR: 'it returns false'. Refute it at one input. -/
def fnExactIsSideCodeWrong : ChangeSpec := { name := "fnExactIsSideCode", fn := fun _ => fun
  | [d1, d2, d3] => { results := [.lit (.bool false)], args := [d1, d2, d3] }
  | _ => none }
def FnExactIsSideCodeWrongFalsely : Prop := fnExactIsSideCodeRow.holds Try.pinned (OpenSpec.ofChange fnExactIsSideCodeWrong)

/-- 'laws.FnExactCountSideCodes': WHATEVER THE INPUT: true; the input reads as it did. -/
def fnExactCountSideCodesSpec : ChangeSpec := { name := "fnExactCountSideCodes", fn := fun _ => fun
  | [d1, d2] => { results := [.lit (.bool true)], args := [d1, d2] }
  | _ => none }
def fnExactCountSideCodesRow : OpenClaim := { program := "ytpabccgndhmcdaa", sum := "b9ed25c859e35d898fd9bea933d157ada2c6efb604b2b0ada26fce12e0246c59", func := "loop.example/g00947/laws.FnExactCountSideCodes", spec := "fnExactCountSideCodes", plainKeys := false, apart := false }
def FnExactCountSideCodesSaid : Prop := fnExactCountSideCodesRow.holds Try.pinned (OpenSpec.ofChange fnExactCountSideCodesSpec)

/-- ITS FALSE NEIGHBOUR: 'it returns false'. Refute it at one input. -/
def fnExactCountSideCodesWrong : ChangeSpec := { name := "fnExactCountSideCodes", fn := fun _ => fun
  | [d1, d2] => { results := [.lit (.bool false)], args := [d1, d2] }
  | _ => none }
def FnExactCountSideCodesWrongFalsely : Prop := fnExactCountSideCodesRow.holds Try.pinned (OpenSpec.ofChange fnExactCountSideCodesWrong)

/-- 'laws.FnExactSideDistance': WHATEVER THE INPUT: true; the input reads as it did. -/
def fnExactSideDistanceSpec : ChangeSpec := { name := "fnExactSideDistance", fn := fun _ => fun
  | [d1, d2, d3, d4] => { results := [.lit (.bool true)], args := [d1, d2, d3, d4] }
  | _ => none }
def fnExactSideDistanceRow : OpenClaim := { program := "ytpabccgndhmcdaa", sum := "b9ed25c859e35d898fd9bea933d157ada2c6efb604b2b0ada26fce12e0246c59", func := "loop.example/g00947/laws.FnExactSideDistance", spec := "fnExactSideDistance", plainKeys := false, apart := false }
def FnExactSideDistanceSaid : Prop := fnExactSideDistanceRow.holds Try.pinned (OpenSpec.ofChange fnExactSideDistanceSpec)

/-- ITS FALSE NEIGHBOUR: 'it returns false'. Refute it at one input. -/
def fnExactSideDistanceWrong : ChangeSpec := { name := "fnExactSideDistance", fn := fun _ => fun
  | [d1, d2, d3, d4] => { results := [.lit (.bool false)], args := [d1, d2, d3, d4] }
  | _ => none }
def FnExactSideDistanceWrongFalsely : Prop := fnExactSideDistanceRow.holds Try.pinned (OpenSpec.ofChange fnExactSideDistanceWrong)

/-- 'laws.FnExactFamiliesOf': WHATEVER THE INPUT: true; the input reads as it did. -/
def fnExactFamiliesOfSpec : ChangeSpec := { name := "fnExactFamiliesOf", fn := fun _ => fun
  | [d1, d2, d3, d4] => { results := [.lit (.bool true)], args := [d1, d2, d3, d4] }
  | _ => none }
def fnExactFamiliesOfRow : OpenClaim := { program := "ytpabccgndhmcdaa", sum := "b9ed25c859e35d898fd9bea933d157ada2c6efb604b2b0ada26fce12e0246c59", func := "loop.example/g00947/laws.FnExactFamiliesOf", spec := "fnExactFamiliesOf", unfollowed := true, recurses := true, plainKeys := false, apart := false }
def FnExactFamiliesOfSaid : Prop := fnExactFamiliesOfRow.holds Try.pinned (OpenSpec.ofChange fnExactFamiliesOfSpec)

/-- ITS FALSE NEIGHBOUR: 'it returns false'. Refute it at one input. -/
def fnExactFamiliesOfWrong : ChangeSpec := { name := "fnExactFamiliesOf", fn := fun _ => fun
  | [d1, d2, d3, d4] => { results := [.lit (.bool false)], args := [d1, d2, d3, d4] }
  | _ => none }
def FnExactFamiliesOfWrongFalsely : Prop := fnExactFamiliesOfRow.holds Try.pinned (OpenSpec.ofChange fnExactFamiliesOfWrong)

/-- 'laws.FnExactCountFamilies': WHATEVER THE INPUT: true; the input reads as it did. -/
def fnExactCountFamiliesSpec : ChangeSpec := { name := "fnExactCountFamilies", fn := fun _ => fun
  | [d1, d2, d3] => { results := [.lit (.bool true)], args := [d1, d2, d3] }
  | _ => none }
def fnExactCountFamiliesRow : OpenClaim := { program := "ytpabccgndhmcdaa", sum := "b9ed25c859e35d898fd9bea933d157ada2c6efb604b2b0ada26fce12e0246c59", func := "loop.example/g00947/laws.FnExactCountFamilies", spec := "fnExactCountFamilies", unfollowed := true, recurses := true, plainKeys := false, apart := false }
def FnExactCountFamiliesSaid : Prop := fnExactCountFamiliesRow.holds Try.pinned (OpenSpec.ofChange fnExactCountFamiliesSpec)

/-- ITS FALSE NEIGHBOUR: 'it returns false'. Refute it at one input. -/
def fnExactCountFamiliesWrong : ChangeSpec := { name := "fnExactCountFamilies", fn := fun _ => fun
  | [d1, d2, d3] => { results := [.lit (.bool false)], args := [d1, d2, d3] }
  | _ => none }
def FnExactCountFamiliesWrongFalsely : Prop := fnExactCountFamiliesRow.holds Try.pinned (OpenSpec.ofChange fnExactCountFamiliesWrong)

/-- 'laws.FnExactNearestFamily': WHATEVER THE INPUT: true; the input reads as it did. -/
def fnExactNearestFamilySpec : ChangeSpec := { name := "fnExactNearestFamily", fn := fun _ => fun
  | [d1, d2, d3, d4] => { results := [.lit (.bool true)], args := [d1, d2, d3, d4] }
  | _ => none }
def fnExactNearestFamilyRow : OpenClaim := { program := "ytpabccgndhmcdaa", sum := "b9ed25c859e35d898fd9bea933d157ada2c6efb604b2b0ada26fce12e0246c59", func := "loop.example/g00947/laws.FnExactNearestFamily", spec := "fnExactNearestFamily", unfollowed := true, recurses := true, plainKeys := false, apart := false }
def FnExactNearestFamilySaid : Prop := fnExactNearestFamilyRow.holds Try.pinned (OpenSpec.ofChange fnExactNearestFamilySpec)

/-- ITS FALSE NEIGHBOUR: 'it returns false'. Refute it at one input. -/
def fnExactNearestFamilyWrong : ChangeSpec := { name := "fnExactNearestFamily", fn := fun _ => fun
  | [d1, d2, d3, d4] => { results := [.lit (.bool false)], args := [d1, d2, d3, d4] }
  | _ => none }
def FnExactNearestFamilyWrongFalsely : Prop := fnExactNearestFamilyRow.holds Try.pinned (OpenSpec.ofChange fnExactNearestFamilyWrong)

/-- 'laws.FnExactFamilyBound': WHATEVER THE INPUT: true; the input reads as it did. -/
def fnExactFamilyBoundSpec : ChangeSpec := { name := "fnExactFamilyBound", fn := fun _ => fun
  | [d1, d2, d3] => { results := [.lit (.bool true)], args := [d1, d2, d3] }
  | _ => none }
def fnExactFamilyBoundRow : OpenClaim := { program := "ytpabccgndhmcdaa", sum := "b9ed25c859e35d898fd9bea933d157ada2c6efb604b2b0ada26fce12e0246c59", func := "loop.example/g00947/laws.FnExactFamilyBound", spec := "fnExactFamilyBound", plainKeys := false, apart := false }
def FnExactFamilyBoundSaid : Prop := fnExactFamilyBoundRow.holds Try.pinned (OpenSpec.ofChange fnExactFamilyBoundSpec)

/-- ITS FALSE NEIGHBOUR: 'it returns false'. Refute it at one input. -/
def fnExactFamilyBoundWrong : ChangeSpec := { name := "fnExactFamilyBound", fn := fun _ => fun
  | [d1, d2, d3] => { results := [.lit (.bool false)], args := [d1, d2, d3] }
  | _ => none }
def FnExactFamilyBoundWrongFalsely : Prop := fnExactFamilyBoundRow.holds Try.pinned (OpenSpec.ofChange fnExactFamilyBoundWrong)

/-- 'laws.FnExactAreApart': WHATEVER THE INPUT: true; the input reads as it did. -/
def fnExactAreApartSpec : ChangeSpec := { name := "fnExactAreApart", fn := fun _ => fun
  | [d1, d2, d3, d4] => { results := [.lit (.bool true)], args := [d1, d2, d3, d4] }
  | _ => none }
def fnExactAreApartRow : OpenClaim := { program := "ytpabccgndhmcdaa", sum := "b9ed25c859e35d898fd9bea933d157ada2c6efb604b2b0ada26fce12e0246c59", func := "loop.example/g00947/laws.FnExactAreApart", spec := "fnExactAreApart", plainKeys := false, apart := false }
def FnExactAreApartSaid : Prop := fnExactAreApartRow.holds Try.pinned (OpenSpec.ofChange fnExactAreApartSpec)

/-- ITS FALSE NEIGHBOUR: 'it returns false'. Refute it at one input. -/
def fnExactAreApartWrong : ChangeSpec := { name := "fnExactAreApart", fn := fun _ => fun
  | [d1, d2, d3, d4] => { results := [.lit (.bool false)], args := [d1, d2, d3, d4] }
  | _ => none }
def FnExactAreApartWrongFalsely : Prop := fnExactAreApartRow.holds Try.pinned (OpenSpec.ofChange fnExactAreApartWrong)

/- THE SECOND FORM. 'bulk': how many values and letters a reading holds, each counted each time it is reached (what is shared counts as often as it is met; a slice's spare places count too). A statement '..UptoSaid' is the law's where the arguments, and the package variables that the reading takes, are together of bulk at most 1048576: NARROWER than '..Said'. Prove '..Said' where nothing that the law and all that it calls make is longer than what came in: it says more and counts as full. Else prove '..UptoSaid'. A law counts once. -/
mutual
def uptoBulk {H : Type} : DataW H → Nat
  | .lit (.string bytes) => bytes.length + 1
  | .lit _ => 1
  | .nil => 1
  | .ptr d => uptoBulk d + 1
  | .slice elems spare => uptoBulkAll elems + uptoBulkAll spare + 1
  | .agg parts => uptoBulkAll parts + 1
  | .iface _ d => uptoBulk d + 1
  | .map entries => uptoBulkEntries entries + 1
  | .held _ => 1
def uptoBulkAll {H : Type} : List (DataW H) → Nat
  | [] => 0
  | d :: r => uptoBulk d + uptoBulkAll r
def uptoBulkEntries {H : Type} : List (Lit × DataW H) → Nat
  | [] => 0
  | x :: r => uptoBulkEntry x + uptoBulkEntries r
def uptoBulkEntry {H : Type} : Lit × DataW H → Nat
  | (.string bytes, d) => bytes.length + uptoBulk d + 1
  | (_, d) => uptoBulk d + 1
 end
def uptoSmall : (H : Type) → List (DataW H) → Bool := fun _ ds => decide (uptoBulkAll ds ≤ 1048576)
def OpenSpec.upto (s : _root_.Go.ChangeSpec) : _root_.Go.OpenSpec := { _root_.Go.OpenSpec.ofChange s with cond := some uptoSmall }

/-- 'laws.FnFamilies', WHERE WHAT IT READS IS OF BULK AT MOST 1048576: true; the input reads as it did. -/
def fnFamiliesUptoRow : OpenClaim := { program := "ytpabccgndhmcdaa", sum := "b9ed25c859e35d898fd9bea933d157ada2c6efb604b2b0ada26fce12e0246c59", func := "loop.example/g00947/laws.FnFamilies", spec := "fnFamilies", unfollowed := true, recurses := true, plainKeys := false, apart := false, narrowed := true }
def FnFamiliesUptoSaid : Prop := fnFamiliesUptoRow.holds Try.pinned (OpenSpec.upto fnFamiliesSpec)

/-- 'laws.FnSides', WHERE WHAT IT READS IS OF BULK AT MOST 1048576: true; the input reads as it did. -/
def fnSidesUptoRow : OpenClaim := { program := "ytpabccgndhmcdaa", sum := "b9ed25c859e35d898fd9bea933d157ada2c6efb604b2b0ada26fce12e0246c59", func := "loop.example/g00947/laws.FnSides", spec := "fnSides", unfollowed := true, recurses := true, plainKeys := false, apart := false, narrowed := true }
def FnSidesUptoSaid : Prop := fnSidesUptoRow.holds Try.pinned (OpenSpec.upto fnSidesSpec)

/-- 'laws.FnExactIsSideCode', WHERE WHAT IT READS IS OF BULK AT MOST 1048576: true; the input reads as it did. -/
def fnExactIsSideCodeUptoRow : OpenClaim := { program := "ytpabccgndhmcdaa", sum := "b9ed25c859e35d898fd9bea933d157ada2c6efb604b2b0ada26fce12e0246c59", func := "loop.example/g00947/laws.FnExactIsSideCode", spec := "fnExactIsSideCode", plainKeys := false, apart := false, narrowed := true }
def FnExactIsSideCodeUptoSaid : Prop := fnExactIsSideCodeUptoRow.holds Try.pinned (OpenSpec.upto fnExactIsSideCodeSpec)

/-- 'laws.FnExactCountSideCodes', WHERE WHAT IT READS IS OF BULK AT MOST 1048576: true; the input reads as it did. -/
def fnExactCountSideCodesUptoRow : OpenClaim := { program := "ytpabccgndhmcdaa", sum := "b9ed25c859e35d898fd9bea933d157ada2c6efb604b2b0ada26fce12e0246c59", func := "loop.example/g00947/laws.FnExactCountSideCodes", spec := "fnExactCountSideCodes", plainKeys := false, apart := false, narrowed := true }
def FnExactCountSideCodesUptoSaid : Prop := fnExactCountSideCodesUptoRow.holds Try.pinned (OpenSpec.upto fnExactCountSideCodesSpec)

/-- 'laws.FnExactSideDistance', WHERE WHAT IT READS IS OF BULK AT MOST 1048576: true; the input reads as it did. -/
def fnExactSideDistanceUptoRow : OpenClaim := { program := "ytpabccgndhmcdaa", sum := "b9ed25c859e35d898fd9bea933d157ada2c6efb604b2b0ada26fce12e0246c59", func := "loop.example/g00947/laws.FnExactSideDistance", spec := "fnExactSideDistance", plainKeys := false, apart := false, narrowed := true }
def FnExactSideDistanceUptoSaid : Prop := fnExactSideDistanceUptoRow.holds Try.pinned (OpenSpec.upto fnExactSideDistanceSpec)

/-- 'laws.FnExactFamiliesOf', WHERE WHAT IT READS IS OF BULK AT MOST 1048576: true; the input reads as it did. -/
def fnExactFamiliesOfUptoRow : OpenClaim := { program := "ytpabccgndhmcdaa", sum := "b9ed25c859e35d898fd9bea933d157ada2c6efb604b2b0ada26fce12e0246c59", func := "loop.example/g00947/laws.FnExactFamiliesOf", spec := "fnExactFamiliesOf", unfollowed := true, recurses := true, plainKeys := false, apart := false, narrowed := true }
def FnExactFamiliesOfUptoSaid : Prop := fnExactFamiliesOfUptoRow.holds Try.pinned (OpenSpec.upto fnExactFamiliesOfSpec)

/-- 'laws.FnExactCountFamilies', WHERE WHAT IT READS IS OF BULK AT MOST 1048576: true; the input reads as it did. -/
def fnExactCountFamiliesUptoRow : OpenClaim := { program := "ytpabccgndhmcdaa", sum := "b9ed25c859e35d898fd9bea933d157ada2c6efb604b2b0ada26fce12e0246c59", func := "loop.example/g00947/laws.FnExactCountFamilies", spec := "fnExactCountFamilies", unfollowed := true, recurses := true, plainKeys := false, apart := false, narrowed := true }
def FnExactCountFamiliesUptoSaid : Prop := fnExactCountFamiliesUptoRow.holds Try.pinned (OpenSpec.upto fnExactCountFamiliesSpec)

/-- 'laws.FnExactNearestFamily', WHERE WHAT IT READS IS OF BULK AT MOST 1048576: true; the input reads as it did. -/
def fnExactNearestFamilyUptoRow : OpenClaim := { program := "ytpabccgndhmcdaa", sum := "b9ed25c859e35d898fd9bea933d157ada2c6efb604b2b0ada26fce12e0246c59", func := "loop.example/g00947/laws.FnExactNearestFamily", spec := "fnExactNearestFamily", unfollowed := true, recurses := true, plainKeys := false, apart := false, narrowed := true }
def FnExactNearestFamilyUptoSaid : Prop := fnExactNearestFamilyUptoRow.holds Try.pinned (OpenSpec.upto fnExactNearestFamilySpec)

/-- 'laws.FnExactFamilyBound', WHERE WHAT IT READS IS OF BULK AT MOST 1048576: true; the input reads as it did. -/
def fnExactFamilyBoundUptoRow : OpenClaim := { program := "ytpabccgndhmcdaa", sum := "b9ed25c859e35d898fd9bea933d157ada2c6efb604b2b0ada26fce12e0246c59", func := "loop.example/g00947/laws.FnExactFamilyBound", spec := "fnExactFamilyBound", plainKeys := false, apart := false, narrowed := true }
def FnExactFamilyBoundUptoSaid : Prop := fnExactFamilyBoundUptoRow.holds Try.pinned (OpenSpec.upto fnExactFamilyBoundSpec)

/-- 'laws.FnExactAreApart', WHERE WHAT IT READS IS OF BULK AT MOST 1048576: true; the input reads as it did. -/
def fnExactAreApartUptoRow : OpenClaim := { program := "ytpabccgndhmcdaa", sum := "b9ed25c859e35d898fd9bea933d157ada2c6efb604b2b0ada26fce12e0246c59", func := "loop.example/g00947/laws.FnExactAreApart", spec := "fnExactAreApart", plainKeys := false, apart := false, narrowed := true }
def FnExactAreApartUptoSaid : Prop := fnExactAreApartUptoRow.holds Try.pinned (OpenSpec.upto fnExactAreApartSpec)

end Rows
end Go.Proofs.Ytpabccgndhmcdaa
