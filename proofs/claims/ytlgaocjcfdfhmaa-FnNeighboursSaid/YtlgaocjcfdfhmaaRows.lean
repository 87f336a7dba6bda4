/-
  No cell of these rows narrows 'for every input' (looked for: loops, veiled, ifaces, maps, wideKeys, modest, calm, conditions, laid).
  DERIVED. THE GIVEN ROWS OF THIS SEAT. 11 by the template 'for every input the law returns true; each argument reads behind the call as it read before'; 0 by the template 'total and deterministic' (their statements: YtlgaocjcfdfhmaaTotals.lean).
  GIVEN WITH THE SEED: the statements are not yours to turn. If you find one false, say at which input.
  Laid BY PROGRAM, IN A SANDBOX (cutbox-rows.mjs): the forced cells as the released guide's own fill.sh prints them over the translation 01e70da4a810eaa1… (all of the seat's roots in one cut). By AI agents, Wed Nov 11 2026. No macro, syntax, notation, axiom, sorry.
-/
import Derived.Test.YtlgaocjcfdfhmaaChecked
import GoSem.Claim
import GoSem.ClaimJoined
import GoSem.ClaimMapViews
import Derived.JoinedTies
import Derived.KernelRfl
namespace Go.Proofs.Ytlgaocjcfdfhmaa
/- THE CELL 'sum', in the pinned program and in every row, IS THE sha256 OF THE DUMP (.gsa) THAT YtlgaocjcfdfhmaaProg.lean LOADS. Nothing in Lean hashes anything: it is a label: what it is worth is what the hold of that sum in a sandbox is worth. -/
noncomputable def Try.pinned : Pinned := { name := "ytlgaocjcfdfhmaa", sum := "01e70da4a810eaa126295732b217d6eb94090999bf98a0027712925d239a5be1", checked := Try.checked }
namespace Rows
def none {H : Type} : Left H := { results := [], args := [] }

/-- 'laws.FnRanks': WHATEVER THE INPUT: true; the input reads as it did. -/
def fnRanksSpec : ChangeSpec := { name := "fnRanks", fn := fun _ => fun
  | [d] => { results := [.lit (.bool true)], args := [d] }
  | _ => none }
def fnRanksRow : OpenClaim := { program := "ytlgaocjcfdfhmaa", sum := "01e70da4a810eaa126295732b217d6eb94090999bf98a0027712925d239a5be1", func := "loop.example/g00947/laws.FnRanks", spec := "fnRanks", unfollowed := true, recurses := true, apart := false }
def FnRanksSaid : Prop := fnRanksRow.holds Try.pinned (OpenSpec.ofChange fnRanksSpec)

/-- ITS FALSE NEIGHBOUR: 'it returns false'. Refute it at one input. -/
def fnRanksWrong : ChangeSpec := { name := "fnRanks", fn := fun _ => fun
  | [d] => { results := [.lit (.bool false)], args := [d] }
  | _ => none }
def FnRanksWrongFalsely : Prop := fnRanksRow.holds Try.pinned (OpenSpec.ofChange fnRanksWrong)

/-- 'laws.FnDistances': WHATEVER THE INPUT: true; the input reads as it did. -/
def fnDistancesSpec : ChangeSpec := { name := "fnDistances", fn := fun _ => fun
  | [d] => { results := [.lit (.bool true)], args := [d] }
  | _ => none }
def fnDistancesRow : OpenClaim := { program := "ytlgaocjcfdfhmaa", sum := "01e70da4a810eaa126295732b217d6eb94090999bf98a0027712925d239a5be1", func := "loop.example/g00947/laws.FnDistances", spec := "fnDistances", unfollowed := true, recurses := true, apart := false }
def FnDistancesSaid : Prop := fnDistancesRow.holds Try.pinned (OpenSpec.ofChange fnDistancesSpec)

/-- ITS FALSE NEIGHBOUR: 'it returns false'. Refute it at one input. -/
def fnDistancesWrong : ChangeSpec := { name := "fnDistances", fn := fun _ => fun
  | [d] => { results := [.lit (.bool false)], args := [d] }
  | _ => none }
def FnDistancesWrongFalsely : Prop := fnDistancesRow.holds Try.pinned (OpenSpec.ofChange fnDistancesWrong)

/-- 'laws.FnNeighbours': WHATEVER THE INPUT: true; the input reads as it did. -/
def fnNeighboursSpec : ChangeSpec := { name := "fnNeighbours", fn := fun _ => fun
  | [d] => { results := [.lit (.bool true)], args := [d] }
  | _ => none }
def fnNeighboursRow : OpenClaim := { program := "ytlgaocjcfdfhmaa", sum := "01e70da4a810eaa126295732b217d6eb94090999bf98a0027712925d239a5be1", func := "loop.example/g00947/laws.FnNeighbours", spec := "fnNeighbours", unfollowed := true, recurses := true, apart := false }
def FnNeighboursSaid : Prop := fnNeighboursRow.holds Try.pinned (OpenSpec.ofChange fnNeighboursSpec)

/-- ITS FALSE NEIGHBOUR: 'it returns false'. Refute it at one input. -/
def fnNeighboursWrong : ChangeSpec := { name := "fnNeighbours", fn := fun _ => fun
  | [d] => { results := [.lit (.bool false)], args := [d] }
  | _ => none }
def FnNeighboursWrongFalsely : Prop := fnNeighboursRow.holds Try.pinned (OpenSpec.ofChange fnNeighboursWrong)

/-- 'laws.FnExactRankOf': WHATEVER THE INPUT: true; the input reads as it did. -/
def fnExactRankOfSpec : ChangeSpec := { name := "fnExactRankOf", fn := fun _ => fun
  | [d1, d2] => { results := [.lit (.bool true)], args := [d1, d2] }
  | _ => none }
def fnExactRankOfRow : OpenClaim := { program := "ytlgaocjcfdfhmaa", sum := "01e70da4a810eaa126295732b217d6eb94090999bf98a0027712925d239a5be1", func := "loop.example/g00947/laws.FnExactRankOf", spec := "fnExactRankOf", unfollowed := true, recurses := true, apart := false }
def FnExactRankOfSaid : Prop := fnExactRankOfRow.holds Try.pinned (OpenSpec.ofChange fnExactRankOfSpec)

/-- ITS FALSE NEIGHBOUR: 'it returns false'. Refute it at one input. -/
def fnExactRankOfWrong : ChangeSpec := { name := "fnExactRankOf", fn := fun _ => fun
  | [d1, d2] => { results := [.lit (.bool false)], args := [d1, d2] }
  | _ => none }
def FnExactRankOfWrongFalsely : Prop := fnExactRankOfRow.holds Try.pinned (OpenSpec.ofChange fnExactRankOfWrong)

/-- 'laws.FnExactKeyAt': WHATEVER THE INPUT: true; the input reads as it did. -/
def fnExactKeyAtSpec : ChangeSpec := { name := "fnExactKeyAt", fn := fun _ => fun
  | [d1, d2] => { results := [.lit (.bool true)], args := [d1, d2] }
  | _ => none }
def fnExactKeyAtRow : OpenClaim := { program := "ytlgaocjcfdfhmaa", sum := "01e70da4a810eaa126295732b217d6eb94090999bf98a0027712925d239a5be1", func := "loop.example/g00947/laws.FnExactKeyAt", spec := "fnExactKeyAt", unfollowed := true, recurses := true, apart := false }
def FnExactKeyAtSaid : Prop := fnExactKeyAtRow.holds Try.pinned (OpenSpec.ofChange fnExactKeyAtSpec)

/-- ITS FALSE NEIGHBOUR: 'it returns false'. Refute it at one input. -/
def fnExactKeyAtWrong : ChangeSpec := { name := "fnExactKeyAt", fn := fun _ => fun
  | [d1, d2] => { results := [.lit (.bool false)], args := [d1, d2] }
  | _ => none }
def FnExactKeyAtWrongFalsely : Prop := fnExactKeyAtRow.holds Try.pinned (OpenSpec.ofChange fnExactKeyAtWrong)

/-- 'laws.FnExactDifferenceOf': WHATEVER THE INPUT: true; the input reads as it did. -/
def fnExactDifferenceOfSpec : ChangeSpec := { name := "fnExactDifferenceOf", fn := fun _ => fun
  | [d1, d2, d3] => { results := [.lit (.bool true)], args := [d1, d2, d3] }
  | _ => none }
def fnExactDifferenceOfRow : OpenClaim := { program := "ytlgaocjcfdfhmaa", sum := "01e70da4a810eaa126295732b217d6eb94090999bf98a0027712925d239a5be1", func := "loop.example/g00947/laws.FnExactDifferenceOf", spec := "fnExactDifferenceOf", unfollowed := true, recurses := true, apart := false }
def FnExactDifferenceOfSaid : Prop := fnExactDifferenceOfRow.holds Try.pinned (OpenSpec.ofChange fnExactDifferenceOfSpec)

/-- ITS FALSE NEIGHBOUR: 'it returns false'. Refute it at one input. -/
def fnExactDifferenceOfWrong : ChangeSpec := { name := "fnExactDifferenceOf", fn := fun _ => fun
  | [d1, d2, d3] => { results := [.lit (.bool false)], args := [d1, d2, d3] }
  | _ => none }
def FnExactDifferenceOfWrongFalsely : Prop := fnExactDifferenceOfRow.holds Try.pinned (OpenSpec.ofChange fnExactDifferenceOfWrong)

/-- 'laws.FnExactDistanceOf': WHATEVER THE INPUT: true; the input reads as it did. -/
def fnExactDistanceOfSpec : ChangeSpec := { name := "fnExactDistanceOf", fn := fun _ => fun
  | [d1, d2, d3] => { results := [.lit (.bool true)], args := [d1, d2, d3] }
  | _ => none }
def fnExactDistanceOfRow : OpenClaim := { program := "ytlgaocjcfdfhmaa", sum := "01e70da4a810eaa126295732b217d6eb94090999bf98a0027712925d239a5be1", func := "loop.example/g00947/laws.FnExactDistanceOf", spec := "fnExactDistanceOf", unfollowed := true, recurses := true, apart := false }
def FnExactDistanceOfSaid : Prop := fnExactDistanceOfRow.holds Try.pinned (OpenSpec.ofChange fnExactDistanceOfSpec)

/-- ITS FALSE NEIGHBOUR: 'it returns false'. Refute it at one input. -/
def fnExactDistanceOfWrong : ChangeSpec := { name := "fnExactDistanceOf", fn := fun _ => fun
  | [d1, d2, d3] => { results := [.lit (.bool false)], args := [d1, d2, d3] }
  | _ => none }
def FnExactDistanceOfWrongFalsely : Prop := fnExactDistanceOfRow.holds Try.pinned (OpenSpec.ofChange fnExactDistanceOfWrong)

/-- 'laws.FnExactMirrorKey': WHATEVER THE INPUT: true; the input reads as it did. -/
def fnExactMirrorKeySpec : ChangeSpec := { name := "fnExactMirrorKey", fn := fun _ => fun
  | [d1, d2] => { results := [.lit (.bool true)], args := [d1, d2] }
  | _ => none }
def fnExactMirrorKeyRow : OpenClaim := { program := "ytlgaocjcfdfhmaa", sum := "01e70da4a810eaa126295732b217d6eb94090999bf98a0027712925d239a5be1", func := "loop.example/g00947/laws.FnExactMirrorKey", spec := "fnExactMirrorKey", unfollowed := true, recurses := true, apart := false }
def FnExactMirrorKeySaid : Prop := fnExactMirrorKeyRow.holds Try.pinned (OpenSpec.ofChange fnExactMirrorKeySpec)

/-- ITS FALSE NEIGHBOUR: 'it returns false'. Refute it at one input. -/
def fnExactMirrorKeyWrong : ChangeSpec := { name := "fnExactMirrorKey", fn := fun _ => fun
  | [d1, d2] => { results := [.lit (.bool false)], args := [d1, d2] }
  | _ => none }
def FnExactMirrorKeyWrongFalsely : Prop := fnExactMirrorKeyRow.holds Try.pinned (OpenSpec.ofChange fnExactMirrorKeyWrong)

/-- 'laws.FnExactReverseKey': WHATEVER THE INPUT: true; the input reads as it did. -/
def fnExactReverseKeySpec : ChangeSpec := { name := "fnExactReverseKey", fn := fun _ => fun
  | [d1, d2] => { results := [.lit (.bool true)], args := [d1, d2] }
  | _ => none }
def fnExactReverseKeyRow : OpenClaim := { program := "ytlgaocjcfdfhmaa", sum := "01e70da4a810eaa126295732b217d6eb94090999bf98a0027712925d239a5be1", func := "loop.example/g00947/laws.FnExactReverseKey", spec := "fnExactReverseKey", unfollowed := true, recurses := true, apart := false }
def FnExactReverseKeySaid : Prop := fnExactReverseKeyRow.holds Try.pinned (OpenSpec.ofChange fnExactReverseKeySpec)

/-- ITS FALSE NEIGHBOUR: 'it returns false'. Refute it at one input. -/
def fnExactReverseKeyWrong : ChangeSpec := { name := "fnExactReverseKey", fn := fun _ => fun
  | [d1, d2] => { results := [.lit (.bool false)], args := [d1, d2] }
  | _ => none }
def FnExactReverseKeyWrongFalsely : Prop := fnExactReverseKeyRow.holds Try.pinned (OpenSpec.ofChange fnExactReverseKeyWrong)

/-- 'laws.FnExactKeysNear': WHATEVER THE INPUT: true; the input reads as it did. -/
def fnExactKeysNearSpec : ChangeSpec := { name := "fnExactKeysNear", fn := fun _ => fun
  | [d1, d2, d3] => { results := [.lit (.bool true)], args := [d1, d2, d3] }
  | _ => none }
def fnExactKeysNearRow : OpenClaim := { program := "ytlgaocjcfdfhmaa", sum := "01e70da4a810eaa126295732b217d6eb94090999bf98a0027712925d239a5be1", func := "loop.example/g00947/laws.FnExactKeysNear", spec := "fnExactKeysNear", unfollowed := true, recurses := true, apart := false }
def FnExactKeysNearSaid : Prop := fnExactKeysNearRow.holds Try.pinned (OpenSpec.ofChange fnExactKeysNearSpec)

/-- ITS FALSE NEIGHBOUR: 'it returns false'. Refute it at one input. -/
def fnExactKeysNearWrong : ChangeSpec := { name := "fnExactKeysNear", fn := fun _ => fun
  | [d1, d2, d3] => { results := [.lit (.bool false)], args := [d1, d2, d3] }
  | _ => none }
def FnExactKeysNearWrongFalsely : Prop := fnExactKeysNearRow.holds Try.pinned (OpenSpec.ofChange fnExactKeysNearWrong)

/-- 'laws.FnExactNearestKey': WHATEVER THE INPUT: true; the input reads as it did. -/
def fnExactNearestKeySpec : ChangeSpec := { name := "fnExactNearestKey", fn := fun _ => fun
  | [d1, d2] => { results := [.lit (.bool true)], args := [d1, d2] }
  | _ => none }
def fnExactNearestKeyRow : OpenClaim := { program := "ytlgaocjcfdfhmaa", sum := "01e70da4a810eaa126295732b217d6eb94090999bf98a0027712925d239a5be1", func := "loop.example/g00947/laws.FnExactNearestKey", spec := "fnExactNearestKey", unfollowed := true, recurses := true, apart := false }
def FnExactNearestKeySaid : Prop := fnExactNearestKeyRow.holds Try.pinned (OpenSpec.ofChange fnExactNearestKeySpec)

/-- ITS FALSE NEIGHBOUR: 'it returns false'. Refute it at one input. -/
def fnExactNearestKeyWrong : ChangeSpec := { name := "fnExactNearestKey", fn := fun _ => fun
  | [d1, d2] => { results := [.lit (.bool false)], args := [d1, d2] }
  | _ => none }
def FnExactNearestKeyWrongFalsely : Prop := fnExactNearestKeyRow.holds Try.pinned (OpenSpec.ofChange fnExactNearestKeyWrong)

/- THE SECOND FORM. 'bulk': how many values and letters a reading holds, each counted each time it is reached (what is shared counts as often as it is met; a slice's spare places count too). A statement '..UptoSaid' is the law's where the arguments, and the package variables that the reading takes, are together of bulk at most 1048576: NARROWER than '..Said'. Prove '..Said' where nothing that the law and all that it calls make is longer than what came in: it says more and counts as full. Else prove '..UptoSaid'. A law counts once. -/
mutual
def uptoBulk {H : Type} : DataW H → Nat
  | .lit (.string bytes) => bytes.length + 1
  | .lit _ => 1
  | .nil => 1
  | .ptr d => uptoBulk d + 1
  | .slice elems spare => uptoBulkAll elems + uptoBulkAll spare + 1
  | .agg parts => uptoBulkAll parts + 1
  | .iface _ d => uptoBulk d + 1
  | .map entries => uptoBulkEntries entries + 1
  | .held _ => 1
def uptoBulkAll {H : Type} : List (DataW H) → Nat
  | [] => 0
  | d :: r => uptoBulk d + uptoBulkAll r
def uptoBulkEntries {H : Type} : List (Lit × DataW H) → Nat
  | [] => 0
  | x :: r => uptoBulkEntry x + uptoBulkEntries r
def uptoBulkEntry {H : Type} : Lit × DataW H → Nat
  | (.string bytes, d) => bytes.length + uptoBulk d + 1
  | (_, d) => uptoBulk d + 1
 end
def uptoSmall : (H : Type) → List (DataW H) → Bool := fun _ ds => decide (uptoBulkAll ds ≤ 1048576)
def OpenSpec.upto (s : _root_.Go.ChangeSpec) : _root_.Go.OpenSpec := { _root_.Go.OpenSpec.ofChange s with cond := some uptoSmall }

/-- 'laws.FnRanks', WHERE WHAT IT READS IS OF BULK AT MOST 1048576: true; the input reads as it did. -/
def fnRanksUptoRow : OpenClaim := { program := "ytlgaocjcfdfhmaa", sum := "01e70da4a810eaa126295732b217d6eb94090999bf98a0027712925d239a5be1", func := "loop.example/g00947/laws.FnRanks", spec := "fnRanks", unfollowed := true, recurses := true, apart := false, narrowed := true }
def FnRanksUptoSaid : Prop := fnRanksUptoRow.holds Try.pinned (OpenSpec.upto fnRanksSpec)

/-- 'laws.FnDistances', WHERE WHAT IT READS IS OF BULK AT MOST 1048576: true; the input reads as it did. -/
def fnDistancesUptoRow : OpenClaim := { program := "ytlgaocjcfdfhmaa", sum := "01e70da4a810eaa126295732b217d6eb94090999bf98a0027712925d239a5be1", func := "loop.example/g00947/laws.FnDistances", spec := "fnDistances", unfollowed := true, recurses := true, apart := false, narrowed := true }
def FnDistancesUptoSaid : Prop := fnDistancesUptoRow.holds Try.pinned (OpenSpec.upto fnDistancesSpec)

/-- 'laws.FnNeighbours', WHERE WHAT IT READS IS OF BULK AT MOST 1048576: true; the input reads as it did. -/
def fnNeighboursUptoRow : OpenClaim := { program := "ytlgaocjcfdfhmaa", sum := "01e70da4a810eaa126295732b217d6eb94090999bf98a0027712925d239a5be1", func := "loop.example/g00947/laws.FnNeighbours", spec := "fnNeighbours", unfollowed := true, recurses := true, apart := false, narrowed := true }
def FnNeighboursUptoSaid : Prop := fnNeighboursUptoRow.holds Try.pinned (OpenSpec.upto fnNeighboursSpec)

/-- 'laws.FnExactRankOf', WHERE WHAT IT READS IS OF BULK AT MOST 1048576: true; the input reads as it did. -/
def fnExactRankOfUptoRow : OpenClaim := { program := "ytlgaocjcfdfhmaa", sum := "01e70da4a810eaa126295732b217d6eb94090999bf98a0027712925d239a5be1", func := "loop.example/g00947/laws.FnExactRankOf", spec := "fnExactRankOf", unfollowed := true, recurses := true, apart := false, narrowed := true }
def FnExactRankOfUptoSaid : Prop := fnExactRankOfUptoRow.holds Try.pinned (OpenSpec.upto fnExactRankOfSpec)

/-- 'laws.FnExactKeyAt', WHERE WHAT IT READS IS OF BULK AT MOST 1048576: true; the input reads as it did. -/
def fnExactKeyAtUptoRow : OpenClaim := { program := "ytlgaocjcfdfhmaa", sum := "01e70da4a810eaa126295732b217d6eb94090999bf98a0027712925d239a5be1", func := "loop.example/g00947/laws.FnExactKeyAt", spec := "fnExactKeyAt", unfollowed := true, recurses := true, apart := false, narrowed := true }
def FnExactKeyAtUptoSaid : Prop := fnExactKeyAtUptoRow.holds Try.pinned (OpenSpec.upto fnExactKeyAtSpec)

/-- 'laws.FnExactDifferenceOf', WHERE WHAT IT READS IS OF BULK AT MOST 1048576: true; the input reads as it did. -/
def fnExactDifferenceOfUptoRow : OpenClaim := { program := "ytlgaocjcfdfhmaa", sum := "01e70da4a810eaa126295732b217d6eb94090999bf98a0027712925d239a5be1", func := "loop.example/g00947/laws.FnExactDifferenceOf", spec := "fnExactDifferenceOf", unfollowed := true, recurses := true, apart := false, narrowed := true }
def FnExactDifferenceOfUptoSaid : Prop := fnExactDifferenceOfUptoRow.holds Try.pinned (OpenSpec.upto fnExactDifferenceOfSpec)

/-- 'laws.FnExactDistanceOf', WHERE WHAT IT READS IS OF BULK AT MOST 1048576: true; the input reads as it did. -/
def fnExactDistanceOfUptoRow : OpenClaim := { program := "ytlgaocjcfdfhmaa", sum := "01e70da4a810eaa126295732b217d6eb94090999bf98a0027712925d239a5be1", func := "loop.example/g00947/laws.FnExactDistanceOf", spec := "fnExactDistanceOf", unfollowed := true, recurses := true, apart := false, narrowed := true }
def FnExactDistanceOfUptoSaid : Prop := fnExactDistanceOfUptoRow.holds Try.pinned (OpenSpec.upto fnExactDistanceOfSpec)

/-- 'laws.FnExactMirrorKey', WHERE WHAT IT READS IS OF BULK AT MOST 1048576: true; the input reads as it did. -/
def fnExactMirrorKeyUptoRow : OpenClaim := { program := "ytlgaocjcfdfhmaa", sum := "01e70da4a810eaa126295732b217d6eb94090999bf98a0027712925d239a5be1", func := "loop.example/g00947/laws.FnExactMirrorKey", spec := "fnExactMirrorKey", unfollowed := true, recurses := true, apart := false, narrowed := true }
def FnExactMirrorKeyUptoSaid : Prop := fnExactMirrorKeyUptoRow.holds Try.pinned (OpenSpec.upto fnExactMirrorKeySpec)

/-- 'laws.FnExactReverseKey', WHERE WHAT IT READS IS OF BULK AT MOST 1048576: true; the input reads as it did. -/
def fnExactReverseKeyUptoRow : OpenClaim := { program := "ytlgaocjcfdfhmaa", sum := "01e70da4a810eaa126295732b217d6eb94090999bf98a0027712925d239a5be1", func := "loop.example/g00947/laws.FnExactReverseKey", spec := "fnExactReverseKey", unfollowed := true, recurses := true, apart := false, narrowed := true }
def FnExactReverseKeyUptoSaid : Prop := fnExactReverseKeyUptoRow.holds Try.pinned (OpenSpec.upto fnExactReverseKeySpec)

/-- 'laws.FnExactKeysNear', WHERE WHAT IT READS IS OF BULK AT MOST 1048576: true; the input reads as it did. -/
def fnExactKeysNearUptoRow : OpenClaim := { program := "ytlgaocjcfdfhmaa", sum := "01e70da4a810eaa126295732b217d6eb94090999bf98a0027712925d239a5be1", func := "loop.example/g00947/laws.FnExactKeysNear", spec := "fnExactKeysNear", unfollowed := true, recurses := true, apart := false, narrowed := true }
def FnExactKeysNearUptoSaid : Prop := fnExactKeysNearUptoRow.holds Try.pinned (OpenSpec.upto fnExactKeysNearSpec)

/-- 'laws.FnExactNearestKey', WHERE WHAT IT READS IS OF BULK AT MOST 1048576: true; the input reads as it did. -/
def fnExactNearestKeyUptoRow : OpenClaim := { program := "ytlgaocjcfdfhmaa", sum := "01e70da4a810eaa126295732b217d6eb94090999bf98a0027712925d239a5be1", func := "loop.example/g00947/laws.FnExactNearestKey", spec := "fnExactNearestKey", unfollowed := true, recurses := true, apart := false, narrowed := true }
def FnExactNearestKeyUptoSaid : Prop := fnExactNearestKeyUptoRow.holds Try.pinned (OpenSpec.upto fnExactNearestKeySpec)

end Rows
end Go.Proofs.Ytlgaocjcfdfhmaa
