/-
  No cell of these rows narrows 'for every input' (looked for: loops, veiled, ifaces, maps, wideKeys, modest, calm, conditions, laid).
  DERIVED. THE GIVEN ROWS OF THIS SEAT. 15 by the template 'for every input the law returns true; each argument reads behind the call as it read before'; 0 by the template 'total and deterministic' (their statements: YtbfnffecmglgfaaTotals.lean).
  GIVEN WITH THE SEED: the statements are not yours to turn. If you find one false, say at which input.
  Laid BY PROGRAM, IN A SANDBOX (cutbox-rows.mjs): the forced cells as the released guide's own fill.sh prints them over the translation 22447b67cb74977e… (all of the seat's roots in one cut). By AI agents, Wed Nov 11 2026. No macro, syntax, notation, axiom, sorry.
-/
import Derived.Test.YtbfnffecmglgfaaChecked
import GoSem.Claim
import GoSem.ClaimJoined
import GoSem.ClaimMapViews
import Derived.JoinedTies
import Derived.KernelRfl
namespace Go.Proofs.Ytbfnffecmglgfaa
/- THE CELL 'sum', in the pinned program and in every row, IS THE sha256 OF THE DUMP (.gsa) THAT YtbfnffecmglgfaaProg.lean LOADS. Nothing in Lean hashes anything: it is a label: what it is worth is what the hold of that sum in a sandbox is worth. -/
noncomputable def Try.pinned : Pinned := { name := "ytbfnffecmglgfaa", sum := "22447b67cb74977e700d8802e06f55ff03a741c34f292dc9518c4f99e17390e9", checked := Try.checked }
namespace Rows
def none {H : Type} : Left H := { results := [], args := [] }

/-- 'laws.FnHulls': WHATEVER THE INPUT: true; the input reads as it did. -/
def fnHullsSpec : ChangeSpec := { name := "fnHulls", fn := fun _ => fun
  | [d] => { results := [.lit (.bool true)], args := [d] }
  | _ => none }
def fnHullsRow : OpenClaim := { program := "ytbfnffecmglgfaa", sum := "22447b67cb74977e700d8802e06f55ff03a741c34f292dc9518c4f99e17390e9", func := "loop.example/g00947/laws.FnHulls", spec := "fnHulls", unfollowed := true, recurses := true, apart := false }
def FnHullsSaid : Prop := fnHullsRow.holds Try.pinned (OpenSpec.ofChange fnHullsSpec)

/-- ITS FALSE NEIGHBOUR: 'it returns false'. Refute it at one input. -/
def fnHullsWrong : ChangeSpec := { name := "fnHulls", fn := fun _ => fun
  | [d] => { results := [.lit (.bool false)], args := [d] }
  | _ => none }
def FnHullsWrongFalsely : Prop := fnHullsRow.holds Try.pinned (OpenSpec.ofChange fnHullsWrong)

/-- 'laws.FnOpeners': WHATEVER THE INPUT: true; the input reads as it did. -/
def fnOpenersSpec : ChangeSpec := { name := "fnOpeners", fn := fun _ => fun
  | [d] => { results := [.lit (.bool true)], args := [d] }
  | _ => none }
def fnOpenersRow : OpenClaim := { program := "ytbfnffecmglgfaa", sum := "22447b67cb74977e700d8802e06f55ff03a741c34f292dc9518c4f99e17390e9", func := "loop.example/g00947/laws.FnOpeners", spec := "fnOpeners", unfollowed := true, recurses := true, apart := false }
def FnOpenersSaid : Prop := fnOpenersRow.holds Try.pinned (OpenSpec.ofChange fnOpenersSpec)

/-- ITS FALSE NEIGHBOUR: 'it returns false'. Refute it at one input. -/
def fnOpenersWrong : ChangeSpec := { name := "fnOpeners", fn := fun _ => fun
  | [d] => { results := [.lit (.bool false)], args := [d] }
  | _ => none }
def FnOpenersWrongFalsely : Prop := fnOpenersRow.holds Try.pinned (OpenSpec.ofChange fnOpenersWrong)

/-- 'laws.FnMeetings': WHATEVER THE INPUT: true; the input reads as it did. -/
def fnMeetingsSpec : ChangeSpec := { name := "fnMeetings", fn := fun _ => fun
  | [d] => { results := [.lit (.bool true)], args := [d] }
  | _ => none }
def fnMeetingsRow : OpenClaim := { program := "ytbfnffecmglgfaa", sum := "22447b67cb74977e700d8802e06f55ff03a741c34f292dc9518c4f99e17390e9", func := "loop.example/g00947/laws.FnMeetings", spec := "fnMeetings", unfollowed := true, recurses := true, apart := false }
def FnMeetingsSaid : Prop := fnMeetingsRow.holds Try.pinned (OpenSpec.ofChange fnMeetingsSpec)

/-- ITS FALSE NEIGHBOUR: 'it returns false'. Refute it at one input. -/
def fnMeetingsWrong : ChangeSpec := { name := "fnMeetings", fn := fun _ => fun
  | [d] => { results := [.lit (.bool false)], args := [d] }
  | _ => none }
def FnMeetingsWrongFalsely : Prop := fnMeetingsRow.holds Try.pinned (OpenSpec.ofChange fnMeetingsWrong)

/-- 'laws.FnThick': WHATEVER THE INPUT: true; the input reads as it did. -/
def fnThickSpec : ChangeSpec := { name := "fnThick", fn := fun _ => fun
  | [d] => { results := [.lit (.bool true)], args := [d] }
  | _ => none }
def fnThickRow : OpenClaim := { program := "ytbfnffecmglgfaa", sum := "22447b67cb74977e700d8802e06f55ff03a741c34f292dc9518c4f99e17390e9", func := "loop.example/g00947/laws.FnThick", spec := "fnThick", recurses := true, apart := false }
def FnThickSaid : Prop := fnThickRow.holds Try.pinned (OpenSpec.ofChange fnThickSpec)

/-- ITS FALSE NEIGHBOUR: 'it returns false'. Refute it at one input. -/
def fnThickWrong : ChangeSpec := { name := "fnThick", fn := fun _ => fun
  | [d] => { results := [.lit (.bool false)], args := [d] }
  | _ => none }
def FnThickWrongFalsely : Prop := fnThickRow.holds Try.pinned (OpenSpec.ofChange fnThickWrong)

/-- 'laws.FnWorn': WHATEVER THE INPUT: true; the input reads as it did. -/
def fnWornSpec : ChangeSpec := { name := "fnWorn", fn := fun _ => fun
  | [d] => { results := [.lit (.bool true)], args := [d] }
  | _ => none }
def fnWornRow : OpenClaim := { program := "ytbfnffecmglgfaa", sum := "22447b67cb74977e700d8802e06f55ff03a741c34f292dc9518c4f99e17390e9", func := "loop.example/g00947/laws.FnWorn", spec := "fnWorn", unfollowed := true, recurses := true, apart := false }
def FnWornSaid : Prop := fnWornRow.holds Try.pinned (OpenSpec.ofChange fnWornSpec)

/-- ITS FALSE NEIGHBOUR: 'it returns false'. Refute it at one input. -/
def fnWornWrong : ChangeSpec := { name := "fnWorn", fn := fun _ => fun
  | [d] => { results := [.lit (.bool false)], args := [d] }
  | _ => none }
def FnWornWrongFalsely : Prop := fnWornRow.holds Try.pinned (OpenSpec.ofChange fnWornWrong)

/-- 'laws.FnWearLimits': WHATEVER THE INPUT: true; the input reads as it did. -/
def fnWearLimitsSpec : ChangeSpec := { name := "fnWearLimits", fn := fun _ => fun
  | [d] => { results := [.lit (.bool true)], args := [d] }
  | _ => none }
def fnWearLimitsRow : OpenClaim := { program := "ytbfnffecmglgfaa", sum := "22447b67cb74977e700d8802e06f55ff03a741c34f292dc9518c4f99e17390e9", func := "loop.example/g00947/laws.FnWearLimits", spec := "fnWearLimits", unfollowed := true, recurses := true, apart := false }
def FnWearLimitsSaid : Prop := fnWearLimitsRow.holds Try.pinned (OpenSpec.ofChange fnWearLimitsSpec)

/-- ITS FALSE NEIGHBOUR: 'it returns false'. Refute it at one input. -/
def fnWearLimitsWrong : ChangeSpec := { name := "fnWearLimits", fn := fun _ => fun
  | [d] => { results := [.lit (.bool false)], args := [d] }
  | _ => none }
def FnWearLimitsWrongFalsely : Prop := fnWearLimitsRow.holds Try.pinned (OpenSpec.ofChange fnWearLimitsWrong)

/-- 'laws.FnPlaces': WHATEVER THE INPUT: true; the input reads as it did. -/
def fnPlacesSpec : ChangeSpec := { name := "fnPlaces", fn := fun _ => fun
  | [d] => { results := [.lit (.bool true)], args := [d] }
  | _ => none }
def fnPlacesRow : OpenClaim := { program := "ytbfnffecmglgfaa", sum := "22447b67cb74977e700d8802e06f55ff03a741c34f292dc9518c4f99e17390e9", func := "loop.example/g00947/laws.FnPlaces", spec := "fnPlaces", unfollowed := true, recurses := true, apart := false }
def FnPlacesSaid : Prop := fnPlacesRow.holds Try.pinned (OpenSpec.ofChange fnPlacesSpec)

/-- ITS FALSE NEIGHBOUR: 'it returns false'. Refute it at one input. -/
def fnPlacesWrong : ChangeSpec := { name := "fnPlaces", fn := fun _ => fun
  | [d] => { results := [.lit (.bool false)], args := [d] }
  | _ => none }
def FnPlacesWrongFalsely : Prop := fnPlacesRow.holds Try.pinned (OpenSpec.ofChange fnPlacesWrong)

/-- 'laws.FnExactStockOf': WHATEVER THE INPUT: true; the input reads as it did. -/
def fnExactStockOfSpec : ChangeSpec := { name := "fnExactStockOf", fn := fun _ => fun
  | [d1, d2] => { results := [.lit (.bool true)], args := [d1, d2] }
  | _ => none }
def fnExactStockOfRow : OpenClaim := { program := "ytbfnffecmglgfaa", sum := "22447b67cb74977e700d8802e06f55ff03a741c34f292dc9518c4f99e17390e9", func := "loop.example/g00947/laws.FnExactStockOf", spec := "fnExactStockOf", apart := false }
def FnExactStockOfSaid : Prop := fnExactStockOfRow.holds Try.pinned (OpenSpec.ofChange fnExactStockOfSpec)

/-- ITS FALSE NEIGHBOUR: 'it returns false'. Refute it at one input. -/
def fnExactStockOfWrong : ChangeSpec := { name := "fnExactStockOf", fn := fun _ => fun
  | [d1, d2] => { results := [.lit (.bool false)], args := [d1, d2] }
  | _ => none }
def FnExactStockOfWrongFalsely : Prop := fnExactStockOfRow.holds Try.pinned (OpenSpec.ofChange fnExactStockOfWrong)

/-- 'laws.FnExactMayOpen': WHATEVER THE INPUT: true; the input reads as it did. -/
def fnExactMayOpenSpec : ChangeSpec := { name := "fnExactMayOpen", fn := fun _ => fun
  | [d1, d2, d3, d4, d5] => { results := [.lit (.bool true)], args := [d1, d2, d3, d4, d5] }
  | _ => none }
def fnExactMayOpenRow : OpenClaim := { program := "ytbfnffecmglgfaa", sum := "22447b67cb74977e700d8802e06f55ff03a741c34f292dc9518c4f99e17390e9", func := "loop.example/g00947/laws.FnExactMayOpen", spec := "fnExactMayOpen", unfollowed := true, recurses := true, apart := false }
def FnExactMayOpenSaid : Prop := fnExactMayOpenRow.holds Try.pinned (OpenSpec.ofChange fnExactMayOpenSpec)

/-- ITS FALSE NEIGHBOUR: 'it returns false'. Refute it at one input. -/
def fnExactMayOpenWrong : ChangeSpec := { name := "fnExactMayOpen", fn := fun _ => fun
  | [d1, d2, d3, d4, d5] => { results := [.lit (.bool false)], args := [d1, d2, d3, d4, d5] }
  | _ => none }
def FnExactMayOpenWrongFalsely : Prop := fnExactMayOpenRow.holds Try.pinned (OpenSpec.ofChange fnExactMayOpenWrong)

/-- 'laws.FnExactSurelyOpens': WHATEVER THE INPUT: true; the input reads as it did. -/
def fnExactSurelyOpensSpec : ChangeSpec := { name := "fnExactSurelyOpens", fn := fun _ => fun
  | [d1, d2, d3, d4, d5] => { results := [.lit (.bool true)], args := [d1, d2, d3, d4, d5] }
  | _ => none }
def fnExactSurelyOpensRow : OpenClaim := { program := "ytbfnffecmglgfaa", sum := "22447b67cb74977e700d8802e06f55ff03a741c34f292dc9518c4f99e17390e9", func := "loop.example/g00947/laws.FnExactSurelyOpens", spec := "fnExactSurelyOpens", unfollowed := true, recurses := true, apart := false }
def FnExactSurelyOpensSaid : Prop := fnExactSurelyOpensRow.holds Try.pinned (OpenSpec.ofChange fnExactSurelyOpensSpec)

/-- ITS FALSE NEIGHBOUR: 'it returns false'. Refute it at one input. -/
def fnExactSurelyOpensWrong : ChangeSpec := { name := "fnExactSurelyOpens", fn := fun _ => fun
  | [d1, d2, d3, d4, d5] => { results := [.lit (.bool false)], args := [d1, d2, d3, d4, d5] }
  | _ => none }
def FnExactSurelyOpensWrongFalsely : Prop := fnExactSurelyOpensRow.holds Try.pinned (OpenSpec.ofChange fnExactSurelyOpensWrong)

/-- 'laws.FnExactWearLimit': WHATEVER THE INPUT: true; the input reads as it did. -/
def fnExactWearLimitSpec : ChangeSpec := { name := "fnExactWearLimit", fn := fun _ => fun
  | [d1, d2, d3, d4] => { results := [.lit (.bool true)], args := [d1, d2, d3, d4] }
  | _ => none }
def fnExactWearLimitRow : OpenClaim := { program := "ytbfnffecmglgfaa", sum := "22447b67cb74977e700d8802e06f55ff03a741c34f292dc9518c4f99e17390e9", func := "loop.example/g00947/laws.FnExactWearLimit", spec := "fnExactWearLimit", unfollowed := true, recurses := true, apart := false }
def FnExactWearLimitSaid : Prop := fnExactWearLimitRow.holds Try.pinned (OpenSpec.ofChange fnExactWearLimitSpec)

/-- ITS FALSE NEIGHBOUR: 'it returns false'. Refute it at one input. -/
def fnExactWearLimitWrong : ChangeSpec := { name := "fnExactWearLimit", fn := fun _ => fun
  | [d1, d2, d3, d4] => { results := [.lit (.bool false)], args := [d1, d2, d3, d4] }
  | _ => none }
def FnExactWearLimitWrongFalsely : Prop := fnExactWearLimitRow.holds Try.pinned (OpenSpec.ofChange fnExactWearLimitWrong)

/-- 'laws.FnExactCountMayOpen': WHATEVER THE INPUT: true; the input reads as it did. -/
def fnExactCountMayOpenSpec : ChangeSpec := { name := "fnExactCountMayOpen", fn := fun _ => fun
  | [d1, d2, d3, d4] => { results := [.lit (.bool true)], args := [d1, d2, d3, d4] }
  | _ => none }
def fnExactCountMayOpenRow : OpenClaim := { program := "ytbfnffecmglgfaa", sum := "22447b67cb74977e700d8802e06f55ff03a741c34f292dc9518c4f99e17390e9", func := "loop.example/g00947/laws.FnExactCountMayOpen", spec := "fnExactCountMayOpen", unfollowed := true, recurses := true, apart := false }
def FnExactCountMayOpenSaid : Prop := fnExactCountMayOpenRow.holds Try.pinned (OpenSpec.ofChange fnExactCountMayOpenSpec)

/-- ITS FALSE NEIGHBOUR: 'it returns false'. Refute it at one input. -/
def fnExactCountMayOpenWrong : ChangeSpec := { name := "fnExactCountMayOpen", fn := fun _ => fun
  | [d1, d2, d3, d4] => { results := [.lit (.bool false)], args := [d1, d2, d3, d4] }
  | _ => none }
def FnExactCountMayOpenWrongFalsely : Prop := fnExactCountMayOpenRow.holds Try.pinned (OpenSpec.ofChange fnExactCountMayOpenWrong)

/-- 'laws.FnExactWornLock': WHATEVER THE INPUT: true; the input reads as it did. -/
def fnExactWornLockSpec : ChangeSpec := { name := "fnExactWornLock", fn := fun _ => fun
  | [d1, d2, d3, d4] => { results := [.lit (.bool true)], args := [d1, d2, d3, d4] }
  | _ => none }
def fnExactWornLockRow : OpenClaim := { program := "ytbfnffecmglgfaa", sum := "22447b67cb74977e700d8802e06f55ff03a741c34f292dc9518c4f99e17390e9", func := "loop.example/g00947/laws.FnExactWornLock", spec := "fnExactWornLock", unfollowed := true, recurses := true, apart := false }
def FnExactWornLockSaid : Prop := fnExactWornLockRow.holds Try.pinned (OpenSpec.ofChange fnExactWornLockSpec)

/-- ITS FALSE NEIGHBOUR: 'it returns false'. Refute it at one input. -/
def fnExactWornLockWrong : ChangeSpec := { name := "fnExactWornLock", fn := fun _ => fun
  | [d1, d2, d3, d4] => { results := [.lit (.bool false)], args := [d1, d2, d3, d4] }
  | _ => none }
def FnExactWornLockWrongFalsely : Prop := fnExactWornLockRow.holds Try.pinned (OpenSpec.ofChange fnExactWornLockWrong)

/-- 'laws.FnExactFreePlaces': WHATEVER THE INPUT: true; the input reads as it did. -/
def fnExactFreePlacesSpec : ChangeSpec := { name := "fnExactFreePlaces", fn := fun _ => fun
  | [d1, d2, d3, d4] => { results := [.lit (.bool true)], args := [d1, d2, d3, d4] }
  | _ => none }
def fnExactFreePlacesRow : OpenClaim := { program := "ytbfnffecmglgfaa", sum := "22447b67cb74977e700d8802e06f55ff03a741c34f292dc9518c4f99e17390e9", func := "loop.example/g00947/laws.FnExactFreePlaces", spec := "fnExactFreePlaces", unfollowed := true, recurses := true, apart := false }
def FnExactFreePlacesSaid : Prop := fnExactFreePlacesRow.holds Try.pinned (OpenSpec.ofChange fnExactFreePlacesSpec)

/-- ITS FALSE NEIGHBOUR: 'it returns false'. Refute it at one input. -/
def fnExactFreePlacesWrong : ChangeSpec := { name := "fnExactFreePlaces", fn := fun _ => fun
  | [d1, d2, d3, d4] => { results := [.lit (.bool false)], args := [d1, d2, d3, d4] }
  | _ => none }
def FnExactFreePlacesWrongFalsely : Prop := fnExactFreePlacesRow.holds Try.pinned (OpenSpec.ofChange fnExactFreePlacesWrong)

/-- 'laws.FnExactWornNeighbours': WHATEVER THE INPUT: true; the input reads as it did. -/
def fnExactWornNeighboursSpec : ChangeSpec := { name := "fnExactWornNeighbours", fn := fun _ => fun
  | [d1, d2, d3, d4] => { results := [.lit (.bool true)], args := [d1, d2, d3, d4] }
  | _ => none }
def fnExactWornNeighboursRow : OpenClaim := { program := "ytbfnffecmglgfaa", sum := "22447b67cb74977e700d8802e06f55ff03a741c34f292dc9518c4f99e17390e9", func := "loop.example/g00947/laws.FnExactWornNeighbours", spec := "fnExactWornNeighbours", unfollowed := true, recurses := true, apart := false }
def FnExactWornNeighboursSaid : Prop := fnExactWornNeighboursRow.holds Try.pinned (OpenSpec.ofChange fnExactWornNeighboursSpec)

/-- ITS FALSE NEIGHBOUR: 'it returns false'. Refute it at one input. -/
def fnExactWornNeighboursWrong : ChangeSpec := { name := "fnExactWornNeighbours", fn := fun _ => fun
  | [d1, d2, d3, d4] => { results := [.lit (.bool false)], args := [d1, d2, d3, d4] }
  | _ => none }
def FnExactWornNeighboursWrongFalsely : Prop := fnExactWornNeighboursRow.holds Try.pinned (OpenSpec.ofChange fnExactWornNeighboursWrong)

/- THE SECOND FORM. 'bulk': how many values and letters a reading holds, each counted each time it is reached (what is shared counts as often as it is met; a slice's spare places count too). A statement '..UptoSaid' is the law's where the arguments, and the package variables that the reading takes, are together of bulk at most 1048576: NARROWER than '..Said'. Prove '..Said' where nothing that the law and all that it calls make is longer than what came in: it says more and counts as full. Else prove '..UptoSaid'. A law counts once. -/
mutual
def uptoBulk {H : Type} : DataW H → Nat
  | .lit (.string bytes) => bytes.length + 1
  | .lit _ => 1
  | .nil => 1
  | .ptr d => uptoBulk d + 1
  | .slice elems spare => uptoBulkAll elems + uptoBulkAll spare + 1
  | .agg parts => uptoBulkAll parts + 1
  | .iface _ d => uptoBulk d + 1
  | .map entries => uptoBulkEntries entries + 1
  | .held _ => 1
def uptoBulkAll {H : Type} : List (DataW H) → Nat
  | [] => 0
  | d :: r => uptoBulk d + uptoBulkAll r
def uptoBulkEntries {H : Type} : List (Lit × DataW H) → Nat
  | [] => 0
  | x :: r => uptoBulkEntry x + uptoBulkEntries r
def uptoBulkEntry {H : Type} : Lit × DataW H → Nat
  | (.string bytes, d) => bytes.length + uptoBulk d + 1
  | (_, d) => uptoBulk d + 1
 end
def uptoSmall : (H : Type) → List (DataW H) → Bool := fun _ ds => decide (uptoBulkAll ds ≤ 1048576)
def OpenSpec.upto (s : _root_.Go.ChangeSpec) : _root_.Go.OpenSpec := { _root_.Go.OpenSpec.ofChange s with cond := some uptoSmall }

/-- 'laws.FnHulls', WHERE WHAT IT READS IS OF BULK AT MOST 1048576: true; the input reads as it did. -/
def fnHullsUptoRow : OpenClaim := { program := "ytbfnffecmglgfaa", sum := "22447b67cb74977e700d8802e06f55ff03a741c34f292dc9518c4f99e17390e9", func := "loop.example/g00947/laws.FnHulls", spec := "fnHulls", unfollowed := true, recurses := true, apart := false, narrowed := true }
def FnHullsUptoSaid : Prop := fnHullsUptoRow.holds Try.pinned (OpenSpec.upto fnHullsSpec)

/-- 'laws.FnOpeners', WHERE WHAT IT READS IS OF BULK AT MOST 1048576: true; the input reads as it did. -/
def fnOpenersUptoRow : OpenClaim := { program := "ytbfnffecmglgfaa", sum := "22447b67cb74977e700d8802e06f55ff03a741c34f292dc9518c4f99e17390e9", func := "loop.example/g00947/laws.FnOpeners", spec := "fnOpeners", unfollowed := true, recurses := true, apart := false, narrowed := true }
def FnOpenersUptoSaid : Prop := fnOpenersUptoRow.holds Try.pinned (OpenSpec.upto fnOpenersSpec)

/-- 'laws.FnMeetings', WHERE WHAT IT READS IS OF BULK AT MOST 1048576: true; the input reads as it did. -/
def fnMeetingsUptoRow : OpenClaim := { program := "ytbfnffecmglgfaa", sum := "22447b67cb74977e700d8802e06f55ff03a741c34f292dc9518c4f99e17390e9", func := "loop.example/g00947/laws.FnMeetings", spec := "fnMeetings", unfollowed := true, recurses := true, apart := false, narrowed := true }
def FnMeetingsUptoSaid : Prop := fnMeetingsUptoRow.holds Try.pinned (OpenSpec.upto fnMeetingsSpec)

/-- 'laws.FnThick', WHERE WHAT IT READS IS OF BULK AT MOST 1048576: true; the input reads as it did. -/
def fnThickUptoRow : OpenClaim := { program := "ytbfnffecmglgfaa", sum := "22447b67cb74977e700d8802e06f55ff03a741c34f292dc9518c4f99e17390e9", func := "loop.example/g00947/laws.FnThick", spec := "fnThick", recurses := true, apart := false, narrowed := true }
def FnThickUptoSaid : Prop := fnThickUptoRow.holds Try.pinned (OpenSpec.upto fnThickSpec)

/-- 'laws.FnWorn', WHERE WHAT IT READS IS OF BULK AT MOST 1048576: true; the input reads as it did. -/
def fnWornUptoRow : OpenClaim := { program := "ytbfnffecmglgfaa", sum := "22447b67cb74977e700d8802e06f55ff03a741c34f292dc9518c4f99e17390e9", func := "loop.example/g00947/laws.FnWorn", spec := "fnWorn", unfollowed := true, recurses := true, apart := false, narrowed := true }
def FnWornUptoSaid : Prop := fnWornUptoRow.holds Try.pinned (OpenSpec.upto fnWornSpec)

/-- 'laws.FnWearLimits', WHERE WHAT IT READS IS OF BULK AT MOST 1048576: true; the input reads as it did. -/
def fnWearLimitsUptoRow : OpenClaim := { program := "ytbfnffecmglgfaa", sum := "22447b67cb74977e700d8802e06f55ff03a741c34f292dc9518c4f99e17390e9", func := "loop.example/g00947/laws.FnWearLimits", spec := "fnWearLimits", unfollowed := true, recurses := true, apart := false, narrowed := true }
def FnWearLimitsUptoSaid : Prop := fnWearLimitsUptoRow.holds Try.pinned (OpenSpec.upto fnWearLimitsSpec)

/-- 'laws.FnPlaces', WHERE WHAT IT READS IS OF BULK AT MOST 1048576: true; the input reads as it did. -/
def fnPlacesUptoRow : OpenClaim := { program := "ytbfnffecmglgfaa", sum := "22447b67cb74977e700d8802e06f55ff03a741c34f292dc9518c4f99e17390e9", func := "loop.example/g00947/laws.FnPlaces", spec := "fnPlaces", unfollowed := true, recurses := true, apart := false, narrowed := true }
def FnPlacesUptoSaid : Prop := fnPlacesUptoRow.holds Try.pinned (OpenSpec.upto fnPlacesSpec)

/-- 'laws.FnExactStockOf', WHERE WHAT IT READS IS OF BULK AT MOST 1048576: true; the input reads as it did. -/
def fnExactStockOfUptoRow : OpenClaim := { program := "ytbfnffecmglgfaa", sum := "22447b67cb74977e700d8802e06f55ff03a741c34f292dc9518c4f99e17390e9", func := "loop.example/g00947/laws.FnExactStockOf", spec := "fnExactStockOf", apart := false, narrowed := true }
def FnExactStockOfUptoSaid : Prop := fnExactStockOfUptoRow.holds Try.pinned (OpenSpec.upto fnExactStockOfSpec)

/-- 'laws.FnExactMayOpen', WHERE WHAT IT READS IS OF BULK AT MOST 1048576: true; the input reads as it did. -/
def fnExactMayOpenUptoRow : OpenClaim := { program := "ytbfnffecmglgfaa", sum := "22447b67cb74977e700d8802e06f55ff03a741c34f292dc9518c4f99e17390e9", func := "loop.example/g00947/laws.FnExactMayOpen", spec := "fnExactMayOpen", unfollowed := true, recurses := true, apart := false, narrowed := true }
def FnExactMayOpenUptoSaid : Prop := fnExactMayOpenUptoRow.holds Try.pinned (OpenSpec.upto fnExactMayOpenSpec)

/-- 'laws.FnExactSurelyOpens', WHERE WHAT IT READS IS OF BULK AT MOST 1048576: true; the input reads as it did. -/
def fnExactSurelyOpensUptoRow : OpenClaim := { program := "ytbfnffecmglgfaa", sum := "22447b67cb74977e700d8802e06f55ff03a741c34f292dc9518c4f99e17390e9", func := "loop.example/g00947/laws.FnExactSurelyOpens", spec := "fnExactSurelyOpens", unfollowed := true, recurses := true, apart := false, narrowed := true }
def FnExactSurelyOpensUptoSaid : Prop := fnExactSurelyOpensUptoRow.holds Try.pinned (OpenSpec.upto fnExactSurelyOpensSpec)

/-- 'laws.FnExactWearLimit', WHERE WHAT IT READS IS OF BULK AT MOST 1048576: true; the input reads as it did. -/
def fnExactWearLimitUptoRow : OpenClaim := { program := "ytbfnffecmglgfaa", sum := "22447b67cb74977e700d8802e06f55ff03a741c34f292dc9518c4f99e17390e9", func := "loop.example/g00947/laws.FnExactWearLimit", spec := "fnExactWearLimit", unfollowed := true, recurses := true, apart := false, narrowed := true }
def FnExactWearLimitUptoSaid : Prop := fnExactWearLimitUptoRow.holds Try.pinned (OpenSpec.upto fnExactWearLimitSpec)

/-- 'laws.FnExactCountMayOpen', WHERE WHAT IT READS IS OF BULK AT MOST 1048576: true; the input reads as it did. -/
def fnExactCountMayOpenUptoRow : OpenClaim := { program := "ytbfnffecmglgfaa", sum := "22447b67cb74977e700d8802e06f55ff03a741c34f292dc9518c4f99e17390e9", func := "loop.example/g00947/laws.FnExactCountMayOpen", spec := "fnExactCountMayOpen", unfollowed := true, recurses := true, apart := false, narrowed := true }
def FnExactCountMayOpenUptoSaid : Prop := fnExactCountMayOpenUptoRow.holds Try.pinned (OpenSpec.upto fnExactCountMayOpenSpec)

/-- 'laws.FnExactWornLock', WHERE WHAT IT READS IS OF BULK AT MOST 1048576: true; the input reads as it did. -/
def fnExactWornLockUptoRow : OpenClaim := { program := "ytbfnffecmglgfaa", sum := "22447b67cb74977e700d8802e06f55ff03a741c34f292dc9518c4f99e17390e9", func := "loop.example/g00947/laws.FnExactWornLock", spec := "fnExactWornLock", unfollowed := true, recurses := true, apart := false, narrowed := true }
def FnExactWornLockUptoSaid : Prop := fnExactWornLockUptoRow.holds Try.pinned (OpenSpec.upto fnExactWornLockSpec)

/-- 'laws.FnExactFreePlaces', WHERE WHAT IT READS IS OF BULK AT MOST 1048576: true; the input reads as it did. -/
def fnExactFreePlacesUptoRow : OpenClaim := { program := "ytbfnffecmglgfaa", sum := "22447b67cb74977e700d8802e06f55ff03a741c34f292dc9518c4f99e17390e9", func := "loop.example/g00947/laws.FnExactFreePlaces", spec := "fnExactFreePlaces", unfollowed := true, recurses := true, apart := false, narrowed := true }
def FnExactFreePlacesUptoSaid : Prop := fnExactFreePlacesUptoRow.holds Try.pinned (OpenSpec.upto fnExactFreePlacesSpec)

/-- 'laws.FnExactWornNeighbours', WHERE WHAT IT READS IS OF BULK AT MOST 1048576: true; the input reads as it did. -/
def fnExactWornNeighboursUptoRow : OpenClaim := { program := "ytbfnffecmglgfaa", sum := "22447b67cb74977e700d8802e06f55ff03a741c34f292dc9518c4f99e17390e9", func := "loop.example/g00947/laws.FnExactWornNeighbours", spec := "fnExactWornNeighbours", unfollowed := true, recurses := true, apart := false, narrowed := true }
def FnExactWornNeighboursUptoSaid : Prop := fnExactWornNeighboursUptoRow.holds Try.pinned (OpenSpec.upto fnExactWornNeighboursSpec)

end Rows
end Go.Proofs.Ytbfnffecmglgfaa
