/-
  No cell of these rows narrows 'for every input' (looked for: loops, veiled, ifaces, maps, wideKeys, modest, calm, conditions, laid).
  DERIVED. THE GIVEN ROWS OF THIS SEAT. 12 by the template 'for every input the law returns true; each argument reads behind the call as it read before'; 0 by the template 'total and deterministic' (their statements: YtnblifpogbhjgaaTotals.lean).
  GIVEN WITH THE SEED: the statements are not yours to turn. If you find one false, say at which input.
  Laid BY PROGRAM, IN A SANDBOX (cutbox-rows.mjs): the forced cells as the released guide's own fill.sh prints them over the translation 427bbe2aadb1225d… (all of the seat's roots in one cut). By AI agents, Wed Nov 11 2026. No macro, syntax, notation, axiom, sorry.
-/
import Derived.Test.YtnblifpogbhjgaaChecked
import GoSem.Claim
import GoSem.ClaimJoined
import GoSem.ClaimMapViews
import Derived.JoinedTies
import Derived.KernelRfl
namespace Go.Proofs.Ytnblifpogbhjgaa
/- THE CELL 'sum', in the pinned program and in every row, IS THE sha256 OF THE DUMP (.gsa) THAT YtnblifpogbhjgaaProg.lean LOADS. Nothing in Lean hashes anything: it is a label: what it is worth is what the hold of that sum in a sandbox is worth. -/
noncomputable def Try.pinned : Pinned := { name := "ytnblifpogbhjgaa", sum := "427bbe2aadb1225df5e394cd0ee04f33bcee44de3396326d6688e38969d72e8d", checked := Try.checked }
namespace Rows
def none {H : Type} : Left H := { results := [], args := [] }

/-- 'laws.FnKeys': WHATEVER THE INPUT: true; the input reads as it did. -/
def fnKeysSpec : ChangeSpec := { name := "fnKeys", fn := fun _ => fun
  | [d] => { results := [.lit (.bool true)], args := [d] }
  | _ => none }
def fnKeysRow : OpenClaim := { program := "ytnblifpogbhjgaa", sum := "427bbe2aadb1225df5e394cd0ee04f33bcee44de3396326d6688e38969d72e8d", func := "loop.example/g00947/laws.FnKeys", spec := "fnKeys", unfollowed := true, recurses := true, apart := false }
def FnKeysSaid : Prop := fnKeysRow.holds Try.pinned (OpenSpec.ofChange fnKeysSpec)

/-- ITS FALSE NEIGHBOUR: 'it returns false'. Refute it at one input. -/
def fnKeysWrong : ChangeSpec := { name := "fnKeys", fn := fun _ => fun
  | [d] => { results := [.lit (.bool false)], args := [d] }
  | _ => none }
def FnKeysWrongFalsely : Prop := fnKeysRow.holds Try.pinned (OpenSpec.ofChange fnKeysWrong)

/-- 'laws.FnFaults': WHATEVER THE INPUT: true; the input reads as it did. -/
def fnFaultsSpec : ChangeSpec := { name := "fnFaults", fn := fun _ => fun
  | [d] => { results := [.lit (.bool true)], args := [d] }
  | _ => none }
def fnFaultsRow : OpenClaim := { program := "ytnblifpogbhjgaa", sum := "427bbe2aadb1225df5e394cd0ee04f33bcee44de3396326d6688e38969d72e8d", func := "loop.example/g00947/laws.FnFaults", spec := "fnFaults", unfollowed := true, recurses := true, apart := false }
def FnFaultsSaid : Prop := fnFaultsRow.holds Try.pinned (OpenSpec.ofChange fnFaultsSpec)

/-- ITS FALSE NEIGHBOUR: 'it returns false'. Refute it at one input. -/
def fnFaultsWrong : ChangeSpec := { name := "fnFaults", fn := fun _ => fun
  | [d] => { results := [.lit (.bool false)], args := [d] }
  | _ => none }
def FnFaultsWrongFalsely : Prop := fnFaultsRow.holds Try.pinned (OpenSpec.ofChange fnFaultsWrong)

/-- 'laws.FnKeyTexts': WHATEVER THE INPUT: true; the input reads as it did. -/
def fnKeyTextsSpec : ChangeSpec := { name := "fnKeyTexts", fn := fun _ => fun
  | [d] => { results := [.lit (.bool true)], args := [d] }
  | _ => none }
def fnKeyTextsRow : OpenClaim := { program := "ytnblifpogbhjgaa", sum := "427bbe2aadb1225df5e394cd0ee04f33bcee44de3396326d6688e38969d72e8d", func := "loop.example/g00947/laws.FnKeyTexts", spec := "fnKeyTexts", unfollowed := true, recurses := true, apart := false }
def FnKeyTextsSaid : Prop := fnKeyTextsRow.holds Try.pinned (OpenSpec.ofChange fnKeyTextsSpec)

/-- ITS FALSE NEIGHBOUR: 'it returns false'. Refute it at one input. -/
def fnKeyTextsWrong : ChangeSpec := { name := "fnKeyTexts", fn := fun _ => fun
  | [d] => { results := [.lit (.bool false)], args := [d] }
  | _ => none }
def FnKeyTextsWrongFalsely : Prop := fnKeyTextsRow.holds Try.pinned (OpenSpec.ofChange fnKeyTextsWrong)

/-- 'laws.FnExactIsMaker': WHATEVER THE INPUT: true; the input reads as it did. -/
def fnExactIsMakerSpec : ChangeSpec := { name := "fnExactIsMaker", fn := fun _ => fun
  | [d] => { results := [.lit (.bool true)], args := [d] }
  | _ => none }
def fnExactIsMakerRow : OpenClaim := { program := "ytnblifpogbhjgaa", sum := "427bbe2aadb1225df5e394cd0ee04f33bcee44de3396326d6688e38969d72e8d", func := "loop.example/g00947/laws.FnExactIsMaker", spec := "fnExactIsMaker", apart := false }
def FnExactIsMakerSaid : Prop := fnExactIsMakerRow.holds Try.pinned (OpenSpec.ofChange fnExactIsMakerSpec)

/-- ITS FALSE NEIGHBOUR: 'it returns false'. Refute it at one input. -/
def fnExactIsMakerWrong : ChangeSpec := { name := "fnExactIsMaker", fn := fun _ => fun
  | [d] => { results := [.lit (.bool false)], args := [d] }
  | _ => none }
def FnExactIsMakerWrongFalsely : Prop := fnExactIsMakerRow.holds Try.pinned (OpenSpec.ofChange fnExactIsMakerWrong)

/-- 'laws.FnExactKeyFault': WHATEVER THE INPUT: true; the input reads as it did. -/
def fnExactKeyFaultSpec : ChangeSpec := { name := "fnExactKeyFault", fn := fun _ => fun
  | [d1, d2] => { results := [.lit (.bool true)], args := [d1, d2] }
  | _ => none }
def fnExactKeyFaultRow : OpenClaim := { program := "ytnblifpogbhjgaa", sum := "427bbe2aadb1225df5e394cd0ee04f33bcee44de3396326d6688e38969d72e8d", func := "loop.example/g00947/laws.FnExactKeyFault", spec := "fnExactKeyFault", unfollowed := true, recurses := true, apart := false }
def FnExactKeyFaultSaid : Prop := fnExactKeyFaultRow.holds Try.pinned (OpenSpec.ofChange fnExactKeyFaultSpec)

/-- ITS FALSE NEIGHBOUR: 'it returns false'. Refute it at one input. -/
def fnExactKeyFaultWrong : ChangeSpec := { name := "fnExactKeyFault", fn := fun _ => fun
  | [d1, d2] => { results := [.lit (.bool false)], args := [d1, d2] }
  | _ => none }
def FnExactKeyFaultWrongFalsely : Prop := fnExactKeyFaultRow.holds Try.pinned (OpenSpec.ofChange fnExactKeyFaultWrong)

/-- 'laws.FnExactIsKey': WHATEVER THE INPUT: true; the input reads as it did. -/
def fnExactIsKeySpec : ChangeSpec := { name := "fnExactIsKey", fn := fun _ => fun
  | [d1, d2] => { results := [.lit (.bool true)], args := [d1, d2] }
  | _ => none }
def fnExactIsKeyRow : OpenClaim := { program := "ytnblifpogbhjgaa", sum := "427bbe2aadb1225df5e394cd0ee04f33bcee44de3396326d6688e38969d72e8d", func := "loop.example/g00947/laws.FnExactIsKey", spec := "fnExactIsKey", unfollowed := true, recurses := true, apart := false }
def FnExactIsKeySaid : Prop := fnExactIsKeyRow.holds Try.pinned (OpenSpec.ofChange fnExactIsKeySpec)

/-- ITS FALSE NEIGHBOUR: 'it returns false'. Refute it at one input. -/
def fnExactIsKeyWrong : ChangeSpec := { name := "fnExactIsKey", fn := fun _ => fun
  | [d1, d2] => { results := [.lit (.bool false)], args := [d1, d2] }
  | _ => none }
def FnExactIsKeyWrongFalsely : Prop := fnExactIsKeyRow.holds Try.pinned (OpenSpec.ofChange fnExactIsKeyWrong)

/-- 'laws.FnExactCountKeys': WHATEVER THE INPUT: true; the input reads as it did. -/
def fnExactCountKeysSpec : ChangeSpec := { name := "fnExactCountKeys", fn := fun _ => fun
  | [d] => { results := [.lit (.bool true)], args := [d] }
  | _ => none }
def fnExactCountKeysRow : OpenClaim := { program := "ytnblifpogbhjgaa", sum := "427bbe2aadb1225df5e394cd0ee04f33bcee44de3396326d6688e38969d72e8d", func := "loop.example/g00947/laws.FnExactCountKeys", spec := "fnExactCountKeys", recurses := true, apart := false }
def FnExactCountKeysSaid : Prop := fnExactCountKeysRow.holds Try.pinned (OpenSpec.ofChange fnExactCountKeysSpec)

/-- ITS FALSE NEIGHBOUR: 'it returns false'. Refute it at one input. -/
def fnExactCountKeysWrong : ChangeSpec := { name := "fnExactCountKeys", fn := fun _ => fun
  | [d] => { results := [.lit (.bool false)], args := [d] }
  | _ => none }
def FnExactCountKeysWrongFalsely : Prop := fnExactCountKeysRow.holds Try.pinned (OpenSpec.ofChange fnExactCountKeysWrong)

/-- 'laws.FnExactNextKey': WHATEVER THE INPUT: true; the input reads as it did. -/
def fnExactNextKeySpec : ChangeSpec := { name := "fnExactNextKey", fn := fun _ => fun
  | [d1, d2] => { results := [.lit (.bool true)], args := [d1, d2] }
  | _ => none }
def fnExactNextKeyRow : OpenClaim := { program := "ytnblifpogbhjgaa", sum := "427bbe2aadb1225df5e394cd0ee04f33bcee44de3396326d6688e38969d72e8d", func := "loop.example/g00947/laws.FnExactNextKey", spec := "fnExactNextKey", unfollowed := true, recurses := true, apart := false }
def FnExactNextKeySaid : Prop := fnExactNextKeyRow.holds Try.pinned (OpenSpec.ofChange fnExactNextKeySpec)

/-- ITS FALSE NEIGHBOUR: 'it returns false'. Refute it at one input. -/
def fnExactNextKeyWrong : ChangeSpec := { name := "fnExactNextKey", fn := fun _ => fun
  | [d1, d2] => { results := [.lit (.bool false)], args := [d1, d2] }
  | _ => none }
def FnExactNextKeyWrongFalsely : Prop := fnExactNextKeyRow.holds Try.pinned (OpenSpec.ofChange fnExactNextKeyWrong)

/-- 'laws.FnExactFirstKey': WHATEVER THE INPUT: true; the input reads as it did. -/
def fnExactFirstKeySpec : ChangeSpec := { name := "fnExactFirstKey", fn := fun _ => fun
  | [d] => { results := [.lit (.bool true)], args := [d] }
  | _ => none }
def fnExactFirstKeyRow : OpenClaim := { program := "ytnblifpogbhjgaa", sum := "427bbe2aadb1225df5e394cd0ee04f33bcee44de3396326d6688e38969d72e8d", func := "loop.example/g00947/laws.FnExactFirstKey", spec := "fnExactFirstKey", unfollowed := true, recurses := true, apart := false }
def FnExactFirstKeySaid : Prop := fnExactFirstKeyRow.holds Try.pinned (OpenSpec.ofChange fnExactFirstKeySpec)

/-- ITS FALSE NEIGHBOUR: 'it returns false'. Refute it at one input. -/
def fnExactFirstKeyWrong : ChangeSpec := { name := "fnExactFirstKey", fn := fun _ => fun
  | [d] => { results := [.lit (.bool false)], args := [d] }
  | _ => none }
def FnExactFirstKeyWrongFalsely : Prop := fnExactFirstKeyRow.holds Try.pinned (OpenSpec.ofChange fnExactFirstKeyWrong)

/-- 'laws.FnExactFirstKeys': WHATEVER THE INPUT: true; the input reads as it did. -/
def fnExactFirstKeysSpec : ChangeSpec := { name := "fnExactFirstKeys", fn := fun _ => fun
  | [d1, d2] => { results := [.lit (.bool true)], args := [d1, d2] }
  | _ => none }
def fnExactFirstKeysRow : OpenClaim := { program := "ytnblifpogbhjgaa", sum := "427bbe2aadb1225df5e394cd0ee04f33bcee44de3396326d6688e38969d72e8d", func := "loop.example/g00947/laws.FnExactFirstKeys", spec := "fnExactFirstKeys", unfollowed := true, recurses := true, apart := false }
def FnExactFirstKeysSaid : Prop := fnExactFirstKeysRow.holds Try.pinned (OpenSpec.ofChange fnExactFirstKeysSpec)

/-- ITS FALSE NEIGHBOUR: 'it returns false'. Refute it at one input. -/
def fnExactFirstKeysWrong : ChangeSpec := { name := "fnExactFirstKeys", fn := fun _ => fun
  | [d1, d2] => { results := [.lit (.bool false)], args := [d1, d2] }
  | _ => none }
def FnExactFirstKeysWrongFalsely : Prop := fnExactFirstKeysRow.holds Try.pinned (OpenSpec.ofChange fnExactFirstKeysWrong)

/-- 'laws.FnExactKeyText': WHATEVER THE INPUT: true; the input reads as it did. -/
def fnExactKeyTextSpec : ChangeSpec := { name := "fnExactKeyText", fn := fun _ => fun
  | [d1, d2] => { results := [.lit (.bool true)], args := [d1, d2] }
  | _ => none }
def fnExactKeyTextRow : OpenClaim := { program := "ytnblifpogbhjgaa", sum := "427bbe2aadb1225df5e394cd0ee04f33bcee44de3396326d6688e38969d72e8d", func := "loop.example/g00947/laws.FnExactKeyText", spec := "fnExactKeyText", unfollowed := true, recurses := true, apart := false }
def FnExactKeyTextSaid : Prop := fnExactKeyTextRow.holds Try.pinned (OpenSpec.ofChange fnExactKeyTextSpec)

/-- ITS FALSE NEIGHBOUR: 'it returns false'. Refute it at one input. -/
def fnExactKeyTextWrong : ChangeSpec := { name := "fnExactKeyText", fn := fun _ => fun
  | [d1, d2] => { results := [.lit (.bool false)], args := [d1, d2] }
  | _ => none }
def FnExactKeyTextWrongFalsely : Prop := fnExactKeyTextRow.holds Try.pinned (OpenSpec.ofChange fnExactKeyTextWrong)

/-- 'laws.FnExactReadKey': WHATEVER THE INPUT: true; the input reads as it did. -/
def fnExactReadKeySpec : ChangeSpec := { name := "fnExactReadKey", fn := fun _ => fun
  | [d1, d2] => { results := [.lit (.bool true)], args := [d1, d2] }
  | _ => none }
def fnExactReadKeyRow : OpenClaim := { program := "ytnblifpogbhjgaa", sum := "427bbe2aadb1225df5e394cd0ee04f33bcee44de3396326d6688e38969d72e8d", func := "loop.example/g00947/laws.FnExactReadKey", spec := "fnExactReadKey", unfollowed := true, recurses := true, apart := false }
def FnExactReadKeySaid : Prop := fnExactReadKeyRow.holds Try.pinned (OpenSpec.ofChange fnExactReadKeySpec)

/-- ITS FALSE NEIGHBOUR: 'it returns false'. Refute it at one input. -/
def fnExactReadKeyWrong : ChangeSpec := { name := "fnExactReadKey", fn := fun _ => fun
  | [d1, d2] => { results := [.lit (.bool false)], args := [d1, d2] }
  | _ => none }
def FnExactReadKeyWrongFalsely : Prop := fnExactReadKeyRow.holds Try.pinned (OpenSpec.ofChange fnExactReadKeyWrong)

/- THE SECOND FORM. 'bulk': how many values and letters a reading holds, each counted each time it is reached (what is shared counts as often as it is met; a slice's spare places count too). A statement '..UptoSaid' is the law's where the arguments, and the package variables that the reading takes, are together of bulk at most 1048576: NARROWER than '..Said'. Prove '..Said' where nothing that the law and all that it calls make is longer than what came in: it says more and counts as full. Else prove '..UptoSaid'. A law counts once. -/
mutual
def uptoBulk {H : Type} : DataW H → Nat
  | .lit (.string bytes) => bytes.length + 1
  | .lit _ => 1
  | .nil => 1
  | .ptr d => uptoBulk d + 1
  | .slice elems spare => uptoBulkAll elems + uptoBulkAll spare + 1
  | .agg parts => uptoBulkAll parts + 1
  | .iface _ d => uptoBulk d + 1
  | .map entries => uptoBulkEntries entries + 1
  | .held _ => 1
def uptoBulkAll {H : Type} : List (DataW H) → Nat
  | [] => 0
  | d :: r => uptoBulk d + uptoBulkAll r
def uptoBulkEntries {H : Type} : List (Lit × DataW H) → Nat
  | [] => 0
  | x :: r => uptoBulkEntry x + uptoBulkEntries r
def uptoBulkEntry {H : Type} : Lit × DataW H → Nat
  | (.string bytes, d) => bytes.length + uptoBulk d + 1
  | (_, d) => uptoBulk d + 1
 end
def uptoSmall : (H : Type) → List (DataW H) → Bool := fun _ ds => decide (uptoBulkAll ds ≤ 1048576)
def OpenSpec.upto (s : _root_.Go.ChangeSpec) : _root_.Go.OpenSpec := { _root_.Go.OpenSpec.ofChange s with cond := some uptoSmall }

/-- 'laws.FnKeys', WHERE WHAT IT READS IS OF BULK AT MOST 1048576: true; the input reads as it did. -/
def fnKeysUptoRow : OpenClaim := { program := "ytnblifpogbhjgaa", sum := "427bbe2aadb1225df5e394cd0ee04f33bcee44de3396326d6688e38969d72e8d", func := "loop.example/g00947/laws.FnKeys", spec := "fnKeys", unfollowed := true, recurses := true, apart := false, narrowed := true }
def FnKeysUptoSaid : Prop := fnKeysUptoRow.holds Try.pinned (OpenSpec.upto fnKeysSpec)

/-- 'laws.FnFaults', WHERE WHAT IT READS IS OF BULK AT MOST 1048576: true; the input reads as it did. -/
def fnFaultsUptoRow : OpenClaim := { program := "ytnblifpogbhjgaa", sum := "427bbe2aadb1225df5e394cd0ee04f33bcee44de3396326d6688e38969d72e8d", func := "loop.example/g00947/laws.FnFaults", spec := "fnFaults", unfollowed := true, recurses := true, apart := false, narrowed := true }
def FnFaultsUptoSaid : Prop := fnFaultsUptoRow.holds Try.pinned (OpenSpec.upto fnFaultsSpec)

/-- 'laws.FnKeyTexts', WHERE WHAT IT READS IS OF BULK AT MOST 1048576: true; the input reads as it did. -/
def fnKeyTextsUptoRow : OpenClaim := { program := "ytnblifpogbhjgaa", sum := "427bbe2aadb1225df5e394cd0ee04f33bcee44de3396326d6688e38969d72e8d", func := "loop.example/g00947/laws.FnKeyTexts", spec := "fnKeyTexts", unfollowed := true, recurses := true, apart := false, narrowed := true }
def FnKeyTextsUptoSaid : Prop := fnKeyTextsUptoRow.holds Try.pinned (OpenSpec.upto fnKeyTextsSpec)

/-- 'laws.FnExactIsMaker', WHERE WHAT IT READS IS OF BULK AT MOST 1048576: true; the input reads as it did. -/
def fnExactIsMakerUptoRow : OpenClaim := { program := "ytnblifpogbhjgaa", sum := "427bbe2aadb1225df5e394cd0ee04f33bcee44de3396326d6688e38969d72e8d", func := "loop.example/g00947/laws.FnExactIsMaker", spec := "fnExactIsMaker", apart := false, narrowed := true }
def FnExactIsMakerUptoSaid : Prop := fnExactIsMakerUptoRow.holds Try.pinned (OpenSpec.upto fnExactIsMakerSpec)

/-- 'laws.FnExactKeyFault', WHERE WHAT IT READS IS OF BULK AT MOST 1048576: true; the input reads as it did. -/
def fnExactKeyFaultUptoRow : OpenClaim := { program := "ytnblifpogbhjgaa", sum := "427bbe2aadb1225df5e394cd0ee04f33bcee44de3396326d6688e38969d72e8d", func := "loop.example/g00947/laws.FnExactKeyFault", spec := "fnExactKeyFault", unfollowed := true, recurses := true, apart := false, narrowed := true }
def FnExactKeyFaultUptoSaid : Prop := fnExactKeyFaultUptoRow.holds Try.pinned (OpenSpec.upto fnExactKeyFaultSpec)

/-- 'laws.FnExactIsKey', WHERE WHAT IT READS IS OF BULK AT MOST 1048576: true; the input reads as it did. -/
def fnExactIsKeyUptoRow : OpenClaim := { program := "ytnblifpogbhjgaa", sum := "427bbe2aadb1225df5e394cd0ee04f33bcee44de3396326d6688e38969d72e8d", func := "loop.example/g00947/laws.FnExactIsKey", spec := "fnExactIsKey", unfollowed := true, recurses := true, apart := false, narrowed := true }
def FnExactIsKeyUptoSaid : Prop := fnExactIsKeyUptoRow.holds Try.pinned (OpenSpec.upto fnExactIsKeySpec)

/-- 'laws.FnExactCountKeys', WHERE WHAT IT READS IS OF BULK AT MOST 1048576: true; the input reads as it did. -/
def fnExactCountKeysUptoRow : OpenClaim := { program := "ytnblifpogbhjgaa", sum := "427bbe2aadb1225df5e394cd0ee04f33bcee44de3396326d6688e38969d72e8d", func := "loop.example/g00947/laws.FnExactCountKeys", spec := "fnExactCountKeys", recurses := true, apart := false, narrowed := true }
def FnExactCountKeysUptoSaid : Prop := fnExactCountKeysUptoRow.holds Try.pinned (OpenSpec.upto fnExactCountKeysSpec)

/-- 'laws.FnExactNextKey', WHERE WHAT IT READS IS OF BULK AT MOST 1048576: true; the input reads as it did. -/
def fnExactNextKeyUptoRow : OpenClaim := { program := "ytnblifpogbhjgaa", sum := "427bbe2aadb1225df5e394cd0ee04f33bcee44de3396326d6688e38969d72e8d", func := "loop.example/g00947/laws.FnExactNextKey", spec := "fnExactNextKey", unfollowed := true, recurses := true, apart := false, narrowed := true }
def FnExactNextKeyUptoSaid : Prop := fnExactNextKeyUptoRow.holds Try.pinned (OpenSpec.upto fnExactNextKeySpec)

/-- 'laws.FnExactFirstKey', WHERE WHAT IT READS IS OF BULK AT MOST 1048576: true; the input reads as it did. -/
def fnExactFirstKeyUptoRow : OpenClaim := { program := "ytnblifpogbhjgaa", sum := "427bbe2aadb1225df5e394cd0ee04f33bcee44de3396326d6688e38969d72e8d", func := "loop.example/g00947/laws.FnExactFirstKey", spec := "fnExactFirstKey", unfollowed := true, recurses := true, apart := false, narrowed := true }
def FnExactFirstKeyUptoSaid : Prop := fnExactFirstKeyUptoRow.holds Try.pinned (OpenSpec.upto fnExactFirstKeySpec)

/-- 'laws.FnExactFirstKeys', WHERE WHAT IT READS IS OF BULK AT MOST 1048576: true; the input reads as it did. -/
def fnExactFirstKeysUptoRow : OpenClaim := { program := "ytnblifpogbhjgaa", sum := "427bbe2aadb1225df5e394cd0ee04f33bcee44de3396326d6688e38969d72e8d", func := "loop.example/g00947/laws.FnExactFirstKeys", spec := "fnExactFirstKeys", unfollowed := true, recurses := true, apart := false, narrowed := true }
def FnExactFirstKeysUptoSaid : Prop := fnExactFirstKeysUptoRow.holds Try.pinned (OpenSpec.upto fnExactFirstKeysSpec)

/-- 'laws.FnExactKeyText', WHERE WHAT IT READS IS OF BULK AT MOST 1048576: true; the input reads as it did. -/
def fnExactKeyTextUptoRow : OpenClaim := { program := "ytnblifpogbhjgaa", sum := "427bbe2aadb1225df5e394cd0ee04f33bcee44de3396326d6688e38969d72e8d", func := "loop.example/g00947/laws.FnExactKeyText", spec := "fnExactKeyText", unfollowed := true, recurses := true, apart := false, narrowed := true }
def FnExactKeyTextUptoSaid : Prop := fnExactKeyTextUptoRow.holds Try.pinned (OpenSpec.upto fnExactKeyTextSpec)

/-- 'laws.FnExactReadKey', WHERE WHAT IT READS IS OF BULK AT MOST 1048576: true; the input reads as it did. -/
def fnExactReadKeyUptoRow : OpenClaim := { program := "ytnblifpogbhjgaa", sum := "427bbe2aadb1225df5e394cd0ee04f33bcee44de3396326d6688e38969d72e8d", func := "loop.example/g00947/laws.FnExactReadKey", spec := "fnExactReadKey", unfollowed := true, recurses := true, apart := false, narrowed := true }
def FnExactReadKeyUptoSaid : Prop := fnExactReadKeyUptoRow.holds Try.pinned (OpenSpec.upto fnExactReadKeySpec)

end Rows
end Go.Proofs.Ytnblifpogbhjgaa
