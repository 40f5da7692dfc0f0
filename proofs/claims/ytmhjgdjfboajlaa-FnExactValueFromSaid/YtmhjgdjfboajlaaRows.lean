/-
  No cell of these rows narrows 'for every input' (looked for: loops, veiled, ifaces, maps, wideKeys, modest, calm, conditions, laid).
  DERIVED. THE GIVEN ROWS OF THIS SEAT. 18 by the template 'for every input the law returns true; each argument reads behind the call as it read before'; 0 by the template 'total and deterministic' (their statements: YtmhjgdjfboajlaaTotals.lean).
  GIVEN WITH THE SEED: the statements are not yours to turn. If you find one false, say at which input.
  Laid BY PROGRAM, IN A SANDBOX (cutbox-rows.mjs): the forced cells as the released guide's own fill.sh prints them over the translation 8113675fbe36d9fa… (all of the seat's roots in one cut). By AI agents, Wed Nov 11 2026. No macro, syntax, notation, axiom, sorry.
-/
import Derived.Test.YtmhjgdjfboajlaaChecked
import GoSem.Claim
import GoSem.ClaimJoined
import GoSem.ClaimMapViews
import Derived.JoinedTies
import Derived.KernelRfl
namespace Go.Proofs.Ytmhjgdjfboajlaa
/- THE CELL 'sum', in the pinned program and in every row, IS THE sha256 OF THE DUMP (.gsa) THAT YtmhjgdjfboajlaaProg.lean LOADS. Nothing in Lean hashes anything: it is a label: what it is worth is what the hold of that sum in a sandbox is worth. -/
noncomputable def Try.pinned : Pinned := { name := "ytmhjgdjfboajlaa", sum := "8113675fbe36d9fa5d89514bc3ac08f752b587359d8a4feced5455fc604668be", checked := Try.checked }
namespace Rows
def none {H : Type} : Left H := { results := [], args := [] }

/-- 'laws.FnTruthOk': WHATEVER THE INPUT: true; the input reads as it did. -/
def fnTruthOkSpec : ChangeSpec := { name := "fnTruthOk", fn := fun _ => fun
  | [d] => { results := [.lit (.bool true)], args := [d] }
  | _ => none }
def fnTruthOkRow : OpenClaim := { program := "ytmhjgdjfboajlaa", sum := "8113675fbe36d9fa5d89514bc3ac08f752b587359d8a4feced5455fc604668be", func := "loop.example/tablehouse/laws.FnTruthOk", spec := "fnTruthOk", apart := false }
def FnTruthOkSaid : Prop := fnTruthOkRow.holds Try.pinned (OpenSpec.ofChange fnTruthOkSpec)

/-- ITS FALSE NEIGHBOUR: 'it returns false'. Refute it at one input. -/
def fnTruthOkWrong : ChangeSpec := { name := "fnTruthOk", fn := fun _ => fun
  | [d] => { results := [.lit (.bool false)], args := [d] }
  | _ => none }
def FnTruthOkWrongFalsely : Prop := fnTruthOkRow.holds Try.pinned (OpenSpec.ofChange fnTruthOkWrong)

/-- 'laws.FnAndOf': WHATEVER THE INPUT: true; the input reads as it did. -/
def fnAndOfSpec : ChangeSpec := { name := "fnAndOf", fn := fun _ => fun
  | [d] => { results := [.lit (.bool true)], args := [d] }
  | _ => none }
def fnAndOfRow : OpenClaim := { program := "ytmhjgdjfboajlaa", sum := "8113675fbe36d9fa5d89514bc3ac08f752b587359d8a4feced5455fc604668be", func := "loop.example/tablehouse/laws.FnAndOf", spec := "fnAndOf", apart := false }
def FnAndOfSaid : Prop := fnAndOfRow.holds Try.pinned (OpenSpec.ofChange fnAndOfSpec)

/-- ITS FALSE NEIGHBOUR: 'it returns false'. Refute it at one input. -/
def fnAndOfWrong : ChangeSpec := { name := "fnAndOf", fn := fun _ => fun
  | [d] => { results := [.lit (.bool false)], args := [d] }
  | _ => none }
def FnAndOfWrongFalsely : Prop := fnAndOfRow.holds Try.pinned (OpenSpec.ofChange fnAndOfWrong)

/-- 'laws.FnOrOf': WHATEVER THE INPUT: true; the input reads as it did. -/
def fnOrOfSpec : ChangeSpec := { name := "fnOrOf", fn := fun _ => fun
  | [d] => { results := [.lit (.bool true)], args := [d] }
  | _ => none }
def fnOrOfRow : OpenClaim := { program := "ytmhjgdjfboajlaa", sum := "8113675fbe36d9fa5d89514bc3ac08f752b587359d8a4feced5455fc604668be", func := "loop.example/tablehouse/laws.FnOrOf", spec := "fnOrOf", apart := false }
def FnOrOfSaid : Prop := fnOrOfRow.holds Try.pinned (OpenSpec.ofChange fnOrOfSpec)

/-- ITS FALSE NEIGHBOUR: 'it returns false'. Refute it at one input. -/
def fnOrOfWrong : ChangeSpec := { name := "fnOrOf", fn := fun _ => fun
  | [d] => { results := [.lit (.bool false)], args := [d] }
  | _ => none }
def FnOrOfWrongFalsely : Prop := fnOrOfRow.holds Try.pinned (OpenSpec.ofChange fnOrOfWrong)

/-- 'laws.FnNotOf': WHATEVER THE INPUT: true; the input reads as it did. -/
def fnNotOfSpec : ChangeSpec := { name := "fnNotOf", fn := fun _ => fun
  | [d] => { results := [.lit (.bool true)], args := [d] }
  | _ => none }
def fnNotOfRow : OpenClaim := { program := "ytmhjgdjfboajlaa", sum := "8113675fbe36d9fa5d89514bc3ac08f752b587359d8a4feced5455fc604668be", func := "loop.example/tablehouse/laws.FnNotOf", spec := "fnNotOf", apart := false }
def FnNotOfSaid : Prop := fnNotOfRow.holds Try.pinned (OpenSpec.ofChange fnNotOfSpec)

/-- ITS FALSE NEIGHBOUR: 'it returns false'. Refute it at one input. -/
def fnNotOfWrong : ChangeSpec := { name := "fnNotOf", fn := fun _ => fun
  | [d] => { results := [.lit (.bool false)], args := [d] }
  | _ => none }
def FnNotOfWrongFalsely : Prop := fnNotOfRow.holds Try.pinned (OpenSpec.ofChange fnNotOfWrong)

/-- 'laws.FnTruthOf': WHATEVER THE INPUT: true; the input reads as it did. -/
def fnTruthOfSpec : ChangeSpec := { name := "fnTruthOf", fn := fun _ => fun
  | [d] => { results := [.lit (.bool true)], args := [d] }
  | _ => none }
def fnTruthOfRow : OpenClaim := { program := "ytmhjgdjfboajlaa", sum := "8113675fbe36d9fa5d89514bc3ac08f752b587359d8a4feced5455fc604668be", func := "loop.example/tablehouse/laws.FnTruthOf", spec := "fnTruthOf", apart := false }
def FnTruthOfSaid : Prop := fnTruthOfRow.holds Try.pinned (OpenSpec.ofChange fnTruthOfSpec)

/-- ITS FALSE NEIGHBOUR: 'it returns false'. Refute it at one input. -/
def fnTruthOfWrong : ChangeSpec := { name := "fnTruthOf", fn := fun _ => fun
  | [d] => { results := [.lit (.bool false)], args := [d] }
  | _ => none }
def FnTruthOfWrongFalsely : Prop := fnTruthOfRow.holds Try.pinned (OpenSpec.ofChange fnTruthOfWrong)

/-- 'laws.FnValueOf': WHATEVER THE INPUT: true; the input reads as it did. -/
def fnValueOfSpec : ChangeSpec := { name := "fnValueOf", fn := fun _ => fun
  | [d] => { results := [.lit (.bool true)], args := [d] }
  | _ => none }
def fnValueOfRow : OpenClaim := { program := "ytmhjgdjfboajlaa", sum := "8113675fbe36d9fa5d89514bc3ac08f752b587359d8a4feced5455fc604668be", func := "loop.example/tablehouse/laws.FnValueOf", spec := "fnValueOf", apart := false }
def FnValueOfSaid : Prop := fnValueOfRow.holds Try.pinned (OpenSpec.ofChange fnValueOfSpec)

/-- ITS FALSE NEIGHBOUR: 'it returns false'. Refute it at one input. -/
def fnValueOfWrong : ChangeSpec := { name := "fnValueOf", fn := fun _ => fun
  | [d] => { results := [.lit (.bool false)], args := [d] }
  | _ => none }
def FnValueOfWrongFalsely : Prop := fnValueOfRow.holds Try.pinned (OpenSpec.ofChange fnValueOfWrong)

/-- 'laws.FnCompare': WHATEVER THE INPUT: true; the input reads as it did. -/
def fnCompareSpec : ChangeSpec := { name := "fnCompare", fn := fun _ => fun
  | [d] => { results := [.lit (.bool true)], args := [d] }
  | _ => none }
def fnCompareRow : OpenClaim := { program := "ytmhjgdjfboajlaa", sum := "8113675fbe36d9fa5d89514bc3ac08f752b587359d8a4feced5455fc604668be", func := "loop.example/tablehouse/laws.FnCompare", spec := "fnCompare", apart := false }
def FnCompareSaid : Prop := fnCompareRow.holds Try.pinned (OpenSpec.ofChange fnCompareSpec)

/-- ITS FALSE NEIGHBOUR: 'it returns false'. Refute it at one input. -/
def fnCompareWrong : ChangeSpec := { name := "fnCompare", fn := fun _ => fun
  | [d] => { results := [.lit (.bool false)], args := [d] }
  | _ => none }
def FnCompareWrongFalsely : Prop := fnCompareRow.holds Try.pinned (OpenSpec.ofChange fnCompareWrong)

/-- 'laws.FnExactTruthOk': WHATEVER THE INPUT: true; the input reads as it did. -/
def fnExactTruthOkSpec : ChangeSpec := { name := "fnExactTruthOk", fn := fun _ => fun
  | [d] => { results := [.lit (.bool true)], args := [d] }
  | _ => none }
def fnExactTruthOkRow : OpenClaim := { program := "ytmhjgdjfboajlaa", sum := "8113675fbe36d9fa5d89514bc3ac08f752b587359d8a4feced5455fc604668be", func := "loop.example/tablehouse/laws.FnExactTruthOk", spec := "fnExactTruthOk", apart := false }
def FnExactTruthOkSaid : Prop := fnExactTruthOkRow.holds Try.pinned (OpenSpec.ofChange fnExactTruthOkSpec)

/-- ITS FALSE NEIGHBOUR: 'it returns false'. Refute it at one input. -/
def fnExactTruthOkWrong : ChangeSpec := { name := "fnExactTruthOk", fn := fun _ => fun
  | [d] => { results := [.lit (.bool false)], args := [d] }
  | _ => none }
def FnExactTruthOkWrongFalsely : Prop := fnExactTruthOkRow.holds Try.pinned (OpenSpec.ofChange fnExactTruthOkWrong)

/-- 'laws.FnExactAndOf': WHATEVER THE INPUT: true; the input reads as it did. -/
def fnExactAndOfSpec : ChangeSpec := { name := "fnExactAndOf", fn := fun _ => fun
  | [d1, d2] => { results := [.lit (.bool true)], args := [d1, d2] }
  | _ => none }
def fnExactAndOfRow : OpenClaim := { program := "ytmhjgdjfboajlaa", sum := "8113675fbe36d9fa5d89514bc3ac08f752b587359d8a4feced5455fc604668be", func := "loop.example/tablehouse/laws.FnExactAndOf", spec := "fnExactAndOf", apart := false }
def FnExactAndOfSaid : Prop := fnExactAndOfRow.holds Try.pinned (OpenSpec.ofChange fnExactAndOfSpec)

/-- ITS FALSE NEIGHBOUR: 'it returns false'. Refute it at one input. -/
def fnExactAndOfWrong : ChangeSpec := { name := "fnExactAndOf", fn := fun _ => fun
  | [d1, d2] => { results := [.lit (.bool false)], args := [d1, d2] }
  | _ => none }
def FnExactAndOfWrongFalsely : Prop := fnExactAndOfRow.holds Try.pinned (OpenSpec.ofChange fnExactAndOfWrong)

/-- 'laws.FnExactOrOf': WHATEVER THE INPUT: true; the input reads as it did. -/
def fnExactOrOfSpec : ChangeSpec := { name := "fnExactOrOf", fn := fun _ => fun
  | [d1, d2] => { results := [.lit (.bool true)], args := [d1, d2] }
  | _ => none }
def fnExactOrOfRow : OpenClaim := { program := "ytmhjgdjfboajlaa", sum := "8113675fbe36d9fa5d89514bc3ac08f752b587359d8a4feced5455fc604668be", func := "loop.example/tablehouse/laws.FnExactOrOf", spec := "fnExactOrOf", apart := false }
def FnExactOrOfSaid : Prop := fnExactOrOfRow.holds Try.pinned (OpenSpec.ofChange fnExactOrOfSpec)

/-- ITS FALSE NEIGHBOUR: 'it returns false'. Refute it at one input. -/
def fnExactOrOfWrong : ChangeSpec := { name := "fnExactOrOf", fn := fun _ => fun
  | [d1, d2] => { results := [.lit (.bool false)], args := [d1, d2] }
  | _ => none }
def FnExactOrOfWrongFalsely : Prop := fnExactOrOfRow.holds Try.pinned (OpenSpec.ofChange fnExactOrOfWrong)

/-- 'laws.FnExactNotOf': WHATEVER THE INPUT: true; the input reads as it did. -/
def fnExactNotOfSpec : ChangeSpec := { name := "fnExactNotOf", fn := fun _ => fun
  | [d] => { results := [.lit (.bool true)], args := [d] }
  | _ => none }
def fnExactNotOfRow : OpenClaim := { program := "ytmhjgdjfboajlaa", sum := "8113675fbe36d9fa5d89514bc3ac08f752b587359d8a4feced5455fc604668be", func := "loop.example/tablehouse/laws.FnExactNotOf", spec := "fnExactNotOf", apart := false }
def FnExactNotOfSaid : Prop := fnExactNotOfRow.holds Try.pinned (OpenSpec.ofChange fnExactNotOfSpec)

/-- ITS FALSE NEIGHBOUR: 'it returns false'. Refute it at one input. -/
def fnExactNotOfWrong : ChangeSpec := { name := "fnExactNotOf", fn := fun _ => fun
  | [d] => { results := [.lit (.bool false)], args := [d] }
  | _ => none }
def FnExactNotOfWrongFalsely : Prop := fnExactNotOfRow.holds Try.pinned (OpenSpec.ofChange fnExactNotOfWrong)

/-- 'laws.FnExactTruthOf': WHATEVER THE INPUT: true; the input reads as it did. -/
def fnExactTruthOfSpec : ChangeSpec := { name := "fnExactTruthOf", fn := fun _ => fun
  | [d] => { results := [.lit (.bool true)], args := [d] }
  | _ => none }
def fnExactTruthOfRow : OpenClaim := { program := "ytmhjgdjfboajlaa", sum := "8113675fbe36d9fa5d89514bc3ac08f752b587359d8a4feced5455fc604668be", func := "loop.example/tablehouse/laws.FnExactTruthOf", spec := "fnExactTruthOf", apart := false }
def FnExactTruthOfSaid : Prop := fnExactTruthOfRow.holds Try.pinned (OpenSpec.ofChange fnExactTruthOfSpec)

/-- ITS FALSE NEIGHBOUR: 'it returns false'. Refute it at one input. -/
def fnExactTruthOfWrong : ChangeSpec := { name := "fnExactTruthOf", fn := fun _ => fun
  | [d] => { results := [.lit (.bool false)], args := [d] }
  | _ => none }
def FnExactTruthOfWrongFalsely : Prop := fnExactTruthOfRow.holds Try.pinned (OpenSpec.ofChange fnExactTruthOfWrong)

/-- 'laws.FnExactValueOf': WHATEVER THE INPUT: true; the input reads as it did. -/
def fnExactValueOfSpec : ChangeSpec := { name := "fnExactValueOf", fn := fun _ => fun
  | [d] => { results := [.lit (.bool true)], args := [d] }
  | _ => none }
def fnExactValueOfRow : OpenClaim := { program := "ytmhjgdjfboajlaa", sum := "8113675fbe36d9fa5d89514bc3ac08f752b587359d8a4feced5455fc604668be", func := "loop.example/tablehouse/laws.FnExactValueOf", spec := "fnExactValueOf", apart := false }
def FnExactValueOfSaid : Prop := fnExactValueOfRow.holds Try.pinned (OpenSpec.ofChange fnExactValueOfSpec)

/-- ITS FALSE NEIGHBOUR: 'it returns false'. Refute it at one input. -/
def fnExactValueOfWrong : ChangeSpec := { name := "fnExactValueOf", fn := fun _ => fun
  | [d] => { results := [.lit (.bool false)], args := [d] }
  | _ => none }
def FnExactValueOfWrongFalsely : Prop := fnExactValueOfRow.holds Try.pinned (OpenSpec.ofChange fnExactValueOfWrong)

/-- 'laws.FnExactCompare': WHATEVER THE INPUT: true; the input reads as it did. -/
def fnExactCompareSpec : ChangeSpec := { name := "fnExactCompare", fn := fun _ => fun
  | [d1, d2, d3] => { results := [.lit (.bool true)], args := [d1, d2, d3] }
  | _ => none }
def fnExactCompareRow : OpenClaim := { program := "ytmhjgdjfboajlaa", sum := "8113675fbe36d9fa5d89514bc3ac08f752b587359d8a4feced5455fc604668be", func := "loop.example/tablehouse/laws.FnExactCompare", spec := "fnExactCompare", apart := false }
def FnExactCompareSaid : Prop := fnExactCompareRow.holds Try.pinned (OpenSpec.ofChange fnExactCompareSpec)

/-- ITS FALSE NEIGHBOUR: 'it returns false'. Refute it at one input. -/
def fnExactCompareWrong : ChangeSpec := { name := "fnExactCompare", fn := fun _ => fun
  | [d1, d2, d3] => { results := [.lit (.bool false)], args := [d1, d2, d3] }
  | _ => none }
def FnExactCompareWrongFalsely : Prop := fnExactCompareRow.holds Try.pinned (OpenSpec.ofChange fnExactCompareWrong)

/-- 'laws.FnValueBytes': WHATEVER THE INPUT: true; the input reads as it did. -/
def fnValueBytesSpec : ChangeSpec := { name := "fnValueBytes", fn := fun _ => fun
  | [d] => { results := [.lit (.bool true)], args := [d] }
  | _ => none }
def fnValueBytesRow : OpenClaim := { program := "ytmhjgdjfboajlaa", sum := "8113675fbe36d9fa5d89514bc3ac08f752b587359d8a4feced5455fc604668be", func := "loop.example/tablehouse/laws.FnValueBytes", spec := "fnValueBytes", apart := false }
def FnValueBytesSaid : Prop := fnValueBytesRow.holds Try.pinned (OpenSpec.ofChange fnValueBytesSpec)

/-- ITS FALSE NEIGHBOUR: 'it returns false'. Refute it at one input. -/
def fnValueBytesWrong : ChangeSpec := { name := "fnValueBytes", fn := fun _ => fun
  | [d] => { results := [.lit (.bool false)], args := [d] }
  | _ => none }
def FnValueBytesWrongFalsely : Prop := fnValueBytesRow.holds Try.pinned (OpenSpec.ofChange fnValueBytesWrong)

/-- 'laws.FnValueFrom': WHATEVER THE INPUT: true; the input reads as it did. -/
def fnValueFromSpec : ChangeSpec := { name := "fnValueFrom", fn := fun _ => fun
  | [d] => { results := [.lit (.bool true)], args := [d] }
  | _ => none }
def fnValueFromRow : OpenClaim := { program := "ytmhjgdjfboajlaa", sum := "8113675fbe36d9fa5d89514bc3ac08f752b587359d8a4feced5455fc604668be", func := "loop.example/tablehouse/laws.FnValueFrom", spec := "fnValueFrom", apart := false }
def FnValueFromSaid : Prop := fnValueFromRow.holds Try.pinned (OpenSpec.ofChange fnValueFromSpec)

/-- ITS FALSE NEIGHBOUR: 'it returns false'. Refute it at one input. -/
def fnValueFromWrong : ChangeSpec := { name := "fnValueFrom", fn := fun _ => fun
  | [d] => { results := [.lit (.bool false)], args := [d] }
  | _ => none }
def FnValueFromWrongFalsely : Prop := fnValueFromRow.holds Try.pinned (OpenSpec.ofChange fnValueFromWrong)

/-- 'laws.FnExactValueBytes': WHATEVER THE INPUT: true; the input reads as it did. -/
def fnExactValueBytesSpec : ChangeSpec := { name := "fnExactValueBytes", fn := fun _ => fun
  | [d] => { results := [.lit (.bool true)], args := [d] }
  | _ => none }
def fnExactValueBytesRow : OpenClaim := { program := "ytmhjgdjfboajlaa", sum := "8113675fbe36d9fa5d89514bc3ac08f752b587359d8a4feced5455fc604668be", func := "loop.example/tablehouse/laws.FnExactValueBytes", spec := "fnExactValueBytes", apart := false }
def FnExactValueBytesSaid : Prop := fnExactValueBytesRow.holds Try.pinned (OpenSpec.ofChange fnExactValueBytesSpec)

/-- ITS FALSE NEIGHBOUR: 'it returns false'. Refute it at one input. -/
def fnExactValueBytesWrong : ChangeSpec := { name := "fnExactValueBytes", fn := fun _ => fun
  | [d] => { results := [.lit (.bool false)], args := [d] }
  | _ => none }
def FnExactValueBytesWrongFalsely : Prop := fnExactValueBytesRow.holds Try.pinned (OpenSpec.ofChange fnExactValueBytesWrong)

/-- 'laws.FnExactValueFrom': WHATEVER THE INPUT: true; the input reads as it did. -/
def fnExactValueFromSpec : ChangeSpec := { name := "fnExactValueFrom", fn := fun _ => fun
  | [d] => { results := [.lit (.bool true)], args := [d] }
  | _ => none }
def fnExactValueFromRow : OpenClaim := { program := "ytmhjgdjfboajlaa", sum := "8113675fbe36d9fa5d89514bc3ac08f752b587359d8a4feced5455fc604668be", func := "loop.example/tablehouse/laws.FnExactValueFrom", spec := "fnExactValueFrom", apart := false }
def FnExactValueFromSaid : Prop := fnExactValueFromRow.holds Try.pinned (OpenSpec.ofChange fnExactValueFromSpec)

/-- ITS FALSE NEIGHBOUR: 'it returns false'. Refute it at one input. -/
def fnExactValueFromWrong : ChangeSpec := { name := "fnExactValueFrom", fn := fun _ => fun
  | [d] => { results := [.lit (.bool false)], args := [d] }
  | _ => none }
def FnExactValueFromWrongFalsely : Prop := fnExactValueFromRow.holds Try.pinned (OpenSpec.ofChange fnExactValueFromWrong)

/- THE SECOND FORM. 'bulk': how many values and letters a reading holds, each counted each time it is reached (what is shared counts as often as it is met; a slice's spare places count too). A statement '..UptoSaid' is the law's where the arguments, and the package variables that the reading takes, are together of bulk at most 1048576: NARROWER than '..Said'. Prove '..Said' where nothing that the law and all that it calls make is longer than what came in: it says more and counts as full. Else prove '..UptoSaid'. A law counts once. -/
mutual
def uptoBulk {H : Type} : DataW H → Nat
  | .lit (.string bytes) => bytes.length + 1
  | .lit _ => 1
  | .nil => 1
  | .ptr d => uptoBulk d + 1
  | .slice elems spare => uptoBulkAll elems + uptoBulkAll spare + 1
  | .agg parts => uptoBulkAll parts + 1
  | .iface _ d => uptoBulk d + 1
  | .map entries => uptoBulkEntries entries + 1
  | .held _ => 1
def uptoBulkAll {H : Type} : List (DataW H) → Nat
  | [] => 0
  | d :: r => uptoBulk d + uptoBulkAll r
def uptoBulkEntries {H : Type} : List (Lit × DataW H) → Nat
  | [] => 0
  | x :: r => uptoBulkEntry x + uptoBulkEntries r
def uptoBulkEntry {H : Type} : Lit × DataW H → Nat
  | (.string bytes, d) => bytes.length + uptoBulk d + 1
  | (_, d) => uptoBulk d + 1
 end
def uptoSmall : (H : Type) → List (DataW H) → Bool := fun _ ds => decide (uptoBulkAll ds ≤ 1048576)
def OpenSpec.upto (s : _root_.Go.ChangeSpec) : _root_.Go.OpenSpec := { _root_.Go.OpenSpec.ofChange s with cond := some uptoSmall }

/-- 'laws.FnTruthOk', WHERE WHAT IT READS IS OF BULK AT MOST 1048576: true; the input reads as it did. -/
def fnTruthOkUptoRow : OpenClaim := { program := "ytmhjgdjfboajlaa", sum := "8113675fbe36d9fa5d89514bc3ac08f752b587359d8a4feced5455fc604668be", func := "loop.example/tablehouse/laws.FnTruthOk", spec := "fnTruthOk", apart := false, narrowed := true }
def FnTruthOkUptoSaid : Prop := fnTruthOkUptoRow.holds Try.pinned (OpenSpec.upto fnTruthOkSpec)

/-- 'laws.FnAndOf', WHERE WHAT IT READS IS OF BULK AT MOST 1048576: true; the input reads as it did. -/
def fnAndOfUptoRow : OpenClaim := { program := "ytmhjgdjfboajlaa", sum := "8113675fbe36d9fa5d89514bc3ac08f752b587359d8a4feced5455fc604668be", func := "loop.example/tablehouse/laws.FnAndOf", spec := "fnAndOf", apart := false, narrowed := true }
def FnAndOfUptoSaid : Prop := fnAndOfUptoRow.holds Try.pinned (OpenSpec.upto fnAndOfSpec)

/-- 'laws.FnOrOf', WHERE WHAT IT READS IS OF BULK AT MOST 1048576: true; the input reads as it did. -/
def fnOrOfUptoRow : OpenClaim := { program := "ytmhjgdjfboajlaa", sum := "8113675fbe36d9fa5d89514bc3ac08f752b587359d8a4feced5455fc604668be", func := "loop.example/tablehouse/laws.FnOrOf", spec := "fnOrOf", apart := false, narrowed := true }
def FnOrOfUptoSaid : Prop := fnOrOfUptoRow.holds Try.pinned (OpenSpec.upto fnOrOfSpec)

/-- 'laws.FnNotOf', WHERE WHAT IT READS IS OF BULK AT MOST 1048576: true; the input reads as it did. -/
def fnNotOfUptoRow : OpenClaim := { program := "ytmhjgdjfboajlaa", sum := "8113675fbe36d9fa5d89514bc3ac08f752b587359d8a4feced5455fc604668be", func := "loop.example/tablehouse/laws.FnNotOf", spec := "fnNotOf", apart := false, narrowed := true }
def FnNotOfUptoSaid : Prop := fnNotOfUptoRow.holds Try.pinned (OpenSpec.upto fnNotOfSpec)

/-- 'laws.FnTruthOf', WHERE WHAT IT READS IS OF BULK AT MOST 1048576: true; the input reads as it did. -/
def fnTruthOfUptoRow : OpenClaim := { program := "ytmhjgdjfboajlaa", sum := "8113675fbe36d9fa5d89514bc3ac08f752b587359d8a4feced5455fc604668be", func := "loop.example/tablehouse/laws.FnTruthOf", spec := "fnTruthOf", apart := false, narrowed := true }
def FnTruthOfUptoSaid : Prop := fnTruthOfUptoRow.holds Try.pinned (OpenSpec.upto fnTruthOfSpec)

/-- 'laws.FnValueOf', WHERE WHAT IT READS IS OF BULK AT MOST 1048576: true; the input reads as it did. -/
def fnValueOfUptoRow : OpenClaim := { program := "ytmhjgdjfboajlaa", sum := "8113675fbe36d9fa5d89514bc3ac08f752b587359d8a4feced5455fc604668be", func := "loop.example/tablehouse/laws.FnValueOf", spec := "fnValueOf", apart := false, narrowed := true }
def FnValueOfUptoSaid : Prop := fnValueOfUptoRow.holds Try.pinned (OpenSpec.upto fnValueOfSpec)

/-- 'laws.FnCompare', WHERE WHAT IT READS IS OF BULK AT MOST 1048576: true; the input reads as it did. -/
def fnCompareUptoRow : OpenClaim := { program := "ytmhjgdjfboajlaa", sum := "8113675fbe36d9fa5d89514bc3ac08f752b587359d8a4feced5455fc604668be", func := "loop.example/tablehouse/laws.FnCompare", spec := "fnCompare", apart := false, narrowed := true }
def FnCompareUptoSaid : Prop := fnCompareUptoRow.holds Try.pinned (OpenSpec.upto fnCompareSpec)

/-- 'laws.FnExactTruthOk', WHERE WHAT IT READS IS OF BULK AT MOST 1048576: true; the input reads as it did. -/
def fnExactTruthOkUptoRow : OpenClaim := { program := "ytmhjgdjfboajlaa", sum := "8113675fbe36d9fa5d89514bc3ac08f752b587359d8a4feced5455fc604668be", func := "loop.example/tablehouse/laws.FnExactTruthOk", spec := "fnExactTruthOk", apart := false, narrowed := true }
def FnExactTruthOkUptoSaid : Prop := fnExactTruthOkUptoRow.holds Try.pinned (OpenSpec.upto fnExactTruthOkSpec)

/-- 'laws.FnExactAndOf', WHERE WHAT IT READS IS OF BULK AT MOST 1048576: true; the input reads as it did. -/
def fnExactAndOfUptoRow : OpenClaim := { program := "ytmhjgdjfboajlaa", sum := "8113675fbe36d9fa5d89514bc3ac08f752b587359d8a4feced5455fc604668be", func := "loop.example/tablehouse/laws.FnExactAndOf", spec := "fnExactAndOf", apart := false, narrowed := true }
def FnExactAndOfUptoSaid : Prop := fnExactAndOfUptoRow.holds Try.pinned (OpenSpec.upto fnExactAndOfSpec)

/-- 'laws.FnExactOrOf', WHERE WHAT IT READS IS OF BULK AT MOST 1048576: true; the input reads as it did. -/
def fnExactOrOfUptoRow : OpenClaim := { program := "ytmhjgdjfboajlaa", sum := "8113675fbe36d9fa5d89514bc3ac08f752b587359d8a4feced5455fc604668be", func := "loop.example/tablehouse/laws.FnExactOrOf", spec := "fnExactOrOf", apart := false, narrowed := true }
def FnExactOrOfUptoSaid : Prop := fnExactOrOfUptoRow.holds Try.pinned (OpenSpec.upto fnExactOrOfSpec)

/-- 'laws.FnExactNotOf', WHERE WHAT IT READS IS OF BULK AT MOST 1048576: true; the input reads as it did. -/
def fnExactNotOfUptoRow : OpenClaim := { program := "ytmhjgdjfboajlaa", sum := "8113675fbe36d9fa5d89514bc3ac08f752b587359d8a4feced5455fc604668be", func := "loop.example/tablehouse/laws.FnExactNotOf", spec := "fnExactNotOf", apart := false, narrowed := true }
def FnExactNotOfUptoSaid : Prop := fnExactNotOfUptoRow.holds Try.pinned (OpenSpec.upto fnExactNotOfSpec)

/-- 'laws.FnExactTruthOf', WHERE WHAT IT READS IS OF BULK AT MOST 1048576: true; the input reads as it did. -/
def fnExactTruthOfUptoRow : OpenClaim := { program := "ytmhjgdjfboajlaa", sum := "8113675fbe36d9fa5d89514bc3ac08f752b587359d8a4feced5455fc604668be", func := "loop.example/tablehouse/laws.FnExactTruthOf", spec := "fnExactTruthOf", apart := false, narrowed := true }
def FnExactTruthOfUptoSaid : Prop := fnExactTruthOfUptoRow.holds Try.pinned (OpenSpec.upto fnExactTruthOfSpec)

/-- 'laws.FnExactValueOf', WHERE WHAT IT READS IS OF BULK AT MOST 1048576: true; the input reads as it did. -/
def fnExactValueOfUptoRow : OpenClaim := { program := "ytmhjgdjfboajlaa", sum := "8113675fbe36d9fa5d89514bc3ac08f752b587359d8a4feced5455fc604668be", func := "loop.example/tablehouse/laws.FnExactValueOf", spec := "fnExactValueOf", apart := false, narrowed := true }
def FnExactValueOfUptoSaid : Prop := fnExactValueOfUptoRow.holds Try.pinned (OpenSpec.upto fnExactValueOfSpec)

/-- 'laws.FnExactCompare', WHERE WHAT IT READS IS OF BULK AT MOST 1048576: true; the input reads as it did. -/
def fnExactCompareUptoRow : OpenClaim := { program := "ytmhjgdjfboajlaa", sum := "8113675fbe36d9fa5d89514bc3ac08f752b587359d8a4feced5455fc604668be", func := "loop.example/tablehouse/laws.FnExactCompare", spec := "fnExactCompare", apart := false, narrowed := true }
def FnExactCompareUptoSaid : Prop := fnExactCompareUptoRow.holds Try.pinned (OpenSpec.upto fnExactCompareSpec)

/-- 'laws.FnValueBytes', WHERE WHAT IT READS IS OF BULK AT MOST 1048576: true; the input reads as it did. -/
def fnValueBytesUptoRow : OpenClaim := { program := "ytmhjgdjfboajlaa", sum := "8113675fbe36d9fa5d89514bc3ac08f752b587359d8a4feced5455fc604668be", func := "loop.example/tablehouse/laws.FnValueBytes", spec := "fnValueBytes", apart := false, narrowed := true }
def FnValueBytesUptoSaid : Prop := fnValueBytesUptoRow.holds Try.pinned (OpenSpec.upto fnValueBytesSpec)

/-- 'laws.FnValueFrom', WHERE WHAT IT READS IS OF BULK AT MOST 1048576: true; the input reads as it did. -/
def fnValueFromUptoRow : OpenClaim := { program := "ytmhjgdjfboajlaa", sum := "8113675fbe36d9fa5d89514bc3ac08f752b587359d8a4feced5455fc604668be", func := "loop.example/tablehouse/laws.FnValueFrom", spec := "fnValueFrom", apart := false, narrowed := true }
def FnValueFromUptoSaid : Prop := fnValueFromUptoRow.holds Try.pinned (OpenSpec.upto fnValueFromSpec)

/-- 'laws.FnExactValueBytes', WHERE WHAT IT READS IS OF BULK AT MOST 1048576: true; the input reads as it did. -/
def fnExactValueBytesUptoRow : OpenClaim := { program := "ytmhjgdjfboajlaa", sum := "8113675fbe36d9fa5d89514bc3ac08f752b587359d8a4feced5455fc604668be", func := "loop.example/tablehouse/laws.FnExactValueBytes", spec := "fnExactValueBytes", apart := false, narrowed := true }
def FnExactValueBytesUptoSaid : Prop := fnExactValueBytesUptoRow.holds Try.pinned (OpenSpec.upto fnExactValueBytesSpec)

/-- 'laws.FnExactValueFrom', WHERE WHAT IT READS IS OF BULK AT MOST 1048576: true; the input reads as it did. -/
def fnExactValueFromUptoRow : OpenClaim := { program := "ytmhjgdjfboajlaa", sum := "8113675fbe36d9fa5d89514bc3ac08f752b587359d8a4feced5455fc604668be", func := "loop.example/tablehouse/laws.FnExactValueFrom", spec := "fnExactValueFrom", apart := false, narrowed := true }
def FnExactValueFromUptoSaid : Prop := fnExactValueFromUptoRow.holds Try.pinned (OpenSpec.upto fnExactValueFromSpec)

end Rows
end Go.Proofs.Ytmhjgdjfboajlaa
