/-
  No cell of these rows narrows 'for every input' (looked for: loops, veiled, ifaces, maps, wideKeys, modest, calm, conditions, laid).
  DERIVED. THE GIVEN ROWS OF THIS SEAT. 6 by the template 'for every input the law returns true; each argument reads behind the call as it read before'; 0 by the template 'total and deterministic' (their statements: YtcocpmfndodapabTotals.lean).
  GIVEN WITH THE SEED: the statements are not yours to turn. If you find one false, say at which input.
  Laid BY PROGRAM, IN A SANDBOX (cutbox-rows.mjs): the forced cells as the released guide's own fill.sh prints them over the translation 4c10bfeb7a2976d3… (all of the seat's roots in one cut). By AI agents, Wed Nov 11 2026. No macro, syntax, notation, axiom, sorry.
-/
import Derived.Test.YtcocpmfndodapabChecked
import GoSem.Claim
import GoSem.ClaimJoined
import GoSem.ClaimMapViews
import Derived.JoinedTies
import Derived.KernelRfl
namespace Go.Proofs.Ytcocpmfndodapab
/- THE CELL 'sum', in the pinned program and in every row, IS THE sha256 OF THE DUMP (.gsa) THAT YtcocpmfndodapabProg.lean LOADS. Nothing in Lean hashes anything: it is a label: what it is worth is what the hold of that sum in a sandbox is worth. -/
noncomputable def Try.pinned : Pinned := { name := "ytcocpmfndodapab", sum := "4c10bfeb7a2976d33b58d8b5805127b0f29cb6e56534b0ede2ddd34871b7c2a4", checked := Try.checked }
namespace Rows
def none {H : Type} : Left H := { results := [], args := [] }

/-- 'laws.FnCompare': WHATEVER THE INPUT: true; the input reads as it did. -/
def fnCompareSpec : ChangeSpec := { name := "fnCompare", fn := fun _ => fun
  | [d] => { results := [.lit (.bool true)], args := [d] }
  | _ => none }
def fnCompareRow : OpenClaim := { program := "ytcocpmfndodapab", sum := "4c10bfeb7a2976d33b58d8b5805127b0f29cb6e56534b0ede2ddd34871b7c2a4", func := "loop.example/tablehouse/laws.FnCompare", spec := "fnCompare", apart := false }
def FnCompareSaid : Prop := fnCompareRow.holds Try.pinned (OpenSpec.ofChange fnCompareSpec)

/-- ITS FALSE NEIGHBOUR: 'it returns false'. Refute it at one input. -/
def fnCompareWrong : ChangeSpec := { name := "fnCompare", fn := fun _ => fun
  | [d] => { results := [.lit (.bool false)], args := [d] }
  | _ => none }
def FnCompareWrongFalsely : Prop := fnCompareRow.holds Try.pinned (OpenSpec.ofChange fnCompareWrong)

/-- 'laws.FnExactCompare': WHATEVER THE INPUT: true; the input reads as it did. -/
def fnExactCompareSpec : ChangeSpec := { name := "fnExactCompare", fn := fun _ => fun
  | [d1, d2, d3] => { results := [.lit (.bool true)], args := [d1, d2, d3] }
  | _ => none }
def fnExactCompareRow : OpenClaim := { program := "ytcocpmfndodapab", sum := "4c10bfeb7a2976d33b58d8b5805127b0f29cb6e56534b0ede2ddd34871b7c2a4", func := "loop.example/tablehouse/laws.FnExactCompare", spec := "fnExactCompare", apart := false }
def FnExactCompareSaid : Prop := fnExactCompareRow.holds Try.pinned (OpenSpec.ofChange fnExactCompareSpec)

/-- ITS FALSE NEIGHBOUR: 'it returns false'. Refute it at one input. -/
def fnExactCompareWrong : ChangeSpec := { name := "fnExactCompare", fn := fun _ => fun
  | [d1, d2, d3] => { results := [.lit (.bool false)], args := [d1, d2, d3] }
  | _ => none }
def FnExactCompareWrongFalsely : Prop := fnExactCompareRow.holds Try.pinned (OpenSpec.ofChange fnExactCompareWrong)

/-- 'laws.FnWholeMorgan': WHATEVER THE INPUT: true; the input reads as it did. -/
def fnWholeMorganSpec : ChangeSpec := { name := "fnWholeMorgan", fn := fun _ => fun
  | [d] => { results := [.lit (.bool true)], args := [d] }
  | _ => none }
def fnWholeMorganRow : OpenClaim := { program := "ytcocpmfndodapab", sum := "4c10bfeb7a2976d33b58d8b5805127b0f29cb6e56534b0ede2ddd34871b7c2a4", func := "loop.example/tablehouse/laws.FnWholeMorgan", spec := "fnWholeMorgan", recurses := true, apart := false }
def FnWholeMorganSaid : Prop := fnWholeMorganRow.holds Try.pinned (OpenSpec.ofChange fnWholeMorganSpec)

/-- ITS FALSE NEIGHBOUR: 'it returns false'. Refute it at one input. -/
def fnWholeMorganWrong : ChangeSpec := { name := "fnWholeMorgan", fn := fun _ => fun
  | [d] => { results := [.lit (.bool false)], args := [d] }
  | _ => none }
def FnWholeMorganWrongFalsely : Prop := fnWholeMorganRow.holds Try.pinned (OpenSpec.ofChange fnWholeMorganWrong)

/-- 'laws.FnWholeTurned': WHATEVER THE INPUT: true; the input reads as it did. -/
def fnWholeTurnedSpec : ChangeSpec := { name := "fnWholeTurned", fn := fun _ => fun
  | [d] => { results := [.lit (.bool true)], args := [d] }
  | _ => none }
def fnWholeTurnedRow : OpenClaim := { program := "ytcocpmfndodapab", sum := "4c10bfeb7a2976d33b58d8b5805127b0f29cb6e56534b0ede2ddd34871b7c2a4", func := "loop.example/tablehouse/laws.FnWholeTurned", spec := "fnWholeTurned", recurses := true, apart := false }
def FnWholeTurnedSaid : Prop := fnWholeTurnedRow.holds Try.pinned (OpenSpec.ofChange fnWholeTurnedSpec)

/-- ITS FALSE NEIGHBOUR: 'it returns false'. Refute it at one input. -/
def fnWholeTurnedWrong : ChangeSpec := { name := "fnWholeTurned", fn := fun _ => fun
  | [d] => { results := [.lit (.bool false)], args := [d] }
  | _ => none }
def FnWholeTurnedWrongFalsely : Prop := fnWholeTurnedRow.holds Try.pinned (OpenSpec.ofChange fnWholeTurnedWrong)

/-- 'laws.FnWholeAbsorb': WHATEVER THE INPUT: true; the input reads as it did. -/
def fnWholeAbsorbSpec : ChangeSpec := { name := "fnWholeAbsorb", fn := fun _ => fun
  | [d] => { results := [.lit (.bool true)], args := [d] }
  | _ => none }
def fnWholeAbsorbRow : OpenClaim := { program := "ytcocpmfndodapab", sum := "4c10bfeb7a2976d33b58d8b5805127b0f29cb6e56534b0ede2ddd34871b7c2a4", func := "loop.example/tablehouse/laws.FnWholeAbsorb", spec := "fnWholeAbsorb", recurses := true, apart := false }
def FnWholeAbsorbSaid : Prop := fnWholeAbsorbRow.holds Try.pinned (OpenSpec.ofChange fnWholeAbsorbSpec)

/-- ITS FALSE NEIGHBOUR: 'it returns false'. Refute it at one input. -/
def fnWholeAbsorbWrong : ChangeSpec := { name := "fnWholeAbsorb", fn := fun _ => fun
  | [d] => { results := [.lit (.bool false)], args := [d] }
  | _ => none }
def FnWholeAbsorbWrongFalsely : Prop := fnWholeAbsorbRow.holds Try.pinned (OpenSpec.ofChange fnWholeAbsorbWrong)

/-- 'laws.FnWholeLess': WHATEVER THE INPUT: true; the input reads as it did. -/
def fnWholeLessSpec : ChangeSpec := { name := "fnWholeLess", fn := fun _ => fun
  | [d] => { results := [.lit (.bool true)], args := [d] }
  | _ => none }
def fnWholeLessRow : OpenClaim := { program := "ytcocpmfndodapab", sum := "4c10bfeb7a2976d33b58d8b5805127b0f29cb6e56534b0ede2ddd34871b7c2a4", func := "loop.example/tablehouse/laws.FnWholeLess", spec := "fnWholeLess", recurses := true, apart := false }
def FnWholeLessSaid : Prop := fnWholeLessRow.holds Try.pinned (OpenSpec.ofChange fnWholeLessSpec)

/-- ITS FALSE NEIGHBOUR: 'it returns false'. Refute it at one input. -/
def fnWholeLessWrong : ChangeSpec := { name := "fnWholeLess", fn := fun _ => fun
  | [d] => { results := [.lit (.bool false)], args := [d] }
  | _ => none }
def FnWholeLessWrongFalsely : Prop := fnWholeLessRow.holds Try.pinned (OpenSpec.ofChange fnWholeLessWrong)

/- THE SECOND FORM. 'bulk': how many values and letters a reading holds, each counted each time it is reached (what is shared counts as often as it is met; a slice's spare places count too). A statement '..UptoSaid' is the law's where the arguments, and the package variables that the reading takes, are together of bulk at most 1048576: NARROWER than '..Said'. Prove '..Said' where nothing that the law and all that it calls make is longer than what came in: it says more and counts as full. Else prove '..UptoSaid'. A law counts once. -/
mutual
def uptoBulk {H : Type} : DataW H → Nat
  | .lit (.string bytes) => bytes.length + 1
  | .lit _ => 1
  | .nil => 1
  | .ptr d => uptoBulk d + 1
  | .slice elems spare => uptoBulkAll elems + uptoBulkAll spare + 1
  | .agg parts => uptoBulkAll parts + 1
  | .iface _ d => uptoBulk d + 1
  | .map entries => uptoBulkEntries entries + 1
  | .held _ => 1
def uptoBulkAll {H : Type} : List (DataW H) → Nat
  | [] => 0
  | d :: r => uptoBulk d + uptoBulkAll r
def uptoBulkEntries {H : Type} : List (Lit × DataW H) → Nat
  | [] => 0
  | x :: r => uptoBulkEntry x + uptoBulkEntries r
def uptoBulkEntry {H : Type} : Lit × DataW H → Nat
  | (.string bytes, d) => bytes.length + uptoBulk d + 1
  | (_, d) => uptoBulk d + 1
 end
def uptoSmall : (H : Type) → List (DataW H) → Bool := fun _ ds => decide (uptoBulkAll ds ≤ 1048576)
def OpenSpec.upto (s : _root_.Go.ChangeSpec) : _root_.Go.OpenSpec := { _root_.Go.OpenSpec.ofChange s with cond := some uptoSmall }

/-- 'laws.FnCompare', WHERE WHAT IT READS IS OF BULK AT MOST 1048576: true; the input reads as it did. -/
def fnCompareUptoRow : OpenClaim := { program := "ytcocpmfndodapab", sum := "4c10bfeb7a2976d33b58d8b5805127b0f29cb6e56534b0ede2ddd34871b7c2a4", func := "loop.example/tablehouse/laws.FnCompare", spec := "fnCompare", apart := false, narrowed := true }
def FnCompareUptoSaid : Prop := fnCompareUptoRow.holds Try.pinned (OpenSpec.upto fnCompareSpec)

/-- 'laws.FnExactCompare', WHERE WHAT IT READS IS OF BULK AT MOST 1048576: true; the input reads as it did. -/
def fnExactCompareUptoRow : OpenClaim := { program := "ytcocpmfndodapab", sum := "4c10bfeb7a2976d33b58d8b5805127b0f29cb6e56534b0ede2ddd34871b7c2a4", func := "loop.example/tablehouse/laws.FnExactCompare", spec := "fnExactCompare", apart := false, narrowed := true }
def FnExactCompareUptoSaid : Prop := fnExactCompareUptoRow.holds Try.pinned (OpenSpec.upto fnExactCompareSpec)

/-- 'laws.FnWholeMorgan', WHERE WHAT IT READS IS OF BULK AT MOST 1048576: true; the input reads as it did. -/
def fnWholeMorganUptoRow : OpenClaim := { program := "ytcocpmfndodapab", sum := "4c10bfeb7a2976d33b58d8b5805127b0f29cb6e56534b0ede2ddd34871b7c2a4", func := "loop.example/tablehouse/laws.FnWholeMorgan", spec := "fnWholeMorgan", recurses := true, apart := false, narrowed := true }
def FnWholeMorganUptoSaid : Prop := fnWholeMorganUptoRow.holds Try.pinned (OpenSpec.upto fnWholeMorganSpec)

/-- 'laws.FnWholeTurned', WHERE WHAT IT READS IS OF BULK AT MOST 1048576: true; the input reads as it did. -/
def fnWholeTurnedUptoRow : OpenClaim := { program := "ytcocpmfndodapab", sum := "4c10bfeb7a2976d33b58d8b5805127b0f29cb6e56534b0ede2ddd34871b7c2a4", func := "loop.example/tablehouse/laws.FnWholeTurned", spec := "fnWholeTurned", recurses := true, apart := false, narrowed := true }
def FnWholeTurnedUptoSaid : Prop := fnWholeTurnedUptoRow.holds Try.pinned (OpenSpec.upto fnWholeTurnedSpec)

/-- 'laws.FnWholeAbsorb', WHERE WHAT IT READS IS OF BULK AT MOST 1048576: true; the input reads as it did. -/
def fnWholeAbsorbUptoRow : OpenClaim := { program := "ytcocpmfndodapab", sum := "4c10bfeb7a2976d33b58d8b5805127b0f29cb6e56534b0ede2ddd34871b7c2a4", func := "loop.example/tablehouse/laws.FnWholeAbsorb", spec := "fnWholeAbsorb", recurses := true, apart := false, narrowed := true }
def FnWholeAbsorbUptoSaid : Prop := fnWholeAbsorbUptoRow.holds Try.pinned (OpenSpec.upto fnWholeAbsorbSpec)

/-- 'laws.FnWholeLess', WHERE WHAT IT READS IS OF BULK AT MOST 1048576: true; the input reads as it did. -/
def fnWholeLessUptoRow : OpenClaim := { program := "ytcocpmfndodapab", sum := "4c10bfeb7a2976d33b58d8b5805127b0f29cb6e56534b0ede2ddd34871b7c2a4", func := "loop.example/tablehouse/laws.FnWholeLess", spec := "fnWholeLess", recurses := true, apart := false, narrowed := true }
def FnWholeLessUptoSaid : Prop := fnWholeLessUptoRow.holds Try.pinned (OpenSpec.upto fnWholeLessSpec)

end Rows
end Go.Proofs.Ytcocpmfndodapab
