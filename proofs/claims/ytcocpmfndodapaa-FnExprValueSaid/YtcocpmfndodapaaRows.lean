/-
  No cell of these rows narrows 'for every input' (looked for: loops, veiled, ifaces, maps, wideKeys, modest, calm, conditions, laid).
  DERIVED. THE GIVEN ROWS OF THIS SEAT. 12 by the template 'for every input the law returns true; each argument reads behind the call as it read before'; 0 by the template 'total and deterministic' (their statements: YtcocpmfndodapaaTotals.lean).
  GIVEN WITH THE SEED: the statements are not yours to turn. If you find one false, say at which input.
  Laid BY PROGRAM, IN A SANDBOX (cutbox-rows.mjs): the forced cells as the released guide's own fill.sh prints them over the translation cbb7857eb3f04e33… (all of the seat's roots in one cut). By AI agents, Wed Nov 11 2026. No macro, syntax, notation, axiom, sorry.
-/
import Derived.Test.YtcocpmfndodapaaChecked
import GoSem.Claim
import GoSem.ClaimJoined
import GoSem.ClaimMapViews
import Derived.JoinedTies
import Derived.KernelRfl
namespace Go.Proofs.Ytcocpmfndodapaa
/- THE CELL 'sum', in the pinned program and in every row, IS THE sha256 OF THE DUMP (.gsa) THAT YtcocpmfndodapaaProg.lean LOADS. Nothing in Lean hashes anything: it is a label: what it is worth is what the hold of that sum in a sandbox is worth. -/
noncomputable def Try.pinned : Pinned := { name := "ytcocpmfndodapaa", sum := "cbb7857eb3f04e33ae35675e0766e53dbcc4d0cc41f13195c48fca9a1a4b1ea8", checked := Try.checked }
namespace Rows
def none {H : Type} : Left H := { results := [], args := [] }

/-- 'laws.FnExprKind': WHATEVER THE INPUT: true; the input reads as it did. -/
def fnExprKindSpec : ChangeSpec := { name := "fnExprKind", fn := fun _ => fun
  | [d] => { results := [.lit (.bool true)], args := [d] }
  | _ => none }
def fnExprKindRow : OpenClaim := { program := "ytcocpmfndodapaa", sum := "cbb7857eb3f04e33ae35675e0766e53dbcc4d0cc41f13195c48fca9a1a4b1ea8", func := "loop.example/tablehouse/laws.FnExprKind", spec := "fnExprKind", recurses := true, apart := false }
def FnExprKindSaid : Prop := fnExprKindRow.holds Try.pinned (OpenSpec.ofChange fnExprKindSpec)

/-- ITS FALSE NEIGHBOUR: 'it returns false'. Refute it at one input. -/
def fnExprKindWrong : ChangeSpec := { name := "fnExprKind", fn := fun _ => fun
  | [d] => { results := [.lit (.bool false)], args := [d] }
  | _ => none }
def FnExprKindWrongFalsely : Prop := fnExprKindRow.holds Try.pinned (OpenSpec.ofChange fnExprKindWrong)

/-- 'laws.FnExprValue': WHATEVER THE INPUT: true; the input reads as it did. -/
def fnExprValueSpec : ChangeSpec := { name := "fnExprValue", fn := fun _ => fun
  | [d] => { results := [.lit (.bool true)], args := [d] }
  | _ => none }
def fnExprValueRow : OpenClaim := { program := "ytcocpmfndodapaa", sum := "cbb7857eb3f04e33ae35675e0766e53dbcc4d0cc41f13195c48fca9a1a4b1ea8", func := "loop.example/tablehouse/laws.FnExprValue", spec := "fnExprValue", recurses := true, apart := false }
def FnExprValueSaid : Prop := fnExprValueRow.holds Try.pinned (OpenSpec.ofChange fnExprValueSpec)

/-- ITS FALSE NEIGHBOUR: 'it returns false'. Refute it at one input. -/
def fnExprValueWrong : ChangeSpec := { name := "fnExprValue", fn := fun _ => fun
  | [d] => { results := [.lit (.bool false)], args := [d] }
  | _ => none }
def FnExprValueWrongFalsely : Prop := fnExprValueRow.holds Try.pinned (OpenSpec.ofChange fnExprValueWrong)

/-- 'laws.FnExprHolds': WHATEVER THE INPUT: true; the input reads as it did. -/
def fnExprHoldsSpec : ChangeSpec := { name := "fnExprHolds", fn := fun _ => fun
  | [d] => { results := [.lit (.bool true)], args := [d] }
  | _ => none }
def fnExprHoldsRow : OpenClaim := { program := "ytcocpmfndodapaa", sum := "cbb7857eb3f04e33ae35675e0766e53dbcc4d0cc41f13195c48fca9a1a4b1ea8", func := "loop.example/tablehouse/laws.FnExprHolds", spec := "fnExprHolds", recurses := true, apart := false }
def FnExprHoldsSaid : Prop := fnExprHoldsRow.holds Try.pinned (OpenSpec.ofChange fnExprHoldsSpec)

/-- ITS FALSE NEIGHBOUR: 'it returns false'. Refute it at one input. -/
def fnExprHoldsWrong : ChangeSpec := { name := "fnExprHolds", fn := fun _ => fun
  | [d] => { results := [.lit (.bool false)], args := [d] }
  | _ => none }
def FnExprHoldsWrongFalsely : Prop := fnExprHoldsRow.holds Try.pinned (OpenSpec.ofChange fnExprHoldsWrong)

/-- 'laws.FnExprColumns': WHATEVER THE INPUT: true; the input reads as it did. -/
def fnExprColumnsSpec : ChangeSpec := { name := "fnExprColumns", fn := fun _ => fun
  | [d] => { results := [.lit (.bool true)], args := [d] }
  | _ => none }
def fnExprColumnsRow : OpenClaim := { program := "ytcocpmfndodapaa", sum := "cbb7857eb3f04e33ae35675e0766e53dbcc4d0cc41f13195c48fca9a1a4b1ea8", func := "loop.example/tablehouse/laws.FnExprColumns", spec := "fnExprColumns", recurses := true, apart := false }
def FnExprColumnsSaid : Prop := fnExprColumnsRow.holds Try.pinned (OpenSpec.ofChange fnExprColumnsSpec)

/-- ITS FALSE NEIGHBOUR: 'it returns false'. Refute it at one input. -/
def fnExprColumnsWrong : ChangeSpec := { name := "fnExprColumns", fn := fun _ => fun
  | [d] => { results := [.lit (.bool false)], args := [d] }
  | _ => none }
def FnExprColumnsWrongFalsely : Prop := fnExprColumnsRow.holds Try.pinned (OpenSpec.ofChange fnExprColumnsWrong)

/-- 'laws.FnExprMoved': WHATEVER THE INPUT: true; the input reads as it did. -/
def fnExprMovedSpec : ChangeSpec := { name := "fnExprMoved", fn := fun _ => fun
  | [d] => { results := [.lit (.bool true)], args := [d] }
  | _ => none }
def fnExprMovedRow : OpenClaim := { program := "ytcocpmfndodapaa", sum := "cbb7857eb3f04e33ae35675e0766e53dbcc4d0cc41f13195c48fca9a1a4b1ea8", func := "loop.example/tablehouse/laws.FnExprMoved", spec := "fnExprMoved", recurses := true, apart := false }
def FnExprMovedSaid : Prop := fnExprMovedRow.holds Try.pinned (OpenSpec.ofChange fnExprMovedSpec)

/-- ITS FALSE NEIGHBOUR: 'it returns false'. Refute it at one input. -/
def fnExprMovedWrong : ChangeSpec := { name := "fnExprMoved", fn := fun _ => fun
  | [d] => { results := [.lit (.bool false)], args := [d] }
  | _ => none }
def FnExprMovedWrongFalsely : Prop := fnExprMovedRow.holds Try.pinned (OpenSpec.ofChange fnExprMovedWrong)

/-- 'laws.FnExprFolded': WHATEVER THE INPUT: true; the input reads as it did. -/
def fnExprFoldedSpec : ChangeSpec := { name := "fnExprFolded", fn := fun _ => fun
  | [d] => { results := [.lit (.bool true)], args := [d] }
  | _ => none }
def fnExprFoldedRow : OpenClaim := { program := "ytcocpmfndodapaa", sum := "cbb7857eb3f04e33ae35675e0766e53dbcc4d0cc41f13195c48fca9a1a4b1ea8", func := "loop.example/tablehouse/laws.FnExprFolded", spec := "fnExprFolded", recurses := true, apart := false }
def FnExprFoldedSaid : Prop := fnExprFoldedRow.holds Try.pinned (OpenSpec.ofChange fnExprFoldedSpec)

/-- ITS FALSE NEIGHBOUR: 'it returns false'. Refute it at one input. -/
def fnExprFoldedWrong : ChangeSpec := { name := "fnExprFolded", fn := fun _ => fun
  | [d] => { results := [.lit (.bool false)], args := [d] }
  | _ => none }
def FnExprFoldedWrongFalsely : Prop := fnExprFoldedRow.holds Try.pinned (OpenSpec.ofChange fnExprFoldedWrong)

/-- 'laws.FnExactExprKind': WHATEVER THE INPUT: true; the input reads as it did. -/
def fnExactExprKindSpec : ChangeSpec := { name := "fnExactExprKind", fn := fun _ => fun
  | [d1, d2] => { results := [.lit (.bool true)], args := [d1, d2] }
  | _ => none }
def fnExactExprKindRow : OpenClaim := { program := "ytcocpmfndodapaa", sum := "cbb7857eb3f04e33ae35675e0766e53dbcc4d0cc41f13195c48fca9a1a4b1ea8", func := "loop.example/tablehouse/laws.FnExactExprKind", spec := "fnExactExprKind", apart := false }
def FnExactExprKindSaid : Prop := fnExactExprKindRow.holds Try.pinned (OpenSpec.ofChange fnExactExprKindSpec)

/-- ITS FALSE NEIGHBOUR: 'it returns false'. Refute it at one input. -/
def fnExactExprKindWrong : ChangeSpec := { name := "fnExactExprKind", fn := fun _ => fun
  | [d1, d2] => { results := [.lit (.bool false)], args := [d1, d2] }
  | _ => none }
def FnExactExprKindWrongFalsely : Prop := fnExactExprKindRow.holds Try.pinned (OpenSpec.ofChange fnExactExprKindWrong)

/-- 'laws.FnExactExprValue': WHATEVER THE INPUT: true; the input reads as it did. -/
def fnExactExprValueSpec : ChangeSpec := { name := "fnExactExprValue", fn := fun _ => fun
  | [d1, d2, d3] => { results := [.lit (.bool true)], args := [d1, d2, d3] }
  | _ => none }
def fnExactExprValueRow : OpenClaim := { program := "ytcocpmfndodapaa", sum := "cbb7857eb3f04e33ae35675e0766e53dbcc4d0cc41f13195c48fca9a1a4b1ea8", func := "loop.example/tablehouse/laws.FnExactExprValue", spec := "fnExactExprValue", apart := false }
def FnExactExprValueSaid : Prop := fnExactExprValueRow.holds Try.pinned (OpenSpec.ofChange fnExactExprValueSpec)

/-- ITS FALSE NEIGHBOUR: 'it returns false'. Refute it at one input. -/
def fnExactExprValueWrong : ChangeSpec := { name := "fnExactExprValue", fn := fun _ => fun
  | [d1, d2, d3] => { results := [.lit (.bool false)], args := [d1, d2, d3] }
  | _ => none }
def FnExactExprValueWrongFalsely : Prop := fnExactExprValueRow.holds Try.pinned (OpenSpec.ofChange fnExactExprValueWrong)

/-- 'laws.FnExactExprHolds': WHATEVER THE INPUT: true; the input reads as it did. -/
def fnExactExprHoldsSpec : ChangeSpec := { name := "fnExactExprHolds", fn := fun _ => fun
  | [d1, d2, d3] => { results := [.lit (.bool true)], args := [d1, d2, d3] }
  | _ => none }
def fnExactExprHoldsRow : OpenClaim := { program := "ytcocpmfndodapaa", sum := "cbb7857eb3f04e33ae35675e0766e53dbcc4d0cc41f13195c48fca9a1a4b1ea8", func := "loop.example/tablehouse/laws.FnExactExprHolds", spec := "fnExactExprHolds", apart := false }
def FnExactExprHoldsSaid : Prop := fnExactExprHoldsRow.holds Try.pinned (OpenSpec.ofChange fnExactExprHoldsSpec)

/-- ITS FALSE NEIGHBOUR: 'it returns false'. Refute it at one input. -/
def fnExactExprHoldsWrong : ChangeSpec := { name := "fnExactExprHolds", fn := fun _ => fun
  | [d1, d2, d3] => { results := [.lit (.bool false)], args := [d1, d2, d3] }
  | _ => none }
def FnExactExprHoldsWrongFalsely : Prop := fnExactExprHoldsRow.holds Try.pinned (OpenSpec.ofChange fnExactExprHoldsWrong)

/-- 'laws.FnExactExprColumns': WHATEVER THE INPUT: true; the input reads as it did. -/
def fnExactExprColumnsSpec : ChangeSpec := { name := "fnExactExprColumns", fn := fun _ => fun
  | [d1, d2] => { results := [.lit (.bool true)], args := [d1, d2] }
  | _ => none }
def fnExactExprColumnsRow : OpenClaim := { program := "ytcocpmfndodapaa", sum := "cbb7857eb3f04e33ae35675e0766e53dbcc4d0cc41f13195c48fca9a1a4b1ea8", func := "loop.example/tablehouse/laws.FnExactExprColumns", spec := "fnExactExprColumns", apart := false }
def FnExactExprColumnsSaid : Prop := fnExactExprColumnsRow.holds Try.pinned (OpenSpec.ofChange fnExactExprColumnsSpec)

/-- ITS FALSE NEIGHBOUR: 'it returns false'. Refute it at one input. -/
def fnExactExprColumnsWrong : ChangeSpec := { name := "fnExactExprColumns", fn := fun _ => fun
  | [d1, d2] => { results := [.lit (.bool false)], args := [d1, d2] }
  | _ => none }
def FnExactExprColumnsWrongFalsely : Prop := fnExactExprColumnsRow.holds Try.pinned (OpenSpec.ofChange fnExactExprColumnsWrong)

/-- 'laws.FnExactExprMoved': WHATEVER THE INPUT: true; the input reads as it did. -/
def fnExactExprMovedSpec : ChangeSpec := { name := "fnExactExprMoved", fn := fun _ => fun
  | [d1, d2, d3] => { results := [.lit (.bool true)], args := [d1, d2, d3] }
  | _ => none }
def fnExactExprMovedRow : OpenClaim := { program := "ytcocpmfndodapaa", sum := "cbb7857eb3f04e33ae35675e0766e53dbcc4d0cc41f13195c48fca9a1a4b1ea8", func := "loop.example/tablehouse/laws.FnExactExprMoved", spec := "fnExactExprMoved", apart := false }
def FnExactExprMovedSaid : Prop := fnExactExprMovedRow.holds Try.pinned (OpenSpec.ofChange fnExactExprMovedSpec)

/-- ITS FALSE NEIGHBOUR: 'it returns false'. Refute it at one input. -/
def fnExactExprMovedWrong : ChangeSpec := { name := "fnExactExprMoved", fn := fun _ => fun
  | [d1, d2, d3] => { results := [.lit (.bool false)], args := [d1, d2, d3] }
  | _ => none }
def FnExactExprMovedWrongFalsely : Prop := fnExactExprMovedRow.holds Try.pinned (OpenSpec.ofChange fnExactExprMovedWrong)

/-- 'laws.FnExactExprFolded': WHATEVER THE INPUT: true; the input reads as it did. -/
def fnExactExprFoldedSpec : ChangeSpec := { name := "fnExactExprFolded", fn := fun _ => fun
  | [d1, d2] => { results := [.lit (.bool true)], args := [d1, d2] }
  | _ => none }
def fnExactExprFoldedRow : OpenClaim := { program := "ytcocpmfndodapaa", sum := "cbb7857eb3f04e33ae35675e0766e53dbcc4d0cc41f13195c48fca9a1a4b1ea8", func := "loop.example/tablehouse/laws.FnExactExprFolded", spec := "fnExactExprFolded", apart := false }
def FnExactExprFoldedSaid : Prop := fnExactExprFoldedRow.holds Try.pinned (OpenSpec.ofChange fnExactExprFoldedSpec)

/-- ITS FALSE NEIGHBOUR: 'it returns false'. Refute it at one input. -/
def fnExactExprFoldedWrong : ChangeSpec := { name := "fnExactExprFolded", fn := fun _ => fun
  | [d1, d2] => { results := [.lit (.bool false)], args := [d1, d2] }
  | _ => none }
def FnExactExprFoldedWrongFalsely : Prop := fnExactExprFoldedRow.holds Try.pinned (OpenSpec.ofChange fnExactExprFoldedWrong)

/- THE SECOND FORM. 'bulk': how many values and letters a reading holds, each counted each time it is reached (what is shared counts as often as it is met; a slice's spare places count too). A statement '..UptoSaid' is the law's where the arguments, and the package variables that the reading takes, are together of bulk at most 1048576: NARROWER than '..Said'. Prove '..Said' where nothing that the law and all that it calls make is longer than what came in: it says more and counts as full. Else prove '..UptoSaid'. A law counts once. -/
mutual
def uptoBulk {H : Type} : DataW H → Nat
  | .lit (.string bytes) => bytes.length + 1
  | .lit _ => 1
  | .nil => 1
  | .ptr d => uptoBulk d + 1
  | .slice elems spare => uptoBulkAll elems + uptoBulkAll spare + 1
  | .agg parts => uptoBulkAll parts + 1
  | .iface _ d => uptoBulk d + 1
  | .map entries => uptoBulkEntries entries + 1
  | .held _ => 1
def uptoBulkAll {H : Type} : List (DataW H) → Nat
  | [] => 0
  | d :: r => uptoBulk d + uptoBulkAll r
def uptoBulkEntries {H : Type} : List (Lit × DataW H) → Nat
  | [] => 0
  | x :: r => uptoBulkEntry x + uptoBulkEntries r
def uptoBulkEntry {H : Type} : Lit × DataW H → Nat
  | (.string bytes, d) => bytes.length + uptoBulk d + 1
  | (_, d) => uptoBulk d + 1
 end
def uptoSmall : (H : Type) → List (DataW H) → Bool := fun _ ds => decide (uptoBulkAll ds ≤ 1048576)
def OpenSpec.upto (s : _root_.Go.ChangeSpec) : _root_.Go.OpenSpec := { _root_.Go.OpenSpec.ofChange s with cond := some uptoSmall }

/-- 'laws.FnExprKind', WHERE WHAT IT READS IS OF BULK AT MOST 1048576: true; the input reads as it did. -/
def fnExprKindUptoRow : OpenClaim := { program := "ytcocpmfndodapaa", sum := "cbb7857eb3f04e33ae35675e0766e53dbcc4d0cc41f13195c48fca9a1a4b1ea8", func := "loop.example/tablehouse/laws.FnExprKind", spec := "fnExprKind", recurses := true, apart := false, narrowed := true }
def FnExprKindUptoSaid : Prop := fnExprKindUptoRow.holds Try.pinned (OpenSpec.upto fnExprKindSpec)

/-- 'laws.FnExprValue', WHERE WHAT IT READS IS OF BULK AT MOST 1048576: true; the input reads as it did. -/
def fnExprValueUptoRow : OpenClaim := { program := "ytcocpmfndodapaa", sum := "cbb7857eb3f04e33ae35675e0766e53dbcc4d0cc41f13195c48fca9a1a4b1ea8", func := "loop.example/tablehouse/laws.FnExprValue", spec := "fnExprValue", recurses := true, apart := false, narrowed := true }
def FnExprValueUptoSaid : Prop := fnExprValueUptoRow.holds Try.pinned (OpenSpec.upto fnExprValueSpec)

/-- 'laws.FnExprHolds', WHERE WHAT IT READS IS OF BULK AT MOST 1048576: true; the input reads as it did. -/
def fnExprHoldsUptoRow : OpenClaim := { program := "ytcocpmfndodapaa", sum := "cbb7857eb3f04e33ae35675e0766e53dbcc4d0cc41f13195c48fca9a1a4b1ea8", func := "loop.example/tablehouse/laws.FnExprHolds", spec := "fnExprHolds", recurses := true, apart := false, narrowed := true }
def FnExprHoldsUptoSaid : Prop := fnExprHoldsUptoRow.holds Try.pinned (OpenSpec.upto fnExprHoldsSpec)

/-- 'laws.FnExprColumns', WHERE WHAT IT READS IS OF BULK AT MOST 1048576: true; the input reads as it did. -/
def fnExprColumnsUptoRow : OpenClaim := { program := "ytcocpmfndodapaa", sum := "cbb7857eb3f04e33ae35675e0766e53dbcc4d0cc41f13195c48fca9a1a4b1ea8", func := "loop.example/tablehouse/laws.FnExprColumns", spec := "fnExprColumns", recurses := true, apart := false, narrowed := true }
def FnExprColumnsUptoSaid : Prop := fnExprColumnsUptoRow.holds Try.pinned (OpenSpec.upto fnExprColumnsSpec)

/-- 'laws.FnExprMoved', WHERE WHAT IT READS IS OF BULK AT MOST 1048576: true; the input reads as it did. -/
def fnExprMovedUptoRow : OpenClaim := { program := "ytcocpmfndodapaa", sum := "cbb7857eb3f04e33ae35675e0766e53dbcc4d0cc41f13195c48fca9a1a4b1ea8", func := "loop.example/tablehouse/laws.FnExprMoved", spec := "fnExprMoved", recurses := true, apart := false, narrowed := true }
def FnExprMovedUptoSaid : Prop := fnExprMovedUptoRow.holds Try.pinned (OpenSpec.upto fnExprMovedSpec)

/-- 'laws.FnExprFolded', WHERE WHAT IT READS IS OF BULK AT MOST 1048576: true; the input reads as it did. -/
def fnExprFoldedUptoRow : OpenClaim := { program := "ytcocpmfndodapaa", sum := "cbb7857eb3f04e33ae35675e0766e53dbcc4d0cc41f13195c48fca9a1a4b1ea8", func := "loop.example/tablehouse/laws.FnExprFolded", spec := "fnExprFolded", recurses := true, apart := false, narrowed := true }
def FnExprFoldedUptoSaid : Prop := fnExprFoldedUptoRow.holds Try.pinned (OpenSpec.upto fnExprFoldedSpec)

/-- 'laws.FnExactExprKind', WHERE WHAT IT READS IS OF BULK AT MOST 1048576: true; the input reads as it did. -/
def fnExactExprKindUptoRow : OpenClaim := { program := "ytcocpmfndodapaa", sum := "cbb7857eb3f04e33ae35675e0766e53dbcc4d0cc41f13195c48fca9a1a4b1ea8", func := "loop.example/tablehouse/laws.FnExactExprKind", spec := "fnExactExprKind", apart := false, narrowed := true }
def FnExactExprKindUptoSaid : Prop := fnExactExprKindUptoRow.holds Try.pinned (OpenSpec.upto fnExactExprKindSpec)

/-- 'laws.FnExactExprValue', WHERE WHAT IT READS IS OF BULK AT MOST 1048576: true; the input reads as it did. -/
def fnExactExprValueUptoRow : OpenClaim := { program := "ytcocpmfndodapaa", sum := "cbb7857eb3f04e33ae35675e0766e53dbcc4d0cc41f13195c48fca9a1a4b1ea8", func := "loop.example/tablehouse/laws.FnExactExprValue", spec := "fnExactExprValue", apart := false, narrowed := true }
def FnExactExprValueUptoSaid : Prop := fnExactExprValueUptoRow.holds Try.pinned (OpenSpec.upto fnExactExprValueSpec)

/-- 'laws.FnExactExprHolds', WHERE WHAT IT READS IS OF BULK AT MOST 1048576: true; the input reads as it did. -/
def fnExactExprHoldsUptoRow : OpenClaim := { program := "ytcocpmfndodapaa", sum := "cbb7857eb3f04e33ae35675e0766e53dbcc4d0cc41f13195c48fca9a1a4b1ea8", func := "loop.example/tablehouse/laws.FnExactExprHolds", spec := "fnExactExprHolds", apart := false, narrowed := true }
def FnExactExprHoldsUptoSaid : Prop := fnExactExprHoldsUptoRow.holds Try.pinned (OpenSpec.upto fnExactExprHoldsSpec)

/-- 'laws.FnExactExprColumns', WHERE WHAT IT READS IS OF BULK AT MOST 1048576: true; the input reads as it did. -/
def fnExactExprColumnsUptoRow : OpenClaim := { program := "ytcocpmfndodapaa", sum := "cbb7857eb3f04e33ae35675e0766e53dbcc4d0cc41f13195c48fca9a1a4b1ea8", func := "loop.example/tablehouse/laws.FnExactExprColumns", spec := "fnExactExprColumns", apart := false, narrowed := true }
def FnExactExprColumnsUptoSaid : Prop := fnExactExprColumnsUptoRow.holds Try.pinned (OpenSpec.upto fnExactExprColumnsSpec)

/-- 'laws.FnExactExprMoved', WHERE WHAT IT READS IS OF BULK AT MOST 1048576: true; the input reads as it did. -/
def fnExactExprMovedUptoRow : OpenClaim := { program := "ytcocpmfndodapaa", sum := "cbb7857eb3f04e33ae35675e0766e53dbcc4d0cc41f13195c48fca9a1a4b1ea8", func := "loop.example/tablehouse/laws.FnExactExprMoved", spec := "fnExactExprMoved", apart := false, narrowed := true }
def FnExactExprMovedUptoSaid : Prop := fnExactExprMovedUptoRow.holds Try.pinned (OpenSpec.upto fnExactExprMovedSpec)

/-- 'laws.FnExactExprFolded', WHERE WHAT IT READS IS OF BULK AT MOST 1048576: true; the input reads as it did. -/
def fnExactExprFoldedUptoRow : OpenClaim := { program := "ytcocpmfndodapaa", sum := "cbb7857eb3f04e33ae35675e0766e53dbcc4d0cc41f13195c48fca9a1a4b1ea8", func := "loop.example/tablehouse/laws.FnExactExprFolded", spec := "fnExactExprFolded", apart := false, narrowed := true }
def FnExactExprFoldedUptoSaid : Prop := fnExactExprFoldedUptoRow.holds Try.pinned (OpenSpec.upto fnExactExprFoldedSpec)

end Rows
end Go.Proofs.Ytcocpmfndodapaa
