/-
  No cell of these rows narrows 'for every input' (looked for: loops, veiled, ifaces, maps, wideKeys, modest, calm, conditions, laid).
  DERIVED. THE GIVEN ROWS OF THIS SEAT. 8 by the template 'for every input the law returns true; each argument reads behind the call as it read before'; 0 by the template 'total and deterministic' (their statements: YtacinjbaebimhaaTotals.lean).
  GIVEN WITH THE SEED: the statements are not yours to turn. If you find one false, say at which input.
  Laid BY PROGRAM, IN A SANDBOX (cutbox-rows.mjs): the forced cells as the released guide's own fill.sh prints them over the translation 8e037fee17147428… (all of the seat's roots in one cut). By AI agents, Wed Nov 11 2026. No macro, syntax, notation, axiom, sorry.
-/
import Derived.Test.YtacinjbaebimhaaChecked
import GoSem.Claim
import GoSem.ClaimJoined
import GoSem.ClaimMapViews
import Derived.JoinedTies
import Derived.KernelRfl
namespace Go.Proofs.Ytacinjbaebimhaa
/- THE CELL 'sum', in the pinned program and in every row, IS THE sha256 OF THE DUMP (.gsa) THAT YtacinjbaebimhaaProg.lean LOADS. Nothing in Lean hashes anything: it is a label: what it is worth is what the hold of that sum in a sandbox is worth. -/
noncomputable def Try.pinned : Pinned := { name := "ytacinjbaebimhaa", sum := "8e037fee1714742820c493e7220f71803ff64a779a8d12c5683431adb308dfce", checked := Try.checked }
namespace Rows
def none {H : Type} : Left H := { results := [], args := [] }

/-- 'laws.FnPlanOk': WHATEVER THE INPUT: true; the input reads as it did. -/
def fnPlanOkSpec : ChangeSpec := { name := "fnPlanOk", fn := fun _ => fun
  | [d] => { results := [.lit (.bool true)], args := [d] }
  | _ => none }
def fnPlanOkRow : OpenClaim := { program := "ytacinjbaebimhaa", sum := "8e037fee1714742820c493e7220f71803ff64a779a8d12c5683431adb308dfce", func := "loop.example/tablehouse/laws.FnPlanOk", spec := "fnPlanOk", recurses := true, apart := false }
def FnPlanOkSaid : Prop := fnPlanOkRow.holds Try.pinned (OpenSpec.ofChange fnPlanOkSpec)

/-- ITS FALSE NEIGHBOUR: 'it returns false'. Refute it at one input. -/
def fnPlanOkWrong : ChangeSpec := { name := "fnPlanOk", fn := fun _ => fun
  | [d] => { results := [.lit (.bool false)], args := [d] }
  | _ => none }
def FnPlanOkWrongFalsely : Prop := fnPlanOkRow.holds Try.pinned (OpenSpec.ofChange fnPlanOkWrong)

/-- 'laws.FnPlanColumns': WHATEVER THE INPUT: true; the input reads as it did. -/
def fnPlanColumnsSpec : ChangeSpec := { name := "fnPlanColumns", fn := fun _ => fun
  | [d] => { results := [.lit (.bool true)], args := [d] }
  | _ => none }
def fnPlanColumnsRow : OpenClaim := { program := "ytacinjbaebimhaa", sum := "8e037fee1714742820c493e7220f71803ff64a779a8d12c5683431adb308dfce", func := "loop.example/tablehouse/laws.FnPlanColumns", spec := "fnPlanColumns", recurses := true, apart := false }
def FnPlanColumnsSaid : Prop := fnPlanColumnsRow.holds Try.pinned (OpenSpec.ofChange fnPlanColumnsSpec)

/-- ITS FALSE NEIGHBOUR: 'it returns false'. Refute it at one input. -/
def fnPlanColumnsWrong : ChangeSpec := { name := "fnPlanColumns", fn := fun _ => fun
  | [d] => { results := [.lit (.bool false)], args := [d] }
  | _ => none }
def FnPlanColumnsWrongFalsely : Prop := fnPlanColumnsRow.holds Try.pinned (OpenSpec.ofChange fnPlanColumnsWrong)

/-- 'laws.FnPlanTables': WHATEVER THE INPUT: true; the input reads as it did. -/
def fnPlanTablesSpec : ChangeSpec := { name := "fnPlanTables", fn := fun _ => fun
  | [d] => { results := [.lit (.bool true)], args := [d] }
  | _ => none }
def fnPlanTablesRow : OpenClaim := { program := "ytacinjbaebimhaa", sum := "8e037fee1714742820c493e7220f71803ff64a779a8d12c5683431adb308dfce", func := "loop.example/tablehouse/laws.FnPlanTables", spec := "fnPlanTables", recurses := true, apart := false }
def FnPlanTablesSaid : Prop := fnPlanTablesRow.holds Try.pinned (OpenSpec.ofChange fnPlanTablesSpec)

/-- ITS FALSE NEIGHBOUR: 'it returns false'. Refute it at one input. -/
def fnPlanTablesWrong : ChangeSpec := { name := "fnPlanTables", fn := fun _ => fun
  | [d] => { results := [.lit (.bool false)], args := [d] }
  | _ => none }
def FnPlanTablesWrongFalsely : Prop := fnPlanTablesRow.holds Try.pinned (OpenSpec.ofChange fnPlanTablesWrong)

/-- 'laws.FnWholeTests': WHATEVER THE INPUT: true; the input reads as it did. -/
def fnWholeTestsSpec : ChangeSpec := { name := "fnWholeTests", fn := fun _ => fun
  | [d] => { results := [.lit (.bool true)], args := [d] }
  | _ => none }
def fnWholeTestsRow : OpenClaim := { program := "ytacinjbaebimhaa", sum := "8e037fee1714742820c493e7220f71803ff64a779a8d12c5683431adb308dfce", func := "loop.example/tablehouse/laws.FnWholeTests", spec := "fnWholeTests", recurses := true, apart := false }
def FnWholeTestsSaid : Prop := fnWholeTestsRow.holds Try.pinned (OpenSpec.ofChange fnWholeTestsSpec)

/-- ITS FALSE NEIGHBOUR: 'it returns false'. Refute it at one input. -/
def fnWholeTestsWrong : ChangeSpec := { name := "fnWholeTests", fn := fun _ => fun
  | [d] => { results := [.lit (.bool false)], args := [d] }
  | _ => none }
def FnWholeTestsWrongFalsely : Prop := fnWholeTestsRow.holds Try.pinned (OpenSpec.ofChange fnWholeTestsWrong)

/-- 'laws.FnWholeThree': WHATEVER THE INPUT: true; the input reads as it did. -/
def fnWholeThreeSpec : ChangeSpec := { name := "fnWholeThree", fn := fun _ => fun
  | [d] => { results := [.lit (.bool true)], args := [d] }
  | _ => none }
def fnWholeThreeRow : OpenClaim := { program := "ytacinjbaebimhaa", sum := "8e037fee1714742820c493e7220f71803ff64a779a8d12c5683431adb308dfce", func := "loop.example/tablehouse/laws.FnWholeThree", spec := "fnWholeThree", recurses := true, apart := false }
def FnWholeThreeSaid : Prop := fnWholeThreeRow.holds Try.pinned (OpenSpec.ofChange fnWholeThreeSpec)

/-- ITS FALSE NEIGHBOUR: 'it returns false'. Refute it at one input. -/
def fnWholeThreeWrong : ChangeSpec := { name := "fnWholeThree", fn := fun _ => fun
  | [d] => { results := [.lit (.bool false)], args := [d] }
  | _ => none }
def FnWholeThreeWrongFalsely : Prop := fnWholeThreeRow.holds Try.pinned (OpenSpec.ofChange fnWholeThreeWrong)

/-- 'laws.FnWholeTwice': WHATEVER THE INPUT: true; the input reads as it did. -/
def fnWholeTwiceSpec : ChangeSpec := { name := "fnWholeTwice", fn := fun _ => fun
  | [d] => { results := [.lit (.bool true)], args := [d] }
  | _ => none }
def fnWholeTwiceRow : OpenClaim := { program := "ytacinjbaebimhaa", sum := "8e037fee1714742820c493e7220f71803ff64a779a8d12c5683431adb308dfce", func := "loop.example/tablehouse/laws.FnWholeTwice", spec := "fnWholeTwice", recurses := true, apart := false }
def FnWholeTwiceSaid : Prop := fnWholeTwiceRow.holds Try.pinned (OpenSpec.ofChange fnWholeTwiceSpec)

/-- ITS FALSE NEIGHBOUR: 'it returns false'. Refute it at one input. -/
def fnWholeTwiceWrong : ChangeSpec := { name := "fnWholeTwice", fn := fun _ => fun
  | [d] => { results := [.lit (.bool false)], args := [d] }
  | _ => none }
def FnWholeTwiceWrongFalsely : Prop := fnWholeTwiceRow.holds Try.pinned (OpenSpec.ofChange fnWholeTwiceWrong)

/-- 'laws.FnWholeOrder': WHATEVER THE INPUT: true; the input reads as it did. -/
def fnWholeOrderSpec : ChangeSpec := { name := "fnWholeOrder", fn := fun _ => fun
  | [d] => { results := [.lit (.bool true)], args := [d] }
  | _ => none }
def fnWholeOrderRow : OpenClaim := { program := "ytacinjbaebimhaa", sum := "8e037fee1714742820c493e7220f71803ff64a779a8d12c5683431adb308dfce", func := "loop.example/tablehouse/laws.FnWholeOrder", spec := "fnWholeOrder", recurses := true, apart := false }
def FnWholeOrderSaid : Prop := fnWholeOrderRow.holds Try.pinned (OpenSpec.ofChange fnWholeOrderSpec)

/-- ITS FALSE NEIGHBOUR: 'it returns false'. Refute it at one input. -/
def fnWholeOrderWrong : ChangeSpec := { name := "fnWholeOrder", fn := fun _ => fun
  | [d] => { results := [.lit (.bool false)], args := [d] }
  | _ => none }
def FnWholeOrderWrongFalsely : Prop := fnWholeOrderRow.holds Try.pinned (OpenSpec.ofChange fnWholeOrderWrong)

/-- 'laws.FnExactPlanTidy': WHATEVER THE INPUT: true; the input reads as it did. -/
def fnExactPlanTidySpec : ChangeSpec := { name := "fnExactPlanTidy", fn := fun _ => fun
  | [d1, d2] => { results := [.lit (.bool true)], args := [d1, d2] }
  | _ => none }
def fnExactPlanTidyRow : OpenClaim := { program := "ytacinjbaebimhaa", sum := "8e037fee1714742820c493e7220f71803ff64a779a8d12c5683431adb308dfce", func := "loop.example/tablehouse/laws.FnExactPlanTidy", spec := "fnExactPlanTidy", apart := false }
def FnExactPlanTidySaid : Prop := fnExactPlanTidyRow.holds Try.pinned (OpenSpec.ofChange fnExactPlanTidySpec)

/-- ITS FALSE NEIGHBOUR: 'it returns false'. Refute it at one input. -/
def fnExactPlanTidyWrong : ChangeSpec := { name := "fnExactPlanTidy", fn := fun _ => fun
  | [d1, d2] => { results := [.lit (.bool false)], args := [d1, d2] }
  | _ => none }
def FnExactPlanTidyWrongFalsely : Prop := fnExactPlanTidyRow.holds Try.pinned (OpenSpec.ofChange fnExactPlanTidyWrong)

/- THE SECOND FORM. 'bulk': how many values and letters a reading holds, each counted each time it is reached (what is shared counts as often as it is met; a slice's spare places count too). A statement '..UptoSaid' is the law's where the arguments, and the package variables that the reading takes, are together of bulk at most 1048576: NARROWER than '..Said'. Prove '..Said' where nothing that the law and all that it calls make is longer than what came in: it says more and counts as full. Else prove '..UptoSaid'. A law counts once. -/
mutual
def uptoBulk {H : Type} : DataW H → Nat
  | .lit (.string bytes) => bytes.length + 1
  | .lit _ => 1
  | .nil => 1
  | .ptr d => uptoBulk d + 1
  | .slice elems spare => uptoBulkAll elems + uptoBulkAll spare + 1
  | .agg parts => uptoBulkAll parts + 1
  | .iface _ d => uptoBulk d + 1
  | .map entries => uptoBulkEntries entries + 1
  | .held _ => 1
def uptoBulkAll {H : Type} : List (DataW H) → Nat
  | [] => 0
  | d :: r => uptoBulk d + uptoBulkAll r
def uptoBulkEntries {H : Type} : List (Lit × DataW H) → Nat
  | [] => 0
  | x :: r => uptoBulkEntry x + uptoBulkEntries r
def uptoBulkEntry {H : Type} : Lit × DataW H → Nat
  | (.string bytes, d) => bytes.length + uptoBulk d + 1
  | (_, d) => uptoBulk d + 1
 end
def uptoSmall : (H : Type) → List (DataW H) → Bool := fun _ ds => decide (uptoBulkAll ds ≤ 1048576)
def OpenSpec.upto (s : _root_.Go.ChangeSpec) : _root_.Go.OpenSpec := { _root_.Go.OpenSpec.ofChange s with cond := some uptoSmall }

/-- 'laws.FnPlanOk', WHERE WHAT IT READS IS OF BULK AT MOST 1048576: true; the input reads as it did. -/
def fnPlanOkUptoRow : OpenClaim := { program := "ytacinjbaebimhaa", sum := "8e037fee1714742820c493e7220f71803ff64a779a8d12c5683431adb308dfce", func := "loop.example/tablehouse/laws.FnPlanOk", spec := "fnPlanOk", recurses := true, apart := false, narrowed := true }
def FnPlanOkUptoSaid : Prop := fnPlanOkUptoRow.holds Try.pinned (OpenSpec.upto fnPlanOkSpec)

/-- 'laws.FnPlanColumns', WHERE WHAT IT READS IS OF BULK AT MOST 1048576: true; the input reads as it did. -/
def fnPlanColumnsUptoRow : OpenClaim := { program := "ytacinjbaebimhaa", sum := "8e037fee1714742820c493e7220f71803ff64a779a8d12c5683431adb308dfce", func := "loop.example/tablehouse/laws.FnPlanColumns", spec := "fnPlanColumns", recurses := true, apart := false, narrowed := true }
def FnPlanColumnsUptoSaid : Prop := fnPlanColumnsUptoRow.holds Try.pinned (OpenSpec.upto fnPlanColumnsSpec)

/-- 'laws.FnPlanTables', WHERE WHAT IT READS IS OF BULK AT MOST 1048576: true; the input reads as it did. -/
def fnPlanTablesUptoRow : OpenClaim := { program := "ytacinjbaebimhaa", sum := "8e037fee1714742820c493e7220f71803ff64a779a8d12c5683431adb308dfce", func := "loop.example/tablehouse/laws.FnPlanTables", spec := "fnPlanTables", recurses := true, apart := false, narrowed := true }
def FnPlanTablesUptoSaid : Prop := fnPlanTablesUptoRow.holds Try.pinned (OpenSpec.upto fnPlanTablesSpec)

/-- 'laws.FnWholeTests', WHERE WHAT IT READS IS OF BULK AT MOST 1048576: true; the input reads as it did. -/
def fnWholeTestsUptoRow : OpenClaim := { program := "ytacinjbaebimhaa", sum := "8e037fee1714742820c493e7220f71803ff64a779a8d12c5683431adb308dfce", func := "loop.example/tablehouse/laws.FnWholeTests", spec := "fnWholeTests", recurses := true, apart := false, narrowed := true }
def FnWholeTestsUptoSaid : Prop := fnWholeTestsUptoRow.holds Try.pinned (OpenSpec.upto fnWholeTestsSpec)

/-- 'laws.FnWholeThree', WHERE WHAT IT READS IS OF BULK AT MOST 1048576: true; the input reads as it did. -/
def fnWholeThreeUptoRow : OpenClaim := { program := "ytacinjbaebimhaa", sum := "8e037fee1714742820c493e7220f71803ff64a779a8d12c5683431adb308dfce", func := "loop.example/tablehouse/laws.FnWholeThree", spec := "fnWholeThree", recurses := true, apart := false, narrowed := true }
def FnWholeThreeUptoSaid : Prop := fnWholeThreeUptoRow.holds Try.pinned (OpenSpec.upto fnWholeThreeSpec)

/-- 'laws.FnWholeTwice', WHERE WHAT IT READS IS OF BULK AT MOST 1048576: true; the input reads as it did. -/
def fnWholeTwiceUptoRow : OpenClaim := { program := "ytacinjbaebimhaa", sum := "8e037fee1714742820c493e7220f71803ff64a779a8d12c5683431adb308dfce", func := "loop.example/tablehouse/laws.FnWholeTwice", spec := "fnWholeTwice", recurses := true, apart := false, narrowed := true }
def FnWholeTwiceUptoSaid : Prop := fnWholeTwiceUptoRow.holds Try.pinned (OpenSpec.upto fnWholeTwiceSpec)

/-- 'laws.FnWholeOrder', WHERE WHAT IT READS IS OF BULK AT MOST 1048576: true; the input reads as it did. -/
def fnWholeOrderUptoRow : OpenClaim := { program := "ytacinjbaebimhaa", sum := "8e037fee1714742820c493e7220f71803ff64a779a8d12c5683431adb308dfce", func := "loop.example/tablehouse/laws.FnWholeOrder", spec := "fnWholeOrder", recurses := true, apart := false, narrowed := true }
def FnWholeOrderUptoSaid : Prop := fnWholeOrderUptoRow.holds Try.pinned (OpenSpec.upto fnWholeOrderSpec)

/-- 'laws.FnExactPlanTidy', WHERE WHAT IT READS IS OF BULK AT MOST 1048576: true; the input reads as it did. -/
def fnExactPlanTidyUptoRow : OpenClaim := { program := "ytacinjbaebimhaa", sum := "8e037fee1714742820c493e7220f71803ff64a779a8d12c5683431adb308dfce", func := "loop.example/tablehouse/laws.FnExactPlanTidy", spec := "fnExactPlanTidy", apart := false, narrowed := true }
def FnExactPlanTidyUptoSaid : Prop := fnExactPlanTidyUptoRow.holds Try.pinned (OpenSpec.upto fnExactPlanTidySpec)

end Rows
end Go.Proofs.Ytacinjbaebimhaa
