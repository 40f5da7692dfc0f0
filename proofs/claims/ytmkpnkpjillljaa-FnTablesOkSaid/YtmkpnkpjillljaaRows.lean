/-
  No cell of these rows narrows 'for every input' (looked for: loops, veiled, ifaces, maps, wideKeys, modest, calm, conditions, laid).
  DERIVED. THE GIVEN ROWS OF THIS SEAT. 7 by the template 'for every input the law returns true; each argument reads behind the call as it read before'; 0 by the template 'total and deterministic' (their statements: YtmkpnkpjillljaaTotals.lean).
  GIVEN WITH THE SEED: the statements are not yours to turn. If you find one false, say at which input.
  Laid BY PROGRAM, IN A SANDBOX (cutbox-rows.mjs): the forced cells as the released guide's own fill.sh prints them over the translation 0e473a9d21a17265… (all of the seat's roots in one cut). By AI agents, Wed Nov 11 2026. No macro, syntax, notation, axiom, sorry.
-/
import Derived.Test.YtmkpnkpjillljaaChecked
import GoSem.Claim
import GoSem.ClaimJoined
import GoSem.ClaimMapViews
import Derived.JoinedTies
import Derived.KernelRfl
namespace Go.Proofs.Ytmkpnkpjillljaa
/- THE CELL 'sum', in the pinned program and in every row, IS THE sha256 OF THE DUMP (.gsa) THAT YtmkpnkpjillljaaProg.lean LOADS. Nothing in Lean hashes anything: it is a label: what it is worth is what the hold of that sum in a sandbox is worth. -/
noncomputable def Try.pinned : Pinned := { name := "ytmkpnkpjillljaa", sum := "0e473a9d21a17265d7db21fbf7fab2f000c8aa6c5c3ebc877a140a86c9ac215d", checked := Try.checked }
namespace Rows
def none {H : Type} : Left H := { results := [], args := [] }

/-- 'laws.FnWholeJoinTurned': WHATEVER THE INPUT: true; the input reads as it did. -/
def fnWholeJoinTurnedSpec : ChangeSpec := { name := "fnWholeJoinTurned", fn := fun _ => fun
  | [d] => { results := [.lit (.bool true)], args := [d] }
  | _ => none }
def fnWholeJoinTurnedRow : OpenClaim := { program := "ytmkpnkpjillljaa", sum := "0e473a9d21a17265d7db21fbf7fab2f000c8aa6c5c3ebc877a140a86c9ac215d", func := "loop.example/tablehouse/laws.FnWholeJoinTurned", spec := "fnWholeJoinTurned", recurses := true, apart := false }
def FnWholeJoinTurnedSaid : Prop := fnWholeJoinTurnedRow.holds Try.pinned (OpenSpec.ofChange fnWholeJoinTurnedSpec)

/-- ITS FALSE NEIGHBOUR: 'it returns false'. Refute it at one input. -/
def fnWholeJoinTurnedWrong : ChangeSpec := { name := "fnWholeJoinTurned", fn := fun _ => fun
  | [d] => { results := [.lit (.bool false)], args := [d] }
  | _ => none }
def FnWholeJoinTurnedWrongFalsely : Prop := fnWholeJoinTurnedRow.holds Try.pinned (OpenSpec.ofChange fnWholeJoinTurnedWrong)

/-- 'laws.FnTablesOk': WHATEVER THE INPUT: true; the input reads as it did. -/
def fnTablesOkSpec : ChangeSpec := { name := "fnTablesOk", fn := fun _ => fun
  | [d] => { results := [.lit (.bool true)], args := [d] }
  | _ => none }
def fnTablesOkRow : OpenClaim := { program := "ytmkpnkpjillljaa", sum := "0e473a9d21a17265d7db21fbf7fab2f000c8aa6c5c3ebc877a140a86c9ac215d", func := "loop.example/tablehouse/laws.FnTablesOk", spec := "fnTablesOk", apart := false }
def FnTablesOkSaid : Prop := fnTablesOkRow.holds Try.pinned (OpenSpec.ofChange fnTablesOkSpec)

/-- ITS FALSE NEIGHBOUR: 'it returns false'. Refute it at one input. -/
def fnTablesOkWrong : ChangeSpec := { name := "fnTablesOk", fn := fun _ => fun
  | [d] => { results := [.lit (.bool false)], args := [d] }
  | _ => none }
def FnTablesOkWrongFalsely : Prop := fnTablesOkRow.holds Try.pinned (OpenSpec.ofChange fnTablesOkWrong)

/-- 'laws.FnPlanOk': WHATEVER THE INPUT: true; the input reads as it did. -/
def fnPlanOkSpec : ChangeSpec := { name := "fnPlanOk", fn := fun _ => fun
  | [d] => { results := [.lit (.bool true)], args := [d] }
  | _ => none }
def fnPlanOkRow : OpenClaim := { program := "ytmkpnkpjillljaa", sum := "0e473a9d21a17265d7db21fbf7fab2f000c8aa6c5c3ebc877a140a86c9ac215d", func := "loop.example/tablehouse/laws.FnPlanOk", spec := "fnPlanOk", recurses := true, apart := false }
def FnPlanOkSaid : Prop := fnPlanOkRow.holds Try.pinned (OpenSpec.ofChange fnPlanOkSpec)

/-- ITS FALSE NEIGHBOUR: 'it returns false'. Refute it at one input. -/
def fnPlanOkWrong : ChangeSpec := { name := "fnPlanOk", fn := fun _ => fun
  | [d] => { results := [.lit (.bool false)], args := [d] }
  | _ => none }
def FnPlanOkWrongFalsely : Prop := fnPlanOkRow.holds Try.pinned (OpenSpec.ofChange fnPlanOkWrong)

/-- 'laws.FnPlanColumns': WHATEVER THE INPUT: true; the input reads as it did. -/
def fnPlanColumnsSpec : ChangeSpec := { name := "fnPlanColumns", fn := fun _ => fun
  | [d] => { results := [.lit (.bool true)], args := [d] }
  | _ => none }
def fnPlanColumnsRow : OpenClaim := { program := "ytmkpnkpjillljaa", sum := "0e473a9d21a17265d7db21fbf7fab2f000c8aa6c5c3ebc877a140a86c9ac215d", func := "loop.example/tablehouse/laws.FnPlanColumns", spec := "fnPlanColumns", recurses := true, apart := false }
def FnPlanColumnsSaid : Prop := fnPlanColumnsRow.holds Try.pinned (OpenSpec.ofChange fnPlanColumnsSpec)

/-- ITS FALSE NEIGHBOUR: 'it returns false'. Refute it at one input. -/
def fnPlanColumnsWrong : ChangeSpec := { name := "fnPlanColumns", fn := fun _ => fun
  | [d] => { results := [.lit (.bool false)], args := [d] }
  | _ => none }
def FnPlanColumnsWrongFalsely : Prop := fnPlanColumnsRow.holds Try.pinned (OpenSpec.ofChange fnPlanColumnsWrong)

/-- 'laws.FnPlanTables': WHATEVER THE INPUT: true; the input reads as it did. -/
def fnPlanTablesSpec : ChangeSpec := { name := "fnPlanTables", fn := fun _ => fun
  | [d] => { results := [.lit (.bool true)], args := [d] }
  | _ => none }
def fnPlanTablesRow : OpenClaim := { program := "ytmkpnkpjillljaa", sum := "0e473a9d21a17265d7db21fbf7fab2f000c8aa6c5c3ebc877a140a86c9ac215d", func := "loop.example/tablehouse/laws.FnPlanTables", spec := "fnPlanTables", recurses := true, apart := false }
def FnPlanTablesSaid : Prop := fnPlanTablesRow.holds Try.pinned (OpenSpec.ofChange fnPlanTablesSpec)

/-- ITS FALSE NEIGHBOUR: 'it returns false'. Refute it at one input. -/
def fnPlanTablesWrong : ChangeSpec := { name := "fnPlanTables", fn := fun _ => fun
  | [d] => { results := [.lit (.bool false)], args := [d] }
  | _ => none }
def FnPlanTablesWrongFalsely : Prop := fnPlanTablesRow.holds Try.pinned (OpenSpec.ofChange fnPlanTablesWrong)

/-- 'laws.FnExactPlanTidy': WHATEVER THE INPUT: true; the input reads as it did. -/
def fnExactPlanTidySpec : ChangeSpec := { name := "fnExactPlanTidy", fn := fun _ => fun
  | [d1, d2] => { results := [.lit (.bool true)], args := [d1, d2] }
  | _ => none }
def fnExactPlanTidyRow : OpenClaim := { program := "ytmkpnkpjillljaa", sum := "0e473a9d21a17265d7db21fbf7fab2f000c8aa6c5c3ebc877a140a86c9ac215d", func := "loop.example/tablehouse/laws.FnExactPlanTidy", spec := "fnExactPlanTidy", apart := false }
def FnExactPlanTidySaid : Prop := fnExactPlanTidyRow.holds Try.pinned (OpenSpec.ofChange fnExactPlanTidySpec)

/-- ITS FALSE NEIGHBOUR: 'it returns false'. Refute it at one input. -/
def fnExactPlanTidyWrong : ChangeSpec := { name := "fnExactPlanTidy", fn := fun _ => fun
  | [d1, d2] => { results := [.lit (.bool false)], args := [d1, d2] }
  | _ => none }
def FnExactPlanTidyWrongFalsely : Prop := fnExactPlanTidyRow.holds Try.pinned (OpenSpec.ofChange fnExactPlanTidyWrong)

/-- 'laws.FnWholeTests': WHATEVER THE INPUT: true; the input reads as it did. -/
def fnWholeTestsSpec : ChangeSpec := { name := "fnWholeTests", fn := fun _ => fun
  | [d] => { results := [.lit (.bool true)], args := [d] }
  | _ => none }
def fnWholeTestsRow : OpenClaim := { program := "ytmkpnkpjillljaa", sum := "0e473a9d21a17265d7db21fbf7fab2f000c8aa6c5c3ebc877a140a86c9ac215d", func := "loop.example/tablehouse/laws.FnWholeTests", spec := "fnWholeTests", recurses := true, apart := false }
def FnWholeTestsSaid : Prop := fnWholeTestsRow.holds Try.pinned (OpenSpec.ofChange fnWholeTestsSpec)

/-- ITS FALSE NEIGHBOUR: 'it returns false'. Refute it at one input. -/
def fnWholeTestsWrong : ChangeSpec := { name := "fnWholeTests", fn := fun _ => fun
  | [d] => { results := [.lit (.bool false)], args := [d] }
  | _ => none }
def FnWholeTestsWrongFalsely : Prop := fnWholeTestsRow.holds Try.pinned (OpenSpec.ofChange fnWholeTestsWrong)

/- THE SECOND FORM. 'bulk': how many values and letters a reading holds, each counted each time it is reached (what is shared counts as often as it is met; a slice's spare places count too). A statement '..UptoSaid' is the law's where the arguments, and the package variables that the reading takes, are together of bulk at most 1048576: NARROWER than '..Said'. Prove '..Said' where nothing that the law and all that it calls make is longer than what came in: it says more and counts as full. Else prove '..UptoSaid'. A law counts once. -/
mutual
def uptoBulk {H : Type} : DataW H → Nat
  | .lit (.string bytes) => bytes.length + 1
  | .lit _ => 1
  | .nil => 1
  | .ptr d => uptoBulk d + 1
  | .slice elems spare => uptoBulkAll elems + uptoBulkAll spare + 1
  | .agg parts => uptoBulkAll parts + 1
  | .iface _ d => uptoBulk d + 1
  | .map entries => uptoBulkEntries entries + 1
  | .held _ => 1
def uptoBulkAll {H : Type} : List (DataW H) → Nat
  | [] => 0
  | d :: r => uptoBulk d + uptoBulkAll r
def uptoBulkEntries {H : Type} : List (Lit × DataW H) → Nat
  | [] => 0
  | x :: r => uptoBulkEntry x + uptoBulkEntries r
def uptoBulkEntry {H : Type} : Lit × DataW H → Nat
  | (.string bytes, d) => bytes.length + uptoBulk d + 1
  | (_, d) => uptoBulk d + 1
 end
def uptoSmall : (H : Type) → List (DataW H) → Bool := fun _ ds => decide (uptoBulkAll ds ≤ 1048576)
def OpenSpec.upto (s : _root_.Go.ChangeSpec) : _root_.Go.OpenSpec := { _root_.Go.OpenSpec.ofChange s with cond := some uptoSmall }

/-- 'laws.FnWholeJoinTurned', WHERE WHAT IT READS IS OF BULK AT MOST 1048576: true; the input reads as it did. -/
def fnWholeJoinTurnedUptoRow : OpenClaim := { program := "ytmkpnkpjillljaa", sum := "0e473a9d21a17265d7db21fbf7fab2f000c8aa6c5c3ebc877a140a86c9ac215d", func := "loop.example/tablehouse/laws.FnWholeJoinTurned", spec := "fnWholeJoinTurned", recurses := true, apart := false, narrowed := true }
def FnWholeJoinTurnedUptoSaid : Prop := fnWholeJoinTurnedUptoRow.holds Try.pinned (OpenSpec.upto fnWholeJoinTurnedSpec)

/-- 'laws.FnTablesOk', WHERE WHAT IT READS IS OF BULK AT MOST 1048576: true; the input reads as it did. -/
def fnTablesOkUptoRow : OpenClaim := { program := "ytmkpnkpjillljaa", sum := "0e473a9d21a17265d7db21fbf7fab2f000c8aa6c5c3ebc877a140a86c9ac215d", func := "loop.example/tablehouse/laws.FnTablesOk", spec := "fnTablesOk", apart := false, narrowed := true }
def FnTablesOkUptoSaid : Prop := fnTablesOkUptoRow.holds Try.pinned (OpenSpec.upto fnTablesOkSpec)

/-- 'laws.FnPlanOk', WHERE WHAT IT READS IS OF BULK AT MOST 1048576: true; the input reads as it did. -/
def fnPlanOkUptoRow : OpenClaim := { program := "ytmkpnkpjillljaa", sum := "0e473a9d21a17265d7db21fbf7fab2f000c8aa6c5c3ebc877a140a86c9ac215d", func := "loop.example/tablehouse/laws.FnPlanOk", spec := "fnPlanOk", recurses := true, apart := false, narrowed := true }
def FnPlanOkUptoSaid : Prop := fnPlanOkUptoRow.holds Try.pinned (OpenSpec.upto fnPlanOkSpec)

/-- 'laws.FnPlanColumns', WHERE WHAT IT READS IS OF BULK AT MOST 1048576: true; the input reads as it did. -/
def fnPlanColumnsUptoRow : OpenClaim := { program := "ytmkpnkpjillljaa", sum := "0e473a9d21a17265d7db21fbf7fab2f000c8aa6c5c3ebc877a140a86c9ac215d", func := "loop.example/tablehouse/laws.FnPlanColumns", spec := "fnPlanColumns", recurses := true, apart := false, narrowed := true }
def FnPlanColumnsUptoSaid : Prop := fnPlanColumnsUptoRow.holds Try.pinned (OpenSpec.upto fnPlanColumnsSpec)

/-- 'laws.FnPlanTables', WHERE WHAT IT READS IS OF BULK AT MOST 1048576: true; the input reads as it did. -/
def fnPlanTablesUptoRow : OpenClaim := { program := "ytmkpnkpjillljaa", sum := "0e473a9d21a17265d7db21fbf7fab2f000c8aa6c5c3ebc877a140a86c9ac215d", func := "loop.example/tablehouse/laws.FnPlanTables", spec := "fnPlanTables", recurses := true, apart := false, narrowed := true }
def FnPlanTablesUptoSaid : Prop := fnPlanTablesUptoRow.holds Try.pinned (OpenSpec.upto fnPlanTablesSpec)

/-- 'laws.FnExactPlanTidy', WHERE WHAT IT READS IS OF BULK AT MOST 1048576: true; the input reads as it did. -/
def fnExactPlanTidyUptoRow : OpenClaim := { program := "ytmkpnkpjillljaa", sum := "0e473a9d21a17265d7db21fbf7fab2f000c8aa6c5c3ebc877a140a86c9ac215d", func := "loop.example/tablehouse/laws.FnExactPlanTidy", spec := "fnExactPlanTidy", apart := false, narrowed := true }
def FnExactPlanTidyUptoSaid : Prop := fnExactPlanTidyUptoRow.holds Try.pinned (OpenSpec.upto fnExactPlanTidySpec)

/-- 'laws.FnWholeTests', WHERE WHAT IT READS IS OF BULK AT MOST 1048576: true; the input reads as it did. -/
def fnWholeTestsUptoRow : OpenClaim := { program := "ytmkpnkpjillljaa", sum := "0e473a9d21a17265d7db21fbf7fab2f000c8aa6c5c3ebc877a140a86c9ac215d", func := "loop.example/tablehouse/laws.FnWholeTests", spec := "fnWholeTests", recurses := true, apart := false, narrowed := true }
def FnWholeTestsUptoSaid : Prop := fnWholeTestsUptoRow.holds Try.pinned (OpenSpec.upto fnWholeTestsSpec)

end Rows
end Go.Proofs.Ytmkpnkpjillljaa
