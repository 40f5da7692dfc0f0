/-
  No cell of these rows narrows 'for every input' (looked for: loops, veiled, ifaces, maps, wideKeys, modest, calm, conditions, laid).
  DERIVED. THE GIVEN ROWS OF THIS SEAT. 6 by the template 'for every input the law returns true; each argument reads behind the call as it read before'; 0 by the template 'total and deterministic' (their statements: YtcgjnilkbdamjabTotals.lean).
  GIVEN WITH THE SEED: the statements are not yours to turn. If you find one false, say at which input.
  Laid BY PROGRAM, IN A SANDBOX (cutbox-rows.mjs): the forced cells as the released guide's own fill.sh prints them over the translation 4aa86a396e6c2402… (all of the seat's roots in one cut). By AI agents, Wed Nov 11 2026. No macro, syntax, notation, axiom, sorry.
-/
import Derived.Test.YtcgjnilkbdamjabChecked
import GoSem.Claim
import GoSem.ClaimJoined
import GoSem.ClaimMapViews
import Derived.JoinedTies
import Derived.KernelRfl
namespace Go.Proofs.Ytcgjnilkbdamjab
/- THE CELL 'sum', in the pinned program and in every row, IS THE sha256 OF THE DUMP (.gsa) THAT YtcgjnilkbdamjabProg.lean LOADS. Nothing in Lean hashes anything: it is a label: what it is worth is what the hold of that sum in a sandbox is worth. -/
noncomputable def Try.pinned : Pinned := { name := "ytcgjnilkbdamjab", sum := "4aa86a396e6c2402b18838e6f50decf942282d20cb30f15fb0f70cf3e3a46c9a", checked := Try.checked }
namespace Rows
def none {H : Type} : Left H := { results := [], args := [] }

/-- 'laws.FnWholeTwice': WHATEVER THE INPUT: true; the input reads as it did. -/
def fnWholeTwiceSpec : ChangeSpec := { name := "fnWholeTwice", fn := fun _ => fun
  | [d] => { results := [.lit (.bool true)], args := [d] }
  | _ => none }
def fnWholeTwiceRow : OpenClaim := { program := "ytcgjnilkbdamjab", sum := "4aa86a396e6c2402b18838e6f50decf942282d20cb30f15fb0f70cf3e3a46c9a", func := "loop.example/tablehouse/laws.FnWholeTwice", spec := "fnWholeTwice", recurses := true, apart := false }
def FnWholeTwiceSaid : Prop := fnWholeTwiceRow.holds Try.pinned (OpenSpec.ofChange fnWholeTwiceSpec)

/-- ITS FALSE NEIGHBOUR: 'it returns false'. Refute it at one input. -/
def fnWholeTwiceWrong : ChangeSpec := { name := "fnWholeTwice", fn := fun _ => fun
  | [d] => { results := [.lit (.bool false)], args := [d] }
  | _ => none }
def FnWholeTwiceWrongFalsely : Prop := fnWholeTwiceRow.holds Try.pinned (OpenSpec.ofChange fnWholeTwiceWrong)

/-- 'laws.FnWholeOrder': WHATEVER THE INPUT: true; the input reads as it did. -/
def fnWholeOrderSpec : ChangeSpec := { name := "fnWholeOrder", fn := fun _ => fun
  | [d] => { results := [.lit (.bool true)], args := [d] }
  | _ => none }
def fnWholeOrderRow : OpenClaim := { program := "ytcgjnilkbdamjab", sum := "4aa86a396e6c2402b18838e6f50decf942282d20cb30f15fb0f70cf3e3a46c9a", func := "loop.example/tablehouse/laws.FnWholeOrder", spec := "fnWholeOrder", recurses := true, apart := false }
def FnWholeOrderSaid : Prop := fnWholeOrderRow.holds Try.pinned (OpenSpec.ofChange fnWholeOrderSpec)

/-- ITS FALSE NEIGHBOUR: 'it returns false'. Refute it at one input. -/
def fnWholeOrderWrong : ChangeSpec := { name := "fnWholeOrder", fn := fun _ => fun
  | [d] => { results := [.lit (.bool false)], args := [d] }
  | _ => none }
def FnWholeOrderWrongFalsely : Prop := fnWholeOrderRow.holds Try.pinned (OpenSpec.ofChange fnWholeOrderWrong)

/-- 'laws.FnWholeJoinTurned': WHATEVER THE INPUT: true; the input reads as it did. -/
def fnWholeJoinTurnedSpec : ChangeSpec := { name := "fnWholeJoinTurned", fn := fun _ => fun
  | [d] => { results := [.lit (.bool true)], args := [d] }
  | _ => none }
def fnWholeJoinTurnedRow : OpenClaim := { program := "ytcgjnilkbdamjab", sum := "4aa86a396e6c2402b18838e6f50decf942282d20cb30f15fb0f70cf3e3a46c9a", func := "loop.example/tablehouse/laws.FnWholeJoinTurned", spec := "fnWholeJoinTurned", recurses := true, apart := false }
def FnWholeJoinTurnedSaid : Prop := fnWholeJoinTurnedRow.holds Try.pinned (OpenSpec.ofChange fnWholeJoinTurnedSpec)

/-- ITS FALSE NEIGHBOUR: 'it returns false'. Refute it at one input. -/
def fnWholeJoinTurnedWrong : ChangeSpec := { name := "fnWholeJoinTurned", fn := fun _ => fun
  | [d] => { results := [.lit (.bool false)], args := [d] }
  | _ => none }
def FnWholeJoinTurnedWrongFalsely : Prop := fnWholeJoinTurnedRow.holds Try.pinned (OpenSpec.ofChange fnWholeJoinTurnedWrong)

/-- 'laws.FnWholeJoinBoth': WHATEVER THE INPUT: true; the input reads as it did. -/
def fnWholeJoinBothSpec : ChangeSpec := { name := "fnWholeJoinBoth", fn := fun _ => fun
  | [d] => { results := [.lit (.bool true)], args := [d] }
  | _ => none }
def fnWholeJoinBothRow : OpenClaim := { program := "ytcgjnilkbdamjab", sum := "4aa86a396e6c2402b18838e6f50decf942282d20cb30f15fb0f70cf3e3a46c9a", func := "loop.example/tablehouse/laws.FnWholeJoinBoth", spec := "fnWholeJoinBoth", recurses := true, apart := false }
def FnWholeJoinBothSaid : Prop := fnWholeJoinBothRow.holds Try.pinned (OpenSpec.ofChange fnWholeJoinBothSpec)

/-- ITS FALSE NEIGHBOUR: 'it returns false'. Refute it at one input. -/
def fnWholeJoinBothWrong : ChangeSpec := { name := "fnWholeJoinBoth", fn := fun _ => fun
  | [d] => { results := [.lit (.bool false)], args := [d] }
  | _ => none }
def FnWholeJoinBothWrongFalsely : Prop := fnWholeJoinBothRow.holds Try.pinned (OpenSpec.ofChange fnWholeJoinBothWrong)

/-- 'laws.FnWholeBothTurned': WHATEVER THE INPUT: true; the input reads as it did. -/
def fnWholeBothTurnedSpec : ChangeSpec := { name := "fnWholeBothTurned", fn := fun _ => fun
  | [d] => { results := [.lit (.bool true)], args := [d] }
  | _ => none }
def fnWholeBothTurnedRow : OpenClaim := { program := "ytcgjnilkbdamjab", sum := "4aa86a396e6c2402b18838e6f50decf942282d20cb30f15fb0f70cf3e3a46c9a", func := "loop.example/tablehouse/laws.FnWholeBothTurned", spec := "fnWholeBothTurned", recurses := true, apart := false }
def FnWholeBothTurnedSaid : Prop := fnWholeBothTurnedRow.holds Try.pinned (OpenSpec.ofChange fnWholeBothTurnedSpec)

/-- ITS FALSE NEIGHBOUR: 'it returns false'. Refute it at one input. -/
def fnWholeBothTurnedWrong : ChangeSpec := { name := "fnWholeBothTurned", fn := fun _ => fun
  | [d] => { results := [.lit (.bool false)], args := [d] }
  | _ => none }
def FnWholeBothTurnedWrongFalsely : Prop := fnWholeBothTurnedRow.holds Try.pinned (OpenSpec.ofChange fnWholeBothTurnedWrong)

/-- 'laws.FnExprValue': WHATEVER THE INPUT: true; the input reads as it did. -/
def fnExprValueSpec : ChangeSpec := { name := "fnExprValue", fn := fun _ => fun
  | [d] => { results := [.lit (.bool true)], args := [d] }
  | _ => none }
def fnExprValueRow : OpenClaim := { program := "ytcgjnilkbdamjab", sum := "4aa86a396e6c2402b18838e6f50decf942282d20cb30f15fb0f70cf3e3a46c9a", func := "loop.example/tablehouse/laws.FnExprValue", spec := "fnExprValue", recurses := true, apart := false }
def FnExprValueSaid : Prop := fnExprValueRow.holds Try.pinned (OpenSpec.ofChange fnExprValueSpec)

/-- ITS FALSE NEIGHBOUR: 'it returns false'. Refute it at one input. -/
def fnExprValueWrong : ChangeSpec := { name := "fnExprValue", fn := fun _ => fun
  | [d] => { results := [.lit (.bool false)], args := [d] }
  | _ => none }
def FnExprValueWrongFalsely : Prop := fnExprValueRow.holds Try.pinned (OpenSpec.ofChange fnExprValueWrong)

/- THE SECOND FORM. 'bulk': how many values and letters a reading holds, each counted each time it is reached (what is shared counts as often as it is met; a slice's spare places count too). A statement '..UptoSaid' is the law's where the arguments, and the package variables that the reading takes, are together of bulk at most 1048576: NARROWER than '..Said'. Prove '..Said' where nothing that the law and all that it calls make is longer than what came in: it says more and counts as full. Else prove '..UptoSaid'. A law counts once. -/
mutual
def uptoBulk {H : Type} : DataW H → Nat
  | .lit (.string bytes) => bytes.length + 1
  | .lit _ => 1
  | .nil => 1
  | .ptr d => uptoBulk d + 1
  | .slice elems spare => uptoBulkAll elems + uptoBulkAll spare + 1
  | .agg parts => uptoBulkAll parts + 1
  | .iface _ d => uptoBulk d + 1
  | .map entries => uptoBulkEntries entries + 1
  | .held _ => 1
def uptoBulkAll {H : Type} : List (DataW H) → Nat
  | [] => 0
  | d :: r => uptoBulk d + uptoBulkAll r
def uptoBulkEntries {H : Type} : List (Lit × DataW H) → Nat
  | [] => 0
  | x :: r => uptoBulkEntry x + uptoBulkEntries r
def uptoBulkEntry {H : Type} : Lit × DataW H → Nat
  | (.string bytes, d) => bytes.length + uptoBulk d + 1
  | (_, d) => uptoBulk d + 1
 end
def uptoSmall : (H : Type) → List (DataW H) → Bool := fun _ ds => decide (uptoBulkAll ds ≤ 1048576)
def OpenSpec.upto (s : _root_.Go.ChangeSpec) : _root_.Go.OpenSpec := { _root_.Go.OpenSpec.ofChange s with cond := some uptoSmall }

/-- 'laws.FnWholeTwice', WHERE WHAT IT READS IS OF BULK AT MOST 1048576: true; the input reads as it did. -/
def fnWholeTwiceUptoRow : OpenClaim := { program := "ytcgjnilkbdamjab", sum := "4aa86a396e6c2402b18838e6f50decf942282d20cb30f15fb0f70cf3e3a46c9a", func := "loop.example/tablehouse/laws.FnWholeTwice", spec := "fnWholeTwice", recurses := true, apart := false, narrowed := true }
def FnWholeTwiceUptoSaid : Prop := fnWholeTwiceUptoRow.holds Try.pinned (OpenSpec.upto fnWholeTwiceSpec)

/-- 'laws.FnWholeOrder', WHERE WHAT IT READS IS OF BULK AT MOST 1048576: true; the input reads as it did. -/
def fnWholeOrderUptoRow : OpenClaim := { program := "ytcgjnilkbdamjab", sum := "4aa86a396e6c2402b18838e6f50decf942282d20cb30f15fb0f70cf3e3a46c9a", func := "loop.example/tablehouse/laws.FnWholeOrder", spec := "fnWholeOrder", recurses := true, apart := false, narrowed := true }
def FnWholeOrderUptoSaid : Prop := fnWholeOrderUptoRow.holds Try.pinned (OpenSpec.upto fnWholeOrderSpec)

/-- 'laws.FnWholeJoinTurned', WHERE WHAT IT READS IS OF BULK AT MOST 1048576: true; the input reads as it did. -/
def fnWholeJoinTurnedUptoRow : OpenClaim := { program := "ytcgjnilkbdamjab", sum := "4aa86a396e6c2402b18838e6f50decf942282d20cb30f15fb0f70cf3e3a46c9a", func := "loop.example/tablehouse/laws.FnWholeJoinTurned", spec := "fnWholeJoinTurned", recurses := true, apart := false, narrowed := true }
def FnWholeJoinTurnedUptoSaid : Prop := fnWholeJoinTurnedUptoRow.holds Try.pinned (OpenSpec.upto fnWholeJoinTurnedSpec)

/-- 'laws.FnWholeJoinBoth', WHERE WHAT IT READS IS OF BULK AT MOST 1048576: true; the input reads as it did. -/
def fnWholeJoinBothUptoRow : OpenClaim := { program := "ytcgjnilkbdamjab", sum := "4aa86a396e6c2402b18838e6f50decf942282d20cb30f15fb0f70cf3e3a46c9a", func := "loop.example/tablehouse/laws.FnWholeJoinBoth", spec := "fnWholeJoinBoth", recurses := true, apart := false, narrowed := true }
def FnWholeJoinBothUptoSaid : Prop := fnWholeJoinBothUptoRow.holds Try.pinned (OpenSpec.upto fnWholeJoinBothSpec)

/-- 'laws.FnWholeBothTurned', WHERE WHAT IT READS IS OF BULK AT MOST 1048576: true; the input reads as it did. -/
def fnWholeBothTurnedUptoRow : OpenClaim := { program := "ytcgjnilkbdamjab", sum := "4aa86a396e6c2402b18838e6f50decf942282d20cb30f15fb0f70cf3e3a46c9a", func := "loop.example/tablehouse/laws.FnWholeBothTurned", spec := "fnWholeBothTurned", recurses := true, apart := false, narrowed := true }
def FnWholeBothTurnedUptoSaid : Prop := fnWholeBothTurnedUptoRow.holds Try.pinned (OpenSpec.upto fnWholeBothTurnedSpec)

/-- 'laws.FnExprValue', WHERE WHAT IT READS IS OF BULK AT MOST 1048576: true; the input reads as it did. -/
def fnExprValueUptoRow : OpenClaim := { program := "ytcgjnilkbdamjab", sum := "4aa86a396e6c2402b18838e6f50decf942282d20cb30f15fb0f70cf3e3a46c9a", func := "loop.example/tablehouse/laws.FnExprValue", spec := "fnExprValue", recurses := true, apart := false, narrowed := true }
def FnExprValueUptoSaid : Prop := fnExprValueUptoRow.holds Try.pinned (OpenSpec.upto fnExprValueSpec)

end Rows
end Go.Proofs.Ytcgjnilkbdamjab
