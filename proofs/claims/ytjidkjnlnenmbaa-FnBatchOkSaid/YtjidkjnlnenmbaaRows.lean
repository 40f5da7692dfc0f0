/-
  No cell of these rows narrows 'for every input' (looked for: loops, veiled, ifaces, maps, wideKeys, modest, calm, conditions, laid).
  DERIVED. THE GIVEN ROWS OF THIS SEAT. 9 by the template 'for every input the law returns true; each argument reads behind the call as it read before'; 0 by the template 'total and deterministic' (their statements: YtjidkjnlnenmbaaTotals.lean).
  GIVEN WITH THE SEED: the statements are not yours to turn. If you find one false, say at which input.
  Laid BY PROGRAM, IN A SANDBOX (cutbox-rows.mjs): the forced cells as the released guide's own fill.sh prints them over the translation 9033846f3b14cf44… (all of the seat's roots in one cut). By AI agents, Wed Nov 11 2026. No macro, syntax, notation, axiom, sorry.
-/
import Derived.Test.YtjidkjnlnenmbaaChecked
import GoSem.Claim
import GoSem.ClaimJoined
import GoSem.ClaimMapViews
import Derived.JoinedTies
import Derived.KernelRfl
namespace Go.Proofs.Ytjidkjnlnenmbaa
/- THE CELL 'sum', in the pinned program and in every row, IS THE sha256 OF THE DUMP (.gsa) THAT YtjidkjnlnenmbaaProg.lean LOADS. Nothing in Lean hashes anything: it is a label: what it is worth is what the hold of that sum in a sandbox is worth. -/
noncomputable def Try.pinned : Pinned := { name := "ytjidkjnlnenmbaa", sum := "9033846f3b14cf448448e35b0d570a1945f8a3c3ef5112edd72c374b84234571", checked := Try.checked }
namespace Rows
def none {H : Type} : Left H := { results := [], args := [] }

/-- 'laws.FnExactBatchOk': WHATEVER THE INPUT: true; the input reads as it did. -/
def fnExactBatchOkSpec : ChangeSpec := { name := "fnExactBatchOk", fn := fun _ => fun
  | [d] => { results := [.lit (.bool true)], args := [d] }
  | _ => none }
def fnExactBatchOkRow : OpenClaim := { program := "ytjidkjnlnenmbaa", sum := "9033846f3b14cf448448e35b0d570a1945f8a3c3ef5112edd72c374b84234571", func := "loop.example/tablehouse/laws.FnExactBatchOk", spec := "fnExactBatchOk", apart := false }
def FnExactBatchOkSaid : Prop := fnExactBatchOkRow.holds Try.pinned (OpenSpec.ofChange fnExactBatchOkSpec)

/-- ITS FALSE NEIGHBOUR: 'it returns false'. Refute it at one input. -/
def fnExactBatchOkWrong : ChangeSpec := { name := "fnExactBatchOk", fn := fun _ => fun
  | [d] => { results := [.lit (.bool false)], args := [d] }
  | _ => none }
def FnExactBatchOkWrongFalsely : Prop := fnExactBatchOkRow.holds Try.pinned (OpenSpec.ofChange fnExactBatchOkWrong)

/-- 'laws.FnExactBatchRows': WHATEVER THE INPUT: true; the input reads as it did. -/
def fnExactBatchRowsSpec : ChangeSpec := { name := "fnExactBatchRows", fn := fun _ => fun
  | [d] => { results := [.lit (.bool true)], args := [d] }
  | _ => none }
def fnExactBatchRowsRow : OpenClaim := { program := "ytjidkjnlnenmbaa", sum := "9033846f3b14cf448448e35b0d570a1945f8a3c3ef5112edd72c374b84234571", func := "loop.example/tablehouse/laws.FnExactBatchRows", spec := "fnExactBatchRows", apart := false }
def FnExactBatchRowsSaid : Prop := fnExactBatchRowsRow.holds Try.pinned (OpenSpec.ofChange fnExactBatchRowsSpec)

/-- ITS FALSE NEIGHBOUR: 'it returns false'. Refute it at one input. -/
def fnExactBatchRowsWrong : ChangeSpec := { name := "fnExactBatchRows", fn := fun _ => fun
  | [d] => { results := [.lit (.bool false)], args := [d] }
  | _ => none }
def FnExactBatchRowsWrongFalsely : Prop := fnExactBatchRowsRow.holds Try.pinned (OpenSpec.ofChange fnExactBatchRowsWrong)

/-- 'laws.FnExactBatchesOf': WHATEVER THE INPUT: true; the input reads as it did. -/
def fnExactBatchesOfSpec : ChangeSpec := { name := "fnExactBatchesOf", fn := fun _ => fun
  | [d1, d2, d3] => { results := [.lit (.bool true)], args := [d1, d2, d3] }
  | _ => none }
def fnExactBatchesOfRow : OpenClaim := { program := "ytjidkjnlnenmbaa", sum := "9033846f3b14cf448448e35b0d570a1945f8a3c3ef5112edd72c374b84234571", func := "loop.example/tablehouse/laws.FnExactBatchesOf", spec := "fnExactBatchesOf", apart := false }
def FnExactBatchesOfSaid : Prop := fnExactBatchesOfRow.holds Try.pinned (OpenSpec.ofChange fnExactBatchesOfSpec)

/-- ITS FALSE NEIGHBOUR: 'it returns false'. Refute it at one input. -/
def fnExactBatchesOfWrong : ChangeSpec := { name := "fnExactBatchesOf", fn := fun _ => fun
  | [d1, d2, d3] => { results := [.lit (.bool false)], args := [d1, d2, d3] }
  | _ => none }
def FnExactBatchesOfWrongFalsely : Prop := fnExactBatchesOfRow.holds Try.pinned (OpenSpec.ofChange fnExactBatchesOfWrong)

/-- 'laws.FnExactBatchValues': WHATEVER THE INPUT: true; the input reads as it did. -/
def fnExactBatchValuesSpec : ChangeSpec := { name := "fnExactBatchValues", fn := fun _ => fun
  | [d1, d2, d3] => { results := [.lit (.bool true)], args := [d1, d2, d3] }
  | _ => none }
def fnExactBatchValuesRow : OpenClaim := { program := "ytjidkjnlnenmbaa", sum := "9033846f3b14cf448448e35b0d570a1945f8a3c3ef5112edd72c374b84234571", func := "loop.example/tablehouse/laws.FnExactBatchValues", spec := "fnExactBatchValues", apart := false }
def FnExactBatchValuesSaid : Prop := fnExactBatchValuesRow.holds Try.pinned (OpenSpec.ofChange fnExactBatchValuesSpec)

/-- ITS FALSE NEIGHBOUR: 'it returns false'. Refute it at one input. -/
def fnExactBatchValuesWrong : ChangeSpec := { name := "fnExactBatchValues", fn := fun _ => fun
  | [d1, d2, d3] => { results := [.lit (.bool false)], args := [d1, d2, d3] }
  | _ => none }
def FnExactBatchValuesWrongFalsely : Prop := fnExactBatchValuesRow.holds Try.pinned (OpenSpec.ofChange fnExactBatchValuesWrong)

/-- 'laws.FnBatchOk': WHATEVER THE INPUT: true; the input reads as it did. -/
def fnBatchOkSpec : ChangeSpec := { name := "fnBatchOk", fn := fun _ => fun
  | [d] => { results := [.lit (.bool true)], args := [d] }
  | _ => none }
def fnBatchOkRow : OpenClaim := { program := "ytjidkjnlnenmbaa", sum := "9033846f3b14cf448448e35b0d570a1945f8a3c3ef5112edd72c374b84234571", func := "loop.example/tablehouse/laws.FnBatchOk", spec := "fnBatchOk", apart := false }
def FnBatchOkSaid : Prop := fnBatchOkRow.holds Try.pinned (OpenSpec.ofChange fnBatchOkSpec)

/-- ITS FALSE NEIGHBOUR: 'it returns false'. Refute it at one input. -/
def fnBatchOkWrong : ChangeSpec := { name := "fnBatchOk", fn := fun _ => fun
  | [d] => { results := [.lit (.bool false)], args := [d] }
  | _ => none }
def FnBatchOkWrongFalsely : Prop := fnBatchOkRow.holds Try.pinned (OpenSpec.ofChange fnBatchOkWrong)

/-- 'laws.FnBatchRows': WHATEVER THE INPUT: true; the input reads as it did. -/
def fnBatchRowsSpec : ChangeSpec := { name := "fnBatchRows", fn := fun _ => fun
  | [d] => { results := [.lit (.bool true)], args := [d] }
  | _ => none }
def fnBatchRowsRow : OpenClaim := { program := "ytjidkjnlnenmbaa", sum := "9033846f3b14cf448448e35b0d570a1945f8a3c3ef5112edd72c374b84234571", func := "loop.example/tablehouse/laws.FnBatchRows", spec := "fnBatchRows", apart := false }
def FnBatchRowsSaid : Prop := fnBatchRowsRow.holds Try.pinned (OpenSpec.ofChange fnBatchRowsSpec)

/-- ITS FALSE NEIGHBOUR: 'it returns false'. Refute it at one input. -/
def fnBatchRowsWrong : ChangeSpec := { name := "fnBatchRows", fn := fun _ => fun
  | [d] => { results := [.lit (.bool false)], args := [d] }
  | _ => none }
def FnBatchRowsWrongFalsely : Prop := fnBatchRowsRow.holds Try.pinned (OpenSpec.ofChange fnBatchRowsWrong)

/-- 'laws.FnBatchesOf': WHATEVER THE INPUT: true; the input reads as it did. -/
def fnBatchesOfSpec : ChangeSpec := { name := "fnBatchesOf", fn := fun _ => fun
  | [d] => { results := [.lit (.bool true)], args := [d] }
  | _ => none }
def fnBatchesOfRow : OpenClaim := { program := "ytjidkjnlnenmbaa", sum := "9033846f3b14cf448448e35b0d570a1945f8a3c3ef5112edd72c374b84234571", func := "loop.example/tablehouse/laws.FnBatchesOf", spec := "fnBatchesOf", apart := false }
def FnBatchesOfSaid : Prop := fnBatchesOfRow.holds Try.pinned (OpenSpec.ofChange fnBatchesOfSpec)

/-- ITS FALSE NEIGHBOUR: 'it returns false'. Refute it at one input. -/
def fnBatchesOfWrong : ChangeSpec := { name := "fnBatchesOf", fn := fun _ => fun
  | [d] => { results := [.lit (.bool false)], args := [d] }
  | _ => none }
def FnBatchesOfWrongFalsely : Prop := fnBatchesOfRow.holds Try.pinned (OpenSpec.ofChange fnBatchesOfWrong)

/-- 'laws.FnBatchValues': WHATEVER THE INPUT: true; the input reads as it did. -/
def fnBatchValuesSpec : ChangeSpec := { name := "fnBatchValues", fn := fun _ => fun
  | [d] => { results := [.lit (.bool true)], args := [d] }
  | _ => none }
def fnBatchValuesRow : OpenClaim := { program := "ytjidkjnlnenmbaa", sum := "9033846f3b14cf448448e35b0d570a1945f8a3c3ef5112edd72c374b84234571", func := "loop.example/tablehouse/laws.FnBatchValues", spec := "fnBatchValues", recurses := true, apart := false }
def FnBatchValuesSaid : Prop := fnBatchValuesRow.holds Try.pinned (OpenSpec.ofChange fnBatchValuesSpec)

/-- ITS FALSE NEIGHBOUR: 'it returns false'. Refute it at one input. -/
def fnBatchValuesWrong : ChangeSpec := { name := "fnBatchValues", fn := fun _ => fun
  | [d] => { results := [.lit (.bool false)], args := [d] }
  | _ => none }
def FnBatchValuesWrongFalsely : Prop := fnBatchValuesRow.holds Try.pinned (OpenSpec.ofChange fnBatchValuesWrong)

/-- 'laws.FnBatchPicked': WHATEVER THE INPUT: true; the input reads as it did. -/
def fnBatchPickedSpec : ChangeSpec := { name := "fnBatchPicked", fn := fun _ => fun
  | [d] => { results := [.lit (.bool true)], args := [d] }
  | _ => none }
def fnBatchPickedRow : OpenClaim := { program := "ytjidkjnlnenmbaa", sum := "9033846f3b14cf448448e35b0d570a1945f8a3c3ef5112edd72c374b84234571", func := "loop.example/tablehouse/laws.FnBatchPicked", spec := "fnBatchPicked", recurses := true, apart := false }
def FnBatchPickedSaid : Prop := fnBatchPickedRow.holds Try.pinned (OpenSpec.ofChange fnBatchPickedSpec)

/-- ITS FALSE NEIGHBOUR: 'it returns false'. Refute it at one input. -/
def fnBatchPickedWrong : ChangeSpec := { name := "fnBatchPicked", fn := fun _ => fun
  | [d] => { results := [.lit (.bool false)], args := [d] }
  | _ => none }
def FnBatchPickedWrongFalsely : Prop := fnBatchPickedRow.holds Try.pinned (OpenSpec.ofChange fnBatchPickedWrong)

/- THE SECOND FORM. 'bulk': how many values and letters a reading holds, each counted each time it is reached (what is shared counts as often as it is met; a slice's spare places count too). A statement '..UptoSaid' is the law's where the arguments, and the package variables that the reading takes, are together of bulk at most 1048576: NARROWER than '..Said'. Prove '..Said' where nothing that the law and all that it calls make is longer than what came in: it says more and counts as full. Else prove '..UptoSaid'. A law counts once. -/
mutual
def uptoBulk {H : Type} : DataW H → Nat
  | .lit (.string bytes) => bytes.length + 1
  | .lit _ => 1
  | .nil => 1
  | .ptr d => uptoBulk d + 1
  | .slice elems spare => uptoBulkAll elems + uptoBulkAll spare + 1
  | .agg parts => uptoBulkAll parts + 1
  | .iface _ d => uptoBulk d + 1
  | .map entries => uptoBulkEntries entries + 1
  | .held _ => 1
def uptoBulkAll {H : Type} : List (DataW H) → Nat
  | [] => 0
  | d :: r => uptoBulk d + uptoBulkAll r
def uptoBulkEntries {H : Type} : List (Lit × DataW H) → Nat
  | [] => 0
  | x :: r => uptoBulkEntry x + uptoBulkEntries r
def uptoBulkEntry {H : Type} : Lit × DataW H → Nat
  | (.string bytes, d) => bytes.length + uptoBulk d + 1
  | (_, d) => uptoBulk d + 1
 end
def uptoSmall : (H : Type) → List (DataW H) → Bool := fun _ ds => decide (uptoBulkAll ds ≤ 1048576)
def OpenSpec.upto (s : _root_.Go.ChangeSpec) : _root_.Go.OpenSpec := { _root_.Go.OpenSpec.ofChange s with cond := some uptoSmall }

/-- 'laws.FnExactBatchOk', WHERE WHAT IT READS IS OF BULK AT MOST 1048576: true; the input reads as it did. -/
def fnExactBatchOkUptoRow : OpenClaim := { program := "ytjidkjnlnenmbaa", sum := "9033846f3b14cf448448e35b0d570a1945f8a3c3ef5112edd72c374b84234571", func := "loop.example/tablehouse/laws.FnExactBatchOk", spec := "fnExactBatchOk", apart := false, narrowed := true }
def FnExactBatchOkUptoSaid : Prop := fnExactBatchOkUptoRow.holds Try.pinned (OpenSpec.upto fnExactBatchOkSpec)

/-- 'laws.FnExactBatchRows', WHERE WHAT IT READS IS OF BULK AT MOST 1048576: true; the input reads as it did. -/
def fnExactBatchRowsUptoRow : OpenClaim := { program := "ytjidkjnlnenmbaa", sum := "9033846f3b14cf448448e35b0d570a1945f8a3c3ef5112edd72c374b84234571", func := "loop.example/tablehouse/laws.FnExactBatchRows", spec := "fnExactBatchRows", apart := false, narrowed := true }
def FnExactBatchRowsUptoSaid : Prop := fnExactBatchRowsUptoRow.holds Try.pinned (OpenSpec.upto fnExactBatchRowsSpec)

/-- 'laws.FnExactBatchesOf', WHERE WHAT IT READS IS OF BULK AT MOST 1048576: true; the input reads as it did. -/
def fnExactBatchesOfUptoRow : OpenClaim := { program := "ytjidkjnlnenmbaa", sum := "9033846f3b14cf448448e35b0d570a1945f8a3c3ef5112edd72c374b84234571", func := "loop.example/tablehouse/laws.FnExactBatchesOf", spec := "fnExactBatchesOf", apart := false, narrowed := true }
def FnExactBatchesOfUptoSaid : Prop := fnExactBatchesOfUptoRow.holds Try.pinned (OpenSpec.upto fnExactBatchesOfSpec)

/-- 'laws.FnExactBatchValues', WHERE WHAT IT READS IS OF BULK AT MOST 1048576: true; the input reads as it did. -/
def fnExactBatchValuesUptoRow : OpenClaim := { program := "ytjidkjnlnenmbaa", sum := "9033846f3b14cf448448e35b0d570a1945f8a3c3ef5112edd72c374b84234571", func := "loop.example/tablehouse/laws.FnExactBatchValues", spec := "fnExactBatchValues", apart := false, narrowed := true }
def FnExactBatchValuesUptoSaid : Prop := fnExactBatchValuesUptoRow.holds Try.pinned (OpenSpec.upto fnExactBatchValuesSpec)

/-- 'laws.FnBatchOk', WHERE WHAT IT READS IS OF BULK AT MOST 1048576: true; the input reads as it did. -/
def fnBatchOkUptoRow : OpenClaim := { program := "ytjidkjnlnenmbaa", sum := "9033846f3b14cf448448e35b0d570a1945f8a3c3ef5112edd72c374b84234571", func := "loop.example/tablehouse/laws.FnBatchOk", spec := "fnBatchOk", apart := false, narrowed := true }
def FnBatchOkUptoSaid : Prop := fnBatchOkUptoRow.holds Try.pinned (OpenSpec.upto fnBatchOkSpec)

/-- 'laws.FnBatchRows', WHERE WHAT IT READS IS OF BULK AT MOST 1048576: true; the input reads as it did. -/
def fnBatchRowsUptoRow : OpenClaim := { program := "ytjidkjnlnenmbaa", sum := "9033846f3b14cf448448e35b0d570a1945f8a3c3ef5112edd72c374b84234571", func := "loop.example/tablehouse/laws.FnBatchRows", spec := "fnBatchRows", apart := false, narrowed := true }
def FnBatchRowsUptoSaid : Prop := fnBatchRowsUptoRow.holds Try.pinned (OpenSpec.upto fnBatchRowsSpec)

/-- 'laws.FnBatchesOf', WHERE WHAT IT READS IS OF BULK AT MOST 1048576: true; the input reads as it did. -/
def fnBatchesOfUptoRow : OpenClaim := { program := "ytjidkjnlnenmbaa", sum := "9033846f3b14cf448448e35b0d570a1945f8a3c3ef5112edd72c374b84234571", func := "loop.example/tablehouse/laws.FnBatchesOf", spec := "fnBatchesOf", apart := false, narrowed := true }
def FnBatchesOfUptoSaid : Prop := fnBatchesOfUptoRow.holds Try.pinned (OpenSpec.upto fnBatchesOfSpec)

/-- 'laws.FnBatchValues', WHERE WHAT IT READS IS OF BULK AT MOST 1048576: true; the input reads as it did. -/
def fnBatchValuesUptoRow : OpenClaim := { program := "ytjidkjnlnenmbaa", sum := "9033846f3b14cf448448e35b0d570a1945f8a3c3ef5112edd72c374b84234571", func := "loop.example/tablehouse/laws.FnBatchValues", spec := "fnBatchValues", recurses := true, apart := false, narrowed := true }
def FnBatchValuesUptoSaid : Prop := fnBatchValuesUptoRow.holds Try.pinned (OpenSpec.upto fnBatchValuesSpec)

/-- 'laws.FnBatchPicked', WHERE WHAT IT READS IS OF BULK AT MOST 1048576: true; the input reads as it did. -/
def fnBatchPickedUptoRow : OpenClaim := { program := "ytjidkjnlnenmbaa", sum := "9033846f3b14cf448448e35b0d570a1945f8a3c3ef5112edd72c374b84234571", func := "loop.example/tablehouse/laws.FnBatchPicked", spec := "fnBatchPicked", recurses := true, apart := false, narrowed := true }
def FnBatchPickedUptoSaid : Prop := fnBatchPickedUptoRow.holds Try.pinned (OpenSpec.upto fnBatchPickedSpec)

end Rows
end Go.Proofs.Ytjidkjnlnenmbaa
