/-
  No cell of these rows narrows 'for every input' (looked for: loops, veiled, ifaces, maps, wideKeys, modest, calm, conditions, laid).
  DERIVED. THE GIVEN ROWS OF THIS SEAT. 12 by the template 'for every input the law returns true; each argument reads behind the call as it read before'; 0 by the template 'total and deterministic' (their statements: YtcaggcehcdikmaaTotals.lean).
  GIVEN WITH THE SEED: the statements are not yours to turn. If you find one false, say at which input.
  Laid BY PROGRAM, IN A SANDBOX (cutbox-rows.mjs): the forced cells as the released guide's own fill.sh prints them over the translation 59cad2e78ca0fc72… (all of the seat's roots in one cut). By AI agents, Wed Nov 11 2026. No macro, syntax, notation, axiom, sorry.
-/
import Derived.Test.YtcaggcehcdikmaaChecked
import GoSem.Claim
import GoSem.ClaimJoined
import GoSem.ClaimMapViews
import Derived.JoinedTies
import Derived.KernelRfl
namespace Go.Proofs.Ytcaggcehcdikmaa
/- THE CELL 'sum', in the pinned program and in every row, IS THE sha256 OF THE DUMP (.gsa) THAT YtcaggcehcdikmaaProg.lean LOADS. Nothing in Lean hashes anything: it is a label: what it is worth is what the hold of that sum in a sandbox is worth. -/
noncomputable def Try.pinned : Pinned := { name := "ytcaggcehcdikmaa", sum := "59cad2e78ca0fc728dd6540bc1e15e7912e1919131a6cc82c535852090897b6d", checked := Try.checked }
namespace Rows
def none {H : Type} : Left H := { results := [], args := [] }

/-- 'laws.FnValueOk': WHATEVER THE INPUT: true; the input reads as it did. -/
def fnValueOkSpec : ChangeSpec := { name := "fnValueOk", fn := fun _ => fun
  | [d] => { results := [.lit (.bool true)], args := [d] }
  | _ => none }
def fnValueOkRow : OpenClaim := { program := "ytcaggcehcdikmaa", sum := "59cad2e78ca0fc728dd6540bc1e15e7912e1919131a6cc82c535852090897b6d", func := "loop.example/tablehouse/laws.FnValueOk", spec := "fnValueOk", apart := false }
def FnValueOkSaid : Prop := fnValueOkRow.holds Try.pinned (OpenSpec.ofChange fnValueOkSpec)

/-- ITS FALSE NEIGHBOUR: 'it returns false'. Refute it at one input. -/
def fnValueOkWrong : ChangeSpec := { name := "fnValueOk", fn := fun _ => fun
  | [d] => { results := [.lit (.bool false)], args := [d] }
  | _ => none }
def FnValueOkWrongFalsely : Prop := fnValueOkRow.holds Try.pinned (OpenSpec.ofChange fnValueOkWrong)

/-- 'laws.FnValueOrder': WHATEVER THE INPUT: true; the input reads as it did. -/
def fnValueOrderSpec : ChangeSpec := { name := "fnValueOrder", fn := fun _ => fun
  | [d] => { results := [.lit (.bool true)], args := [d] }
  | _ => none }
def fnValueOrderRow : OpenClaim := { program := "ytcaggcehcdikmaa", sum := "59cad2e78ca0fc728dd6540bc1e15e7912e1919131a6cc82c535852090897b6d", func := "loop.example/tablehouse/laws.FnValueOrder", spec := "fnValueOrder", apart := false }
def FnValueOrderSaid : Prop := fnValueOrderRow.holds Try.pinned (OpenSpec.ofChange fnValueOrderSpec)

/-- ITS FALSE NEIGHBOUR: 'it returns false'. Refute it at one input. -/
def fnValueOrderWrong : ChangeSpec := { name := "fnValueOrder", fn := fun _ => fun
  | [d] => { results := [.lit (.bool false)], args := [d] }
  | _ => none }
def FnValueOrderWrongFalsely : Prop := fnValueOrderRow.holds Try.pinned (OpenSpec.ofChange fnValueOrderWrong)

/-- 'laws.FnValueText': WHATEVER THE INPUT: true; the input reads as it did. -/
def fnValueTextSpec : ChangeSpec := { name := "fnValueText", fn := fun _ => fun
  | [d] => { results := [.lit (.bool true)], args := [d] }
  | _ => none }
def fnValueTextRow : OpenClaim := { program := "ytcaggcehcdikmaa", sum := "59cad2e78ca0fc728dd6540bc1e15e7912e1919131a6cc82c535852090897b6d", func := "loop.example/tablehouse/laws.FnValueText", spec := "fnValueText", recurses := true, apart := false }
def FnValueTextSaid : Prop := fnValueTextRow.holds Try.pinned (OpenSpec.ofChange fnValueTextSpec)

/-- ITS FALSE NEIGHBOUR: 'it returns false'. Refute it at one input. -/
def fnValueTextWrong : ChangeSpec := { name := "fnValueText", fn := fun _ => fun
  | [d] => { results := [.lit (.bool false)], args := [d] }
  | _ => none }
def FnValueTextWrongFalsely : Prop := fnValueTextRow.holds Try.pinned (OpenSpec.ofChange fnValueTextWrong)

/-- 'laws.FnValueRead': WHATEVER THE INPUT: true; the input reads as it did. -/
def fnValueReadSpec : ChangeSpec := { name := "fnValueRead", fn := fun _ => fun
  | [d] => { results := [.lit (.bool true)], args := [d] }
  | _ => none }
def fnValueReadRow : OpenClaim := { program := "ytcaggcehcdikmaa", sum := "59cad2e78ca0fc728dd6540bc1e15e7912e1919131a6cc82c535852090897b6d", func := "loop.example/tablehouse/laws.FnValueRead", spec := "fnValueRead", recurses := true, apart := false }
def FnValueReadSaid : Prop := fnValueReadRow.holds Try.pinned (OpenSpec.ofChange fnValueReadSpec)

/-- ITS FALSE NEIGHBOUR: 'it returns false'. Refute it at one input. -/
def fnValueReadWrong : ChangeSpec := { name := "fnValueRead", fn := fun _ => fun
  | [d] => { results := [.lit (.bool false)], args := [d] }
  | _ => none }
def FnValueReadWrongFalsely : Prop := fnValueReadRow.holds Try.pinned (OpenSpec.ofChange fnValueReadWrong)

/-- 'laws.FnValueBytes': WHATEVER THE INPUT: true; the input reads as it did. -/
def fnValueBytesSpec : ChangeSpec := { name := "fnValueBytes", fn := fun _ => fun
  | [d] => { results := [.lit (.bool true)], args := [d] }
  | _ => none }
def fnValueBytesRow : OpenClaim := { program := "ytcaggcehcdikmaa", sum := "59cad2e78ca0fc728dd6540bc1e15e7912e1919131a6cc82c535852090897b6d", func := "loop.example/tablehouse/laws.FnValueBytes", spec := "fnValueBytes", apart := false }
def FnValueBytesSaid : Prop := fnValueBytesRow.holds Try.pinned (OpenSpec.ofChange fnValueBytesSpec)

/-- ITS FALSE NEIGHBOUR: 'it returns false'. Refute it at one input. -/
def fnValueBytesWrong : ChangeSpec := { name := "fnValueBytes", fn := fun _ => fun
  | [d] => { results := [.lit (.bool false)], args := [d] }
  | _ => none }
def FnValueBytesWrongFalsely : Prop := fnValueBytesRow.holds Try.pinned (OpenSpec.ofChange fnValueBytesWrong)

/-- 'laws.FnValueFrom': WHATEVER THE INPUT: true; the input reads as it did. -/
def fnValueFromSpec : ChangeSpec := { name := "fnValueFrom", fn := fun _ => fun
  | [d] => { results := [.lit (.bool true)], args := [d] }
  | _ => none }
def fnValueFromRow : OpenClaim := { program := "ytcaggcehcdikmaa", sum := "59cad2e78ca0fc728dd6540bc1e15e7912e1919131a6cc82c535852090897b6d", func := "loop.example/tablehouse/laws.FnValueFrom", spec := "fnValueFrom", apart := false }
def FnValueFromSaid : Prop := fnValueFromRow.holds Try.pinned (OpenSpec.ofChange fnValueFromSpec)

/-- ITS FALSE NEIGHBOUR: 'it returns false'. Refute it at one input. -/
def fnValueFromWrong : ChangeSpec := { name := "fnValueFrom", fn := fun _ => fun
  | [d] => { results := [.lit (.bool false)], args := [d] }
  | _ => none }
def FnValueFromWrongFalsely : Prop := fnValueFromRow.holds Try.pinned (OpenSpec.ofChange fnValueFromWrong)

/-- 'laws.FnExactValueOk': WHATEVER THE INPUT: true; the input reads as it did. -/
def fnExactValueOkSpec : ChangeSpec := { name := "fnExactValueOk", fn := fun _ => fun
  | [d] => { results := [.lit (.bool true)], args := [d] }
  | _ => none }
def fnExactValueOkRow : OpenClaim := { program := "ytcaggcehcdikmaa", sum := "59cad2e78ca0fc728dd6540bc1e15e7912e1919131a6cc82c535852090897b6d", func := "loop.example/tablehouse/laws.FnExactValueOk", spec := "fnExactValueOk", apart := false }
def FnExactValueOkSaid : Prop := fnExactValueOkRow.holds Try.pinned (OpenSpec.ofChange fnExactValueOkSpec)

/-- ITS FALSE NEIGHBOUR: 'it returns false'. Refute it at one input. -/
def fnExactValueOkWrong : ChangeSpec := { name := "fnExactValueOk", fn := fun _ => fun
  | [d] => { results := [.lit (.bool false)], args := [d] }
  | _ => none }
def FnExactValueOkWrongFalsely : Prop := fnExactValueOkRow.holds Try.pinned (OpenSpec.ofChange fnExactValueOkWrong)

/-- 'laws.FnExactValueOrder': WHATEVER THE INPUT: true; the input reads as it did. -/
def fnExactValueOrderSpec : ChangeSpec := { name := "fnExactValueOrder", fn := fun _ => fun
  | [d1, d2] => { results := [.lit (.bool true)], args := [d1, d2] }
  | _ => none }
def fnExactValueOrderRow : OpenClaim := { program := "ytcaggcehcdikmaa", sum := "59cad2e78ca0fc728dd6540bc1e15e7912e1919131a6cc82c535852090897b6d", func := "loop.example/tablehouse/laws.FnExactValueOrder", spec := "fnExactValueOrder", apart := false }
def FnExactValueOrderSaid : Prop := fnExactValueOrderRow.holds Try.pinned (OpenSpec.ofChange fnExactValueOrderSpec)

/-- ITS FALSE NEIGHBOUR: 'it returns false'. Refute it at one input. -/
def fnExactValueOrderWrong : ChangeSpec := { name := "fnExactValueOrder", fn := fun _ => fun
  | [d1, d2] => { results := [.lit (.bool false)], args := [d1, d2] }
  | _ => none }
def FnExactValueOrderWrongFalsely : Prop := fnExactValueOrderRow.holds Try.pinned (OpenSpec.ofChange fnExactValueOrderWrong)

/-- 'laws.FnExactValueText': WHATEVER THE INPUT: true; the input reads as it did. -/
def fnExactValueTextSpec : ChangeSpec := { name := "fnExactValueText", fn := fun _ => fun
  | [d] => { results := [.lit (.bool true)], args := [d] }
  | _ => none }
def fnExactValueTextRow : OpenClaim := { program := "ytcaggcehcdikmaa", sum := "59cad2e78ca0fc728dd6540bc1e15e7912e1919131a6cc82c535852090897b6d", func := "loop.example/tablehouse/laws.FnExactValueText", spec := "fnExactValueText", recurses := true, apart := false }
def FnExactValueTextSaid : Prop := fnExactValueTextRow.holds Try.pinned (OpenSpec.ofChange fnExactValueTextSpec)

/-- ITS FALSE NEIGHBOUR: 'it returns false'. Refute it at one input. -/
def fnExactValueTextWrong : ChangeSpec := { name := "fnExactValueText", fn := fun _ => fun
  | [d] => { results := [.lit (.bool false)], args := [d] }
  | _ => none }
def FnExactValueTextWrongFalsely : Prop := fnExactValueTextRow.holds Try.pinned (OpenSpec.ofChange fnExactValueTextWrong)

/-- 'laws.FnExactValueRead': WHATEVER THE INPUT: true; the input reads as it did. -/
def fnExactValueReadSpec : ChangeSpec := { name := "fnExactValueRead", fn := fun _ => fun
  | [d] => { results := [.lit (.bool true)], args := [d] }
  | _ => none }
def fnExactValueReadRow : OpenClaim := { program := "ytcaggcehcdikmaa", sum := "59cad2e78ca0fc728dd6540bc1e15e7912e1919131a6cc82c535852090897b6d", func := "loop.example/tablehouse/laws.FnExactValueRead", spec := "fnExactValueRead", recurses := true, apart := false }
def FnExactValueReadSaid : Prop := fnExactValueReadRow.holds Try.pinned (OpenSpec.ofChange fnExactValueReadSpec)

/-- ITS FALSE NEIGHBOUR: 'it returns false'. Refute it at one input. -/
def fnExactValueReadWrong : ChangeSpec := { name := "fnExactValueRead", fn := fun _ => fun
  | [d] => { results := [.lit (.bool false)], args := [d] }
  | _ => none }
def FnExactValueReadWrongFalsely : Prop := fnExactValueReadRow.holds Try.pinned (OpenSpec.ofChange fnExactValueReadWrong)

/-- 'laws.FnExactValueBytes': WHATEVER THE INPUT: true; the input reads as it did. -/
def fnExactValueBytesSpec : ChangeSpec := { name := "fnExactValueBytes", fn := fun _ => fun
  | [d] => { results := [.lit (.bool true)], args := [d] }
  | _ => none }
def fnExactValueBytesRow : OpenClaim := { program := "ytcaggcehcdikmaa", sum := "59cad2e78ca0fc728dd6540bc1e15e7912e1919131a6cc82c535852090897b6d", func := "loop.example/tablehouse/laws.FnExactValueBytes", spec := "fnExactValueBytes", apart := false }
def FnExactValueBytesSaid : Prop := fnExactValueBytesRow.holds Try.pinned (OpenSpec.ofChange fnExactValueBytesSpec)

/-- ITS FALSE NEIGHBOUR: 'it returns false'. Refute it at one input. -/
def fnExactValueBytesWrong : ChangeSpec := { name := "fnExactValueBytes", fn := fun _ => fun
  | [d] => { results := [.lit (.bool false)], args := [d] }
  | _ => none }
def FnExactValueBytesWrongFalsely : Prop := fnExactValueBytesRow.holds Try.pinned (OpenSpec.ofChange fnExactValueBytesWrong)

/-- 'laws.FnExactValueFrom': WHATEVER THE INPUT: true; the input reads as it did. -/
def fnExactValueFromSpec : ChangeSpec := { name := "fnExactValueFrom", fn := fun _ => fun
  | [d] => { results := [.lit (.bool true)], args := [d] }
  | _ => none }
def fnExactValueFromRow : OpenClaim := { program := "ytcaggcehcdikmaa", sum := "59cad2e78ca0fc728dd6540bc1e15e7912e1919131a6cc82c535852090897b6d", func := "loop.example/tablehouse/laws.FnExactValueFrom", spec := "fnExactValueFrom", apart := false }
def FnExactValueFromSaid : Prop := fnExactValueFromRow.holds Try.pinned (OpenSpec.ofChange fnExactValueFromSpec)

/-- ITS FALSE NEIGHBOUR: 'it returns false'. Refute it at one input. -/
def fnExactValueFromWrong : ChangeSpec := { name := "fnExactValueFrom", fn := fun _ => fun
  | [d] => { results := [.lit (.bool false)], args := [d] }
  | _ => none }
def FnExactValueFromWrongFalsely : Prop := fnExactValueFromRow.holds Try.pinned (OpenSpec.ofChange fnExactValueFromWrong)

/- THE SECOND FORM. 'bulk': how many values and letters a reading holds, each counted each time it is reached (what is shared counts as often as it is met; a slice's spare places count too). A statement '..UptoSaid' is the law's where the arguments, and the package variables that the reading takes, are together of bulk at most 1048576: NARROWER than '..Said'. Prove '..Said' where nothing that the law and all that it calls make is longer than what came in: it says more and counts as full. Else prove '..UptoSaid'. A law counts once. -/
mutual
def uptoBulk {H : Type} : DataW H → Nat
  | .lit (.string bytes) => bytes.length + 1
  | .lit _ => 1
  | .nil => 1
  | .ptr d => uptoBulk d + 1
  | .slice elems spare => uptoBulkAll elems + uptoBulkAll spare + 1
  | .agg parts => uptoBulkAll parts + 1
  | .iface _ d => uptoBulk d + 1
  | .map entries => uptoBulkEntries entries + 1
  | .held _ => 1
def uptoBulkAll {H : Type} : List (DataW H) → Nat
  | [] => 0
  | d :: r => uptoBulk d + uptoBulkAll r
def uptoBulkEntries {H : Type} : List (Lit × DataW H) → Nat
  | [] => 0
  | x :: r => uptoBulkEntry x + uptoBulkEntries r
def uptoBulkEntry {H : Type} : Lit × DataW H → Nat
  | (.string bytes, d) => bytes.length + uptoBulk d + 1
  | (_, d) => uptoBulk d + 1
 end
def uptoSmall : (H : Type) → List (DataW H) → Bool := fun _ ds => decide (uptoBulkAll ds ≤ 1048576)
def OpenSpec.upto (s : _root_.Go.ChangeSpec) : _root_.Go.OpenSpec := { _root_.Go.OpenSpec.ofChange s with cond := some uptoSmall }

/-- 'laws.FnValueOk', WHERE WHAT IT READS IS OF BULK AT MOST 1048576: true; the input reads as it did. -/
def fnValueOkUptoRow : OpenClaim := { program := "ytcaggcehcdikmaa", sum := "59cad2e78ca0fc728dd6540bc1e15e7912e1919131a6cc82c535852090897b6d", func := "loop.example/tablehouse/laws.FnValueOk", spec := "fnValueOk", apart := false, narrowed := true }
def FnValueOkUptoSaid : Prop := fnValueOkUptoRow.holds Try.pinned (OpenSpec.upto fnValueOkSpec)

/-- 'laws.FnValueOrder', WHERE WHAT IT READS IS OF BULK AT MOST 1048576: true; the input reads as it did. -/
def fnValueOrderUptoRow : OpenClaim := { program := "ytcaggcehcdikmaa", sum := "59cad2e78ca0fc728dd6540bc1e15e7912e1919131a6cc82c535852090897b6d", func := "loop.example/tablehouse/laws.FnValueOrder", spec := "fnValueOrder", apart := false, narrowed := true }
def FnValueOrderUptoSaid : Prop := fnValueOrderUptoRow.holds Try.pinned (OpenSpec.upto fnValueOrderSpec)

/-- 'laws.FnValueText', WHERE WHAT IT READS IS OF BULK AT MOST 1048576: true; the input reads as it did. -/
def fnValueTextUptoRow : OpenClaim := { program := "ytcaggcehcdikmaa", sum := "59cad2e78ca0fc728dd6540bc1e15e7912e1919131a6cc82c535852090897b6d", func := "loop.example/tablehouse/laws.FnValueText", spec := "fnValueText", recurses := true, apart := false, narrowed := true }
def FnValueTextUptoSaid : Prop := fnValueTextUptoRow.holds Try.pinned (OpenSpec.upto fnValueTextSpec)

/-- 'laws.FnValueRead', WHERE WHAT IT READS IS OF BULK AT MOST 1048576: true; the input reads as it did. -/
def fnValueReadUptoRow : OpenClaim := { program := "ytcaggcehcdikmaa", sum := "59cad2e78ca0fc728dd6540bc1e15e7912e1919131a6cc82c535852090897b6d", func := "loop.example/tablehouse/laws.FnValueRead", spec := "fnValueRead", recurses := true, apart := false, narrowed := true }
def FnValueReadUptoSaid : Prop := fnValueReadUptoRow.holds Try.pinned (OpenSpec.upto fnValueReadSpec)

/-- 'laws.FnValueBytes', WHERE WHAT IT READS IS OF BULK AT MOST 1048576: true; the input reads as it did. -/
def fnValueBytesUptoRow : OpenClaim := { program := "ytcaggcehcdikmaa", sum := "59cad2e78ca0fc728dd6540bc1e15e7912e1919131a6cc82c535852090897b6d", func := "loop.example/tablehouse/laws.FnValueBytes", spec := "fnValueBytes", apart := false, narrowed := true }
def FnValueBytesUptoSaid : Prop := fnValueBytesUptoRow.holds Try.pinned (OpenSpec.upto fnValueBytesSpec)

/-- 'laws.FnValueFrom', WHERE WHAT IT READS IS OF BULK AT MOST 1048576: true; the input reads as it did. -/
def fnValueFromUptoRow : OpenClaim := { program := "ytcaggcehcdikmaa", sum := "59cad2e78ca0fc728dd6540bc1e15e7912e1919131a6cc82c535852090897b6d", func := "loop.example/tablehouse/laws.FnValueFrom", spec := "fnValueFrom", apart := false, narrowed := true }
def FnValueFromUptoSaid : Prop := fnValueFromUptoRow.holds Try.pinned (OpenSpec.upto fnValueFromSpec)

/-- 'laws.FnExactValueOk', WHERE WHAT IT READS IS OF BULK AT MOST 1048576: true; the input reads as it did. -/
def fnExactValueOkUptoRow : OpenClaim := { program := "ytcaggcehcdikmaa", sum := "59cad2e78ca0fc728dd6540bc1e15e7912e1919131a6cc82c535852090897b6d", func := "loop.example/tablehouse/laws.FnExactValueOk", spec := "fnExactValueOk", apart := false, narrowed := true }
def FnExactValueOkUptoSaid : Prop := fnExactValueOkUptoRow.holds Try.pinned (OpenSpec.upto fnExactValueOkSpec)

/-- 'laws.FnExactValueOrder', WHERE WHAT IT READS IS OF BULK AT MOST 1048576: true; the input reads as it did. -/
def fnExactValueOrderUptoRow : OpenClaim := { program := "ytcaggcehcdikmaa", sum := "59cad2e78ca0fc728dd6540bc1e15e7912e1919131a6cc82c535852090897b6d", func := "loop.example/tablehouse/laws.FnExactValueOrder", spec := "fnExactValueOrder", apart := false, narrowed := true }
def FnExactValueOrderUptoSaid : Prop := fnExactValueOrderUptoRow.holds Try.pinned (OpenSpec.upto fnExactValueOrderSpec)

/-- 'laws.FnExactValueText', WHERE WHAT IT READS IS OF BULK AT MOST 1048576: true; the input reads as it did. -/
def fnExactValueTextUptoRow : OpenClaim := { program := "ytcaggcehcdikmaa", sum := "59cad2e78ca0fc728dd6540bc1e15e7912e1919131a6cc82c535852090897b6d", func := "loop.example/tablehouse/laws.FnExactValueText", spec := "fnExactValueText", recurses := true, apart := false, narrowed := true }
def FnExactValueTextUptoSaid : Prop := fnExactValueTextUptoRow.holds Try.pinned (OpenSpec.upto fnExactValueTextSpec)

/-- 'laws.FnExactValueRead', WHERE WHAT IT READS IS OF BULK AT MOST 1048576: true; the input reads as it did. -/
def fnExactValueReadUptoRow : OpenClaim := { program := "ytcaggcehcdikmaa", sum := "59cad2e78ca0fc728dd6540bc1e15e7912e1919131a6cc82c535852090897b6d", func := "loop.example/tablehouse/laws.FnExactValueRead", spec := "fnExactValueRead", recurses := true, apart := false, narrowed := true }
def FnExactValueReadUptoSaid : Prop := fnExactValueReadUptoRow.holds Try.pinned (OpenSpec.upto fnExactValueReadSpec)

/-- 'laws.FnExactValueBytes', WHERE WHAT IT READS IS OF BULK AT MOST 1048576: true; the input reads as it did. -/
def fnExactValueBytesUptoRow : OpenClaim := { program := "ytcaggcehcdikmaa", sum := "59cad2e78ca0fc728dd6540bc1e15e7912e1919131a6cc82c535852090897b6d", func := "loop.example/tablehouse/laws.FnExactValueBytes", spec := "fnExactValueBytes", apart := false, narrowed := true }
def FnExactValueBytesUptoSaid : Prop := fnExactValueBytesUptoRow.holds Try.pinned (OpenSpec.upto fnExactValueBytesSpec)

/-- 'laws.FnExactValueFrom', WHERE WHAT IT READS IS OF BULK AT MOST 1048576: true; the input reads as it did. -/
def fnExactValueFromUptoRow : OpenClaim := { program := "ytcaggcehcdikmaa", sum := "59cad2e78ca0fc728dd6540bc1e15e7912e1919131a6cc82c535852090897b6d", func := "loop.example/tablehouse/laws.FnExactValueFrom", spec := "fnExactValueFrom", apart := false, narrowed := true }
def FnExactValueFromUptoSaid : Prop := fnExactValueFromUptoRow.holds Try.pinned (OpenSpec.upto fnExactValueFromSpec)

end Rows
end Go.Proofs.Ytcaggcehcdikmaa
