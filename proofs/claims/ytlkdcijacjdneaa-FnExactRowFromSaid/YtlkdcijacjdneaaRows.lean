/-
  No cell of these rows narrows 'for every input' (looked for: loops, veiled, ifaces, maps, wideKeys, modest, calm, conditions, laid).
  DERIVED. THE GIVEN ROWS OF THIS SEAT. 13 by the template 'for every input the law returns true; each argument reads behind the call as it read before'; 0 by the template 'total and deterministic' (their statements: YtlkdcijacjdneaaTotals.lean).
  GIVEN WITH THE SEED: the statements are not yours to turn. If you find one false, say at which input.
  Laid BY PROGRAM, IN A SANDBOX (cutbox-rows.mjs): the forced cells as the released guide's own fill.sh prints them over the translation 2b737940076647e8… (all of the seat's roots in one cut). By AI agents, Wed Nov 11 2026. No macro, syntax, notation, axiom, sorry.
-/
import Derived.Test.YtlkdcijacjdneaaChecked
import GoSem.Claim
import GoSem.ClaimJoined
import GoSem.ClaimMapViews
import Derived.JoinedTies
import Derived.KernelRfl
namespace Go.Proofs.Ytlkdcijacjdneaa
/- THE CELL 'sum', in the pinned program and in every row, IS THE sha256 OF THE DUMP (.gsa) THAT YtlkdcijacjdneaaProg.lean LOADS. Nothing in Lean hashes anything: it is a label: what it is worth is what the hold of that sum in a sandbox is worth. -/
noncomputable def Try.pinned : Pinned := { name := "ytlkdcijacjdneaa", sum := "2b737940076647e8fd1720315946de929b1c042dacd036d245429e74f4b7d34b", checked := Try.checked }
namespace Rows
def none {H : Type} : Left H := { results := [], args := [] }

/-- 'laws.FnColumnsOk': WHATEVER THE INPUT: true; the input reads as it did. -/
def fnColumnsOkSpec : ChangeSpec := { name := "fnColumnsOk", fn := fun _ => fun
  | [d] => { results := [.lit (.bool true)], args := [d] }
  | _ => none }
def fnColumnsOkRow : OpenClaim := { program := "ytlkdcijacjdneaa", sum := "2b737940076647e8fd1720315946de929b1c042dacd036d245429e74f4b7d34b", func := "loop.example/tablehouse/laws.FnColumnsOk", spec := "fnColumnsOk", apart := false }
def FnColumnsOkSaid : Prop := fnColumnsOkRow.holds Try.pinned (OpenSpec.ofChange fnColumnsOkSpec)

/-- ITS FALSE NEIGHBOUR: 'it returns false'. Refute it at one input. -/
def fnColumnsOkWrong : ChangeSpec := { name := "fnColumnsOk", fn := fun _ => fun
  | [d] => { results := [.lit (.bool false)], args := [d] }
  | _ => none }
def FnColumnsOkWrongFalsely : Prop := fnColumnsOkRow.holds Try.pinned (OpenSpec.ofChange fnColumnsOkWrong)

/-- 'laws.FnRowOk': WHATEVER THE INPUT: true; the input reads as it did. -/
def fnRowOkSpec : ChangeSpec := { name := "fnRowOk", fn := fun _ => fun
  | [d] => { results := [.lit (.bool true)], args := [d] }
  | _ => none }
def fnRowOkRow : OpenClaim := { program := "ytlkdcijacjdneaa", sum := "2b737940076647e8fd1720315946de929b1c042dacd036d245429e74f4b7d34b", func := "loop.example/tablehouse/laws.FnRowOk", spec := "fnRowOk", apart := false }
def FnRowOkSaid : Prop := fnRowOkRow.holds Try.pinned (OpenSpec.ofChange fnRowOkSpec)

/-- ITS FALSE NEIGHBOUR: 'it returns false'. Refute it at one input. -/
def fnRowOkWrong : ChangeSpec := { name := "fnRowOk", fn := fun _ => fun
  | [d] => { results := [.lit (.bool false)], args := [d] }
  | _ => none }
def FnRowOkWrongFalsely : Prop := fnRowOkRow.holds Try.pinned (OpenSpec.ofChange fnRowOkWrong)

/-- 'laws.FnRowFits': WHATEVER THE INPUT: true; the input reads as it did. -/
def fnRowFitsSpec : ChangeSpec := { name := "fnRowFits", fn := fun _ => fun
  | [d] => { results := [.lit (.bool true)], args := [d] }
  | _ => none }
def fnRowFitsRow : OpenClaim := { program := "ytlkdcijacjdneaa", sum := "2b737940076647e8fd1720315946de929b1c042dacd036d245429e74f4b7d34b", func := "loop.example/tablehouse/laws.FnRowFits", spec := "fnRowFits", apart := false }
def FnRowFitsSaid : Prop := fnRowFitsRow.holds Try.pinned (OpenSpec.ofChange fnRowFitsSpec)

/-- ITS FALSE NEIGHBOUR: 'it returns false'. Refute it at one input. -/
def fnRowFitsWrong : ChangeSpec := { name := "fnRowFits", fn := fun _ => fun
  | [d] => { results := [.lit (.bool false)], args := [d] }
  | _ => none }
def FnRowFitsWrongFalsely : Prop := fnRowFitsRow.holds Try.pinned (OpenSpec.ofChange fnRowFitsWrong)

/-- 'laws.FnRowOrder': WHATEVER THE INPUT: true; the input reads as it did. -/
def fnRowOrderSpec : ChangeSpec := { name := "fnRowOrder", fn := fun _ => fun
  | [d] => { results := [.lit (.bool true)], args := [d] }
  | _ => none }
def fnRowOrderRow : OpenClaim := { program := "ytlkdcijacjdneaa", sum := "2b737940076647e8fd1720315946de929b1c042dacd036d245429e74f4b7d34b", func := "loop.example/tablehouse/laws.FnRowOrder", spec := "fnRowOrder", apart := false }
def FnRowOrderSaid : Prop := fnRowOrderRow.holds Try.pinned (OpenSpec.ofChange fnRowOrderSpec)

/-- ITS FALSE NEIGHBOUR: 'it returns false'. Refute it at one input. -/
def fnRowOrderWrong : ChangeSpec := { name := "fnRowOrder", fn := fun _ => fun
  | [d] => { results := [.lit (.bool false)], args := [d] }
  | _ => none }
def FnRowOrderWrongFalsely : Prop := fnRowOrderRow.holds Try.pinned (OpenSpec.ofChange fnRowOrderWrong)

/-- 'laws.FnRowBytes': WHATEVER THE INPUT: true; the input reads as it did. -/
def fnRowBytesSpec : ChangeSpec := { name := "fnRowBytes", fn := fun _ => fun
  | [d] => { results := [.lit (.bool true)], args := [d] }
  | _ => none }
def fnRowBytesRow : OpenClaim := { program := "ytlkdcijacjdneaa", sum := "2b737940076647e8fd1720315946de929b1c042dacd036d245429e74f4b7d34b", func := "loop.example/tablehouse/laws.FnRowBytes", spec := "fnRowBytes", apart := false }
def FnRowBytesSaid : Prop := fnRowBytesRow.holds Try.pinned (OpenSpec.ofChange fnRowBytesSpec)

/-- ITS FALSE NEIGHBOUR: 'it returns false'. Refute it at one input. -/
def fnRowBytesWrong : ChangeSpec := { name := "fnRowBytes", fn := fun _ => fun
  | [d] => { results := [.lit (.bool false)], args := [d] }
  | _ => none }
def FnRowBytesWrongFalsely : Prop := fnRowBytesRow.holds Try.pinned (OpenSpec.ofChange fnRowBytesWrong)

/-- 'laws.FnRowFrom': WHATEVER THE INPUT: true; the input reads as it did. -/
def fnRowFromSpec : ChangeSpec := { name := "fnRowFrom", fn := fun _ => fun
  | [d] => { results := [.lit (.bool true)], args := [d] }
  | _ => none }
def fnRowFromRow : OpenClaim := { program := "ytlkdcijacjdneaa", sum := "2b737940076647e8fd1720315946de929b1c042dacd036d245429e74f4b7d34b", func := "loop.example/tablehouse/laws.FnRowFrom", spec := "fnRowFrom", apart := false }
def FnRowFromSaid : Prop := fnRowFromRow.holds Try.pinned (OpenSpec.ofChange fnRowFromSpec)

/-- ITS FALSE NEIGHBOUR: 'it returns false'. Refute it at one input. -/
def fnRowFromWrong : ChangeSpec := { name := "fnRowFrom", fn := fun _ => fun
  | [d] => { results := [.lit (.bool false)], args := [d] }
  | _ => none }
def FnRowFromWrongFalsely : Prop := fnRowFromRow.holds Try.pinned (OpenSpec.ofChange fnRowFromWrong)

/-- 'laws.FnExactColumnsOk': WHATEVER THE INPUT: true; the input reads as it did. -/
def fnExactColumnsOkSpec : ChangeSpec := { name := "fnExactColumnsOk", fn := fun _ => fun
  | [d] => { results := [.lit (.bool true)], args := [d] }
  | _ => none }
def fnExactColumnsOkRow : OpenClaim := { program := "ytlkdcijacjdneaa", sum := "2b737940076647e8fd1720315946de929b1c042dacd036d245429e74f4b7d34b", func := "loop.example/tablehouse/laws.FnExactColumnsOk", spec := "fnExactColumnsOk", apart := false }
def FnExactColumnsOkSaid : Prop := fnExactColumnsOkRow.holds Try.pinned (OpenSpec.ofChange fnExactColumnsOkSpec)

/-- ITS FALSE NEIGHBOUR: 'it returns false'. Refute it at one input. -/
def fnExactColumnsOkWrong : ChangeSpec := { name := "fnExactColumnsOk", fn := fun _ => fun
  | [d] => { results := [.lit (.bool false)], args := [d] }
  | _ => none }
def FnExactColumnsOkWrongFalsely : Prop := fnExactColumnsOkRow.holds Try.pinned (OpenSpec.ofChange fnExactColumnsOkWrong)

/-- 'laws.FnExactRowOk': WHATEVER THE INPUT: true; the input reads as it did. -/
def fnExactRowOkSpec : ChangeSpec := { name := "fnExactRowOk", fn := fun _ => fun
  | [d] => { results := [.lit (.bool true)], args := [d] }
  | _ => none }
def fnExactRowOkRow : OpenClaim := { program := "ytlkdcijacjdneaa", sum := "2b737940076647e8fd1720315946de929b1c042dacd036d245429e74f4b7d34b", func := "loop.example/tablehouse/laws.FnExactRowOk", spec := "fnExactRowOk", apart := false }
def FnExactRowOkSaid : Prop := fnExactRowOkRow.holds Try.pinned (OpenSpec.ofChange fnExactRowOkSpec)

/-- ITS FALSE NEIGHBOUR: 'it returns false'. Refute it at one input. -/
def fnExactRowOkWrong : ChangeSpec := { name := "fnExactRowOk", fn := fun _ => fun
  | [d] => { results := [.lit (.bool false)], args := [d] }
  | _ => none }
def FnExactRowOkWrongFalsely : Prop := fnExactRowOkRow.holds Try.pinned (OpenSpec.ofChange fnExactRowOkWrong)

/-- 'laws.FnExactRowFits': WHATEVER THE INPUT: true; the input reads as it did. -/
def fnExactRowFitsSpec : ChangeSpec := { name := "fnExactRowFits", fn := fun _ => fun
  | [d1, d2] => { results := [.lit (.bool true)], args := [d1, d2] }
  | _ => none }
def fnExactRowFitsRow : OpenClaim := { program := "ytlkdcijacjdneaa", sum := "2b737940076647e8fd1720315946de929b1c042dacd036d245429e74f4b7d34b", func := "loop.example/tablehouse/laws.FnExactRowFits", spec := "fnExactRowFits", apart := false }
def FnExactRowFitsSaid : Prop := fnExactRowFitsRow.holds Try.pinned (OpenSpec.ofChange fnExactRowFitsSpec)

/-- ITS FALSE NEIGHBOUR: 'it returns false'. Refute it at one input. -/
def fnExactRowFitsWrong : ChangeSpec := { name := "fnExactRowFits", fn := fun _ => fun
  | [d1, d2] => { results := [.lit (.bool false)], args := [d1, d2] }
  | _ => none }
def FnExactRowFitsWrongFalsely : Prop := fnExactRowFitsRow.holds Try.pinned (OpenSpec.ofChange fnExactRowFitsWrong)

/-- 'laws.FnExactRowOrder': WHATEVER THE INPUT: true; the input reads as it did. -/
def fnExactRowOrderSpec : ChangeSpec := { name := "fnExactRowOrder", fn := fun _ => fun
  | [d1, d2] => { results := [.lit (.bool true)], args := [d1, d2] }
  | _ => none }
def fnExactRowOrderRow : OpenClaim := { program := "ytlkdcijacjdneaa", sum := "2b737940076647e8fd1720315946de929b1c042dacd036d245429e74f4b7d34b", func := "loop.example/tablehouse/laws.FnExactRowOrder", spec := "fnExactRowOrder", apart := false }
def FnExactRowOrderSaid : Prop := fnExactRowOrderRow.holds Try.pinned (OpenSpec.ofChange fnExactRowOrderSpec)

/-- ITS FALSE NEIGHBOUR: 'it returns false'. Refute it at one input. -/
def fnExactRowOrderWrong : ChangeSpec := { name := "fnExactRowOrder", fn := fun _ => fun
  | [d1, d2] => { results := [.lit (.bool false)], args := [d1, d2] }
  | _ => none }
def FnExactRowOrderWrongFalsely : Prop := fnExactRowOrderRow.holds Try.pinned (OpenSpec.ofChange fnExactRowOrderWrong)

/-- 'laws.FnExactRowBytes': WHATEVER THE INPUT: true; the input reads as it did. -/
def fnExactRowBytesSpec : ChangeSpec := { name := "fnExactRowBytes", fn := fun _ => fun
  | [d] => { results := [.lit (.bool true)], args := [d] }
  | _ => none }
def fnExactRowBytesRow : OpenClaim := { program := "ytlkdcijacjdneaa", sum := "2b737940076647e8fd1720315946de929b1c042dacd036d245429e74f4b7d34b", func := "loop.example/tablehouse/laws.FnExactRowBytes", spec := "fnExactRowBytes", apart := false }
def FnExactRowBytesSaid : Prop := fnExactRowBytesRow.holds Try.pinned (OpenSpec.ofChange fnExactRowBytesSpec)

/-- ITS FALSE NEIGHBOUR: 'it returns false'. Refute it at one input. -/
def fnExactRowBytesWrong : ChangeSpec := { name := "fnExactRowBytes", fn := fun _ => fun
  | [d] => { results := [.lit (.bool false)], args := [d] }
  | _ => none }
def FnExactRowBytesWrongFalsely : Prop := fnExactRowBytesRow.holds Try.pinned (OpenSpec.ofChange fnExactRowBytesWrong)

/-- 'laws.FnExactRowFrom': WHATEVER THE INPUT: true; the input reads as it did. -/
def fnExactRowFromSpec : ChangeSpec := { name := "fnExactRowFrom", fn := fun _ => fun
  | [d] => { results := [.lit (.bool true)], args := [d] }
  | _ => none }
def fnExactRowFromRow : OpenClaim := { program := "ytlkdcijacjdneaa", sum := "2b737940076647e8fd1720315946de929b1c042dacd036d245429e74f4b7d34b", func := "loop.example/tablehouse/laws.FnExactRowFrom", spec := "fnExactRowFrom", apart := false }
def FnExactRowFromSaid : Prop := fnExactRowFromRow.holds Try.pinned (OpenSpec.ofChange fnExactRowFromSpec)

/-- ITS FALSE NEIGHBOUR: 'it returns false'. Refute it at one input. -/
def fnExactRowFromWrong : ChangeSpec := { name := "fnExactRowFrom", fn := fun _ => fun
  | [d] => { results := [.lit (.bool false)], args := [d] }
  | _ => none }
def FnExactRowFromWrongFalsely : Prop := fnExactRowFromRow.holds Try.pinned (OpenSpec.ofChange fnExactRowFromWrong)

/-- 'laws.FnValueFrom': WHATEVER THE INPUT: true; the input reads as it did. -/
def fnValueFromSpec : ChangeSpec := { name := "fnValueFrom", fn := fun _ => fun
  | [d] => { results := [.lit (.bool true)], args := [d] }
  | _ => none }
def fnValueFromRow : OpenClaim := { program := "ytlkdcijacjdneaa", sum := "2b737940076647e8fd1720315946de929b1c042dacd036d245429e74f4b7d34b", func := "loop.example/tablehouse/laws.FnValueFrom", spec := "fnValueFrom", apart := false }
def FnValueFromSaid : Prop := fnValueFromRow.holds Try.pinned (OpenSpec.ofChange fnValueFromSpec)

/-- ITS FALSE NEIGHBOUR: 'it returns false'. Refute it at one input. -/
def fnValueFromWrong : ChangeSpec := { name := "fnValueFrom", fn := fun _ => fun
  | [d] => { results := [.lit (.bool false)], args := [d] }
  | _ => none }
def FnValueFromWrongFalsely : Prop := fnValueFromRow.holds Try.pinned (OpenSpec.ofChange fnValueFromWrong)

/- THE SECOND FORM. 'bulk': how many values and letters a reading holds, each counted each time it is reached (what is shared counts as often as it is met; a slice's spare places count too). A statement '..UptoSaid' is the law's where the arguments, and the package variables that the reading takes, are together of bulk at most 1048576: NARROWER than '..Said'. Prove '..Said' where nothing that the law and all that it calls make is longer than what came in: it says more and counts as full. Else prove '..UptoSaid'. A law counts once. -/
mutual
def uptoBulk {H : Type} : DataW H → Nat
  | .lit (.string bytes) => bytes.length + 1
  | .lit _ => 1
  | .nil => 1
  | .ptr d => uptoBulk d + 1
  | .slice elems spare => uptoBulkAll elems + uptoBulkAll spare + 1
  | .agg parts => uptoBulkAll parts + 1
  | .iface _ d => uptoBulk d + 1
  | .map entries => uptoBulkEntries entries + 1
  | .held _ => 1
def uptoBulkAll {H : Type} : List (DataW H) → Nat
  | [] => 0
  | d :: r => uptoBulk d + uptoBulkAll r
def uptoBulkEntries {H : Type} : List (Lit × DataW H) → Nat
  | [] => 0
  | x :: r => uptoBulkEntry x + uptoBulkEntries r
def uptoBulkEntry {H : Type} : Lit × DataW H → Nat
  | (.string bytes, d) => bytes.length + uptoBulk d + 1
  | (_, d) => uptoBulk d + 1
 end
def uptoSmall : (H : Type) → List (DataW H) → Bool := fun _ ds => decide (uptoBulkAll ds ≤ 1048576)
def OpenSpec.upto (s : _root_.Go.ChangeSpec) : _root_.Go.OpenSpec := { _root_.Go.OpenSpec.ofChange s with cond := some uptoSmall }

/-- 'laws.FnColumnsOk', WHERE WHAT IT READS IS OF BULK AT MOST 1048576: true; the input reads as it did. -/
def fnColumnsOkUptoRow : OpenClaim := { program := "ytlkdcijacjdneaa", sum := "2b737940076647e8fd1720315946de929b1c042dacd036d245429e74f4b7d34b", func := "loop.example/tablehouse/laws.FnColumnsOk", spec := "fnColumnsOk", apart := false, narrowed := true }
def FnColumnsOkUptoSaid : Prop := fnColumnsOkUptoRow.holds Try.pinned (OpenSpec.upto fnColumnsOkSpec)

/-- 'laws.FnRowOk', WHERE WHAT IT READS IS OF BULK AT MOST 1048576: true; the input reads as it did. -/
def fnRowOkUptoRow : OpenClaim := { program := "ytlkdcijacjdneaa", sum := "2b737940076647e8fd1720315946de929b1c042dacd036d245429e74f4b7d34b", func := "loop.example/tablehouse/laws.FnRowOk", spec := "fnRowOk", apart := false, narrowed := true }
def FnRowOkUptoSaid : Prop := fnRowOkUptoRow.holds Try.pinned (OpenSpec.upto fnRowOkSpec)

/-- 'laws.FnRowFits', WHERE WHAT IT READS IS OF BULK AT MOST 1048576: true; the input reads as it did. -/
def fnRowFitsUptoRow : OpenClaim := { program := "ytlkdcijacjdneaa", sum := "2b737940076647e8fd1720315946de929b1c042dacd036d245429e74f4b7d34b", func := "loop.example/tablehouse/laws.FnRowFits", spec := "fnRowFits", apart := false, narrowed := true }
def FnRowFitsUptoSaid : Prop := fnRowFitsUptoRow.holds Try.pinned (OpenSpec.upto fnRowFitsSpec)

/-- 'laws.FnRowOrder', WHERE WHAT IT READS IS OF BULK AT MOST 1048576: true; the input reads as it did. -/
def fnRowOrderUptoRow : OpenClaim := { program := "ytlkdcijacjdneaa", sum := "2b737940076647e8fd1720315946de929b1c042dacd036d245429e74f4b7d34b", func := "loop.example/tablehouse/laws.FnRowOrder", spec := "fnRowOrder", apart := false, narrowed := true }
def FnRowOrderUptoSaid : Prop := fnRowOrderUptoRow.holds Try.pinned (OpenSpec.upto fnRowOrderSpec)

/-- 'laws.FnRowBytes', WHERE WHAT IT READS IS OF BULK AT MOST 1048576: true; the input reads as it did. -/
def fnRowBytesUptoRow : OpenClaim := { program := "ytlkdcijacjdneaa", sum := "2b737940076647e8fd1720315946de929b1c042dacd036d245429e74f4b7d34b", func := "loop.example/tablehouse/laws.FnRowBytes", spec := "fnRowBytes", apart := false, narrowed := true }
def FnRowBytesUptoSaid : Prop := fnRowBytesUptoRow.holds Try.pinned (OpenSpec.upto fnRowBytesSpec)

/-- 'laws.FnRowFrom', WHERE WHAT IT READS IS OF BULK AT MOST 1048576: true; the input reads as it did. -/
def fnRowFromUptoRow : OpenClaim := { program := "ytlkdcijacjdneaa", sum := "2b737940076647e8fd1720315946de929b1c042dacd036d245429e74f4b7d34b", func := "loop.example/tablehouse/laws.FnRowFrom", spec := "fnRowFrom", apart := false, narrowed := true }
def FnRowFromUptoSaid : Prop := fnRowFromUptoRow.holds Try.pinned (OpenSpec.upto fnRowFromSpec)

/-- 'laws.FnExactColumnsOk', WHERE WHAT IT READS IS OF BULK AT MOST 1048576: true; the input reads as it did. -/
def fnExactColumnsOkUptoRow : OpenClaim := { program := "ytlkdcijacjdneaa", sum := "2b737940076647e8fd1720315946de929b1c042dacd036d245429e74f4b7d34b", func := "loop.example/tablehouse/laws.FnExactColumnsOk", spec := "fnExactColumnsOk", apart := false, narrowed := true }
def FnExactColumnsOkUptoSaid : Prop := fnExactColumnsOkUptoRow.holds Try.pinned (OpenSpec.upto fnExactColumnsOkSpec)

/-- 'laws.FnExactRowOk', WHERE WHAT IT READS IS OF BULK AT MOST 1048576: true; the input reads as it did. -/
def fnExactRowOkUptoRow : OpenClaim := { program := "ytlkdcijacjdneaa", sum := "2b737940076647e8fd1720315946de929b1c042dacd036d245429e74f4b7d34b", func := "loop.example/tablehouse/laws.FnExactRowOk", spec := "fnExactRowOk", apart := false, narrowed := true }
def FnExactRowOkUptoSaid : Prop := fnExactRowOkUptoRow.holds Try.pinned (OpenSpec.upto fnExactRowOkSpec)

/-- 'laws.FnExactRowFits', WHERE WHAT IT READS IS OF BULK AT MOST 1048576: true; the input reads as it did. -/
def fnExactRowFitsUptoRow : OpenClaim := { program := "ytlkdcijacjdneaa", sum := "2b737940076647e8fd1720315946de929b1c042dacd036d245429e74f4b7d34b", func := "loop.example/tablehouse/laws.FnExactRowFits", spec := "fnExactRowFits", apart := false, narrowed := true }
def FnExactRowFitsUptoSaid : Prop := fnExactRowFitsUptoRow.holds Try.pinned (OpenSpec.upto fnExactRowFitsSpec)

/-- 'laws.FnExactRowOrder', WHERE WHAT IT READS IS OF BULK AT MOST 1048576: true; the input reads as it did. -/
def fnExactRowOrderUptoRow : OpenClaim := { program := "ytlkdcijacjdneaa", sum := "2b737940076647e8fd1720315946de929b1c042dacd036d245429e74f4b7d34b", func := "loop.example/tablehouse/laws.FnExactRowOrder", spec := "fnExactRowOrder", apart := false, narrowed := true }
def FnExactRowOrderUptoSaid : Prop := fnExactRowOrderUptoRow.holds Try.pinned (OpenSpec.upto fnExactRowOrderSpec)

/-- 'laws.FnExactRowBytes', WHERE WHAT IT READS IS OF BULK AT MOST 1048576: true; the input reads as it did. -/
def fnExactRowBytesUptoRow : OpenClaim := { program := "ytlkdcijacjdneaa", sum := "2b737940076647e8fd1720315946de929b1c042dacd036d245429e74f4b7d34b", func := "loop.example/tablehouse/laws.FnExactRowBytes", spec := "fnExactRowBytes", apart := false, narrowed := true }
def FnExactRowBytesUptoSaid : Prop := fnExactRowBytesUptoRow.holds Try.pinned (OpenSpec.upto fnExactRowBytesSpec)

/-- 'laws.FnExactRowFrom', WHERE WHAT IT READS IS OF BULK AT MOST 1048576: true; the input reads as it did. -/
def fnExactRowFromUptoRow : OpenClaim := { program := "ytlkdcijacjdneaa", sum := "2b737940076647e8fd1720315946de929b1c042dacd036d245429e74f4b7d34b", func := "loop.example/tablehouse/laws.FnExactRowFrom", spec := "fnExactRowFrom", apart := false, narrowed := true }
def FnExactRowFromUptoSaid : Prop := fnExactRowFromUptoRow.holds Try.pinned (OpenSpec.upto fnExactRowFromSpec)

/-- 'laws.FnValueFrom', WHERE WHAT IT READS IS OF BULK AT MOST 1048576: true; the input reads as it did. -/
def fnValueFromUptoRow : OpenClaim := { program := "ytlkdcijacjdneaa", sum := "2b737940076647e8fd1720315946de929b1c042dacd036d245429e74f4b7d34b", func := "loop.example/tablehouse/laws.FnValueFrom", spec := "fnValueFrom", apart := false, narrowed := true }
def FnValueFromUptoSaid : Prop := fnValueFromUptoRow.holds Try.pinned (OpenSpec.upto fnValueFromSpec)

end Rows
end Go.Proofs.Ytlkdcijacjdneaa
