/-
  No cell of these rows narrows 'for every input' (looked for: loops, veiled, ifaces, maps, wideKeys, modest, calm, conditions, laid).
  DERIVED. THE GIVEN ROWS OF THIS SEAT. 12 by the template 'for every input the law returns true; each argument reads behind the call as it read before'; 0 by the template 'total and deterministic' (their statements: YtcddkleglmbfgaaTotals.lean).
  GIVEN WITH THE SEED: the statements are not yours to turn. If you find one false, say at which input.
  Laid BY PROGRAM, IN A SANDBOX (cutbox-rows.mjs): the forced cells as the released guide's own fill.sh prints them over the translation 04ccc605a6282b16… (all of the seat's roots in one cut). By AI agents, Wed Nov 11 2026. No macro, syntax, notation, axiom, sorry.
-/
import Derived.Test.YtcddkleglmbfgaaChecked
import GoSem.Claim
import GoSem.ClaimJoined
import GoSem.ClaimMapViews
import Derived.JoinedTies
import Derived.KernelRfl
namespace Go.Proofs.Ytcddkleglmbfgaa
/- THE CELL 'sum', in the pinned program and in every row, IS THE sha256 OF THE DUMP (.gsa) THAT YtcddkleglmbfgaaProg.lean LOADS. Nothing in Lean hashes anything: it is a label: what it is worth is what the hold of that sum in a sandbox is worth. -/
noncomputable def Try.pinned : Pinned := { name := "ytcddkleglmbfgaa", sum := "04ccc605a6282b167704094473f18e3a873a92d953f41bcefb2ec8bdee072815", checked := Try.checked }
namespace Rows
def none {H : Type} : Left H := { results := [], args := [] }

/-- 'laws.FnExprColumns': WHATEVER THE INPUT: true; the input reads as it did. -/
def fnExprColumnsSpec : ChangeSpec := { name := "fnExprColumns", fn := fun _ => fun
  | [d] => { results := [.lit (.bool true)], args := [d] }
  | _ => none }
def fnExprColumnsRow : OpenClaim := { program := "ytcddkleglmbfgaa", sum := "04ccc605a6282b167704094473f18e3a873a92d953f41bcefb2ec8bdee072815", func := "loop.example/tablehouse/laws.FnExprColumns", spec := "fnExprColumns", recurses := true, apart := false }
def FnExprColumnsSaid : Prop := fnExprColumnsRow.holds Try.pinned (OpenSpec.ofChange fnExprColumnsSpec)

/-- ITS FALSE NEIGHBOUR: 'it returns false'. Refute it at one input. -/
def fnExprColumnsWrong : ChangeSpec := { name := "fnExprColumns", fn := fun _ => fun
  | [d] => { results := [.lit (.bool false)], args := [d] }
  | _ => none }
def FnExprColumnsWrongFalsely : Prop := fnExprColumnsRow.holds Try.pinned (OpenSpec.ofChange fnExprColumnsWrong)

/-- 'laws.FnRowsOk': WHATEVER THE INPUT: true; the input reads as it did. -/
def fnRowsOkSpec : ChangeSpec := { name := "fnRowsOk", fn := fun _ => fun
  | [d] => { results := [.lit (.bool true)], args := [d] }
  | _ => none }
def fnRowsOkRow : OpenClaim := { program := "ytcddkleglmbfgaa", sum := "04ccc605a6282b167704094473f18e3a873a92d953f41bcefb2ec8bdee072815", func := "loop.example/tablehouse/laws.FnRowsOk", spec := "fnRowsOk", apart := false }
def FnRowsOkSaid : Prop := fnRowsOkRow.holds Try.pinned (OpenSpec.ofChange fnRowsOkSpec)

/-- ITS FALSE NEIGHBOUR: 'it returns false'. Refute it at one input. -/
def fnRowsOkWrong : ChangeSpec := { name := "fnRowsOk", fn := fun _ => fun
  | [d] => { results := [.lit (.bool false)], args := [d] }
  | _ => none }
def FnRowsOkWrongFalsely : Prop := fnRowsOkRow.holds Try.pinned (OpenSpec.ofChange fnRowsOkWrong)

/-- 'laws.FnRowMany': WHATEVER THE INPUT: true; the input reads as it did. -/
def fnRowManySpec : ChangeSpec := { name := "fnRowMany", fn := fun _ => fun
  | [d] => { results := [.lit (.bool true)], args := [d] }
  | _ => none }
def fnRowManyRow : OpenClaim := { program := "ytcddkleglmbfgaa", sum := "04ccc605a6282b167704094473f18e3a873a92d953f41bcefb2ec8bdee072815", func := "loop.example/tablehouse/laws.FnRowMany", spec := "fnRowMany", apart := false }
def FnRowManySaid : Prop := fnRowManyRow.holds Try.pinned (OpenSpec.ofChange fnRowManySpec)

/-- ITS FALSE NEIGHBOUR: 'it returns false'. Refute it at one input. -/
def fnRowManyWrong : ChangeSpec := { name := "fnRowMany", fn := fun _ => fun
  | [d] => { results := [.lit (.bool false)], args := [d] }
  | _ => none }
def FnRowManyWrongFalsely : Prop := fnRowManyRow.holds Try.pinned (OpenSpec.ofChange fnRowManyWrong)

/-- 'laws.FnRowsSorted': WHATEVER THE INPUT: true; the input reads as it did. -/
def fnRowsSortedSpec : ChangeSpec := { name := "fnRowsSorted", fn := fun _ => fun
  | [d] => { results := [.lit (.bool true)], args := [d] }
  | _ => none }
def fnRowsSortedRow : OpenClaim := { program := "ytcddkleglmbfgaa", sum := "04ccc605a6282b167704094473f18e3a873a92d953f41bcefb2ec8bdee072815", func := "loop.example/tablehouse/laws.FnRowsSorted", spec := "fnRowsSorted", apart := false }
def FnRowsSortedSaid : Prop := fnRowsSortedRow.holds Try.pinned (OpenSpec.ofChange fnRowsSortedSpec)

/-- ITS FALSE NEIGHBOUR: 'it returns false'. Refute it at one input. -/
def fnRowsSortedWrong : ChangeSpec := { name := "fnRowsSorted", fn := fun _ => fun
  | [d] => { results := [.lit (.bool false)], args := [d] }
  | _ => none }
def FnRowsSortedWrongFalsely : Prop := fnRowsSortedRow.holds Try.pinned (OpenSpec.ofChange fnRowsSortedWrong)

/-- 'laws.FnSameBag': WHATEVER THE INPUT: true; the input reads as it did. -/
def fnSameBagSpec : ChangeSpec := { name := "fnSameBag", fn := fun _ => fun
  | [d] => { results := [.lit (.bool true)], args := [d] }
  | _ => none }
def fnSameBagRow : OpenClaim := { program := "ytcddkleglmbfgaa", sum := "04ccc605a6282b167704094473f18e3a873a92d953f41bcefb2ec8bdee072815", func := "loop.example/tablehouse/laws.FnSameBag", spec := "fnSameBag", apart := false }
def FnSameBagSaid : Prop := fnSameBagRow.holds Try.pinned (OpenSpec.ofChange fnSameBagSpec)

/-- ITS FALSE NEIGHBOUR: 'it returns false'. Refute it at one input. -/
def fnSameBagWrong : ChangeSpec := { name := "fnSameBag", fn := fun _ => fun
  | [d] => { results := [.lit (.bool false)], args := [d] }
  | _ => none }
def FnSameBagWrongFalsely : Prop := fnSameBagRow.holds Try.pinned (OpenSpec.ofChange fnSameBagWrong)

/-- 'laws.FnRowsOnce': WHATEVER THE INPUT: true; the input reads as it did. -/
def fnRowsOnceSpec : ChangeSpec := { name := "fnRowsOnce", fn := fun _ => fun
  | [d] => { results := [.lit (.bool true)], args := [d] }
  | _ => none }
def fnRowsOnceRow : OpenClaim := { program := "ytcddkleglmbfgaa", sum := "04ccc605a6282b167704094473f18e3a873a92d953f41bcefb2ec8bdee072815", func := "loop.example/tablehouse/laws.FnRowsOnce", spec := "fnRowsOnce", apart := false }
def FnRowsOnceSaid : Prop := fnRowsOnceRow.holds Try.pinned (OpenSpec.ofChange fnRowsOnceSpec)

/-- ITS FALSE NEIGHBOUR: 'it returns false'. Refute it at one input. -/
def fnRowsOnceWrong : ChangeSpec := { name := "fnRowsOnce", fn := fun _ => fun
  | [d] => { results := [.lit (.bool false)], args := [d] }
  | _ => none }
def FnRowsOnceWrongFalsely : Prop := fnRowsOnceRow.holds Try.pinned (OpenSpec.ofChange fnRowsOnceWrong)

/-- 'laws.FnRowsLess': WHATEVER THE INPUT: true; the input reads as it did. -/
def fnRowsLessSpec : ChangeSpec := { name := "fnRowsLess", fn := fun _ => fun
  | [d] => { results := [.lit (.bool true)], args := [d] }
  | _ => none }
def fnRowsLessRow : OpenClaim := { program := "ytcddkleglmbfgaa", sum := "04ccc605a6282b167704094473f18e3a873a92d953f41bcefb2ec8bdee072815", func := "loop.example/tablehouse/laws.FnRowsLess", spec := "fnRowsLess", apart := false }
def FnRowsLessSaid : Prop := fnRowsLessRow.holds Try.pinned (OpenSpec.ofChange fnRowsLessSpec)

/-- ITS FALSE NEIGHBOUR: 'it returns false'. Refute it at one input. -/
def fnRowsLessWrong : ChangeSpec := { name := "fnRowsLess", fn := fun _ => fun
  | [d] => { results := [.lit (.bool false)], args := [d] }
  | _ => none }
def FnRowsLessWrongFalsely : Prop := fnRowsLessRow.holds Try.pinned (OpenSpec.ofChange fnRowsLessWrong)

/-- 'laws.FnExactRowsOk': WHATEVER THE INPUT: true; the input reads as it did. -/
def fnExactRowsOkSpec : ChangeSpec := { name := "fnExactRowsOk", fn := fun _ => fun
  | [d1, d2] => { results := [.lit (.bool true)], args := [d1, d2] }
  | _ => none }
def fnExactRowsOkRow : OpenClaim := { program := "ytcddkleglmbfgaa", sum := "04ccc605a6282b167704094473f18e3a873a92d953f41bcefb2ec8bdee072815", func := "loop.example/tablehouse/laws.FnExactRowsOk", spec := "fnExactRowsOk", apart := false }
def FnExactRowsOkSaid : Prop := fnExactRowsOkRow.holds Try.pinned (OpenSpec.ofChange fnExactRowsOkSpec)

/-- ITS FALSE NEIGHBOUR: 'it returns false'. Refute it at one input. -/
def fnExactRowsOkWrong : ChangeSpec := { name := "fnExactRowsOk", fn := fun _ => fun
  | [d1, d2] => { results := [.lit (.bool false)], args := [d1, d2] }
  | _ => none }
def FnExactRowsOkWrongFalsely : Prop := fnExactRowsOkRow.holds Try.pinned (OpenSpec.ofChange fnExactRowsOkWrong)

/-- 'laws.FnExactRowMany': WHATEVER THE INPUT: true; the input reads as it did. -/
def fnExactRowManySpec : ChangeSpec := { name := "fnExactRowMany", fn := fun _ => fun
  | [d1, d2] => { results := [.lit (.bool true)], args := [d1, d2] }
  | _ => none }
def fnExactRowManyRow : OpenClaim := { program := "ytcddkleglmbfgaa", sum := "04ccc605a6282b167704094473f18e3a873a92d953f41bcefb2ec8bdee072815", func := "loop.example/tablehouse/laws.FnExactRowMany", spec := "fnExactRowMany", apart := false }
def FnExactRowManySaid : Prop := fnExactRowManyRow.holds Try.pinned (OpenSpec.ofChange fnExactRowManySpec)

/-- ITS FALSE NEIGHBOUR: 'it returns false'. Refute it at one input. -/
def fnExactRowManyWrong : ChangeSpec := { name := "fnExactRowMany", fn := fun _ => fun
  | [d1, d2] => { results := [.lit (.bool false)], args := [d1, d2] }
  | _ => none }
def FnExactRowManyWrongFalsely : Prop := fnExactRowManyRow.holds Try.pinned (OpenSpec.ofChange fnExactRowManyWrong)

/-- 'laws.FnExactRowsSorted': WHATEVER THE INPUT: true; the input reads as it did. -/
def fnExactRowsSortedSpec : ChangeSpec := { name := "fnExactRowsSorted", fn := fun _ => fun
  | [d] => { results := [.lit (.bool true)], args := [d] }
  | _ => none }
def fnExactRowsSortedRow : OpenClaim := { program := "ytcddkleglmbfgaa", sum := "04ccc605a6282b167704094473f18e3a873a92d953f41bcefb2ec8bdee072815", func := "loop.example/tablehouse/laws.FnExactRowsSorted", spec := "fnExactRowsSorted", apart := false }
def FnExactRowsSortedSaid : Prop := fnExactRowsSortedRow.holds Try.pinned (OpenSpec.ofChange fnExactRowsSortedSpec)

/-- ITS FALSE NEIGHBOUR: 'it returns false'. Refute it at one input. -/
def fnExactRowsSortedWrong : ChangeSpec := { name := "fnExactRowsSorted", fn := fun _ => fun
  | [d] => { results := [.lit (.bool false)], args := [d] }
  | _ => none }
def FnExactRowsSortedWrongFalsely : Prop := fnExactRowsSortedRow.holds Try.pinned (OpenSpec.ofChange fnExactRowsSortedWrong)

/-- 'laws.FnExactSameBag': WHATEVER THE INPUT: true; the input reads as it did. -/
def fnExactSameBagSpec : ChangeSpec := { name := "fnExactSameBag", fn := fun _ => fun
  | [d1, d2] => { results := [.lit (.bool true)], args := [d1, d2] }
  | _ => none }
def fnExactSameBagRow : OpenClaim := { program := "ytcddkleglmbfgaa", sum := "04ccc605a6282b167704094473f18e3a873a92d953f41bcefb2ec8bdee072815", func := "loop.example/tablehouse/laws.FnExactSameBag", spec := "fnExactSameBag", apart := false }
def FnExactSameBagSaid : Prop := fnExactSameBagRow.holds Try.pinned (OpenSpec.ofChange fnExactSameBagSpec)

/-- ITS FALSE NEIGHBOUR: 'it returns false'. Refute it at one input. -/
def fnExactSameBagWrong : ChangeSpec := { name := "fnExactSameBag", fn := fun _ => fun
  | [d1, d2] => { results := [.lit (.bool false)], args := [d1, d2] }
  | _ => none }
def FnExactSameBagWrongFalsely : Prop := fnExactSameBagRow.holds Try.pinned (OpenSpec.ofChange fnExactSameBagWrong)

/-- 'laws.FnExactRowsOnce': WHATEVER THE INPUT: true; the input reads as it did. -/
def fnExactRowsOnceSpec : ChangeSpec := { name := "fnExactRowsOnce", fn := fun _ => fun
  | [d] => { results := [.lit (.bool true)], args := [d] }
  | _ => none }
def fnExactRowsOnceRow : OpenClaim := { program := "ytcddkleglmbfgaa", sum := "04ccc605a6282b167704094473f18e3a873a92d953f41bcefb2ec8bdee072815", func := "loop.example/tablehouse/laws.FnExactRowsOnce", spec := "fnExactRowsOnce", apart := false }
def FnExactRowsOnceSaid : Prop := fnExactRowsOnceRow.holds Try.pinned (OpenSpec.ofChange fnExactRowsOnceSpec)

/-- ITS FALSE NEIGHBOUR: 'it returns false'. Refute it at one input. -/
def fnExactRowsOnceWrong : ChangeSpec := { name := "fnExactRowsOnce", fn := fun _ => fun
  | [d] => { results := [.lit (.bool false)], args := [d] }
  | _ => none }
def FnExactRowsOnceWrongFalsely : Prop := fnExactRowsOnceRow.holds Try.pinned (OpenSpec.ofChange fnExactRowsOnceWrong)

/- THE SECOND FORM. 'bulk': how many values and letters a reading holds, each counted each time it is reached (what is shared counts as often as it is met; a slice's spare places count too). A statement '..UptoSaid' is the law's where the arguments, and the package variables that the reading takes, are together of bulk at most 1048576: NARROWER than '..Said'. Prove '..Said' where nothing that the law and all that it calls make is longer than what came in: it says more and counts as full. Else prove '..UptoSaid'. A law counts once. -/
mutual
def uptoBulk {H : Type} : DataW H → Nat
  | .lit (.string bytes) => bytes.length + 1
  | .lit _ => 1
  | .nil => 1
  | .ptr d => uptoBulk d + 1
  | .slice elems spare => uptoBulkAll elems + uptoBulkAll spare + 1
  | .agg parts => uptoBulkAll parts + 1
  | .iface _ d => uptoBulk d + 1
  | .map entries => uptoBulkEntries entries + 1
  | .held _ => 1
def uptoBulkAll {H : Type} : List (DataW H) → Nat
  | [] => 0
  | d :: r => uptoBulk d + uptoBulkAll r
def uptoBulkEntries {H : Type} : List (Lit × DataW H) → Nat
  | [] => 0
  | x :: r => uptoBulkEntry x + uptoBulkEntries r
def uptoBulkEntry {H : Type} : Lit × DataW H → Nat
  | (.string bytes, d) => bytes.length + uptoBulk d + 1
  | (_, d) => uptoBulk d + 1
 end
def uptoSmall : (H : Type) → List (DataW H) → Bool := fun _ ds => decide (uptoBulkAll ds ≤ 1048576)
def OpenSpec.upto (s : _root_.Go.ChangeSpec) : _root_.Go.OpenSpec := { _root_.Go.OpenSpec.ofChange s with cond := some uptoSmall }

/-- 'laws.FnExprColumns', WHERE WHAT IT READS IS OF BULK AT MOST 1048576: true; the input reads as it did. -/
def fnExprColumnsUptoRow : OpenClaim := { program := "ytcddkleglmbfgaa", sum := "04ccc605a6282b167704094473f18e3a873a92d953f41bcefb2ec8bdee072815", func := "loop.example/tablehouse/laws.FnExprColumns", spec := "fnExprColumns", recurses := true, apart := false, narrowed := true }
def FnExprColumnsUptoSaid : Prop := fnExprColumnsUptoRow.holds Try.pinned (OpenSpec.upto fnExprColumnsSpec)

/-- 'laws.FnRowsOk', WHERE WHAT IT READS IS OF BULK AT MOST 1048576: true; the input reads as it did. -/
def fnRowsOkUptoRow : OpenClaim := { program := "ytcddkleglmbfgaa", sum := "04ccc605a6282b167704094473f18e3a873a92d953f41bcefb2ec8bdee072815", func := "loop.example/tablehouse/laws.FnRowsOk", spec := "fnRowsOk", apart := false, narrowed := true }
def FnRowsOkUptoSaid : Prop := fnRowsOkUptoRow.holds Try.pinned (OpenSpec.upto fnRowsOkSpec)

/-- 'laws.FnRowMany', WHERE WHAT IT READS IS OF BULK AT MOST 1048576: true; the input reads as it did. -/
def fnRowManyUptoRow : OpenClaim := { program := "ytcddkleglmbfgaa", sum := "04ccc605a6282b167704094473f18e3a873a92d953f41bcefb2ec8bdee072815", func := "loop.example/tablehouse/laws.FnRowMany", spec := "fnRowMany", apart := false, narrowed := true }
def FnRowManyUptoSaid : Prop := fnRowManyUptoRow.holds Try.pinned (OpenSpec.upto fnRowManySpec)

/-- 'laws.FnRowsSorted', WHERE WHAT IT READS IS OF BULK AT MOST 1048576: true; the input reads as it did. -/
def fnRowsSortedUptoRow : OpenClaim := { program := "ytcddkleglmbfgaa", sum := "04ccc605a6282b167704094473f18e3a873a92d953f41bcefb2ec8bdee072815", func := "loop.example/tablehouse/laws.FnRowsSorted", spec := "fnRowsSorted", apart := false, narrowed := true }
def FnRowsSortedUptoSaid : Prop := fnRowsSortedUptoRow.holds Try.pinned (OpenSpec.upto fnRowsSortedSpec)

/-- 'laws.FnSameBag', WHERE WHAT IT READS IS OF BULK AT MOST 1048576: true; the input reads as it did. -/
def fnSameBagUptoRow : OpenClaim := { program := "ytcddkleglmbfgaa", sum := "04ccc605a6282b167704094473f18e3a873a92d953f41bcefb2ec8bdee072815", func := "loop.example/tablehouse/laws.FnSameBag", spec := "fnSameBag", apart := false, narrowed := true }
def FnSameBagUptoSaid : Prop := fnSameBagUptoRow.holds Try.pinned (OpenSpec.upto fnSameBagSpec)

/-- 'laws.FnRowsOnce', WHERE WHAT IT READS IS OF BULK AT MOST 1048576: true; the input reads as it did. -/
def fnRowsOnceUptoRow : OpenClaim := { program := "ytcddkleglmbfgaa", sum := "04ccc605a6282b167704094473f18e3a873a92d953f41bcefb2ec8bdee072815", func := "loop.example/tablehouse/laws.FnRowsOnce", spec := "fnRowsOnce", apart := false, narrowed := true }
def FnRowsOnceUptoSaid : Prop := fnRowsOnceUptoRow.holds Try.pinned (OpenSpec.upto fnRowsOnceSpec)

/-- 'laws.FnRowsLess', WHERE WHAT IT READS IS OF BULK AT MOST 1048576: true; the input reads as it did. -/
def fnRowsLessUptoRow : OpenClaim := { program := "ytcddkleglmbfgaa", sum := "04ccc605a6282b167704094473f18e3a873a92d953f41bcefb2ec8bdee072815", func := "loop.example/tablehouse/laws.FnRowsLess", spec := "fnRowsLess", apart := false, narrowed := true }
def FnRowsLessUptoSaid : Prop := fnRowsLessUptoRow.holds Try.pinned (OpenSpec.upto fnRowsLessSpec)

/-- 'laws.FnExactRowsOk', WHERE WHAT IT READS IS OF BULK AT MOST 1048576: true; the input reads as it did. -/
def fnExactRowsOkUptoRow : OpenClaim := { program := "ytcddkleglmbfgaa", sum := "04ccc605a6282b167704094473f18e3a873a92d953f41bcefb2ec8bdee072815", func := "loop.example/tablehouse/laws.FnExactRowsOk", spec := "fnExactRowsOk", apart := false, narrowed := true }
def FnExactRowsOkUptoSaid : Prop := fnExactRowsOkUptoRow.holds Try.pinned (OpenSpec.upto fnExactRowsOkSpec)

/-- 'laws.FnExactRowMany', WHERE WHAT IT READS IS OF BULK AT MOST 1048576: true; the input reads as it did. -/
def fnExactRowManyUptoRow : OpenClaim := { program := "ytcddkleglmbfgaa", sum := "04ccc605a6282b167704094473f18e3a873a92d953f41bcefb2ec8bdee072815", func := "loop.example/tablehouse/laws.FnExactRowMany", spec := "fnExactRowMany", apart := false, narrowed := true }
def FnExactRowManyUptoSaid : Prop := fnExactRowManyUptoRow.holds Try.pinned (OpenSpec.upto fnExactRowManySpec)

/-- 'laws.FnExactRowsSorted', WHERE WHAT IT READS IS OF BULK AT MOST 1048576: true; the input reads as it did. -/
def fnExactRowsSortedUptoRow : OpenClaim := { program := "ytcddkleglmbfgaa", sum := "04ccc605a6282b167704094473f18e3a873a92d953f41bcefb2ec8bdee072815", func := "loop.example/tablehouse/laws.FnExactRowsSorted", spec := "fnExactRowsSorted", apart := false, narrowed := true }
def FnExactRowsSortedUptoSaid : Prop := fnExactRowsSortedUptoRow.holds Try.pinned (OpenSpec.upto fnExactRowsSortedSpec)

/-- 'laws.FnExactSameBag', WHERE WHAT IT READS IS OF BULK AT MOST 1048576: true; the input reads as it did. -/
def fnExactSameBagUptoRow : OpenClaim := { program := "ytcddkleglmbfgaa", sum := "04ccc605a6282b167704094473f18e3a873a92d953f41bcefb2ec8bdee072815", func := "loop.example/tablehouse/laws.FnExactSameBag", spec := "fnExactSameBag", apart := false, narrowed := true }
def FnExactSameBagUptoSaid : Prop := fnExactSameBagUptoRow.holds Try.pinned (OpenSpec.upto fnExactSameBagSpec)

/-- 'laws.FnExactRowsOnce', WHERE WHAT IT READS IS OF BULK AT MOST 1048576: true; the input reads as it did. -/
def fnExactRowsOnceUptoRow : OpenClaim := { program := "ytcddkleglmbfgaa", sum := "04ccc605a6282b167704094473f18e3a873a92d953f41bcefb2ec8bdee072815", func := "loop.example/tablehouse/laws.FnExactRowsOnce", spec := "fnExactRowsOnce", apart := false, narrowed := true }
def FnExactRowsOnceUptoSaid : Prop := fnExactRowsOnceUptoRow.holds Try.pinned (OpenSpec.upto fnExactRowsOnceSpec)

end Rows
end Go.Proofs.Ytcddkleglmbfgaa
