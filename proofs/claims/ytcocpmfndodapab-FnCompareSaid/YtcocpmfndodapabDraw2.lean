/- What the draws of chapter 1 leave. -/
import Derived.Test.YtcocpmfndodapabDraw
namespace Go.Proofs.Ytcocpmfndodapab.Val
open Go.RowKit
/-- One value was drawn. -/
def DrewV (w : World) (e : Ending) (w' : World) : Prop :=
  ∃ (k n : Int) (s : ByteArray), e = .returned (.agg #[.int .i64 k, .int .i64 n, .string s]) ∧ -10 ≤ k ∧ k ≤ 10 ∧ -20000 ≤ n ∧ n ≤ 20000 ∧ s.size ≤ 20 ∧ Below w.heap.size w w'
/-- Two values were drawn. -/
def DrewVV (w : World) (e : Ending) (w' : World) : Prop :=
  ∃ (k n k2 n2 : Int) (s s2 : ByteArray), e = .returned (.tuple #[.agg #[.int .i64 k, .int .i64 n, .string s], .agg #[.int .i64 k2, .int .i64 n2, .string s2]]) ∧ -10 ≤ k ∧ k ≤ 10 ∧ -20000 ≤ n ∧ n ≤ 20000 ∧ s.size ≤ 20 ∧ -10 ≤ k2 ∧ k2 ≤ 10 ∧ -20000 ≤ n2 ∧ n2 ≤ 20000 ∧ s2.size ≤ 20 ∧ Below w.heap.size w w'
end Go.Proofs.Ytcocpmfndodapab.Val
