/- Rows of bytes in memory: comparing, marking, holding. -/
import Derived.Test.YtjidkjnlnenmbaaDrawQ
import Derived.Deep.Draws
namespace Go.Proofs.Ytjidkjnlnenmbaa.Val
open Go.RowKit
/-- The marks that markByteS lays: k, k + 1, .. as bytes. -/
def marks : Nat → Nat → List UInt8
  | 0, _ => []
  | n + 1, k => UInt8.ofNat k :: marks n (k + 1)
end Go.Proofs.Ytjidkjnlnenmbaa.Val
