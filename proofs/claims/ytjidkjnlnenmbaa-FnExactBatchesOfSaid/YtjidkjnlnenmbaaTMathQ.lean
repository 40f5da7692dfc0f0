/- Truths: the plain functions that both sides reckon. -/
import Derived.Test.YtjidkjnlnenmbaaTxtQ
namespace Go.Proofs.Ytjidkjnlnenmbaa.Val
open Go.RowKit
def toI (k n : Int) (s : ByteArray) : Int := if okB k n s = true then (if k = 0 then 2 else if k = 3 then n else -1) else -1
end Go.Proofs.Ytjidkjnlnenmbaa.Val
