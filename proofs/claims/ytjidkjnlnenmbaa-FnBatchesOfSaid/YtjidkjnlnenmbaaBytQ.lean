/- Rows of bytes in memory: comparing, marking, holding. -/
import Derived.Test.YtjidkjnlnenmbaaDrawQ
import Derived.Deep.Draws
namespace Go.Proofs.Ytjidkjnlnenmbaa.Val
open Go.RowKit
/-- The marks that markByteS lays: k, k + 1, .. as bytes. -/
def marks : Nat → Nat → List UInt8
  | 0, _ => []
  | n + 1, k => UInt8.ofNat k :: marks n (k + 1)
def Marked (g n : Nat) (w : World) (e : Ending) (w' : World) : Prop := e = .returned (.int .i64 ((1 : Int) + n)) ∧ Only g w w' ∧ ∀ i, i < n → w'.cell? ⟨g, i, none⟩ = some (.int .u8 ((i : Int) + 1)) ∧ w'.frozen? ⟨g, i, none⟩ = false
end Go.Proofs.Ytjidkjnlnenmbaa.Val
