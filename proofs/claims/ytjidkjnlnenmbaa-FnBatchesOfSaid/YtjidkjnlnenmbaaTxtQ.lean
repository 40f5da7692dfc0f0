/- Texts of values: contracts of l1Plain, l1Signed, numberText, truthText, ValueText. -/
import Derived.Test.YtjidkjnlnenmbaaValQ
import Derived.Laws.IdiomStrings
import Derived.Deep.RegionWith
import Derived.IntWalk
namespace Go.Proofs.Ytjidkjnlnenmbaa.Val
open Go.RowKit
theorem conv1 (w : World) (x : Int) : (convert 62 9 (.slice (some ⟨w.heap.size, 0, none⟩) 1 1)).run Try.prog (w.alloc (.cells #[.int .u8 x] 5)) = .ok (.string ⟨#[UInt8.ofNat x.toNat]⟩) (w.alloc (.cells #[.int .u8 x] 5)) := by
  rw [run_convert_bytes_string _ _ _ 5 _ _ _ Try.underlying62 Try.underlying5 Try.underlying9]
  have hl := run_loadCells_list (P := Try.prog) (w.alloc (.cells #[.int .u8 x] 5)) ⟨w.heap.size, 0, none⟩ [.int .u8 x] (fun j v hj => by
    match j with
    | 0 => simp at hj; subst hj; simp [Addr.add, World.cell?_alloc_mark]
    | k + 1 => simp at hj)
  rw [run_bytesToString _ _ _ _ [x] (by simpa using hl)]
  rfl
theorem u8_in (x : Int) (h0 : 0 ≤ x) (h1 : x < 256) : IntKind.u8.wrap x = x := by
  rw [IntKind.wrap_u8]; omega
end Go.Proofs.Ytjidkjnlnenmbaa.Val
