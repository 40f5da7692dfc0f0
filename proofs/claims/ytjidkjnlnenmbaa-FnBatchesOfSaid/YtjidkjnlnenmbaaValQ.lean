/- Contracts of the small functions on values (both sides). -/
import Derived.Test.YtjidkjnlnenmbaaVMathQ
import Derived.Test.YtjidkjnlnenmbaaProg
import Derived.WalkKit
import Derived.Below
import Derived.BigQuiet
import Derived.Deep.QuietTactic
import Derived.Outline
import Derived.LoopTactic
import Derived.Lib.Hide
import Derived.WalkLawsBesides
namespace Go.Proofs.Ytjidkjnlnenmbaa.Val
open Go.RowKit
theorem retB {a b : Bool} (h : a = b) : Ending.returned (.bool a) = Ending.returned (.bool b) := by rw [h]
theorem retI {k : IntKind} {a b : Int} (h : a = b) : Ending.returned (.int k a) = Ending.returned (.int k b) := by rw [h]
theorem numberOk (n : Int) (w : World) : Calls Try.prog 119 #[.int .i64 n] w fun e w' => e = .returned (.bool (numB n)) ∧ w = w' := by
  go_enter Try.func119, Try.ntmps119
  go_wp2
  all_goals (go_ret; refine ⟨retB ?_, rfl⟩)
  all_goals (simp [numB]; try omega)
theorem lettersOnly (s : ByteArray) (w : World) (hs : s.size ≤ maxLen) : Calls Try.prog 120 #[.string s] w fun e w' => e = .returned (.bool (letB s.data.toList)) ∧ w = w' := by
  unfold maxLen at hs
  go_enter Try.func120, Try.ntmps120
  go_wp2
  go_loop [3] (fun i => ∃ k : Nat, k ≤ s.size ∧ i = .int .i64 k ∧ letB (s.data.toList.take k) = true) (fun i => s.size - (intOf i).toNat)
  case atStart => exact ⟨0, Nat.zero_le _, rfl, rfl⟩
  case round =>
    obtain ⟨k, hk, rfl, hl⟩ := hrel
    have HL := Lib.hid hl
    clear hl
    by_cases hlt : k < s.size
    · have HS := Lib.hid (letB_snoc s k hlt)
      have HN := Lib.hid (letB_no s k hlt)
      go_wp2
      · go_ret
        refine ⟨retB (HN.out ?_).symm, rfl⟩
        simp [letC]; omega
      · go_round
        case rel => exact ⟨k + 1, by omega, by go_num, by rw [HS.out, HL.out]; simp [letC]; omega⟩
        case measure => simp [intOf]; omega
      · go_ret
        refine ⟨retB (HN.out ?_).symm, rfl⟩
        simp [letC]; omega
    · go_wp2
      go_ret
      refine ⟨retB ?_, rfl⟩
      rw [← HL.out, List.take_of_length_le (by simp; omega)]
theorem valueOk (k n : Int) (s : ByteArray) (w : World) (hs : s.size ≤ maxLen) : Calls Try.prog 90 #[.agg #[.int .i64 k, .int .i64 n, .string s]] w fun e w' => e = .returned (.bool (okB k n s)) ∧ Below w.heap.size w w' := by
  go_enter Try.func90, Try.ntmps90
  go_wp2_with (first | (go_at_call 119; refine (numberOk _ _).mono ?_; rintro e w' ⟨rfl, rfl⟩) | (go_at_call 120; refine (lettersOnly _ _ hs).mono ?_; rintro e w' ⟨rfl, rfl⟩))
  all_goals (go_ret; refine ⟨retB ?_, (Below.refl _ _).alloc (Nat.le_refl _) _⟩)
  all_goals (simp_all [okB]; try omega)
theorem l1In (n a b : Int) (w : World) : Calls Try.prog 68 #[.int .i64 n, .int .i64 a, .int .i64 b] w fun e w' => e = .returned (.bool (decide (a ≤ n) && decide (n ≤ b))) ∧ w = w' := by
  go_enter Try.func68, Try.ntmps68
  go_wp2
  all_goals (go_ret; refine ⟨retB ?_, rfl⟩)
  all_goals (simp; try omega)
theorem l1Text (s : ByteArray) (w : World) (hs : s.size ≤ maxLen) : Calls Try.prog 104 #[.string s] w fun e w' => e = .returned (.bool (letB s.data.toList && decide (s.size ≤ 6))) ∧ w = w' := by
  unfold maxLen at hs
  go_enter Try.func104, Try.ntmps104
  go_wp2
  go_loop [3] (fun i => ∃ k : Nat, k ≤ s.size ∧ i = .int .i64 k ∧ letB (s.data.toList.take k) = true) (fun i => s.size - (intOf i).toNat)
  case atStart => exact ⟨0, Nat.zero_le _, rfl, rfl⟩
  case round =>
    obtain ⟨k, hk, rfl, hl⟩ := hrel
    have HL := Lib.hid hl
    clear hl
    by_cases hlt : k < s.size
    · have HS := Lib.hid (letB_snoc s k hlt)
      have HN := Lib.hid (letB_no s k hlt)
      go_wp2
      · go_ret
        refine ⟨retB ?_, rfl⟩
        rw [HN.out (by simp [letC]; omega)]; rfl
      · go_round
        case rel => exact ⟨k + 1, by omega, by go_num, by rw [HS.out, HL.out]; simp [letC]; omega⟩
        case measure => simp [intOf]; omega
      · go_ret
        refine ⟨retB ?_, rfl⟩
        rw [HN.out (by simp [letC]; omega)]; rfl
    · go_wp2
      all_goals
        go_ret
        refine ⟨retB ?_, rfl⟩
        rw [List.take_of_length_le (by simp; omega)] at HL
        rw [HL.out]; simp; try omega
theorem valueOkS (k n : Int) (s : ByteArray) (w : World) (hs : s.size ≤ maxLen) : Calls Try.prog 59 #[.agg #[.int .i64 k, .int .i64 n, .string s]] w fun e w' => e = .returned (.bool (okB k n s)) ∧ Below w.heap.size w w' := by
  go_enter Try.func59, Try.ntmps59
  go_wp2_with (first | (go_at_call 68; refine (l1In _ _ _ _).mono ?_; rintro e w' ⟨rfl, rfl⟩) | (go_at_call 104; refine (l1Text _ _ hs).mono ?_; rintro e w' ⟨rfl, rfl⟩))
  all_goals (go_ret; refine ⟨retB ?_, (Below.refl _ _).alloc (Nat.le_refl _) _⟩)
  all_goals (simp_all [okB, numB, Bool.and_comm]; try omega)
theorem bcell {W w1 : World} (hb : Below W.heap.size W w1) : (∀ b o, b < W.heap.size → w1.cell? ⟨b, o, none⟩ = W.cell? ⟨b, o, none⟩) ∧ (∀ b o, b < W.heap.size → w1.frozen? ⟨b, o, none⟩ = W.frozen? ⟨b, o, none⟩) :=
  ⟨fun b o h => hb.cell (p := ⟨b, o, none⟩) h, fun b o h => hb.frozen (p := ⟨b, o, none⟩) h⟩
end Go.Proofs.Ytjidkjnlnenmbaa.Val
