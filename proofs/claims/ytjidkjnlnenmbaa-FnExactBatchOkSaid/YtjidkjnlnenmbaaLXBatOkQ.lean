/- The law FnExactBatchOk returns true whatever it is called with, and leaves its arguments as they were. No condition. -/
import Derived.Test.YtjidkjnlnenmbaaHeadQ
import Derived.Test.YtjidkjnlnenmbaaWXBatOkQ
import Derived.Test.YtjidkjnlnenmbaaRows
import Derived.ProofKit
import Derived.OpenShut
import Derived.ShutString
import Derived.ChangeOld
import Derived.Below
import Derived.Lib.SmallJoins
namespace Go.Proofs.Ytjidkjnlnenmbaa.Val
open Go.ChangeShapes Go.WideShapes Go.ChangeAt Go.RowKit
open Go.ChangeMaps (open_string shut_string)
set_option linter.unusedVariables false
set_option maxRecDepth 100000 in
theorem lifted_FnExactBatchOk (os : Os) (started : os.Started) (H : Type) (enc : TypeId × Value → H) :
    ReturnsInHanded {} Try.checked os 3 .any (Rows.fnExactBatchOkSpec.pre6 enc Try.prog Try.f3 Rows.fnExactBatchOkRow.domain false) (Rows.fnExactBatchOkSpec.post enc Try.prog Try.f3 false true false false) := by
  refine returnsInHanded_of_change (C := Try.checked) own started (by kernel_rfl) Try.func3
    (ChangeSpec.witness6 (enc := enc) (C := Try.checked) false ⟨#[], #[.agg #[.slice none 0 0, .slice none 0 0]], []⟩ 8 (by kernel_rfl) (by kernel_rfl) (by kernel_rfl) (by kernel_rfl)) ?_
  intro W base args ds gs before hval0 hW hcnd _
  have hval : ∀ (j : Nat) t v, Try.f3.params[j]? = some t → args[j]? = some v → Value.okWide Try.prog W .any base t v := hval0
  have hW' := hW
  obtain ⟨p, q, hA0, hV, rfl, hfz, hnd⟩ := hW
  have hA : DataW.TrodAll enc Try.prog W 0 (fun _ => true) true Try.f3.params.toList args.toList ds p := hA0
  rw [Try.params3] at hA hval
  obtain ⟨v0, vs0, d0, ds0, p0, q0, hargs, rfl, rfl, h0, r0⟩ := trodAll_cons hA
  obtain ⟨rfl, rfl, rfl⟩ := trodAll_nil r0
  obtain rfl : args = #[v0] := by cases args; simp_all
  obtain ⟨rfl, rfl⟩ := trodVars_none hV
  have k0 := h0
  have lt0 : ∀ x ∈ p0, x.block < W.heap.size := by obtain ⟨m, hm⟩ := k0; exact DataW.trod_lt m _ _ _ hm
  obtain ⟨u0a, u0b, y0a, y0b, n0, rfl, rfl, rfl, hy0a, hy0b⟩ := Go.Joins.open_agg2 Try.underlying25 (by kernel_rfl) (by kernel_rfl) (hval 0 25 v0 rfl rfl) h0
  obtain ⟨⟨_, _, _, e0a⟩, t0a⟩ := slice_one Try.underlying22 hy0a
  obtain ⟨⟨_, _, _, e0b⟩, t0b⟩ := slice_one Try.underlying23 hy0b
  obtain ⟨a0, c0, g0, o0, z0, rfl, m0, s0, w0⟩ := open_valss e0a t0a
  obtain ⟨ab0, cb0, gb0, ob0, zb0, rfl, mb0, wb0⟩ := open_bools e0b t0b
  clear hA0 hval0
  refine (walk_FnExactBatchOk a0 c0 g0 o0 z0 ab0 cb0 gb0 ob0 zb0 W m0 s0 w0 mb0 wb0).mono fun e W' ⟨he, bel⟩ => ?_
  subst he
  exact ⟨_, rfl, _, _, _, [], _, [], hW', trodAll_mk1 (shut_bool Try.underlying4 _), (trodAll_cons_mk (Below.trod laidOut (by kernel_rfl) (of_decide_eq_true (by kernel_rfl)) k0 bel lt0) trodAll_mk0), rfl, bel.frame _, fun h => by cases h⟩
theorem closed_FnExactBatchOk : joinedFacts Try.prog 3 Try.f3 Rows.fnExactBatchOkSpec Rows.fnExactBatchOkRow = true := by
  unfold joinedFacts; rw [mkCut, noFinal, enters]; kernel_rfl
/-- The row itself. -/
theorem fnExactBatchOk_holds : Rows.FnExactBatchOkSaid :=
  OpenClaim.holds_of_wide 3 Try.f3 rfl rfl rfl rfl rfl rfl rfl ⟨rfl, rfl, rfl, rfl, rfl⟩ rfl rfl rfl rfl rfl (by kernel_rfl) Try.func3 (closed_FnExactBatchOk)
    (of_decide_eq_true (by kernel_rfl)) (by unfold Func.isWrapper; first | (rw [if_pos (by decide +kernel)]; kernel_rfl) | (rw [if_neg (by decide +kernel)]; exact ⟨rfl, rfl⟩))
    (fun os started H enc _ => lifted_FnExactBatchOk os started H enc)
#print axioms fnExactBatchOk_holds
end Go.Proofs.Ytjidkjnlnenmbaa.Val
