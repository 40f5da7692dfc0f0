/- TruthOf of spec, ValueOf, and Compare's parts. -/
import Derived.Test.YtcddkleglmbfgaaTru
import Derived.Deep.RegionHeld3
namespace Go.Proofs.Ytcddkleglmbfgaa.Val
open Go.RowKit
/-- The value of a truth. -/
def vO (t : Int) : Value := if t = 0 ∨ t = 1 then .agg #[.int .i64 3, .int .i64 t, .string ⟨#[]⟩] else .agg #[.int .i64 0, .int .i64 0, .string ⟨#[]⟩]
theorem valueOf (t : Int) (w : World) : Calls Try.prog 95 #[.int .i64 t] w fun e w' => e = .returned (vO t) ∧ Below w.heap.size w w' := by
  go_enter Try.func95, Try.ntmps95
  go_wp2
  all_goals (refine bodyPost_ret (v := .agg #[.int .i64 _, .int .i64 _, .string ⟨#[]⟩]) (by simp [results, Try.results95, go_sem, *]; first | exact ⟨rfl, rfl, rfl⟩ | exact ⟨rfl, rfl⟩) rfl ⟨retV ?_, by (repeat (with_reducible first | exact Below.refl _ _ | exact HBD.out | (refine Below.trans ?_ (Below.mono hb1 (by first | omega | (simp; done) | (simp; omega))); clear hb1) | (refine Below.trans ?_ (Below.mono hb2 (by first | omega | (simp; done) | (simp; omega))); clear hb2) | (refine Below.trans ?_ (Below.mono hb3 (by first | omega | (simp; done) | (simp; omega))); clear hb3) | (refine Below.trans ?_ (Below.mono hb4 (by first | omega | (simp; done) | (simp; omega))); clear hb4) | (refine Below.trans ?_ (Below.mono hb5 (by first | omega | (simp; done) | (simp; omega))); clear hb5) | (refine Below.trans ?_ (Below.mono hb6 (by first | omega | (simp; done) | (simp; omega))); clear hb6) | (refine Below.trans ?_ (Below.mono hb7 (by first | omega | (simp; done) | (simp; omega))); clear hb7) | (refine Below.trans ?_ (Below.mono hb8 (by first | omega | (simp; done) | (simp; omega))); clear hb8) | (refine Below.trans ?_ (Below.mono hb9 (by first | omega | (simp; done) | (simp; omega))); clear hb9) | (refine Below.trans ?_ (Below.mono hb10 (by first | omega | (simp; done) | (simp; omega))); clear hb10) | refine Below.alloc ?_ (by first | omega | (simp; done) | (simp; omega)) _ | refine Below.setCell ?_ (by first | omega | (simp; done) | (simp; omega)) _ | refine Below.drew ?_))⟩)
  all_goals (simp_all [vO])
theorem surely (b : Bool) (w : World) : Calls Try.prog 101 #[.bool b] w fun e w' => e = .returned (.int .i64 (if b = true then 1 else 0)) ∧ w = w' := by
  go_enter Try.func101, Try.ntmps101
  go_wp2
  all_goals (go_ret; refine ⟨retI ?_, rfl⟩)
  all_goals simp_all
theorem comparisonOk (n : Int) (w : World) : Calls Try.prog 115 #[.int .i64 n] w fun e w' => e = .returned (.bool (decide (1 ≤ n) && decide (n ≤ 4))) ∧ w = w' := by
  go_enter Try.func115, Try.ntmps115
  go_wp2
  all_goals (go_ret; refine ⟨retB ?_, rfl⟩)
  all_goals (simp_all <;> omega)
theorem comparisonHolds (kind o : Int) (w : World) : Calls Try.prog 119 #[.int .i64 kind, .int .i64 o] w fun e w' => e = .returned (.bool (holdB kind o)) ∧ w = w' := by
  go_enter Try.func119, Try.ntmps119
  go_wp2
  all_goals (go_ret; refine ⟨retB ?_, rfl⟩)
  all_goals (simp_all [holdB])
  all_goals (try rfl)
end Go.Proofs.Ytcddkleglmbfgaa.Val
