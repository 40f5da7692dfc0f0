/- Sums, and the values of truths. -/
import Derived.Test.YtacinjbaebimhaaGreatFlPQ
import Derived.Test.YtacinjbaebimhaaGreatEMathAQ
import Derived.Test.YtacinjbaebimhaaGreatTru3Q
import Derived.Test.YtacinjbaebimhaaGreatOwnKQ
namespace Go.Proofs.YtacinjbaebimhaaGreat.Val
open Go.RowKit
set_option linter.unusedVariables false
set_option maxRecDepth 20000
set_option linter.unusedSimpArgs false
theorem vO_of (t : Int) : vO t = aggV (ofT t) := by unfold vO ofT; split <;> rfl
theorem ok_num {v : VT} (h : okV v = true) : -9999 ≤ v.2.1 ∧ v.2.1 ≤ 9999 := by
  obtain ⟨k, n, s⟩ := v
  rcases ok_cases k n s with ho | ⟨-, h1, -⟩ | ⟨-, h1, h2, -⟩ | ⟨-, h1, -⟩ | ⟨-, h1, -⟩ | ⟨-, h1, -⟩
  · have h' : okB k n s = true := h
    rw [h'] at ho; cases ho
  all_goals (simp only; omega)
theorem sumOf (k1 n1 k2 n2 : Int) (s1 s2 : ByteArray) (w : World) (h1 : -9999 ≤ n1) (h2 : n1 ≤ 9999) (h3 : -9999 ≤ n2) (h4 : n2 ≤ 9999) : Calls Tryz.prog 91 #[.agg #[.int .i64 k1, .int .i64 n1, .string s1], .agg #[.int .i64 k2, .int .i64 n2, .string s2]] w fun e w' => e = .returned (aggV (sumV (k1, n1, s1) (k2, n2, s2))) ∧ Below w.heap.size w w' := by
  have hw : IntKind.i64.wrap (n1 + n2) = n1 + n2 := IntWalk.i64_in _ (by omega)
  go_enter Tryz.func91, Tryz.ntmps91
  go_wp2_with (first | (go_at_call 36; ((with_reducible refine (numberOk _ _).mono ?_); rintro e w1 ⟨rfl, rfl⟩)))
  all_goals (refine bodyPost_ret (v := .agg #[.int .i64 _, .int .i64 _, .string ⟨#[]⟩]) (by simp [results, Tryz.results91, go_sem, *]; first | exact ⟨rfl, rfl, rfl⟩ | exact ⟨rfl, rfl⟩) rfl ⟨retV ?_, by (repeat (with_reducible first | exact Below.refl _ _ | exact HBD.out | (refine Below.trans ?_ (Below.mono hb1 (by first | omega | (simp; done) | (simp; omega))); clear hb1) | (refine Below.trans ?_ (Below.mono hb2 (by first | omega | (simp; done) | (simp; omega))); clear hb2) | (refine Below.trans ?_ (Below.mono hb3 (by first | omega | (simp; done) | (simp; omega))); clear hb3) | (refine Below.trans ?_ (Below.mono hb4 (by first | omega | (simp; done) | (simp; omega))); clear hb4) | (refine Below.trans ?_ (Below.mono hb5 (by first | omega | (simp; done) | (simp; omega))); clear hb5) | (refine Below.trans ?_ (Below.mono hb6 (by first | omega | (simp; done) | (simp; omega))); clear hb6) | (refine Below.trans ?_ (Below.mono hb7 (by first | omega | (simp; done) | (simp; omega))); clear hb7) | (refine Below.trans ?_ (Below.mono hb8 (by first | omega | (simp; done) | (simp; omega))); clear hb8) | (refine Below.trans ?_ (Below.mono hb9 (by first | omega | (simp; done) | (simp; omega))); clear hb9) | (refine Below.trans ?_ (Below.mono hb10 (by first | omega | (simp; done) | (simp; omega))); clear hb10) | refine Below.alloc ?_ (by first | omega | (simp; done) | (simp; omega)) _ | refine Below.setCell ?_ (by first | omega | (simp; done) | (simp; omega)) _ | refine Below.drew ?_))⟩)
  all_goals (simp_all [sumV, aggV, nilV, numB])
  all_goals (rw [if_pos (by omega)]; exact ⟨rfl, rfl, rfl⟩)
theorem sumS (k1 n1 k2 n2 : Int) (s1 s2 : ByteArray) (w : World) (h1 : -9999 ≤ n1) (h2 : n1 ≤ 9999) (h3 : -9999 ≤ n2) (h4 : n2 ≤ 9999) : Calls Tryz.prog 98 #[.agg #[.int .i64 k1, .int .i64 n1, .string s1], .agg #[.int .i64 k2, .int .i64 n2, .string s2]] w fun e w' => e = .returned (aggV (sumV (k1, n1, s1) (k2, n2, s2))) ∧ Below w.heap.size w w' := by
  have hw : IntKind.i64.wrap (n1 + n2) = n1 + n2 := IntWalk.i64_in _ (by omega)
  go_enter Tryz.func98, Tryz.ntmps98
  go_wp2_with (first | (go_at_call 34; ((with_reducible refine (l1In _ _ _ _).mono ?_); rintro e w1 ⟨rfl, rfl⟩)))
  all_goals (refine bodyPost_ret (v := .agg #[.int .i64 _, .int .i64 _, .string ⟨#[]⟩]) (by simp [results, Tryz.results98, go_sem, *]; first | exact ⟨rfl, rfl, rfl⟩ | exact ⟨rfl, rfl⟩) rfl ⟨retV ?_, by (repeat (with_reducible first | exact Below.refl _ _ | exact HBD.out | (refine Below.trans ?_ (Below.mono hb1 (by first | omega | (simp; done) | (simp; omega))); clear hb1) | (refine Below.trans ?_ (Below.mono hb2 (by first | omega | (simp; done) | (simp; omega))); clear hb2) | (refine Below.trans ?_ (Below.mono hb3 (by first | omega | (simp; done) | (simp; omega))); clear hb3) | (refine Below.trans ?_ (Below.mono hb4 (by first | omega | (simp; done) | (simp; omega))); clear hb4) | (refine Below.trans ?_ (Below.mono hb5 (by first | omega | (simp; done) | (simp; omega))); clear hb5) | (refine Below.trans ?_ (Below.mono hb6 (by first | omega | (simp; done) | (simp; omega))); clear hb6) | (refine Below.trans ?_ (Below.mono hb7 (by first | omega | (simp; done) | (simp; omega))); clear hb7) | (refine Below.trans ?_ (Below.mono hb8 (by first | omega | (simp; done) | (simp; omega))); clear hb8) | (refine Below.trans ?_ (Below.mono hb9 (by first | omega | (simp; done) | (simp; omega))); clear hb9) | (refine Below.trans ?_ (Below.mono hb10 (by first | omega | (simp; done) | (simp; omega))); clear hb10) | refine Below.alloc ?_ (by first | omega | (simp; done) | (simp; omega)) _ | refine Below.setCell ?_ (by first | omega | (simp; done) | (simp; omega)) _ | refine Below.drew ?_))⟩)
  all_goals (simp_all [sumV, aggV, nilV, numB])
  all_goals (rw [if_pos (by omega)]; exact ⟨rfl, rfl, rfl⟩)
end Go.Proofs.YtacinjbaebimhaaGreat.Val
