/- Whether an expression holds (impl.ExprHolds, spec.ExprHolds). -/
import Derived.Test.YtacinjbaebimhaaGreatEVXQ
namespace Go.Proofs.YtacinjbaebimhaaGreat.Val
open Go.RowKit
set_option linter.unusedVariables false
set_option linter.unusedSimpArgs false
set_option maxRecDepth 20000
theorem holds_yes (cs : List CT) (row : List VT) (ps : List PT) : holdsI cs row ps = isYes (xvalI cs row ps) := by
  unfold holdsI
  by_cases h : ¬ kindI cs ps < 0 ∧ fitB cs row = true
  · obtain ⟨-, hok, ht⟩ := xval_of h.1 h.2
    by_cases hk : kindI cs ps = 3
    · simp [hk]
    · rcases ht with h0 | h1
      · simp [hk, isYes, h0]
      · have : ¬ (xvalI cs row ps).1 = 3 := by omega
        simp [hk, isYes, this]
  · have hz : xvalI cs row ps = nilV := xval_nil (by
      by_cases h1 : kindI cs ps < 0
      · exact .inl h1
      · refine .inr ?_
        cases h2 : fitB cs row
        · rfl
        · exact absurd ⟨h1, h2⟩ h)
    rw [hz]
    simp [isYes, nilV]
set_option maxHeartbeats 4000000 in
theorem exprHoldsI (A R E : Option Addr) (gc oc cc gr orr rc ge oe ce : Nat) (cs : List CT) (row : List VT) (ps : List PT) (w : World) (hA : Fl w gc oc A (flatC cs)) (hR : Fl w gr orr R (flatV row)) (hE : Fl w ge oe E (flatP ps)) (hl : cs.length ≤ 2000000) (hrl : row.length ≤ 2000000) (hp : ps.length ≤ 2000000) (hsr : Short row) (hs : ShortP ps) : Calls Tryz.prog 49 #[.slice A cs.length cc, .slice R row.length rc, .slice E ps.length ce] w fun e w' => e = .returned (.bool (holdsI cs row ps)) ∧ Below w.heap.size w w' := by
  have CX := Lib.hid (exprValueI A R E gc oc cc gr orr rc ge oe ce cs row ps w hA hR hE hl hrl hp hsr hs)
  have CV := Lib.hid (fun w => valueOf 1 w)
  rw [vO_of] at CV
  rw [holds_yes]
  clear hA hR hE hs hsr
  obtain ⟨X, hX⟩ : ∃ X, xvalI cs row ps = X := ⟨_, rfl⟩
  rw [hX] at CX ⊢
  clear hX
  obtain ⟨xk, xn, xs⟩ := X
  rw [show ofT 1 = (3, 1, ⟨#[]⟩) from rfl] at CV
  unfold aggV at CX CV
  simp only at CX CV
  go_enter Tryz.func49, Tryz.ntmps49
  go_wp2_with (first
    | (go_at_call 67; (with_reducible refine CX.out.mono ?_); rintro e w1 ⟨rfl, hb1⟩; have HB := Lib.hid hb1; clear hb1)
    | (go_at_call 68; (with_reducible refine (CV.out _).mono ?_); rintro e w2 ⟨rfl, hb2⟩; have HB2 := Lib.hid (HB.out.trans (hb2.mono HB.out.size)); clear hb2))
  all_goals (go_ret; refine ⟨retB ?_, by first | exact HB2.out | exact HB0.out⟩; simp_all [isYes])
end Go.Proofs.YtacinjbaebimhaaGreat.Val
