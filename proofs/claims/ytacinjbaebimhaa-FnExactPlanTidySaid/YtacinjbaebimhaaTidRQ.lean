/- A plan without the steps on which its last one does not hang: the program's PlanTidy. -/
import Derived.Test.YtacinjbaebimhaaTidQQ
namespace Go.Proofs.Ytacinjbaebimhaa.Val
open Go.RowKit
set_option linter.unusedSimpArgs false
set_option linter.unusedVariables false
set_option maxRecDepth 8000
/-- A plan of one's own, or none. -/
def RetStpN (ps : List SP) (w : World) (e : Ending) (w' : World) : Prop := ((∃ (g c : Nat) (U : List UP), e = .returned (.slice (some ⟨g, 0, none⟩) ps.length c) ∧ Stp w' w.heap.size g c U ps) ∨ (e = .returned (.slice none 0 0) ∧ ps = [])) ∧ Below w.heap.size w w'
theorem planTidyI (AT AP : Option Addr) (gT oT cT gP oP cP : Nat) (tb : List TB) (p : List SP) (w : World) (hT : Tbs w gT oT AT tb) (hok : OkT tb) (hP : Sps w gP oP AP p) (hps : OkS p) :
    Calls Try.prog 38 #[.slice AT tb.length cT, .slice AP p.length cP] w (RetStpN (tidyI tb p) w) := by
  have PO := Lib.hid (planOkI AT AP gT oT cT gP oP cP tb p w hT hok hP hps)
  have PT := Lib.hid (fun W (hb : Below w.heap.size w W) (h : planB tb p = true) => planTidied AP gP oP cP tb p W (hP.below hb) hps h)
  have T1 : Hid (planB tb p = true → tidyI tb p = tidyL tb p) := Lib.hid fun h => by rw [tidyI, if_pos h]
  have T0 : Hid (planB tb p = false → tidyI tb p = []) := Lib.hid fun h => by rw [tidyI, if_neg (by rw [h]; simp)]
  clear hT hok hP hps
  obtain ⟨ok, hok⟩ : ∃ b, planB tb p = b := ⟨_, rfl⟩
  rw [hok] at PO PT T1 T0
  clear hok
  cases ok with
  | false =>
    have h0 := T0.out rfl
    go_enter Try.func38, Try.ntmps38
    go_wp2_with (go_at_call 12; (with_reducible refine PO.out.mono ?_); rintro e w1 ⟨rfl, hb⟩; have HB1 := Lib.hid hb; clear hb)
    go_ret
    exact ⟨.inr ⟨rfl, h0⟩, HB1.out⟩
  | true =>
    have h1 := Lib.hid (T1.out rfl)
    have PT1 := Lib.hid (fun W hb => PT.out W hb rfl)
    clear PT T1 T0
    go_enter Try.func38, Try.ntmps38
    go_wp2_with (first
      | (go_at_call 12; (with_reducible refine PO.out.mono ?_); rintro e w1 ⟨rfl, hb⟩; have HB1 := Lib.hid hb; clear hb)
      | (go_at_call 68; (with_reducible refine (PT1.out _ HB1.out).mono ?_); rintro e w2 ⟨g, c, U, rfl, hst, hb⟩; have ST := Lib.hid hst; have HB2 := Lib.hid hb; clear hst hb))
    go_ret
    rw [h1.out]
    exact ⟨.inl ⟨g, c, U, rfl, ST.out.lower HB1.out.size⟩, HB1.out.trans (HB2.out.mono HB1.out.size)⟩
end Go.Proofs.Ytacinjbaebimhaa.Val
