/- A row holds, does not hold, or is unknown: by plan. -/
import Derived.Test.YtacinjbaebimhaaPMathQ
import Derived.Test.YtacinjbaebimhaaWMathQ
namespace Go.Proofs.Ytacinjbaebimhaa.Val
open Go.RowKit
open List (Perm)
set_option linter.unusedVariables false
theorem yesR_of {row : RT} {e : List PT} {t : Int} (he : ∀ us, runV row e us = ofT t :: us) : yesR e row = decide (t = 1) := by
  unfold yesR
  rw [he []]
  exact isYes_of t
theorem val_none8 {row : List VT} {a : List PT} {p : Int} (ha : ∀ us, runV row a us = ofT p :: us) : ∀ us, runV row (a ++ [(8, 0, nilV)]) us = ofT (if (ofT p).1 = 0 then 1 else 0) :: us := by
  intro us
  rw [runV_cat, ha]
  rfl
theorem run_none8 {cs : List CT} {a : List PT} (ha : ∀ st, runK cs a st = some (3 :: st)) : ∀ st, runK cs (a ++ [(8, 0, nilV)]) st = some (3 :: st) := fun st => run_two (ha st) (run_one (step_eight 3 st))
theorem kind_of3 {cs : List CT} {e : List PT} (hc : colB cs = true) (he : ∀ st, runK cs e st = some (3 :: st)) (hl : e.length ≤ 12) : kindI cs e = 3 := by
  rw [kindI, if_pos ⟨hc, hl⟩, he []]; rfl
/-- On each row just one of the three holds. -/
theorem three_at {cs : List CT} {row : RT} {a : List PT} (ha : ∀ st, runK cs a st = some (3 :: st)) (hf : fitB cs row = true) :
    (yesR (a ++ [(7, 0, nilV)]) row = (!yesR a row && yesR (a ++ [(7, 0, nilV)]) row)) ∧ (yesR (a ++ [(8, 0, nilV)]) row = (!yesR a row && !yesR (a ++ [(7, 0, nilV)]) row)) := by
  obtain ⟨v, hv, hr⟩ := put_down ha hf
  obtain ⟨t, ht, rfl⟩ := tv_of hv
  rw [yesR_of hr, yesR_of (val_neg hr ht), yesR_of (val_none8 hr)]
  rcases ht with rfl | rfl | rfl <;> decide
/-- A test behind a plan. -/
def oneS (p : List SP) (e : List PT) : List SP := p ++ [whereS ((p.length - 1 : Nat) : Int) e]
theorem one_none {tb : List TB} {p : List SP} {e : List PT} (h1 : 1 ≤ p.length) (h : planB tb p = false) : prowsI tb (oneS p e) = [] := by
  refine (plan_none ?_).2
  cases hx : planB tb (oneS p e) with
  | false => rfl
  | true =>
    have := planB_take hx p.length h1 (by simp [oneS])
    rw [oneS, List.take_left' rfl] at this
    rw [this] at h; cases h
theorem one_some {tb : List TB} {p : List SP} {e : List PT} (h : planB tb p = true) (h6 : p.length < 6) (he : kindI (pcolsI tb p) e = 3) : prowsI tb (oneS p e) = (prowsI tb p).filter (yesR e) := by
  obtain ⟨⟨st, hst⟩, ht, h1, -⟩ := planB_iff.1 h
  have hc : pcolsI tb p = st.1.getD (p.length - 1) [] := by rw [pcolsI, if_pos h, hst]; rfl
  rw [hc] at he
  have hw := allI_where hst h1 e
  rw [if_pos he] at hw
  have hp : planB tb (oneS p e) = true := planB_iff.2 ⟨⟨_, hw⟩, ht, by simp [oneS], by simp [oneS]; omega⟩
  unfold oneS at hp ⊢
  rw [prows_snoc hp, rowS_where, prows_last h]
/-- The rows on which a test holds, those on which its not does, those on which it is none, are all rows. -/
theorem whole_three {tb : List TB} {p : List SP} {a : List PT} (h1 : 1 ≤ p.length) (h6 : p.length < 6) (ha : ∀ st, runK (pcolsI tb p) a st = some (3 :: st)) (hl : a.length + 1 ≤ 12) :
    Perm (prowsI tb (oneS p a) ++ prowsI tb (oneS p (a ++ [(7, 0, nilV)])) ++ prowsI tb (oneS p (a ++ [(8, 0, nilV)]))) (prowsI tb p) := by
  cases h : planB tb p with
  | false =>
    rw [one_none h1 h, one_none h1 h, one_none h1 h, (plan_none h).2]
    exact Perm.refl _
  | true =>
    have hfit := (plan_fits h).1
    obtain ⟨hc, hr⟩ := rowsB_iff.1 hfit
    have hlen : ∀ x : PT, (a ++ [x]).length ≤ 12 := fun x => by simp; omega
    rw [one_some h h6 (kind_of3 hc ha (by omega)), one_some h h6 (kind_of3 hc (run_neg ha) (hlen _)), one_some h h6 (kind_of3 hc (run_none8 ha) (hlen _))]
    exact three_parts fun x hx => three_at ha (hr x hx)
end Go.Proofs.Ytacinjbaebimhaa.Val
