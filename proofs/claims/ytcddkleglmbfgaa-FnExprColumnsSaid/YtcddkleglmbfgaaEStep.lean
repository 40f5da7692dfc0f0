/- The kinds that stand after a part (spec.l4Step). -/
import Derived.Test.YtcddkleglmbfgaaFlP
import Derived.Test.YtcddkleglmbfgaaRowF
import Derived.Test.YtcddkleglmbfgaaOwnK
namespace Go.Proofs.Ytcddkleglmbfgaa.Val
open Go.RowKit
set_option linter.unusedVariables false
set_option maxRecDepth 20000
def StepPost (cs : List CT) (st : List Int) (p : PT) (B : Nat) (w : World) (e : Ending) (w' : World) : Prop := ∃ (v : Value) (ok : Bool), e = .returned (.tuple #[v, .bool ok]) ∧ Below B w w' ∧ ((stepK cs p st = none ∧ ok = false) ∨ ∃ (st' : List Int) (g' cap' : Nat), stepK cs p st = some st' ∧ ok = true ∧ v = .slice (some ⟨g', 0, none⟩) st'.length cap' ∧ w'.ownsRow B 3 1 v st'.length (st'.reverse.map iv))
theorem own_cap {w : World} {B g n cap size : Nat} {e : TypeId} {xs : List Value} (h : w.ownsRow B e size (.slice (some ⟨g, 0, none⟩) n cap) n xs) : B ≤ g ∧ g < w.heap.size ∧ n ≤ cap ∧ cap ≤ maxLen := by
  rcases h.2 with ⟨h3, -⟩ | ⟨g2, cap2, cur, h3, h4, h5, h6, h7, h8, h9⟩
  · cases h3
  · injection h3 with e1 e2 e3
    injection e1 with e1
    injection e1 with e1
    subst e1 e3
    exact ⟨h4, (Array.getElem?_eq_some_iff.1 h5).1, h6, h7⟩
theorem step_no {cs : List CT} {st : List Int} {p : PT} {B : Nat} {w w' : World} {v : Value} (hs : stepK cs p st = none) (hb : Below B w w') : StepPost cs st p B w (.returned (.tuple #[v, .bool false])) w' := ⟨v, false, rfl, hb, .inl ⟨hs, rfl⟩⟩
theorem step_yes {cs : List CT} {st st' : List Int} {p : PT} {B n : Nat} {w w' : World} {v : Value} {xs : List Value} (hs : stepK cs p st = some st') (hb : Below B w w') (ho : w'.ownsRow B 3 1 v n xs) (hn : n = st'.length) (h0 : 0 < n) (hx : xs = st'.reverse.map iv) : StepPost cs st p B w (.returned (.tuple #[v, .bool true])) w' := by
  subst hn hx
  refine ⟨v, true, rfl, hb, .inr ?_⟩
  rcases ho.2 with ⟨-, hz⟩ | ⟨g, cap, cur, rfl, -⟩
  · omega
  · exact ⟨st', g, cap, hs, rfl, rfl, ho⟩
theorem own_at {w : World} {B g n cap : Nat} {e : TypeId} {l : List Int} (h : w.ownsRow B e 1 (.slice (some ⟨g, 0, none⟩) n cap) n (l.map iv)) (i : Nat) (hi : i < l.length) : w.cell? ⟨g, i, none⟩ = some (.int .i64 l[i]) := by
  have h1 := h.1
  rw [List.length_map] at h1
  rw [h.cellAt i (by omega), List.getElem?_map, List.getElem?_eq_getElem hi]; rfl
theorem own_fewer {w : World} {B g cap : Nat} {e : TypeId} {l x : List Int} (h : w.ownsRow B e 1 (.slice (some ⟨g, 0, none⟩) (x ++ l).length cap) (x ++ l).length ((x ++ l).reverse.map iv)) : w.ownsRow B e 1 (.slice (some ⟨g, 0, none⟩) l.length cap) l.length (l.reverse.map iv) := by
  have := own_take h (m := l.length) (by simp)
  rwa [Nat.mul_one, List.reverse_append, List.map_append, show (l.reverse.map iv ++ x.reverse.map iv).take l.length = l.reverse.map iv from by rw [List.take_append_of_le_length (by simp), List.take_of_length_le (by simp)]] at this
theorem own_rev {w : World} {B g cap : Nat} {e : TypeId} {l x : List Int} (h : w.ownsRow B e 1 (.slice (some ⟨g, 0, none⟩) (x ++ l).length cap) (x ++ l).length ((x ++ l).reverse.map iv)) (i : Nat) (hi : i < x.length) : w.cell? ⟨g, l.length + i, none⟩ = some (.int .i64 (x[x.length - 1 - i])) := by
  have h1 := own_at h (l.length + i) (by simp; omega)
  rw [h1]
  congr 2
  rw [List.getElem_reverse, List.getElem_append_left (by simp; omega)]
  congr 1
  simp; omega
set_option maxHeartbeats 4000000 in
theorem l4StepBad (A : Option Addr) (cc : Nat) (cs : List CT) (V : Value) (st : List Int) (m cap g : Nat) (p : PT) (B : Nat) (w : World) (hbad : partBad p = true) (hB : B ≤ w.heap.size) : Calls Try.prog 93 #[.slice A cs.length cc, .slice (some ⟨g, 0, none⟩) m cap, aggP p] w (StepPost cs st p B w) := by
  have HS := Lib.hid (show stepK cs p st = none by unfold stepK; rw [if_pos hbad])
  have HP := Lib.hid hbad
  clear hbad
  obtain ⟨k, n, vk, vn, s⟩ := p
  unfold aggP
  simp only
  go_enter Try.func93, Try.ntmps93
  go_upto_region 4 with (fail)
  all_goals first
    | (refine bodyPost_ret (v := .tuple #[.slice (some ⟨g, 0, none⟩) m cap, .bool false]) (by simp [results, Try.results93, go_sem]) rfl (step_no HS.out ((Below.refl _ _).alloc hB _)); done)
    | (exfalso; have hp := HP.out; simp only [partBad, isNil, Bool.or_eq_true, Bool.and_eq_true, decide_eq_true_eq, Bool.not_eq_true', Bool.and_eq_false_iff, decide_eq_false_iff_not] at hp; simp_all; done)
end Go.Proofs.Ytcddkleglmbfgaa.Val
