/- The columns that an expression asks: what the law FnExprColumns reads of them; laws.sameInts, laws.hasInt. -/
import Derived.Test.YtcddkleglmbfgaaDrawA
import Derived.Test.YtcddkleglmbfgaaEXCS
namespace Go.Proofs.Ytcddkleglmbfgaa.Val
open Go.RowKit
set_option linter.unusedVariables false
set_option linter.unusedSimpArgs false
theorem colZ_in {cs : List CT} {ps : List PT} {x : Int} (h : x ∈ colZ cs ps) : 0 ≤ x ∧ x < cs.length := by
  unfold colZ at h
  split at h
  · cases h
  · simp only [colL, List.mem_map, List.mem_filter, List.mem_range] at h
    obtain ⟨k, ⟨hk, -⟩, rfl⟩ := h
    omega
theorem colZ_up (cs : List CT) (ps : List PT) : (colZ cs ps).Pairwise (· < ·) := by
  unfold colZ
  split
  · exact List.Pairwise.nil
  · unfold colL
    rw [List.pairwise_map]
    refine (List.Pairwise.filter _ List.pairwise_lt_range).imp ?_
    intro a b h
    omega
theorem colZ_mem {cs : List CT} {ps : List PT} {k : Nat} (hk : ¬ kindI cs ps < 0) (ha : asks ps k = true) (hl : k < cs.length) : (k : Int) ∈ colZ cs ps := by
  unfold colZ
  rw [if_neg hk]
  simp only [colL, List.mem_map, List.mem_filter, List.mem_range]
  exact ⟨k, ⟨hl, ha⟩, rfl⟩
theorem colZ_len (cs : List CT) (ps : List PT) : (colZ cs ps).length ≤ cs.length := by
  unfold colZ
  split
  · simp
  · exact colL_len _ _
/-- What the law writes into a column. -/
def oneN (c : Int) : Int := if c = 2 then 0 else 1
def rowA (cs : List CT) (n : Nat) : List VT := (List.range n).map fun (k : Nat) => (colAt cs k, oneN (colAt cs k), ⟨#[]⟩)
def rowB2 (cs : List CT) (ps : List PT) (n : Nat) : List VT := (List.range n).map fun (k : Nat) => (colAt cs k, (if (k : Int) ∈ colZ cs ps then oneN (colAt cs k) else 0), ⟨#[]⟩)
theorem rowA_snoc (cs : List CT) (n : Nat) : rowA cs (n + 1) = rowA cs n ++ [(colAt cs n, oneN (colAt cs n), ⟨#[]⟩)] := by simp [rowA, List.range_succ]
theorem rowB2_snoc (cs : List CT) (ps : List PT) (n : Nat) : rowB2 cs ps (n + 1) = rowB2 cs ps n ++ [(colAt cs n, (if (n : Int) ∈ colZ cs ps then oneN (colAt cs n) else 0), ⟨#[]⟩)] := by simp [rowB2, List.range_succ]
theorem rowA_len (cs : List CT) (n : Nat) : (rowA cs n).length = n := by simp [rowA]
theorem rowB2_len (cs : List CT) (ps : List PT) (n : Nat) : (rowB2 cs ps n).length = n := by simp [rowB2]
theorem rows_same (cs : List CT) (ps : List PT) : xvalI cs (rowA cs cs.length) ps = xvalI cs (rowB2 cs ps cs.length) ps := by
  by_cases hk : kindI cs ps < 0
  · rw [xval_nil (.inl hk), xval_nil (.inl hk)]
  · refine cols_same (f := fun _ c => oneN c) (g := fun k c => if (k : Int) ∈ colZ cs ps then oneN c else 0) ?_ ?_
    · intro _
      refine ⟨?_, ?_, ?_, ?_⟩
      · intro k c; simp only [oneN]; split <;> simp
      · intro k c; simp only [oneN]; split <;> (try split) <;> simp
      · intro k; rfl
      · intro k; simp [oneN]
    · intro k ha hl
      simp only [colZ_mem hk ha hl, if_true]
theorem rowA_texts (cs : List CT) (n : Nat) : Texts (rowA cs n) := by
  intro v hv
  simp only [rowA, List.mem_map] at hv
  obtain ⟨k, -, rfl⟩ := hv
  show (0 : Nat) ≤ 20
  omega
theorem rowB2_texts (cs : List CT) (ps : List PT) (n : Nat) : Texts (rowB2 cs ps n) := by
  intro v hv
  simp only [rowB2, List.mem_map] at hv
  obtain ⟨k, -, rfl⟩ := hv
  show (0 : Nat) ≤ 20
  omega
set_option maxHeartbeats 4000000 in
theorem sameIntsE (A B : Option Addr) (g g' o o' cA cB : Nat) (l : List Int) (w : World) (hA : Fl w g o A (l.map iv)) (hB : Fl w g' o' B (l.map iv)) (hl : l.length ≤ 2000000) :
    Calls Try.prog 17 #[.slice A l.length cA, .slice B l.length cB] w fun e w' => e = .returned (.bool true) ∧ Below w.heap.size w w' := by
  have HA := Lib.hid hA
  have HB := Lib.hid hB
  clear hA hB
  have e0 : ((l.length : Int) != l.length) = false := by simp
  go_enter Try.func17, Try.ntmps17
  go_wp2
  go_loopw [5] (fun ix wr => ∃ (k : Nat), k ≤ l.length ∧ ix = .int .i64 k ∧ Hid (Below w.heap.size w wr)) (fun ix _ => l.length - (intOf ix).toNat)
  case atStart => exact ⟨0, by omega, rfl, Below.refl _ _⟩
  case round =>
    obtain ⟨k, hk, rfl, HW⟩ := hrel
    by_cases hlt : k < l.length
    · obtain ⟨rfl, -, -⟩ := HA.out.n k hlt
      obtain ⟨rfl, -, -⟩ := HB.out.n k hlt
      obtain ⟨-, hg2, c0⟩ := (HA.out.below HW.out).n k hlt
      obtain ⟨-, hg2', d0⟩ := (HB.out.below HW.out).n k hlt
      obtain ⟨K, hK⟩ : ∃ K, l[k] = K := ⟨_, rfl⟩
      rw [hK] at c0 d0
      clear hK
      have i0' : (0 : Int) ≤ (k : Int) := by omega
      have i1' : (k : Int) < (l.length : Int) := by omega
      go_wp2
      go_region
      all_goals go_wp2
      all_goals exact ⟨⟨k + 1, by omega, by go_num, HW.out.drew⟩, by simp [intOf]; omega⟩
    · obtain rfl : k = l.length := by omega
      go_wp2
      go_ret
      exact ⟨rfl, HW.out⟩
set_option maxHeartbeats 4000000 in
theorem hasInt (A : Option Addr) (g o cA : Nat) (l : List Int) (n : Int) (w : World) (hA : Fl w g o A (l.map iv)) (hl : l.length ≤ 2000000) :
    Calls Try.prog 19 #[.slice A l.length cA, .int .i64 n] w fun e w' => e = .returned (.bool (decide (n ∈ l))) ∧ Below w.heap.size w w' := by
  have HA := Lib.hid hA
  clear hA
  go_enter Try.func19, Try.ntmps19
  go_wp2
  go_loopw [5] (fun ix wr => ∃ (k : Nat), k ≤ l.length ∧ ix = .int .i64 k ∧ Hid (Below w.heap.size w wr) ∧ Hid (¬ n ∈ l.take k)) (fun ix _ => l.length - (intOf ix).toNat)
  case atStart => exact ⟨0, by omega, rfl, Below.refl _ _, Lib.hid (by simp)⟩
  case round =>
    obtain ⟨k, hk, rfl, HW, HN⟩ := hrel
    by_cases hlt : k < l.length
    · obtain ⟨rfl, -, -⟩ := HA.out.n k hlt
      obtain ⟨-, hg2, c0⟩ := (HA.out.below HW.out).n k hlt
      have hst := List.take_succ_eq_append_getElem hlt
      have hmem : l[k] ∈ l := List.getElem_mem hlt
      obtain ⟨K, hK⟩ : ∃ K, l[k] = K := ⟨_, rfl⟩
      rw [hK] at c0 hst hmem
      have HST := Lib.hid hst
      have HM := Lib.hid hmem
      clear hK hst hmem
      have i0' : (0 : Int) ≤ (k : Int) := by omega
      have i1' : (k : Int) < (l.length : Int) := by omega
      by_cases hq : K = n
      · subst hq
        go_wp2
        all_goals (try go_region)
        all_goals go_wp2
        all_goals (go_ret; exact ⟨retB (by simp [HM.out]), by first | exact HW.out | exact HW.out.drew⟩)
      · have hq2 : ¬ (n = K) := fun h => hq h.symm
        go_wp2
        all_goals (try go_region)
        all_goals go_wp2
        all_goals exact ⟨⟨k + 1, by omega, by go_num, by first | exact HW.out | exact HW.out.drew, by rw [HST.out]; simp only [List.mem_append, List.mem_singleton]; exact fun h => h.elim HN.out hq2⟩, by simp [intOf]; omega⟩
    · obtain rfl : k = l.length := by omega
      have hnm : ¬ n ∈ l := by have := HN.out; rwa [List.take_length] at this
      go_wp2
      go_ret
      exact ⟨retB (by simp [hnm]), HW.out⟩
end Go.Proofs.Ytcddkleglmbfgaa.Val
