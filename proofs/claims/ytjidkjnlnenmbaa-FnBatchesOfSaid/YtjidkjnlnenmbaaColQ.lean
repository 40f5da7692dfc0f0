/- Contracts of the functions on columns: both sides, and the exact law's helpers. -/
import Derived.Test.YtjidkjnlnenmbaaFlQ
import Derived.Test.YtjidkjnlnenmbaaBytQ
import Derived.Test.YtjidkjnlnenmbaaTxtQ
import Derived.Lib.AppendStr
import Derived.OwnWalk
namespace Go.Proofs.Ytjidkjnlnenmbaa.Val
open Go.RowKit
set_option linter.unusedVariables false
def kindB (c : Int) : Bool := decide (1 ≤ c) && decide (c ≤ 3)
def colB (cs : List CT) : Bool := decide (cs.length ≤ 4) && cs.all fun c => kindB c.1
theorem all_snoc {α : Type} (p : α → Bool) (l : List α) (k : Nat) (h : k < l.length) : (l.take (k + 1)).all p = ((l.take k).all p && p l[k]) := by
  rw [List.take_succ_eq_append_getElem h, List.all_append]; simp
theorem all_no {α : Type} {p : α → Bool} {l : List α} (k : Nat) (h : k < l.length) (hp : p l[k] = false) : l.all p = false := by
  rw [List.all_eq_false]; exact ⟨l[k], List.getElem_mem _, by rw [hp]; simp⟩
theorem hid_all {α : Type} {p : α → Bool} {l : List α} {k : Nat} {b : Bool} (hs : Hid ((l.take (k + 1)).all p = ((l.take k).all p && b))) (hl : Hid ((l.take k).all p = true)) (hb : (!b) = false) : Hid ((l.take (k + 1)).all p = true) := by
  show List.all _ _ = true
  rw [hs.out, hl.out]; simpa using hb
theorem not_of {b : Bool} (h : (!b) = true) : b = false := by simpa using h
theorem all_end {α : Type} {p : α → Bool} {l : List α} (h : Hid ((l.take l.length).all p = true)) : l.all p = true := by
  have := h.out; rwa [List.take_length] at this
theorem take_eq_step {α : Type} (l m : List α) (k : Nat) (h : k < l.length) (h' : k < m.length) (ht : l.take k = m.take k) : (l[k] = m[k] → l.take (k + 1) = m.take (k + 1)) ∧ (l[k] ≠ m[k] → l ≠ m) := by
  constructor
  · intro e; rw [List.take_succ_eq_append_getElem h, List.take_succ_eq_append_getElem h', ht, e]
  · intro e e2; subst e2; exact e rfl
theorem columnKind (n : Int) (w : World) : Calls Try.prog 121 #[.int .i64 n] w fun e w' => e = .returned (.bool (kindB n)) ∧ w = w' := by
  go_enter Try.func121, Try.ntmps121
  go_wp2
  all_goals (go_ret; refine ⟨retB ?_, rfl⟩)
  all_goals (simp_all [kindB]; try omega)
  rw [Bool.eq_iff_iff]; simp; omega
theorem columnsOkI (A : Option Addr) (g o cap : Nat) (cs : List CT) (w : World) (h : Fl w g o A (flatC cs)) (hl : cs.length ≤ 2000000) : Calls Try.prog 94 #[.slice A cs.length cap] w fun e w' => e = .returned (.bool (colB cs)) ∧ w = w' := by
  have H := Lib.hid h
  clear h
  go_enter Try.func94, Try.ntmps94
  go_wp2
  · go_ret
    refine ⟨retB ?_, rfl⟩
    simp [colB]; intro; omega
  · go_loop [3] (fun ix => ∃ k : Nat, k ≤ cs.length ∧ ix = .int .i64 k ∧ Hid ((cs.take k).all (fun c => kindB c.1) = true)) (fun ix => cs.length - (intOf ix).toNat)
    case atStart => exact ⟨0, Nat.zero_le _, rfl, rfl⟩
    case round =>
      obtain ⟨k, hk, rfl, HL⟩ := hrel
      by_cases hlt : k < cs.length
      · obtain ⟨rfl, hg, c0, c1⟩ := H.out.cl k hlt
        have HS := Lib.hid (all_snoc (fun c : CT => kindB c.1) cs k hlt)
        have HN := Lib.hid (fun hp => all_no (p := fun c : CT => kindB c.1) k hlt hp)
        obtain ⟨K, hK⟩ : ∃ K, cs[k].1 = K := ⟨_, rfl⟩
        simp only [hK] at c0 HS HN
        have i0' : (0 : Int) ≤ (k : Int) := by omega
        have i1' : (k : Int) < (cs.length : Int) := by omega
        clear hK
        go_wp2_with ((go_at_call 121; ((with_reducible refine (columnKind _ _).mono ?_); rintro e w1 ⟨rfl, rfl⟩)))
        · go_ret
          refine ⟨retB ?_, rfl⟩
          have := HN.out (not_of (by assumption))
          simp [colB, this]
        · go_round
          case rel => exact ⟨k + 1, by omega, by go_num, hid_all HS HL (by assumption)⟩
          case measure => simp [intOf]; omega
      · obtain rfl : k = cs.length := by omega
        go_wp2
        go_ret
        refine ⟨retB ?_, rfl⟩
        rw [colB, all_end HL]; simp; omega
theorem l1In3 (n : Int) (w : World) : Calls Try.prog 68 #[.int .i64 n, .int .i64 1, .int .i64 3] w fun e w' => e = .returned (.bool (kindB n)) ∧ w = w' := l1In n 1 3 w
theorem columnsOkS (A : Option Addr) (g o cap : Nat) (cs : List CT) (w : World) (h : Fl w g o A (flatC cs)) (hl : cs.length ≤ 2000000) : Calls Try.prog 107 #[.slice A cs.length cap] w fun e w' => e = .returned (.bool (colB cs)) ∧ w = w' := by
  have H := Lib.hid h
  clear h
  go_enter Try.func107, Try.ntmps107
  go_wp2
  go_loop [3] (fun ix => ∃ k : Nat, k ≤ cs.length ∧ ix = .int .i64 k ∧ Hid ((cs.take k).all (fun c => kindB c.1) = true)) (fun ix => cs.length - (intOf ix).toNat)
  case atStart => exact ⟨0, Nat.zero_le _, rfl, rfl⟩
  case round =>
    obtain ⟨k, hk, rfl, HL⟩ := hrel
    by_cases hlt : k < cs.length
    · obtain ⟨rfl, hg, c0, c1⟩ := H.out.cl k hlt
      have HS := Lib.hid (all_snoc (fun c : CT => kindB c.1) cs k hlt)
      have HN := Lib.hid (fun hp => all_no (p := fun c : CT => kindB c.1) k hlt hp)
      obtain ⟨K, hK⟩ : ∃ K, cs[k].1 = K := ⟨_, rfl⟩
      simp only [hK] at c0 HS HN
      have i0' : (0 : Int) ≤ (k : Int) := by omega
      have i1' : (k : Int) < (cs.length : Int) := by omega
      clear hK
      go_wp2_with ((go_at_call 68; ((with_reducible refine (l1In3 _ _).mono ?_); rintro e w1 ⟨rfl, rfl⟩)))
      · go_ret
        refine ⟨retB ?_, rfl⟩
        have := HN.out (not_of (by assumption))
        simp [colB, this]
      · go_round
        case rel => exact ⟨k + 1, by omega, by go_num, hid_all HS HL (by assumption)⟩
        case measure => simp [intOf]; omega
    · obtain rfl : k = cs.length := by omega
      go_wp2
      go_ret
      refine ⟨retB ?_, rfl⟩
      rw [colB, all_end HL]; simp; try omega
theorem infoC : (Try.prog.info? 89).map (fun i => (i.zero, i.size, i.bytes)) = some (some (.agg #[.int .i64 0, .bool false]), 2, 16) := by kernel_rfl
end Go.Proofs.Ytjidkjnlnenmbaa.Val
