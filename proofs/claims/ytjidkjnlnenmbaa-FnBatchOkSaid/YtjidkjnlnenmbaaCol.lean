/- Contracts of the functions on columns: both sides, and the exact law's helpers. -/
import Derived.Test.YtjidkjnlnenmbaaFl
import Derived.Test.YtjidkjnlnenmbaaByteI
namespace Go.Proofs.Ytjidkjnlnenmbaa.Val
open Go.RowKit
set_option linter.unusedVariables false
def kindB (c : Int) : Bool := decide (1 ≤ c) && decide (c ≤ 3)
def colB (cs : List CT) : Bool := decide (cs.length ≤ 4) && cs.all fun c => kindB c.1
theorem all_snoc {α : Type} (p : α → Bool) (l : List α) (k : Nat) (h : k < l.length) : (l.take (k + 1)).all p = ((l.take k).all p && p l[k]) := by
  rw [List.take_succ_eq_append_getElem h, List.all_append]; simp
theorem all_no {α : Type} {p : α → Bool} {l : List α} (k : Nat) (h : k < l.length) (hp : p l[k] = false) : l.all p = false := by
  rw [List.all_eq_false]; exact ⟨l[k], List.getElem_mem _, by rw [hp]; simp⟩
theorem hid_all {α : Type} {p : α → Bool} {l : List α} {k : Nat} {b : Bool} (hs : Hid ((l.take (k + 1)).all p = ((l.take k).all p && b))) (hl : Hid ((l.take k).all p = true)) (hb : (!b) = false) : Hid ((l.take (k + 1)).all p = true) := by
  show List.all _ _ = true
  rw [hs.out, hl.out]; simpa using hb
theorem not_of {b : Bool} (h : (!b) = true) : b = false := by simpa using h
theorem all_end {α : Type} {p : α → Bool} {l : List α} (h : Hid ((l.take l.length).all p = true)) : l.all p = true := by
  have := h.out; rwa [List.take_length] at this
theorem take_eq_step {α : Type} (l m : List α) (k : Nat) (h : k < l.length) (h' : k < m.length) (ht : l.take k = m.take k) : (l[k] = m[k] → l.take (k + 1) = m.take (k + 1)) ∧ (l[k] ≠ m[k] → l ≠ m) := by
  constructor
  · intro e; rw [List.take_succ_eq_append_getElem h, List.take_succ_eq_append_getElem h', ht, e]
  · intro e e2; subst e2; exact e rfl
theorem columnKind (n : Int) (w : World) : Calls Try.prog 121 #[.int .i64 n] w fun e w' => e = .returned (.bool (kindB n)) ∧ w = w' := by
  go_enter Try.func121, Try.ntmps121
  go_wp2
  all_goals (go_ret; refine ⟨retB ?_, rfl⟩)
  all_goals (simp_all [kindB]; try omega)
  rw [Bool.eq_iff_iff]; simp; omega
theorem columnsOkI (A : Option Addr) (g o cap : Nat) (cs : List CT) (w : World) (h : Fl w g o A (flatC cs)) (hl : cs.length ≤ 2000000) : Calls Try.prog 94 #[.slice A cs.length cap] w fun e w' => e = .returned (.bool (colB cs)) ∧ w = w' := by
  have H := Lib.hid h
  clear h
  go_enter Try.func94, Try.ntmps94
  go_wp2
  · go_ret
    refine ⟨retB ?_, rfl⟩
    simp [colB]; intro; omega
  · go_loop [3] (fun ix => ∃ k : Nat, k ≤ cs.length ∧ ix = .int .i64 k ∧ Hid ((cs.take k).all (fun c => kindB c.1) = true)) (fun ix => cs.length - (intOf ix).toNat)
    case atStart => exact ⟨0, Nat.zero_le _, rfl, rfl⟩
    case round =>
      obtain ⟨k, hk, rfl, HL⟩ := hrel
      by_cases hlt : k < cs.length
      · obtain ⟨rfl, hg, c0, c1⟩ := H.out.cl k hlt
        have HS := Lib.hid (all_snoc (fun c : CT => kindB c.1) cs k hlt)
        have HN := Lib.hid (fun hp => all_no (p := fun c : CT => kindB c.1) k hlt hp)
        obtain ⟨K, hK⟩ : ∃ K, cs[k].1 = K := ⟨_, rfl⟩
        simp only [hK] at c0 HS HN
        have i0' : (0 : Int) ≤ (k : Int) := by omega
        have i1' : (k : Int) < (cs.length : Int) := by omega
        clear hK
        go_wp2_with ((go_at_call 121; ((with_reducible refine (columnKind _ _).mono ?_); rintro e w1 ⟨rfl, rfl⟩)))
        · go_ret
          refine ⟨retB ?_, rfl⟩
          have := HN.out (not_of (by assumption))
          simp [colB, this]
        · go_round
          case rel => exact ⟨k + 1, by omega, by go_num, hid_all HS HL (by assumption)⟩
          case measure => simp [intOf]; omega
      · obtain rfl : k = cs.length := by omega
        go_wp2
        go_ret
        refine ⟨retB ?_, rfl⟩
        rw [colB, all_end HL]; simp; omega
theorem l1In3 (n : Int) (w : World) : Calls Try.prog 68 #[.int .i64 n, .int .i64 1, .int .i64 3] w fun e w' => e = .returned (.bool (kindB n)) ∧ w = w' := l1In n 1 3 w
theorem columnsOkS (A : Option Addr) (g o cap : Nat) (cs : List CT) (w : World) (h : Fl w g o A (flatC cs)) (hl : cs.length ≤ 2000000) : Calls Try.prog 107 #[.slice A cs.length cap] w fun e w' => e = .returned (.bool (colB cs)) ∧ w = w' := by
  have H := Lib.hid h
  clear h
  go_enter Try.func107, Try.ntmps107
  go_wp2
  go_loop [3] (fun ix => ∃ k : Nat, k ≤ cs.length ∧ ix = .int .i64 k ∧ Hid ((cs.take k).all (fun c => kindB c.1) = true)) (fun ix => cs.length - (intOf ix).toNat)
  case atStart => exact ⟨0, Nat.zero_le _, rfl, rfl⟩
  case round =>
    obtain ⟨k, hk, rfl, HL⟩ := hrel
    by_cases hlt : k < cs.length
    · obtain ⟨rfl, hg, c0, c1⟩ := H.out.cl k hlt
      have HS := Lib.hid (all_snoc (fun c : CT => kindB c.1) cs k hlt)
      have HN := Lib.hid (fun hp => all_no (p := fun c : CT => kindB c.1) k hlt hp)
      obtain ⟨K, hK⟩ : ∃ K, cs[k].1 = K := ⟨_, rfl⟩
      simp only [hK] at c0 HS HN
      have i0' : (0 : Int) ≤ (k : Int) := by omega
      have i1' : (k : Int) < (cs.length : Int) := by omega
      clear hK
      go_wp2_with ((go_at_call 68; ((with_reducible refine (l1In3 _ _).mono ?_); rintro e w1 ⟨rfl, rfl⟩)))
      · go_ret
        refine ⟨retB ?_, rfl⟩
        have := HN.out (not_of (by assumption))
        simp [colB, this]
      · go_round
        case rel => exact ⟨k + 1, by omega, by go_num, hid_all HS HL (by assumption)⟩
        case measure => simp [intOf]; omega
    · obtain rfl : k = cs.length := by omega
      go_wp2
      go_ret
      refine ⟨retB ?_, rfl⟩
      rw [colB, all_end HL]; simp; try omega
theorem szColumnS (A : Option Addr) (n cap : Nat) (left : Int) (w : World) (h0 : 0 ≤ left) (h1 : left ≤ 1048576) (hn : n ≤ maxLen) : Calls Try.prog 23 #[.slice A n cap, .int .i64 left] w fun e w' => e = .returned (.int .i64 (if left - n < 0 then -1 else left - n)) ∧ w = w' := by
  unfold maxLen at hn
  go_enter Try.func23, Try.ntmps23
  go_wp2
  all_goals (go_ret; refine ⟨retI ?_, rfl⟩)
  all_goals (simp_all <;> omega)
theorem toColumn (k : Int) (b : Bool) (w : World) : Calls Try.prog 70 #[.agg #[.int .i64 k, .bool b]] w fun e w' => e = .returned (.agg #[.int .i64 k, .bool b]) ∧ Below w.heap.size w w' := by
  go_enter Try.func70, Try.ntmps70
  go_wp2
  refine bodyPost_ret (v := .agg #[.int .i64 k, .bool b]) (by simp [results, Try.results70, go_sem]) rfl ⟨rfl, ?_⟩
  exact (((Below.refl _ _).alloc (Nat.le_refl _) _).alloc (by simp) _).alloc (by simp; omega) _
theorem eqColumn (k k2 : Int) (b b2 : Bool) (w : World) : Calls Try.prog 75 #[.agg #[.int .i64 k, .bool b], .agg #[.int .i64 k2, .bool b2]] w fun e w' => e = .returned (.bool (decide (k = k2) && (b == b2))) ∧ Below w.heap.size w w' := by
  go_enter Try.func75, Try.ntmps75
  go_wp2
  all_goals (go_ret; refine ⟨retB ?_, ((Below.refl _ _).alloc (Nat.le_refl _) _).alloc (by simp) _⟩)
  all_goals (simp_all)
theorem infoC : (Try.prog.info? 89).map (fun i => (i.zero, i.size, i.bytes)) = some (some (.agg #[.int .i64 0, .bool false]), 2, 16) := by kernel_rfl
/-- A copy: a row of its own, of n elements of so many cells each. -/
def CopiedF (n : Nat) (xs : List Value) (w : World) (e : Ending) (w' : World) : Prop := ∃ (g c : Nat), e = .returned (.slice (some ⟨g, 0, none⟩) n c) ∧ Fl w' g 0 (some ⟨g, 0, none⟩) xs ∧ (∀ j, j < xs.length → w'.frozen? ⟨g, j, none⟩ = false) ∧ n ≤ c ∧ c ≤ maxLen ∧ w.heap.size ≤ g ∧ Below w.heap.size w w'
theorem toColumnS (A : Option Addr) (g0 o cap : Nat) (cs : List CT) (w : World) (h : Fl w g0 o A (flatC cs)) (hl : cs.length ≤ 1048576) : Calls Try.prog 26 #[.slice A cs.length cap] w (CopiedF cs.length (flatC cs) w) := by
  obtain ⟨i0, hi, hz0, hz1', hz2⟩ := info_parts infoC
  have HA := Lib.hid h
  clear h
  have hfl := flatC_len cs
  go_enter Try.func26, Try.ntmps26
  go_wp2_with (at_make; refine wpList_make_full w rfl _ _ 43 rfl w.heap.size 89 i0 (.agg #[.int .i64 0, .bool false]) 2 Try.underlying43 hi hz0 hz1' .i64 .i64 cs.length cs.length cs.length rfl rfl rfl rfl (by rw [hz2]; omega) (by unfold maxLen; omega) (Nat.le_refl _) ?_; intro w0 hown hgr)
  have HB0 : Hid (Below w.heap.size w w0) := Below.grown (Below.refl _ _) hgr (Nat.le_refl _) (by intro k hk; cases hk)
  have HC0 : Hid (Fill w0 w.heap.size (flatC cs) 0) := Fill.made hown hfl
  have hz0s := hgr.size
  clear hown hgr
  go_wp2
  go_loopw [4] (fun ix wr => ∃ k : Nat, k ≤ cs.length ∧ ix = .int .i64 k ∧ Hid (Below w.heap.size w wr) ∧ Hid (Fill wr w.heap.size (flatC cs) (k * 2))) (fun ix _ => cs.length - (intOf ix).toNat)
  case atStart => exact ⟨0, by omega, rfl, HB0, HC0⟩
  case round =>
    obtain ⟨k, hk, rfl, HB, HF⟩ := hrel
    clear HB0 HC0 hz0s
    by_cases hlt : k < cs.length
    · obtain ⟨rfl, hg, -, -⟩ := HA.out.cl k hlt
      obtain ⟨-, hg2, c0, c1⟩ := (HA.out.below HB.out).cl k hlt
      obtain ⟨u0, u1⟩ := flatC_get cs k hlt
      obtain ⟨K, hK⟩ : ∃ K, cs[k].1 = K := ⟨_, rfl⟩
      obtain ⟨B, hB⟩ : ∃ B, cs[k].2 = B := ⟨_, rfl⟩
      rw [hK] at c0 u0
      rw [hB] at c1 u1
      have U0 := Lib.hid u0
      have U1 := Lib.hid u1
      clear hK hB u0 u1
      have i0' : (0 : Int) ≤ (k : Int) := by omega
      have i1' : (k : Int) < (cs.length : Int) := by omega
      go_wp2_with (go_at_call 70; (with_reducible refine (toColumn _ _ _).mono ?_); rintro e w1 ⟨rfl, hb1⟩; have HF1 := Lib.hid (Fill.below HF.out hb1); obtain ⟨⟨v0, hv0⟩, hf0, -⟩ := HF1.out (k * 2) (by omega); obtain ⟨⟨v1, hv1⟩, hf1, -⟩ := HF1.out (k * 2 + 1) (by omega); have HB1 := Lib.hid (HB.out.trans (hb1.mono HB.out.size)); clear hb1 HF HB)
      exact ⟨⟨k + 1, by omega, by go_num, (HB1.out.setCell (Nat.le_refl _) _).setCell (Nat.le_refl _) _, by have := (HF1.out.set U0.out).set U1.out; rwa [show (k + 1) * 2 = k * 2 + 1 + 1 by omega]⟩, by simp [intOf]; omega⟩
    · obtain rfl : k = cs.length := by omega
      go_wp2
      go_ret
      rw [← hfl] at HF
      exact ⟨w.heap.size, cs.length, rfl, HF.out.fl, HF.out.fz, Nat.le_refl _, by unfold maxLen; omega, Nat.le_refl _, HB.out⟩
theorem eqColumnS (A B : Option Addr) (g g' o o' cA cB : Nat) (l m : List CT) (w : World) (hA : Fl w g o A (flatC l)) (hB : Fl w g' o' B (flatC m)) (hl : l.length ≤ 2000000) (hm : m.length ≤ 2000000) :
    Calls Try.prog 30 #[.slice A l.length cA, .slice B m.length cB] w fun e w' => e = .returned (.bool (l == m)) ∧ Below w.heap.size w w' := by
  have HA := Lib.hid hA
  have HB := Lib.hid hB
  clear hA hB
  go_enter Try.func30, Try.ntmps30
  by_cases hlen : l.length = m.length
  · have e0 : ((l.length : Int) != m.length) = false := by simp; omega
    have HLN := Lib.hid hlen
    clear hlen
    go_wp2
    go_loopw [5] (fun ix wr => ∃ (k : Nat), k ≤ l.length ∧ ix = .int .i64 k ∧ Hid (Below w.heap.size w wr) ∧ Hid (l.take k = m.take k)) (fun ix _ => l.length - (intOf ix).toNat)
    case atStart => exact ⟨0, by omega, rfl, Below.refl _ _, rfl⟩
    case round =>
      obtain ⟨k, hk, rfl, HW, HL⟩ := hrel
      by_cases hlt : k < l.length
      · obtain ⟨rfl, hg, -, -⟩ := HA.out.cl k hlt
        have hlm : k < m.length := by have := HLN.out; omega
        obtain ⟨rfl, hg', -, -⟩ := HB.out.cl k hlm
        obtain ⟨-, hg2, c0, c1⟩ := (HA.out.below HW.out).cl k hlt
        obtain ⟨-, hg2', d0, d1⟩ := (HB.out.below HW.out).cl k hlm
        have HS := Lib.hid (take_eq_step l m k hlt hlm HL.out)
        obtain ⟨K, hK⟩ : ∃ K, l[k] = K := ⟨_, rfl⟩
        obtain ⟨K2, hK2⟩ : ∃ K, m[k]'hlm = K := ⟨_, rfl⟩
        obtain ⟨x, b⟩ := K
        obtain ⟨x2, b2⟩ := K2
        rw [hK] at c0 c1
        rw [hK2] at d0 d1
        rw [hK, hK2] at HS
        simp only at c0 c1 d0 d1
        clear hK hK2
        have CE := Lib.hid (fun w => eqColumn x x2 b b2 w)
        obtain ⟨E, hE⟩ : ∃ E, (decide (x = x2) && (b == b2)) = E := ⟨_, rfl⟩
        have HE : Hid ((E = true → l.take (k + 1) = m.take (k + 1)) ∧ (E = false → l ≠ m)) := by
          refine ⟨fun h => HS.out.1 ?_, fun h => HS.out.2 ?_⟩
          · rw [← hE] at h; simp at h; rw [h.1, h.2]
          · intro e; rw [← hE] at h; injection e with e1 e2; subst e1 e2; simp at h
        rw [hE] at CE
        clear hE HS
        have i0' : (0 : Int) ≤ (k : Int) := by omega
        have i1' : (k : Int) < (l.length : Int) := by omega
        have i2' : (k : Int) < (m.length : Int) := by omega
        go_wp2
        go_region_with (go_at_call 75; (with_reducible refine (CE.out _).mono ?_); rintro e w1 ⟨rfl, hb1⟩; have HW1 := Lib.hid (HW.out.drew.trans (hb1.mono HW.out.size)); clear hb1 HW)
        all_goals go_wp2
        all_goals first
          | (go_ret; exact ⟨retB (by rw [beq_eq_false_iff_ne.2 (HE.out.2 (not_of (by assumption)))]), HW1.out⟩)
          | (have hb : (!E) = false := by assumption
             exact ⟨⟨k + 1, by omega, by go_num, HW1, HE.out.1 (by simpa using hb)⟩, by simp [intOf]; omega⟩)
      · obtain rfl : k = l.length := by omega
        go_wp2
        go_ret
        refine ⟨retB ?_, HW.out⟩
        have := HL.out
        rw [List.take_length, HLN.out, List.take_length] at this
        simp [this]
  · go_wp2
    go_ret
    refine ⟨retB ?_, Below.refl _ _⟩
    symm
    rw [beq_eq_false_iff_ne]
    intro e; exact hlen (by rw [e])
end Go.Proofs.Ytjidkjnlnenmbaa.Val
