/- Rows of bytes in memory: comparing, marking, holding. -/
import Derived.Test.YtlkdcijacjdneaaDraw
import Derived.Deep.Draws
namespace Go.Proofs.Ytlkdcijacjdneaa.Val
open Go.RowKit
/-- The bytes l lie where the slice's address A leads. -/
def BAt (w : World) (A : Option Addr) (l : List UInt8) : Prop := 0 < l.length → ∃ g off, A = some ⟨g, off, none⟩ ∧ ∀ i (h : i < l.length), w.cell? ⟨g, off + i, none⟩ = some (.int .u8 l[i].toNat)
def EqPost (l m : List UInt8) (w : World) (e : Ending) (w' : World) : Prop := e = .returned (.bool (l == m)) ∧ ∃ n, w' = w.drewN n
theorem eqByteS (A B : Option Addr) (cA cB : Nat) (l m : List UInt8) (w : World) (hA : BAt w A l) (hB : BAt w B m) (hl : l.length ≤ 1000000000) (hm : m.length ≤ 1000000000) :
    Calls Try.prog 42 #[.slice A l.length cA, .slice B m.length cB] w (EqPost l m w) := by
  by_cases hne : l.length = m.length
  · have e0 : ((l.length : Int) != m.length) = false := by simp; omega
    have HA := Lib.hid hA
    have HB := Lib.hid hB
    have HL := Lib.hid hne
    clear hA hB hne
    go_enter Try.func42, Try.ntmps42
    go_wp2
    go_loopw [5] (fun ix wr => ∃ (k n : Nat), k ≤ l.length ∧ ix = .int .i64 k ∧ wr = w.drewN n ∧ Hid (l.take k = m.take k)) (fun ix _ => l.length - (intOf ix).toNat)
    case atStart => exact ⟨0, 0, by omega, rfl, rfl, rfl⟩
    case round =>
      obtain ⟨k, nq, hk, rfl, rfl, HT⟩ := hrel
      by_cases hlt : k < l.length
      · have hlm : k < m.length := by have := HL.out; omega
        obtain ⟨g, off, rfl, hcA⟩ := HA.out (by omega)
        obtain ⟨g', off', rfl, hcB⟩ := HB.out (by omega)
        have c1 := hcA k hlt
        have c2 := hcB k hlm
        have HX : Hid (l[k] = m[k] → l.take (k + 1) = m.take (k + 1)) := by
          intro e
          rw [List.take_succ_eq_append_getElem hlt, List.take_succ_eq_append_getElem hlm, HT.out, e]
        have HY : Hid (l[k] ≠ m[k] → (l == m) = false) := by
          intro e; rw [beq_eq_false_iff_ne]; rintro rfl; exact e rfl
        clear hcA hcB HA HB
        by_cases hq : l[k] = m[k]
        · have d1 : ((l[k].toNat : Int) != m[k].toNat) = false := by rw [hq]; simp
          have HQ := Lib.hid hq
          clear hq
          have i0 : (0 : Int) ≤ (k : Int) := by omega
          have i1 : (k : Int) < (l.length : Int) := by omega
          have i2 : (k : Int) < (m.length : Int) := by omega
          go_wp2
          go_quiet (fail)
          go_wp2
          refine ⟨⟨k + 1, _, by omega, by go_num, rfl, HX.out HQ.out⟩, by simp [intOf]; omega⟩
        · have d1 : ((l[k].toNat : Int) != m[k].toNat) = true := by
            rw [bne_iff_ne]; intro e; exact hq (UInt8.toNat_inj.1 (by omega))
          have HQ := Lib.hid (HY.out hq)
          clear hq
          have i0 : (0 : Int) ≤ (k : Int) := by omega
          have i1 : (k : Int) < (l.length : Int) := by omega
          have i2 : (k : Int) < (m.length : Int) := by omega
          go_wp2
          go_quiet (fail)
          go_wp2
          go_ret
          exact ⟨retB HQ.out.symm, _, World.drewN_drewN _ _ _⟩
      · have HE : Hid ((l == m) = true) := by
          show _ = _
          have e := HT.out
          rw [List.take_of_length_le (by omega), List.take_of_length_le (by have := HL.out; omega)] at e
          rw [e]; simp
        go_wp2
        go_ret
        exact ⟨retB HE.out.symm, nq, rfl⟩
  · have e0 : ((l.length : Int) != m.length) = true := by simp; omega
    have HE : Hid ((l == m) = false) := by
      show _ = _
      rw [beq_eq_false_iff_ne]; rintro rfl; exact hne rfl
    clear hne hA hB
    go_enter Try.func42, Try.ntmps42
    go_wp2
    go_ret
    exact ⟨retB HE.out.symm, 0, rfl⟩
/-- The marks that markByteS lays: k, k + 1, .. as bytes. -/
def marks : Nat → Nat → List UInt8
  | 0, _ => []
  | n + 1, k => UInt8.ofNat k :: marks n (k + 1)
theorem marks_len (n k : Nat) : (marks n k).length = n := by
  induction n generalizing k with
  | zero => rfl
  | succ n ih => simp [marks, ih]
/-- The row's cells: l at ⟨g, off⟩ on, none frozen. -/
def BRow (w : World) (g : Nat) (l : List UInt8) : Prop := ∀ i (h : i < l.length), w.cell? ⟨g, i, none⟩ = some (.int .u8 l[i].toNat) ∧ w.frozen? ⟨g, i, none⟩ = false
def HeldPost (k : Int) (ok : Bool) (n : Nat) (w : World) (e : Ending) (w' : World) : Prop := e = .returned (.int .i64 (if ok then k + n else -1)) ∧ ∃ q, w' = w.drewN q
theorem heldByteS (A : Option Addr) (cA : Nat) (l : List UInt8) (w : World) (hA : BAt w A l) (hl : l.length ≤ 200) (hm : l = marks l.length 1) :
    Calls Try.prog 45 #[.slice A l.length cA, .int .i64 1] w (HeldPost 1 true l.length w) := by
  have HA := Lib.hid hA
  have hmk : ∀ i (h : i < l.length), l[i].toNat = i + 1 := by
    have key : ∀ n k i (h : i < (marks n k).length), n + k ≤ 256 → (marks n k)[i].toNat = (k + i) % 256 := by
      intro n
      induction n with
      | zero => intro k i h; simp [marks] at h
      | succ n ih =>
        intro k i h hb
        cases i with
        | zero => simp [marks]
        | succ i =>
          have := ih (k + 1) i (by simpa [marks] using h) (by omega)
          simp only [marks, List.getElem_cons_succ]
          rw [this]; congr 1; omega
    intro i h
    have e : l[i] = (marks l.length 1)[i]'(by rw [marks_len]; exact h) := by congr 1
    rw [e, key l.length 1 i (by rw [marks_len]; exact h) (by omega)]; omega
  have HM := Lib.hid hmk
  clear hA hm hmk
  go_enter Try.func45, Try.ntmps45
  go_wp2
  go_loopw [1, 5] (fun kx ix wr => ∃ (k q : Nat), k ≤ l.length ∧ ix = .int .i64 k ∧ kx = .int .i64 ((1 : Int) + k) ∧ wr = w.drewN q) (fun _ ix _ => l.length - (intOf ix).toNat)
  case atStart => exact ⟨0, 0, by omega, rfl, rfl, rfl⟩
  case round =>
    obtain ⟨k, q, hk, rfl, rfl, rfl⟩ := hrel
    by_cases hlt : k < l.length
    · obtain ⟨g, off, rfl, hcA⟩ := HA.out (by omega)
      have c1 := hcA k hlt
      have hv := HM.out k hlt
      rw [hv] at c1
      have c2 : w.cell? ⟨g, off + k, none⟩ = some (.int .u8 ((1 : Int) + k)) := by rw [c1]; congr 2; omega
      clear hcA hv c1
      go_wp2
      refine ⟨⟨k + 1, q, by omega, by go_num, by go_num, rfl⟩, by simp [intOf]; omega⟩
    · obtain rfl : k = l.length := by omega
      go_wp2
      go_ret
      exact ⟨rfl, q, rfl⟩
def Marked (g n : Nat) (w : World) (e : Ending) (w' : World) : Prop := e = .returned (.int .i64 ((1 : Int) + n)) ∧ Only g w w' ∧ ∀ i, i < n → w'.cell? ⟨g, i, none⟩ = some (.int .u8 ((i : Int) + 1)) ∧ w'.frozen? ⟨g, i, none⟩ = false
theorem markByteS (g : Nat) (A : Option Addr) (n cA : Nat) (w : World) (hn : n ≤ 200) (hA : 0 < n → A = some ⟨g, 0, none⟩) (hc : ∀ i, i < n → (∃ v, w.cell? ⟨g, i, none⟩ = some v) ∧ w.frozen? ⟨g, i, none⟩ = false) :
    Calls Try.prog 44 #[.slice A n cA, .int .i64 1] w (Marked g n w) := by
  have HA := Lib.hid hA
  have HC := Lib.hid hc
  clear hA hc
  go_enter Try.func44, Try.ntmps44
  go_wp2
  go_loopw [1, 5] (fun kx ix wr => ∃ (k : Nat), k ≤ n ∧ ix = .int .i64 k ∧ kx = .int .i64 ((1 : Int) + k) ∧ Only g w wr ∧ Hid (∀ i, i < n → (∃ v, wr.cell? ⟨g, i, none⟩ = some v) ∧ wr.frozen? ⟨g, i, none⟩ = false ∧ (i < k → wr.cell? ⟨g, i, none⟩ = some (.int .u8 ((i : Int) + 1))))) (fun _ ix _ => n - (intOf ix).toNat)
  case atStart => exact ⟨0, by omega, rfl, rfl, Only.refl _ _, fun i hi => ⟨(HC.out i hi).1, (HC.out i hi).2, fun h => absurd h (by omega)⟩⟩
  case round =>
    obtain ⟨k, hk, rfl, rfl, ho, HW⟩ := hrel
    have HO := Lib.hid ho
    clear ho
    by_cases hlt : k < n
    · obtain rfl := HA.out (by omega)
      obtain ⟨⟨v, hv⟩, hf, _⟩ := HW.out k hlt
      have HV := Lib.hid hv
      have HN : Hid (∀ i, i < n → (∃ v, (wr.setCell ⟨g, k, none⟩ (.int .u8 ((1 : Int) + k))).cell? ⟨g, i, none⟩ = some v) ∧ (wr.setCell ⟨g, k, none⟩ (.int .u8 ((1 : Int) + k))).frozen? ⟨g, i, none⟩ = false ∧ (i < k + 1 → (wr.setCell ⟨g, k, none⟩ (.int .u8 ((1 : Int) + k))).cell? ⟨g, i, none⟩ = some (.int .u8 ((i : Int) + 1)))) := by
        intro i hi
        obtain ⟨⟨u, hu⟩, hfi, hm⟩ := HW.out i hi
        refine ⟨?_, by rw [World.frozen?_setCell]; exact hfi, fun hik => ?_⟩
        · by_cases e : i = k
          · subst e; exact ⟨_, World.cell?_setCell_same _ _ _ hv⟩
          · exact ⟨u, by rw [World.cell?_setCell_other _ _ _ _ (ne_off (by omega))]; exact hu⟩
        · by_cases e : i = k
          · subst e; rw [World.cell?_setCell_same _ _ _ hv]; congr 2; omega
          · rw [World.cell?_setCell_other _ _ _ _ (ne_off (by omega))]; exact hm (by omega)
      have HS : Hid (Only g w (wr.setCell ⟨g, k, none⟩ (.int .u8 ((1 : Int) + k)))) := HO.out.trans (Only.set _ _ _)
      go_wp2
      refine ⟨⟨k + 1, by omega, by go_num, by go_num, HS.out, HN.out⟩, by simp [intOf]; omega⟩
    · obtain rfl : k = n := by omega
      go_wp2
      go_ret
      exact ⟨rfl, HO.out, fun i hi => ⟨(HW.out i hi).2.2 hi, (HW.out i hi).2.1⟩⟩
end Go.Proofs.Ytlkdcijacjdneaa.Val
