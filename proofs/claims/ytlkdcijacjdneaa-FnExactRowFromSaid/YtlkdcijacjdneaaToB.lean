/- toByteS: a copy of a row of bytes. -/
import Derived.Test.YtlkdcijacjdneaaRow
namespace Go.Proofs.Ytlkdcijacjdneaa.Val
open Go.RowKit
set_option linter.unusedVariables false
theorem bat_of_row {w : World} {a : Option Addr} {len cap : Nat} {zs : List Int} (h : IsRow .u8 w a len cap zs) : ∃ l : List UInt8, l.length = len ∧ BAt w a l := by
  by_cases h0 : 0 < len
  · obtain ⟨b, off, rfl, hb, hx⟩ := row_at h h0
    refine ⟨(List.range len).map (fun i => UInt8.ofNat (match w.cell? ⟨b, off + i, none⟩ with | some (.int _ x) => x.toNat | _ => 0)), by simp, fun _ => ⟨b, off, rfl, fun i hi => ?_⟩⟩
    simp only [List.length_map, List.length_range] at hi
    obtain ⟨x, x0, x1, hc⟩ := hx i hi
    simp only [List.getElem_map, List.getElem_range, hc]
    rw [UInt8.toNat_ofNat']
    congr 2
    omega
  · exact ⟨[], by simp; omega, fun h => absurd h (by simp)⟩
/-- A copy: a row of its own. -/
def Copied (l : List UInt8) (w : World) (e : Ending) (w' : World) : Prop := ∃ (g c : Nat), e = .returned (.slice (some ⟨g, 0, none⟩) l.length c) ∧ RowAt w' g (some ⟨g, 0, none⟩) l ∧ l.length ≤ c ∧ c ≤ maxLen ∧ w.heap.size ≤ g ∧ Below w.heap.size w w'
theorem toByteS (A : Option Addr) (cap : Nat) (l : List UInt8) (w : World) (h : BAt w A l) (hl : l.length ≤ 1048576) : Calls Try.prog 46 #[.slice A l.length cap] w (Copied l w) := by
  obtain ⟨i0, hi, hz0, hz1', hz2⟩ := info_parts info5
  have HA := Lib.hid h
  have HLT : Hid (0 < l.length → ∀ g off, A = some ⟨g, off, none⟩ → g < w.heap.size) := by
    intro h0 g off e
    obtain ⟨g', off', e', hc⟩ := h h0
    rw [e] at e'
    obtain ⟨rfl, rfl⟩ : g = g' ∧ off = off' := by simpa using e'
    exact World.block_lt_of_cell? w _ (hc 0 h0)
  clear h
  go_enter Try.func46, Try.ntmps46
  go_wp2_with (at_make; refine wpList_make_full w rfl _ _ 22 rfl w.heap.size 5 i0 (.int .u8 0) 1 Try.underlying22 hi hz0 hz1' .i64 .i64 l.length l.length l.length rfl rfl rfl rfl (by rw [hz2]; omega) (by unfold maxLen; omega) (Nat.le_refl _) ?_; intro w0 hown hgr)
  have HB0 : Hid (Below w.heap.size w w0) := Below.grown (Below.refl _ _) hgr (Nat.le_refl _) (by intro k hk; cases hk)
  have HC0 : Hid (∀ i, i < l.length → (∃ v, w0.cell? ⟨w.heap.size, i, none⟩ = some v) ∧ w0.frozen? ⟨w.heap.size, i, none⟩ = false) := by
    intro i hi
    refine ⟨?_, hown.frozenAt i⟩
    rw [hown.cellAt i (by omega)]
    have hls : (madeCells (Value.int .u8 0).cells (l.length * 1)).toList.length = l.length := by simp [madeCells]
    rw [List.getElem?_eq_getElem (by rw [hls]; exact hi)]
    exact ⟨_, rfl⟩
  have hz0s := hgr.size
  clear hown hgr
  go_wp2
  go_loopw [4] (fun ix wr => ∃ k : Nat, k ≤ l.length ∧ ix = .int .i64 k ∧ Only w.heap.size w0 wr ∧ Hid (∀ i (hi : i < l.length), (∃ v, wr.cell? ⟨w.heap.size, i, none⟩ = some v) ∧ wr.frozen? ⟨w.heap.size, i, none⟩ = false ∧ (i < k → wr.cell? ⟨w.heap.size, i, none⟩ = some (.int .u8 l[i].toNat)))) (fun ix _ => l.length - (intOf ix).toNat)
  case atStart => exact ⟨0, by omega, rfl, Only.refl _ _, fun i hi => ⟨(HC0.out i hi).1, (HC0.out i hi).2, fun h => absurd h (by omega)⟩⟩
  case round =>
    obtain ⟨k, hk, rfl, ho, HW⟩ := hrel
    have HO := Lib.hid ho
    have hzr := ho.size
    clear ho
    by_cases hlt : k < l.length
    · obtain ⟨b, off, rfl, hc⟩ := HA.out (by omega)
      have hbl := HLT.out (by omega) b off rfl
      have c1 : wr.cell? ⟨b, off + k, none⟩ = some (.int .u8 l[k].toNat) := by
        rw [HO.out.cell b _ (by omega) (by omega), HB0.out.cell (p := ⟨b, off + k, none⟩) hbl]
        exact hc k hlt
      obtain ⟨⟨v, hv⟩, hf, _⟩ := HW.out k hlt
      have HV := Lib.hid hv
      obtain ⟨X, hX⟩ : ∃ X : Int, (l[k].toNat : Int) = X := ⟨_, rfl⟩
      have HN : Hid (∀ i (hi : i < l.length), (∃ v, (wr.setCell ⟨w.heap.size, k, none⟩ (.int .u8 X)).cell? ⟨w.heap.size, i, none⟩ = some v) ∧ (wr.setCell ⟨w.heap.size, k, none⟩ (.int .u8 X)).frozen? ⟨w.heap.size, i, none⟩ = false ∧ (i < k + 1 → (wr.setCell ⟨w.heap.size, k, none⟩ (.int .u8 X)).cell? ⟨w.heap.size, i, none⟩ = some (.int .u8 l[i].toNat))) := by
        intro i hi
        obtain ⟨⟨u, hu⟩, hfi, hm⟩ := HW.out i hi
        refine ⟨?_, by rw [World.frozen?_setCell]; exact hfi, fun hik => ?_⟩
        · by_cases e : i = k
          · subst e; exact ⟨_, World.cell?_setCell_same _ _ _ hv⟩
          · exact ⟨u, by rw [World.cell?_setCell_other _ _ _ _ (ne_off (by omega))]; exact hu⟩
        · by_cases e : i = k
          · subst e; rw [World.cell?_setCell_same _ _ _ hv, hX]
          · rw [World.cell?_setCell_other _ _ _ _ (ne_off (by omega))]; exact hm (by omega)
      have HS : Hid (Only w.heap.size w0 (wr.setCell ⟨w.heap.size, k, none⟩ (.int .u8 X))) := HO.out.trans (Only.set _ _ _)
      rw [hX] at c1
      clear hc hX hv
      have hne : ¬ (b = w.heap.size) := by omega
      have hv := HV.out
      have i0' : (0 : Int) ≤ (k : Int) := by omega
      have i1' : (k : Int) < (l.length : Int) := by omega
      go_wp2
      exact ⟨⟨k + 1, by omega, by go_num, HS.out, HN.out⟩, by simp [intOf]; omega⟩
    · obtain rfl : k = l.length := by omega
      go_wp2
      go_ret
      refine ⟨w.heap.size, l.length, rfl, ⟨fun _ => rfl, fun i hi => (HW.out i hi).2.2 hi, fun i hi => (HW.out i hi).2.1⟩, Nat.le_refl _, by unfold maxLen; omega, Nat.le_refl _, ?_⟩
      exact HB0.out.trans (HO.out.below (Nat.le_refl _) (by omega))
end Go.Proofs.Ytlkdcijacjdneaa.Val
