/- Drawn batches: DrawBatchOk, DrawBatchRows. -/
import Derived.Test.YtjidkjnlnenmbaaDrawB9
namespace Go.Proofs.Ytjidkjnlnenmbaa.Val
open Go.RowKit
set_option linter.unusedVariables false
set_option linter.unusedSimpArgs false
set_option maxRecDepth 8000
/-- A batch was drawn from the code. -/
def DrewB9 (w : World) (e : Ending) (w' : World) : Prop := ∃ (A1 : Option Addr) (c1 g1 : Nat) (A2 : Option Addr) (c2 g2 : Nat) (cols : List RT) (bs : List Bool), e = .returned (.agg #[.slice A1 cols.length c1, .slice A2 bs.length c2]) ∧ BatR w' A1 g1 0 A2 g2 0 cols bs ∧ Ok2 cols ∧ cols.length ≤ 6 ∧ bs.length ≤ 5 ∧ Below w.heap.size w w'
set_option maxHeartbeats 8000000 in
theorem drawBatchOk (a : Option Addr) (len cap : Nat) (zs : List Int) (w : World) (h : IsRow .u8 w a len cap zs) : Calls Try.prog 43 #[.slice a len cap] w (DrewB9 w) := by
  have HI := Lib.hid h
  clear h
  have HY0 : Hid (BoxW w.heap.size (.slice none 0 0) (.slice none 0 0) (w.alloc (.cells #[.slice none 0 0, .slice none 0 0] 30))) := ⟨⟨by simp [go_sem], by simp [go_sem]⟩, by simp [go_sem], by simp [go_sem]⟩
  go_enter Try.func43, Try.ntmps43
  go_wp2_with (first
    | (go_at_call 89; (with_reducible refine (l20Open _ _ _ zs _ (row_alloc HI.out _)).mono ?_); rintro e wo ⟨r, rfl, hr, hb⟩; go_loud (have HB0 := Lib.hid (((Below.refl w.heap.size w).alloc (Nat.le_refl _) (.cells #[.slice none 0 0, .slice none 0 0] 30)).trans (hb.mono (by simp))); have HR := Lib.hid hr; have hrge := hr.ge; have hrlt := hr.lt; have HY := Lib.hid (HY0.out.below hb); simp at hrge; clear hb hr HY0 HI))
    | (go_at_call 88; (with_reducible refine (l20Batch _ r 3 0 _ HR.out (by omega) (by omega)).mono ?_); rintro e w2 ⟨gc, cc, cs, cols, bs, v, v2, q, rfl, -, -, hfin, hok, h6, h5, -, ho, -⟩; go_loud (obtain ⟨A1, c1, g1, A2, c2, g2, rfl, rfl, -⟩ := hfin w2 (fun _ _ _ => rfl); have HY2 := Lib.hid (HY.out.only (by omega) ho); have HB2 := Lib.hid (HB0.out.trans (ho.below (by omega) HB0.out.size)); have HFN := Lib.hid hfin; have HOK := Lib.hid hok; have hsz := ho.size; have hyo := HY.out.lt; have hy2 := HY2.out.lt; clear hfin hok ho HY HB0 HR; obtain ⟨⟨y0, y1⟩, yf0, yf1⟩ := HY2.out)))
  have YF := Lib.hid (((HY2.out.set0 (.slice A1 cols.length c1)).set1 (.slice A2 bs.length c2)).alloc (.cells #[.slice A1 cols.length c1, .slice A2 bs.length c2] 30))
  have BF := Lib.hid (((HB2.out.setCell (p := ⟨w.heap.size, 0, none⟩) (Nat.le_refl _) (.slice A1 cols.length c1)).setCell (p := ⟨w.heap.size, 1, none⟩) (Nat.le_refl _) (.slice A2 bs.length c2)).alloc (by simp [World.setCell]; omega) (.cells #[.slice A1 cols.length c1, .slice A2 bs.length c2] 30))
  have HK := Lib.hid (HFN.out ((((w2.setCell ⟨w.heap.size, 0, none⟩ (.slice A1 cols.length c1)).setCell ⟨w.heap.size, 1, none⟩ (.slice A2 bs.length c2))).alloc (.cells #[.slice A1 cols.length c1, .slice A2 bs.length c2] 30)) (fun k h1 h2 => ((Below.heap_alloc _ _ _ (by simp [World.setCell]; omega)).trans (hsetNe (by omega))).trans (hsetNe (by omega))))
  obtain ⟨Wx, hWx⟩ : ∃ Z, (((w2.setCell ⟨w.heap.size, 0, none⟩ (.slice A1 cols.length c1)).setCell ⟨w.heap.size, 1, none⟩ (.slice A2 bs.length c2))).alloc (.cells #[.slice A1 cols.length c1, .slice A2 bs.length c2] 30) = Z := ⟨_, rfl⟩
  rw [hWx] at YF BF HK ⊢
  have x0 : Wx.cell? ⟨w.heap.size, 0, none⟩ = some (.slice A1 cols.length c1) := YF.out.1.1
  have x1 : Wx.cell? ⟨w.heap.size, 1, none⟩ = some (.slice A2 bs.length c2) := YF.out.1.2
  obtain ⟨A1', c1', g1', A2', c2', g2', hv1, hv2, hbr⟩ := HK.out
  injection hv1 with e1 e2 e3
  injection hv2 with e4 e5 e6
  subst e1 e4
  exact bodyPost_ret (v := .agg #[.slice A1 cols.length c1, .slice A2 bs.length c2]) (by simp [results, Try.results43, go_sem, x0, x1]) rfl ⟨A1, c1, g1', A2, c2, g2', cols, bs, rfl, hbr, HOK.out, h6, h5, BF.out⟩
set_option maxHeartbeats 8000000 in
theorem drawBatchRows (a : Option Addr) (len cap : Nat) (zs : List Int) (w : World) (h : IsRow .u8 w a len cap zs) : Calls Try.prog 45 #[.slice a len cap] w (DrewB9 w) := by
  have HI := Lib.hid h
  clear h
  have HY0 : Hid (BoxW w.heap.size (.slice none 0 0) (.slice none 0 0) (w.alloc (.cells #[.slice none 0 0, .slice none 0 0] 30))) := ⟨⟨by simp [go_sem], by simp [go_sem]⟩, by simp [go_sem], by simp [go_sem]⟩
  go_enter Try.func45, Try.ntmps45
  go_wp2_with (first
    | (go_at_call 89; (with_reducible refine (l20Open _ _ _ zs _ (row_alloc HI.out _)).mono ?_); rintro e wo ⟨r, rfl, hr, hb⟩; go_loud (have HB0 := Lib.hid (((Below.refl w.heap.size w).alloc (Nat.le_refl _) (.cells #[.slice none 0 0, .slice none 0 0] 30)).trans (hb.mono (by simp))); have HR := Lib.hid hr; have hrge := hr.ge; have hrlt := hr.lt; have HY := Lib.hid (HY0.out.below hb); simp at hrge; clear hb hr HY0 HI))
    | (go_at_call 88; (with_reducible refine (l20Batch _ r 9 0 _ HR.out (by omega) (by omega)).mono ?_); rintro e w2 ⟨gc, cc, cs, cols, bs, v, v2, q, rfl, -, -, hfin, hok, h6, h5, -, ho, -⟩; go_loud (obtain ⟨A1, c1, g1, A2, c2, g2, rfl, rfl, -⟩ := hfin w2 (fun _ _ _ => rfl); have HY2 := Lib.hid (HY.out.only (by omega) ho); have HB2 := Lib.hid (HB0.out.trans (ho.below (by omega) HB0.out.size)); have HFN := Lib.hid hfin; have HOK := Lib.hid hok; have hsz := ho.size; have hyo := HY.out.lt; have hy2 := HY2.out.lt; clear hfin hok ho HY HB0 HR; obtain ⟨⟨y0, y1⟩, yf0, yf1⟩ := HY2.out)))
  have YF := Lib.hid (((HY2.out.set0 (.slice A1 cols.length c1)).set1 (.slice A2 bs.length c2)).alloc (.cells #[.slice A1 cols.length c1, .slice A2 bs.length c2] 30))
  have BF := Lib.hid (((HB2.out.setCell (p := ⟨w.heap.size, 0, none⟩) (Nat.le_refl _) (.slice A1 cols.length c1)).setCell (p := ⟨w.heap.size, 1, none⟩) (Nat.le_refl _) (.slice A2 bs.length c2)).alloc (by simp [World.setCell]; omega) (.cells #[.slice A1 cols.length c1, .slice A2 bs.length c2] 30))
  have HK := Lib.hid (HFN.out ((((w2.setCell ⟨w.heap.size, 0, none⟩ (.slice A1 cols.length c1)).setCell ⟨w.heap.size, 1, none⟩ (.slice A2 bs.length c2))).alloc (.cells #[.slice A1 cols.length c1, .slice A2 bs.length c2] 30)) (fun k h1 h2 => ((Below.heap_alloc _ _ _ (by simp [World.setCell]; omega)).trans (hsetNe (by omega))).trans (hsetNe (by omega))))
  obtain ⟨Wx, hWx⟩ : ∃ Z, (((w2.setCell ⟨w.heap.size, 0, none⟩ (.slice A1 cols.length c1)).setCell ⟨w.heap.size, 1, none⟩ (.slice A2 bs.length c2))).alloc (.cells #[.slice A1 cols.length c1, .slice A2 bs.length c2] 30) = Z := ⟨_, rfl⟩
  rw [hWx] at YF BF HK ⊢
  have x0 : Wx.cell? ⟨w.heap.size, 0, none⟩ = some (.slice A1 cols.length c1) := YF.out.1.1
  have x1 : Wx.cell? ⟨w.heap.size, 1, none⟩ = some (.slice A2 bs.length c2) := YF.out.1.2
  obtain ⟨A1', c1', g1', A2', c2', g2', hv1, hv2, hbr⟩ := HK.out
  injection hv1 with e1 e2 e3
  injection hv2 with e4 e5 e6
  subst e1 e4
  exact bodyPost_ret (v := .agg #[.slice A1 cols.length c1, .slice A2 bs.length c2]) (by simp [results, Try.results45, go_sem, x0, x1]) rfl ⟨A1, c1, g1', A2, c2, g2', cols, bs, rfl, hbr, HOK.out, h6, h5, BF.out⟩
end Go.Proofs.Ytjidkjnlnenmbaa.Val
