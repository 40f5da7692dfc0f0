/- RowFrom (spec). -/
import Derived.Test.YtlkdcijacjdneaaRowR
import Derived.Test.YtlkdcijacjdneaaFromUO
namespace Go.Proofs.Ytlkdcijacjdneaa.Val
open Go.RowKit
set_option linter.unusedVariables false
set_option maxHeartbeats 4000000 in
theorem rowFromS (A : Option Addr) (g cap : Nat) (l : List UInt8) (w : World) (h : RowO w g 0 A l) (hl : l.length ≤ 1048576) (hc : l.length ≤ cap) (hc2 : cap ≤ maxLen) : Calls Try.prog 35 #[.slice A l.length cap] w (RPost (rfO l) w) := by
  by_cases h0 : l.length = 0
  · have hr : rfO l = none := by unfold rfO; rw [if_pos (.inl h0)]
    rw [hr]
    have e0 : ((l.length : Int) == 0) = true := by simp [h0]
    clear h hr
    go_enter Try.func35, Try.ntmps35
    go_wp2
    exact bodyPost_ret (v := .tuple #[.slice (some ⟨w.heap.size, 0, none⟩) 0 0, .int .i64 0]) (by simp [results, Try.results35, go_sem]) rfl ⟨_, rfl, own_empty3 59 3 rfl (Nat.le_refl _), (Below.refl _ _).alloc (Nat.le_refl _) _⟩
  · obtain ⟨i0, hi, iz0, iz1, iz2⟩ := info_parts infoV
    have e0 : ((l.length : Int) == 0) = false := by rw [beq_eq_false_iff_ne]; omega
    have hp : (0 : Int) < l.length := by omega
    obtain rfl := h.ad (by omega)
    have H := Lib.hid h
    have c0 := h.get0 (by omega)
    have hg := h.lt (by omega)
    obtain ⟨y0, y1⟩ := bAt_bd l 0
    by_cases h4 : 4 < bAt l 0
    · have hr : rfO l = none := by unfold rfO; rw [if_pos (.inr h4)]
      rw [hr]
      obtain ⟨y, hy⟩ : ∃ y, bAt l 0 = y := ⟨_, rfl⟩
      rw [hy] at c0 h4 y0 y1
      clear h hr hy
      go_enter Try.func35, Try.ntmps35
      go_wp2
      exact bodyPost_ret (v := .tuple #[.slice (some ⟨w.heap.size, 0, none⟩) 0 0, .int .i64 0]) (by simp [results, Try.results35, go_sem]) rfl ⟨_, rfl, own_empty3 59 3 rfl (Nat.le_refl _), (Below.refl _ _).alloc (Nat.le_refl _) _⟩
    · have HL := Lib.hid (left_start (by omega) (show bAt l 0 ≤ 4 by omega))
      obtain ⟨N, hN⟩ : ∃ N : Nat, bAt l 0 = N := ⟨(bAt l 0).toNat, by omega⟩
      rw [hN, Int.toNat_natCast] at HL
      rw [hN] at c0 h4 y0 y1
      obtain ⟨R, hR⟩ : ∃ R, rfO l = R := ⟨_, rfl⟩
      have HR := Lib.hid hR
      rw [hR]
      have hN4 : (N : Int) ≤ 4 := by omega
      clear h hR hN h4
      go_enter Try.func35, Try.ntmps35
      go_wp2
      go_loopw [4, 5, 6] (fun vx ex kx wr => ∃ (vs : List VT) (e c : Nat) (Av : Option Addr), vs.length ≤ N ∧ vx = .slice Av vs.length c ∧ ex = .int .i64 e ∧ kx = .int .i64 vs.length ∧ e ≤ l.length ∧ Hid (Left l (N - vs.length) vs e) ∧ Hid (Below w.heap.size w wr) ∧ Hid (wr.ownsRow w.heap.size 59 3 (.slice Av vs.length c) vs.length (flatV vs))) (fun _ _ kx _ => N - (intOf kx).toNat)
      case atStart => exact ⟨[], 1, 0, _, Nat.zero_le _, rfl, rfl, rfl, by omega, HL, (Below.refl _ _).alloc (Nat.le_refl _) _, own_empty3 59 3 rfl (Nat.le_refl _)⟩
      case round =>
        clear HL
        obtain ⟨vs, e, c, Av, hvN, rfl, rfl, rfl, hel, HL, HB, OWN⟩ := hrel
        have cr := H.out.get0 (by omega)
        have hB0 := HB.out.size
        have cw : wr.cell? ⟨g, 0, none⟩ = some (.int .u8 N) := (HB.out.cell (p := ⟨g, 0, none⟩) hg).trans c0
        have w0' : IntKind.i64.wrap (N : Int) = N := IntWalk.i64_in _ (by omega)
        by_cases hlt : vs.length < N
        · have i0' : (vs.length : Int) < (N : Int) := by omega
          have i1' : (e : Int) ≤ (l.length : Int) := by omega
          have i2' : (e : Int) ≤ (cap : Int) := by omega
          have i3' : (l.length : Int) ≤ (cap : Int) := by omega
          obtain ⟨n, hn⟩ : ∃ n, N - vs.length = n + 1 := ⟨N - vs.length - 1, by omega⟩
          rw [hn] at HL
          have hnn : N - (vs.length + 1) = n := by omega
          have HO := Lib.hid (H.out.below HB.out)
          obtain ⟨B, c', hB', hBc, hc3⟩ : ∃ (B : Option Addr) (c' : Nat), (e < l.length → B = some ⟨g, e, none⟩) ∧ ((cap = e → B = some ⟨g, 0, none⟩ ∧ c' = 0) ∧ (cap ≠ e → B = some ⟨g, e, none⟩ ∧ c' = cap - e)) ∧ l.length - e ≤ c' := by
            by_cases hce : cap = e
            · exact ⟨some ⟨g, 0, none⟩, 0, fun h => absurd h (by omega), ⟨fun _ => ⟨rfl, rfl⟩, fun h => absurd hce h⟩, by omega⟩
            · exact ⟨some ⟨g, e, none⟩, cap - e, fun _ => rfl, ⟨fun h => absurd h hce, fun _ => ⟨rfl, rfl⟩⟩, by omega⟩
          have VF := Lib.hid (fun W (hW : RowO W g e B (l.drop e)) => valueFromSO B g e c' (l.drop e) W hW (by simp; omega) (by simp; omega) (by
            rcases Nat.decEq cap e with h | h
            · rw [(hBc.2 h).2]; omega
            · rw [(hBc.1 h).2]; exact Nat.zero_le _))
          rw [List.length_drop] at VF
          have HD := Lib.hid (HO.out.drop e B hB')
          rcases hf : fromO (l.drop e) with _ | ⟨k, x, s, m⟩
          · have hRn := left_none HL.out hf
            rw [HR.out] at hRn
            subst hRn
            rw [hf, fV_none] at VF
            clear hf HL HR HO
            by_cases hce : cap = e
            · obtain ⟨rfl, rfl⟩ := hBc.1 hce
              obtain rfl : e = l.length := by omega
              obtain rfl : cap = l.length := hce
              rw [Nat.sub_self] at VF
              clear hBc hB' i1' i2' i3' hc hc3
              have i1' : (l.length : Int) ≤ (l.length : Int) := Int.le_refl _
              go_wp2_with (go_at_call 50; (with_reducible refine (VF.out _ HD.out).mono ?_); rintro e9 w1 ⟨rfl, hb1⟩; have HB1 := Lib.hid (HB.out.trans (hb1.mono hB0)); clear hb1)
              exact bodyPost_ret (v := .tuple #[.slice (some ⟨w1.heap.size + 1, 0, none⟩) 0 0, .int .i64 0]) (by simp [results, Try.results35, go_sem]) rfl ⟨_, rfl, own_empty3 59 3 (by simp) (by have := HB1.out.size; omega), (HB1.out.alloc HB1.out.size _).alloc (by have := HB1.out.size; simp; omega) _⟩
            · obtain ⟨rfl, rfl⟩ := hBc.2 hce
              clear hBc hB'
              go_wp2_with (go_at_call 50; (with_reducible refine (VF.out _ HD.out).mono ?_); rintro e9 w1 ⟨rfl, hb1⟩; have HB1 := Lib.hid (HB.out.trans (hb1.mono hB0)); clear hb1)
              exact bodyPost_ret (v := .tuple #[.slice (some ⟨w1.heap.size + 1, 0, none⟩) 0 0, .int .i64 0]) (by simp [results, Try.results35, go_sem]) rfl ⟨_, rfl, own_empty3 59 3 (by simp) (by have := HB1.out.size; omega), (HB1.out.alloc HB1.out.size _).alloc (by have := HB1.out.size; simp; omega) _⟩
          · have hlv := left_some HL.out hf
            obtain ⟨-, -, hm0, hml⟩ := from_some hf
            rw [List.length_drop] at hml
            have hce : cap ≠ e := by omega
            obtain ⟨rfl, rfl⟩ := hBc.2 hce
            obtain ⟨S0, hS0⟩ : ∃ S0 : ByteArray, (⟨s.toArray⟩ : ByteArray) = S0 := ⟨_, rfl⟩
            rw [hf, fV_some, hS0] at VF
            rw [hS0, ← hnn] at hlv
            have HLV := Lib.hid hlv
            have em : ((m : Int) == 0) = false := by rw [beq_eq_false_iff_ne]; omega
            have hem : (e : Int) + m ≤ 1048576 := by omega
            clear hBc hB' hf hlv hS0 HL HO hn hnn hce
            go_wp2_with (first
              | (go_at_call 50; (with_reducible refine (VF.out _ HD.out).mono ?_); rintro e9 w1 ⟨rfl, hb1⟩; have HB1 := Lib.hid (HB.out.trans (hb1.mono hB0)); have OWN1 := Lib.hid (own_below OWN.out hb1); clear hb1)
              | (at_builtin; refine wpList_append_own _ rfl (.tmp 39) (.tmp 41) 28 rfl w.heap.size 59 i0 (.agg #[.int .i64 0, .int .i64 0, .string ⟨#[]⟩]) 3 32 Try.underlying28 hi iz0 iz1 iz2 rfl (by decide) (.slice Av vs.length c) vs.length (flatV vs) rfl (by repeat (with_reducible first | exact OWN1.out | apply World.ownsRow.alloc | apply own_drew)) _ _ _ (flatV [(k, x, S0)]) rfl rfl (news_new (by first | rfl | simp)) (ones_v _) (by unfold maxLen; omega) (by omega) (by have := HB1.out.size; first | omega | (simp; omega)) ?_; intro v2 w2 hown2 hgr2 _; have HB2 := Lib.hid (Below.grown (B := w.heap.size) (a := w) (by repeat (with_reducible first | exact HB1.out | (refine Below.alloc ?_ (by have := HB1.out.size; first | omega | (simp; omega)) _))) hgr2 (by have := HB1.out.size; first | omega | (simp; omega)) (fun b hb => (OWN1.out.lt b hb).1)); obtain ⟨g2, A2, c2, rfl, -, -, -, -, -⟩ := fl_of_own hown2; have OWN2 := Lib.hid hown2; clear hown2 hgr2))
            refine ⟨⟨vs ++ [(k, x, S0)], e + m, c2, A2, by simp; omega, by simp, by go_num, by simp, by omega, ?_, HB2, ?_⟩, by simp [intOf]; omega⟩
            · have := HLV.out
              rw [List.length_append]
              exact this
            · have := OWN2.out
              rw [flatV_app, List.length_append]
              exact this
        · have hvN2 : vs.length = N := by omega
          rw [show N - vs.length = 0 by omega] at HL
          have hR2 := left_end HL.out
          rw [HR.out] at hR2
          subst hR2
          have i0' : ¬ (vs.length : Int) < (N : Int) := by omega
          clear hvN2 hlt hvN
          go_wp2
          exact bodyPost_ret (v := .tuple #[.slice Av vs.length c, .int .i64 e]) (by simp [results, Try.results35, go_sem]) rfl ⟨_, rfl, OWN.out, HB.out⟩
end Go.Proofs.Ytlkdcijacjdneaa.Val
