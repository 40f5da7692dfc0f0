/- RowFrom: the plain function, and what impl's leaves. -/
import Derived.Test.YtlkdcijacjdneaaFromIO
import Derived.Test.YtlkdcijacjdneaaRowB
import Derived.Test.YtlkdcijacjdneaaWCO
namespace Go.Proofs.Ytlkdcijacjdneaa.Val
open Go.RowKit
set_option linter.unusedVariables false
def goV : Nat → List UInt8 → Option (List VT × Nat)
  | 0, _ => some ([], 0)
  | n + 1, l => match fromO l with
    | none => none
    | some (k, x, s, m) => match goV n (l.drop m) with
      | none => none
      | some (vs, e) => some ((k, x, ⟨s.toArray⟩) :: vs, m + e)
def rfO (l : List UInt8) : Option (List VT × Nat) :=
  if l.length = 0 ∨ 4 < bAt l 0 then none else (goV (bAt l 0).toNat (l.drop 1)).map fun r => (r.1, 1 + r.2)
def rV (o : Option (List VT × Nat)) : List VT := match o with | none => [] | some r => r.1
def rN (o : Option (List VT × Nat)) : Nat := match o with | none => 0 | some r => r.2
/-- What is left to be read, behind j values and e bytes. -/
def Left (l : List UInt8) (n : Nat) (vs : List VT) (e : Nat) : Prop := rfO l = (goV n (l.drop e)).map fun r => (vs ++ r.1, e + r.2)
theorem left_start {l : List UInt8} (h0 : 0 < l.length) (h4 : bAt l 0 ≤ 4) : Left l (bAt l 0).toNat [] 1 := by
  unfold Left rfO
  rw [if_neg (by omega)]
  simp
theorem left_none {l : List UInt8} {n : Nat} {vs : List VT} {e : Nat} (h : Left l (n + 1) vs e) (hf : fromO (l.drop e) = none) : rfO l = none := by
  rw [h, goV, hf]; rfl
theorem left_some {l : List UInt8} {n : Nat} {vs : List VT} {e : Nat} {k x : Int} {s : List UInt8} {m : Nat} (h : Left l (n + 1) vs e) (hf : fromO (l.drop e) = some (k, x, s, m)) : Left l n (vs ++ [(k, x, ⟨s.toArray⟩)]) (e + m) := by
  unfold Left at h ⊢
  rw [h, goV, hf]
  simp only [List.drop_drop]
  rcases goV n (l.drop (e + m)) with _ | ⟨us, d⟩
  · rfl
  · simp [Nat.add_assoc]
theorem left_end {l : List UInt8} {vs : List VT} {e : Nat} (h : Left l 0 vs e) : rfO l = some (vs, e) := by
  rw [h]; simp [goV]
/-- A row of values of one's own, and a number. -/
def RPost (o : Option (List VT × Nat)) (w : World) (e : Ending) (w' : World) : Prop := ∃ v, e = .returned (.tuple #[v, .int .i64 (rN o)]) ∧ w'.ownsRow w.heap.size 59 3 v (rV o).length (flatV (rV o)) ∧ Below w.heap.size w w'
def lenOf : Value → Nat
  | .slice _ n _ => n
  | _ => 0
theorem RowO.drop {w : World} {g : Nat} {A : Option Addr} {l : List UInt8} (h : RowO w g 0 A l) (e : Nat) (B : Option Addr) (hB : e < l.length → B = some ⟨g, e, none⟩) : RowO w g e B (l.drop e) :=
  ⟨fun h0 => hB (by simp at h0; omega), fun i hi => by
    simp at hi
    rw [List.getElem_drop]
    have := h.c (e + i) (by omega)
    rwa [Nat.zero_add] at this⟩
set_option maxHeartbeats 4000000 in
theorem rowFromI (A : Option Addr) (g cap : Nat) (l : List UInt8) (w : World) (h : RowO w g 0 A l) (hl : l.length ≤ 1048576) (hc : l.length ≤ cap) (hc2 : cap ≤ maxLen) : Calls Try.prog 33 #[.slice A l.length cap] w (RPost (rfO l) w) := by
  by_cases h0 : l.length = 0
  · have hr : rfO l = none := by unfold rfO; rw [if_pos (.inl h0)]
    rw [hr]
    have e0 : ((l.length : Int) == 0) = true := by simp [h0]
    clear h hr
    go_enter Try.func33, Try.ntmps33
    go_wp2
    exact bodyPost_ret (v := .tuple #[.slice none 0 0, .int .i64 0]) (by simp [results, Try.results33, go_sem]) rfl ⟨_, rfl, World.ownsRow_nil _ _ _ _, Below.refl _ _⟩
  · obtain ⟨i0, hi, iz0, iz1, iz2⟩ := info_parts infoV
    have e0 : ((l.length : Int) == 0) = false := by rw [beq_eq_false_iff_ne]; omega
    have hp : (0 : Int) < l.length := by omega
    obtain rfl := h.ad (by omega)
    have H := Lib.hid h
    have c0 := h.get0 (by omega)
    have hg := h.lt (by omega)
    obtain ⟨y0, y1⟩ := bAt_bd l 0
    by_cases h4 : 4 < bAt l 0
    · have hr : rfO l = none := by unfold rfO; rw [if_pos (.inr h4)]
      rw [hr]
      obtain ⟨y, hy⟩ : ∃ y, bAt l 0 = y := ⟨_, rfl⟩
      rw [hy] at c0 h4 y0 y1
      clear h hr hy
      go_enter Try.func33, Try.ntmps33
      go_wp2
      exact bodyPost_ret (v := .tuple #[.slice none 0 0, .int .i64 0]) (by simp [results, Try.results33, go_sem]) rfl ⟨_, rfl, World.ownsRow_nil _ _ _ _, Below.refl _ _⟩
    · have HL := Lib.hid (left_start (by omega) (show bAt l 0 ≤ 4 by omega))
      obtain ⟨N, hN⟩ : ∃ N : Nat, bAt l 0 = N := ⟨(bAt l 0).toNat, by omega⟩
      rw [hN, Int.toNat_natCast] at HL
      rw [hN] at c0 h4 y0 y1
      obtain ⟨R, hR⟩ : ∃ R, rfO l = R := ⟨_, rfl⟩
      have HR := Lib.hid hR
      rw [hR]
      have hN4 : (N : Int) ≤ 4 := by omega
      clear h hR hN h4
      go_enter Try.func33, Try.ntmps33
      go_wp2
      go_loopw [4, 5] (fun vx ex wr => ∃ (vs : List VT) (e c : Nat) (Av : Option Addr), vs.length ≤ N ∧ vx = .slice Av vs.length c ∧ ex = .int .i64 e ∧ e ≤ l.length ∧ Hid (Left l (N - vs.length) vs e) ∧ Hid (Below w.heap.size w wr) ∧ Hid (wr.ownsRow w.heap.size 59 3 (.slice Av vs.length c) vs.length (flatV vs))) (fun vx _ _ => N - lenOf vx)
      case atStart => exact ⟨[], 1, 0, _, Nat.zero_le _, rfl, rfl, by omega, HL, (Below.refl _ _).alloc (Nat.le_refl _) _, own_empty3 59 3 rfl (Nat.le_refl _)⟩
      case round =>
        clear HL
        obtain ⟨vs, e, c, Av, hvN, rfl, rfl, hel, HL, HB, OWN⟩ := hrel
        have cr := H.out.get0 (by omega)
        have hB0 := HB.out.size
        have cw : wr.cell? ⟨g, 0, none⟩ = some (.int .u8 N) := (HB.out.cell (p := ⟨g, 0, none⟩) hg).trans c0
        have w0' : IntKind.i64.wrap (N : Int) = N := IntWalk.i64_in _ (by omega)
        by_cases hlt : vs.length < N
        · have i0' : (vs.length : Int) < (N : Int) := by omega
          have i1' : (e : Int) ≤ (l.length : Int) := by omega
          have i2' : (e : Int) ≤ (cap : Int) := by omega
          have i3' : (l.length : Int) ≤ (cap : Int) := by omega
          obtain ⟨n, hn⟩ : ∃ n, N - vs.length = n + 1 := ⟨N - vs.length - 1, by omega⟩
          rw [hn] at HL
          have hnn : N - (vs.length + 1) = n := by omega
          have HO := Lib.hid (H.out.below HB.out)
          obtain ⟨B, c', hB', hBc, hc3⟩ : ∃ (B : Option Addr) (c' : Nat), (e < l.length → B = some ⟨g, e, none⟩) ∧ ((cap = e → B = some ⟨g, 0, none⟩ ∧ c' = 0) ∧ (cap ≠ e → B = some ⟨g, e, none⟩ ∧ c' = cap - e)) ∧ l.length - e ≤ c' := by
            by_cases hce : cap = e
            · exact ⟨some ⟨g, 0, none⟩, 0, fun h => absurd h (by omega), ⟨fun _ => ⟨rfl, rfl⟩, fun h => absurd hce h⟩, by omega⟩
            · exact ⟨some ⟨g, e, none⟩, cap - e, fun _ => rfl, ⟨fun h => absurd h hce, fun _ => ⟨rfl, rfl⟩⟩, by omega⟩
          have VF := Lib.hid (fun W (hW : RowO W g e B (l.drop e)) => valueFromIO B g e c' (l.drop e) W hW (by simp; omega) (by simp; omega) (by
            rcases Nat.decEq cap e with h | h
            · rw [(hBc.2 h).2]; omega
            · rw [(hBc.1 h).2]; exact Nat.zero_le _))
          rw [List.length_drop] at VF
          have HD := Lib.hid (HO.out.drop e B hB')
          rcases hf : fromO (l.drop e) with _ | ⟨k, x, s, m⟩
          · have hRn := left_none HL.out hf
            rw [HR.out] at hRn
            subst hRn
            rw [hf, fV_none] at VF
            clear hf HL HR HO
            by_cases hce : cap = e
            · obtain ⟨rfl, rfl⟩ := hBc.1 hce
              obtain rfl : e = l.length := by omega
              obtain rfl : cap = l.length := hce
              rw [Nat.sub_self] at VF
              clear hBc hB' i1' i2' i3' hc hc3
              have i1' : (l.length : Int) ≤ (l.length : Int) := Int.le_refl _
              go_wp2_with (go_at_call 49; (with_reducible refine (VF.out _ HD.out).mono ?_); rintro e9 w1 ⟨rfl, hb1⟩; have HB1 := Lib.hid (HB.out.trans (hb1.mono hB0)); clear hb1)
              exact bodyPost_ret (v := .tuple #[.slice none 0 0, .int .i64 0]) (by simp [results, Try.results33, go_sem]) rfl ⟨_, rfl, World.ownsRow_nil _ _ _ _, HB1.out.alloc HB1.out.size _⟩
            · obtain ⟨rfl, rfl⟩ := hBc.2 hce
              clear hBc hB'
              go_wp2_with (go_at_call 49; (with_reducible refine (VF.out _ HD.out).mono ?_); rintro e9 w1 ⟨rfl, hb1⟩; have HB1 := Lib.hid (HB.out.trans (hb1.mono hB0)); clear hb1)
              exact bodyPost_ret (v := .tuple #[.slice none 0 0, .int .i64 0]) (by simp [results, Try.results33, go_sem]) rfl ⟨_, rfl, World.ownsRow_nil _ _ _ _, HB1.out.alloc HB1.out.size _⟩
          · have hlv := left_some HL.out hf
            obtain ⟨-, -, hm0, hml⟩ := from_some hf
            rw [List.length_drop] at hml
            have hce : cap ≠ e := by omega
            obtain ⟨rfl, rfl⟩ := hBc.2 hce
            obtain ⟨S0, hS0⟩ : ∃ S0 : ByteArray, (⟨s.toArray⟩ : ByteArray) = S0 := ⟨_, rfl⟩
            rw [hf, fV_some, hS0] at VF
            rw [hS0, ← hnn] at hlv
            have HLV := Lib.hid hlv
            have em : ((m : Int) == 0) = false := by rw [beq_eq_false_iff_ne]; omega
            have hem : (e : Int) + m ≤ 1048576 := by omega
            clear hBc hB' hf hlv hS0 HL HO hn hnn hce
            go_wp2_with (first
              | (go_at_call 49; (with_reducible refine (VF.out _ HD.out).mono ?_); rintro e9 w1 ⟨rfl, hb1⟩; have HB1 := Lib.hid (HB.out.trans (hb1.mono hB0)); have OWN1 := Lib.hid (own_below OWN.out hb1); clear hb1)
              | (at_builtin; refine wpList_append_own _ rfl (.tmp 35) (.tmp 37) 28 rfl w.heap.size 59 i0 (.agg #[.int .i64 0, .int .i64 0, .string ⟨#[]⟩]) 3 32 Try.underlying28 hi iz0 iz1 iz2 rfl (by decide) (.slice Av vs.length c) vs.length (flatV vs) rfl (by repeat (with_reducible first | exact OWN1.out | apply World.ownsRow.alloc | apply own_drew)) _ _ _ (flatV [(k, x, S0)]) rfl rfl (news_new (by first | rfl | simp)) (ones_v _) (by unfold maxLen; omega) (by omega) (by have := HB1.out.size; first | omega | (simp; omega)) ?_; intro v2 w2 hown2 hgr2 _; have HB2 := Lib.hid (Below.grown (B := w.heap.size) (a := w) (by repeat (with_reducible first | exact HB1.out | (refine Below.alloc ?_ (by have := HB1.out.size; first | omega | (simp; omega)) _))) hgr2 (by have := HB1.out.size; first | omega | (simp; omega)) (fun b hb => (OWN1.out.lt b hb).1)); obtain ⟨g2, A2, c2, rfl, -, -, -, -, -⟩ := fl_of_own hown2; have OWN2 := Lib.hid hown2; clear hown2 hgr2))
            refine ⟨⟨vs ++ [(k, x, S0)], e + m, c2, A2, by simp; omega, by simp, by go_num, by omega, ?_, HB2, ?_⟩, by simp [lenOf]; omega⟩
            · have := HLV.out
              rw [List.length_append]
              exact this
            · have := OWN2.out
              rw [flatV_app, List.length_append]
              exact this
        · have hvN2 : vs.length = N := by omega
          rw [show N - vs.length = 0 by omega] at HL
          have hR2 := left_end HL.out
          rw [HR.out] at hR2
          subst hR2
          have i0' : ¬ (vs.length : Int) < (N : Int) := by omega
          clear hvN2 hlt hvN
          go_wp2
          exact bodyPost_ret (v := .tuple #[.slice Av vs.length c, .int .i64 e]) (by simp [results, Try.results33, go_sem]) rfl ⟨_, rfl, OWN.out, HB.out⟩
end Go.Proofs.Ytlkdcijacjdneaa.Val
