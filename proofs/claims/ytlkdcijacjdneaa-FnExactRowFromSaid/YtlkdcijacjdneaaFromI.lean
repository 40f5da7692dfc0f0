/- ValueFrom (impl): what it leaves. -/
import Derived.Test.YtlkdcijacjdneaaFMath
import Derived.Test.YtlkdcijacjdneaaRow
import Derived.Laws.IdiomStrings
namespace Go.Proofs.Ytlkdcijacjdneaa.Val
open Go.RowKit
set_option linter.unusedVariables false
theorem RowAt.get {w : World} {g : Nat} {A : Option Addr} {l : List UInt8} (h : RowAt w g A l) (i : Nat) (hi : i < l.length) : w.cell? ⟨g, i, none⟩ = some (.int .u8 (bAt l i)) := by
  rw [h.c i hi]; unfold bAt; rw [List.getD_eq_getElem?_getD, List.getElem?_eq_getElem hi]; rfl
theorem conv_part {W : World} {g cap : Nat} {A : Option Addr} {l : List UInt8} (h : RowAt W g A l) (m : Nat) (hm : 2 + m ≤ l.length) :
    (convert 22 9 (.slice (some ⟨g, 2, none⟩) m cap)).run Try.prog W = .ok (.string ⟨((l.drop 2).take m).toArray⟩) W := by
  have hlen : ((l.drop 2).take m).length = m := by rw [List.length_take, List.length_drop]; omega
  have := run_convert_bytes_back (P := Try.prog) W 22 9 5 ⟨g, 2, none⟩ cap ((l.drop 2).take m) Try.underlying22 Try.underlying5 Try.underlying9 (fun j hj => by
    have hj' : j < m := by omega
    have ha : (⟨g, 2, none⟩ : Addr).add j = ⟨g, 2 + j, none⟩ := by unfold Addr.add; split <;> simp_all
    rw [ha, h.c (2 + j) (by omega)]
    simp)
  rwa [hlen] at this
theorem conv_nil (W : World) (g o cap : Nat) : (convert 22 9 (.slice (some ⟨g, o, none⟩) 0 cap)).run Try.prog W = .ok (.string ⟨#[]⟩) W :=
  run_convert_bytes_back (P := Try.prog) W 22 9 5 ⟨g, o, none⟩ cap [] Try.underlying22 Try.underlying5 Try.underlying9 (fun j hj => absurd hj (by simp))
theorem textTaken (A : Option Addr) (g cap : Nat) (l : List UInt8) (w : World) (h : RowAt w g A l) (hl : l.length ≤ 1048576) (hc : l.length ≤ cap) (hc2 : cap ≤ maxLen) (h2 : bAt l 0 = 2) (h0 : 0 < l.length) :
    Calls Try.prog 82 #[.slice A l.length cap] w fun e w' => e = .returned (fV (takO l)) ∧ Below w.heap.size w w' := by
  unfold maxLen at hc2
  have ht : takO l = if l.length < 2 then none else if 6 < bAt l 1 ∨ (l.length : Int) < 2 + bAt l 1 then none else some (2, 0, (l.drop 2).take (bAt l 1).toNat, 2 + (bAt l 1).toNat) := by
    unfold takO; rw [if_neg (by omega), if_neg (by omega), if_neg (by omega), if_pos h2]
  rw [ht]
  obtain rfl := h.ad h0
  have hg := h.lt h0
  have hgn : ¬ (g = w.heap.size) := by omega
  by_cases hs : l.length < 2
  · rw [if_pos hs]
    go_enter Try.func82, Try.ntmps82
    go_wp2
    (exact bodyPost_ret (v := .tuple #[.agg #[.int .i64 0, .int .i64 0, .string ⟨#[]⟩], .int .i64 0]) (by simp [results, Try.results82, go_sem, *]) rfl ⟨rfl, by (repeat (with_reducible first | exact Below.refl _ _ | exact HBD.out | (refine Below.trans ?_ (Below.mono hb1 (by first | omega | (simp; done) | (simp; omega))); clear hb1) | (refine Below.trans ?_ (Below.mono hb2 (by first | omega | (simp; done) | (simp; omega))); clear hb2) | (refine Below.trans ?_ (Below.mono hb3 (by first | omega | (simp; done) | (simp; omega))); clear hb3) | (refine Below.trans ?_ (Below.mono hb4 (by first | omega | (simp; done) | (simp; omega))); clear hb4) | (refine Below.trans ?_ (Below.mono hb5 (by first | omega | (simp; done) | (simp; omega))); clear hb5) | (refine Below.trans ?_ (Below.mono hb6 (by first | omega | (simp; done) | (simp; omega))); clear hb6) | (refine Below.trans ?_ (Below.mono hb7 (by first | omega | (simp; done) | (simp; omega))); clear hb7) | (refine Below.trans ?_ (Below.mono hb8 (by first | omega | (simp; done) | (simp; omega))); clear hb8) | (refine Below.trans ?_ (Below.mono hb9 (by first | omega | (simp; done) | (simp; omega))); clear hb9) | (refine Below.trans ?_ (Below.mono hb10 (by first | omega | (simp; done) | (simp; omega))); clear hb10) | refine Below.alloc ?_ (by first | omega | (simp; done) | (simp; omega)) _ | refine Below.setCell ?_ (by first | omega | (simp; done) | (simp; omega)) _ | refine Below.drew ?_))⟩)
  rw [if_neg hs]
  have hs2 : (1 : Int) < l.length := by omega
  have c1 := h.get 1 (by omega)
  obtain ⟨b0, b1⟩ := bAt_bd l 1
  obtain ⟨x, hx⟩ : ∃ x, bAt l 1 = x := ⟨_, rfl⟩
  rw [hx] at c1 b0 b1 ⊢
  clear hx ht
  by_cases hlong : 6 < x ∨ (l.length : Int) < 2 + x
  · rw [if_pos hlong]
    go_enter Try.func82, Try.ntmps82
    go_wp2
    all_goals (first | (exact bodyPost_ret (v := .tuple #[.agg #[.int .i64 0, .int .i64 0, .string ⟨#[]⟩], .int .i64 0]) (by simp [results, Try.results82, go_sem, *]) rfl ⟨rfl, by (repeat (with_reducible first | exact Below.refl _ _ | exact HBD.out | (refine Below.trans ?_ (Below.mono hb1 (by first | omega | (simp; done) | (simp; omega))); clear hb1) | (refine Below.trans ?_ (Below.mono hb2 (by first | omega | (simp; done) | (simp; omega))); clear hb2) | (refine Below.trans ?_ (Below.mono hb3 (by first | omega | (simp; done) | (simp; omega))); clear hb3) | (refine Below.trans ?_ (Below.mono hb4 (by first | omega | (simp; done) | (simp; omega))); clear hb4) | (refine Below.trans ?_ (Below.mono hb5 (by first | omega | (simp; done) | (simp; omega))); clear hb5) | (refine Below.trans ?_ (Below.mono hb6 (by first | omega | (simp; done) | (simp; omega))); clear hb6) | (refine Below.trans ?_ (Below.mono hb7 (by first | omega | (simp; done) | (simp; omega))); clear hb7) | (refine Below.trans ?_ (Below.mono hb8 (by first | omega | (simp; done) | (simp; omega))); clear hb8) | (refine Below.trans ?_ (Below.mono hb9 (by first | omega | (simp; done) | (simp; omega))); clear hb9) | (refine Below.trans ?_ (Below.mono hb10 (by first | omega | (simp; done) | (simp; omega))); clear hb10) | refine Below.alloc ?_ (by first | omega | (simp; done) | (simp; omega)) _ | refine Below.setCell ?_ (by first | omega | (simp; done) | (simp; omega)) _ | refine Below.drew ?_))⟩) | (exfalso; simp_all; done) | (exfalso; simp_all; omega))
  · rw [if_neg hlong]
    obtain ⟨m, rfl⟩ := Int.eq_ofNat_of_zero_le b0
    have hm : 2 + m ≤ l.length := by omega
    by_cases hm0 : m = 0
    · subst hm0
      have k1 := conv_nil
      go_enter Try.func82, Try.ntmps82
      go_wp2
      all_goals (first | (exact bodyPost_ret (v := .tuple #[.agg #[.int .i64 2, .int .i64 0, .string ⟨#[]⟩], .int .i64 2]) (by simp [results, Try.results82, go_sem, *]) rfl ⟨rfl, by (repeat (with_reducible first | exact Below.refl _ _ | exact HBD.out | (refine Below.trans ?_ (Below.mono hb1 (by first | omega | (simp; done) | (simp; omega))); clear hb1) | (refine Below.trans ?_ (Below.mono hb2 (by first | omega | (simp; done) | (simp; omega))); clear hb2) | (refine Below.trans ?_ (Below.mono hb3 (by first | omega | (simp; done) | (simp; omega))); clear hb3) | (refine Below.trans ?_ (Below.mono hb4 (by first | omega | (simp; done) | (simp; omega))); clear hb4) | (refine Below.trans ?_ (Below.mono hb5 (by first | omega | (simp; done) | (simp; omega))); clear hb5) | (refine Below.trans ?_ (Below.mono hb6 (by first | omega | (simp; done) | (simp; omega))); clear hb6) | (refine Below.trans ?_ (Below.mono hb7 (by first | omega | (simp; done) | (simp; omega))); clear hb7) | (refine Below.trans ?_ (Below.mono hb8 (by first | omega | (simp; done) | (simp; omega))); clear hb8) | (refine Below.trans ?_ (Below.mono hb9 (by first | omega | (simp; done) | (simp; omega))); clear hb9) | (refine Below.trans ?_ (Below.mono hb10 (by first | omega | (simp; done) | (simp; omega))); clear hb10) | refine Below.alloc ?_ (by first | omega | (simp; done) | (simp; omega)) _ | refine Below.setCell ?_ (by first | omega | (simp; done) | (simp; omega)) _ | refine Below.drew ?_))⟩) | (exfalso; simp_all; done) | (exfalso; simp_all; omega))
    · have hcap : ¬ (cap = 2) := by omega
      have k1 := fun o => conv_part (cap := cap - 2) (h.alloc o) m hm
      have hml : (m : Int) ≤ 6 := by omega
      have hmk : (2 : Int) + m ≤ l.length := by omega
      obtain ⟨T, hT⟩ : ∃ T : ByteArray, ⟨((l.drop 2).take m).toArray⟩ = T := ⟨_, rfl⟩
      have hV : Hid (fV (some (2, 0, (l.drop 2).take ((m : Int)).toNat, 2 + ((m : Int)).toNat)) = .tuple #[.agg #[.int .i64 2, .int .i64 0, .string T], .int .i64 (2 + m)]) := by
        show fV _ = _
        rw [← hT, Int.toNat_natCast]; unfold fV; simp
      rw [hT] at k1
      rw [hV.out]
      clear hT hV
      go_enter Try.func82, Try.ntmps82
      go_wp2
      all_goals (first | (exact bodyPost_ret (v := .tuple #[.agg #[.int .i64 2, .int .i64 0, .string T], .int .i64 (2 + m)]) (by simp [results, Try.results82, go_sem, *]) rfl ⟨rfl, by (repeat (with_reducible first | exact Below.refl _ _ | exact HBD.out | (refine Below.trans ?_ (Below.mono hb1 (by first | omega | (simp; done) | (simp; omega))); clear hb1) | (refine Below.trans ?_ (Below.mono hb2 (by first | omega | (simp; done) | (simp; omega))); clear hb2) | (refine Below.trans ?_ (Below.mono hb3 (by first | omega | (simp; done) | (simp; omega))); clear hb3) | (refine Below.trans ?_ (Below.mono hb4 (by first | omega | (simp; done) | (simp; omega))); clear hb4) | (refine Below.trans ?_ (Below.mono hb5 (by first | omega | (simp; done) | (simp; omega))); clear hb5) | (refine Below.trans ?_ (Below.mono hb6 (by first | omega | (simp; done) | (simp; omega))); clear hb6) | (refine Below.trans ?_ (Below.mono hb7 (by first | omega | (simp; done) | (simp; omega))); clear hb7) | (refine Below.trans ?_ (Below.mono hb8 (by first | omega | (simp; done) | (simp; omega))); clear hb8) | (refine Below.trans ?_ (Below.mono hb9 (by first | omega | (simp; done) | (simp; omega))); clear hb9) | (refine Below.trans ?_ (Below.mono hb10 (by first | omega | (simp; done) | (simp; omega))); clear hb10) | refine Below.alloc ?_ (by first | omega | (simp; done) | (simp; omega)) _ | refine Below.setCell ?_ (by first | omega | (simp; done) | (simp; omega)) _ | refine Below.drew ?_))⟩) | (exfalso; simp_all; done) | (exfalso; simp_all; omega))
end Go.Proofs.Ytlkdcijacjdneaa.Val
