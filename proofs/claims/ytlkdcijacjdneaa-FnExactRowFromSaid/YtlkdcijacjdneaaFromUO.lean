/- ValueFrom (spec) over bytes that lie anywhere in a block. -/
import Derived.Test.YtlkdcijacjdneaaFromTO2
import Derived.Test.YtlkdcijacjdneaaFromTO3
import Derived.Test.YtlkdcijacjdneaaFromTO4
namespace Go.Proofs.Ytlkdcijacjdneaa.Val
open Go.RowKit
set_option linter.unusedVariables false
theorem valueFromSO (A : Option Addr) (g o cap : Nat) (l : List UInt8) (w : World) (h : RowO w g o A l) (hl : l.length ≤ 1048576) (hc : l.length ≤ cap) (hc2 : cap ≤ maxLen) :
    Calls Try.prog 50 #[.slice A l.length cap] w fun e w' => e = .returned (fV (fromO l)) ∧ Below w.heap.size w w' := by
  by_cases h0 : l.length = 0
  · have hf : fromO l = none := by unfold fromO takO; rw [if_pos h0]
    rw [hf, fV_none]
    have e0 : ((l.length : Int) == 0) = true := by simp [h0]
    clear h hf
    go_enter Try.func50, Try.ntmps50
    go_wp2
    exact bodyPost_ret (v := .tuple #[.agg #[.int .i64 0, .int .i64 0, .string ⟨#[]⟩], .int .i64 0]) (by simp [results, Try.results50, go_sem, *]) rfl ⟨rfl, by (repeat (with_reducible first | exact Below.refl _ _ | exact HBD.out | (refine Below.trans ?_ (Below.mono hb1 (by first | omega | (simp; done) | (simp; omega))); clear hb1) | (refine Below.trans ?_ (Below.mono hb2 (by first | omega | (simp; done) | (simp; omega))); clear hb2) | (refine Below.trans ?_ (Below.mono hb3 (by first | omega | (simp; done) | (simp; omega))); clear hb3) | (refine Below.trans ?_ (Below.mono hb4 (by first | omega | (simp; done) | (simp; omega))); clear hb4) | (refine Below.trans ?_ (Below.mono hb5 (by first | omega | (simp; done) | (simp; omega))); clear hb5) | (refine Below.trans ?_ (Below.mono hb6 (by first | omega | (simp; done) | (simp; omega))); clear hb6) | (refine Below.trans ?_ (Below.mono hb7 (by first | omega | (simp; done) | (simp; omega))); clear hb7) | (refine Below.trans ?_ (Below.mono hb8 (by first | omega | (simp; done) | (simp; omega))); clear hb8) | (refine Below.trans ?_ (Below.mono hb9 (by first | omega | (simp; done) | (simp; omega))); clear hb9) | (refine Below.trans ?_ (Below.mono hb10 (by first | omega | (simp; done) | (simp; omega))); clear hb10) | refine Below.alloc ?_ (by first | omega | (simp; done) | (simp; omega)) _ | refine Below.setCell ?_ (by first | omega | (simp; done) | (simp; omega)) _ | refine Below.drew ?_))⟩
  obtain rfl := h.ad (by omega)
  by_cases a1 : bAt l 0 = 1
  · by_cases hs : 2 < l.length
    · exact specFrom1O g o cap l w h hl hc hc2 a1 hs
    · exact specFrom41O g o cap l w h hl hc hc2 (by omega) a1 (by omega)
  by_cases a2 : bAt l 0 = 2
  · by_cases hs : 1 < l.length
    · obtain ⟨b0, b1⟩ := bAt_bd l 1
      obtain ⟨m, hm⟩ := Int.eq_ofNat_of_zero_le b0
      by_cases hml : l.length < 2 + m
      · exact specFrom43O g o cap l w h hl hc hc2 a2 hs m hm hml
      · by_cases hm0 : m = 0
        · subst hm0; exact specFrom20O g o cap l w h hl hc hc2 a2 hs hm
        · exact specFrom21O g o cap l w h hl hc hc2 a2 hs m hm (by omega) (by omega)
    · exact specFrom42O g o cap l w h hl hc hc2 (by omega) a2 (by omega)
  by_cases a3 : bAt l 0 = 3
  · by_cases hs : 1 < l.length
    · exact specFrom3O g o cap l w h hl hc hc2 a3 hs
    · exact specFrom44O g o cap l w h hl hc hc2 (by omega) a3 (by omega)
  · exact specFrom45O g o cap l w h hl hc hc2 (by omega) _ rfl a1 a2 a3
end Go.Proofs.Ytlkdcijacjdneaa.Val
