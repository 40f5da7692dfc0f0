/- Parts: copying, comparing, counting; Rows of parts: copying, comparing, counting. -/
import Derived.Test.YtcgjnilkbdamjaaGreatFlP
import Derived.Test.YtcgjnilkbdamjaaGreatRowM
namespace Go.Proofs.YtcgjnilkbdamjaaGreat.Val
open Go.RowKit
set_option linter.unusedVariables false
theorem toPart (k n vk vn : Int) (s : ByteArray) (w : World) : Calls Tryz.prog 88 #[.agg #[.int .i64 k, .int .i64 n, .int .i64 vk, .int .i64 vn, .string s]] w fun e w' => e = .returned (.agg #[.int .i64 k, .int .i64 n, .int .i64 vk, .int .i64 vn, .string s]) ∧ Below w.heap.size w w' := by
  go_enter Tryz.func88, Tryz.ntmps88
  go_wp2_with (go_at_call 110; (with_reducible refine (toValue _ _ _ _).mono ?_); rintro e w1 ⟨rfl, hb1⟩; obtain ⟨hc1, hf1⟩ := bcell hb1; have hz1 := hb1.size; simp at hz1)
  have q0 := hc1 (w.heap.size + 1) 0 (by simp)
  have q1 := hc1 (w.heap.size + 1) 1 (by simp)
  have q2 := hc1 (w.heap.size + 1) 2 (by simp)
  have q3 := hc1 (w.heap.size + 1) 3 (by simp)
  have q4 := hc1 (w.heap.size + 1) 4 (by simp)
  clear hc1 hf1
  simp [go_sem] at q0 q1 q2 q3 q4
  have hB : Below w.heap.size w w1 := ((((Below.refl _ _).alloc (Nat.le_refl _) _).alloc (by simp) _).alloc (by simp; omega) _).trans (hb1.mono (by simp; omega))
  clear hb1
  refine bodyPost_ret (v := .agg #[.int .i64 k, .int .i64 n, .int .i64 vk, .int .i64 vn, .string s]) (by simp [results, Tryz.results88, go_sem, q0, q1, q2, q3, q4]) rfl ⟨rfl, ?_⟩
  exact (((((((hB.setCell (by simp; omega) _).setCell (by simp; omega) _).setCell (by simp; omega) _).setCell (by simp) _).setCell (by simp) _).setCell (by simp) _).setCell (by simp) _).setCell (by simp) _
theorem eqPart (k n vk vn : Int) (s : ByteArray) (w : World) : Calls Tryz.prog 98 #[.agg #[.int .i64 k, .int .i64 n, .int .i64 vk, .int .i64 vn, .string s], .agg #[.int .i64 k, .int .i64 n, .int .i64 vk, .int .i64 vn, .string s]] w fun e w' => e = .returned (.bool true) ∧ Below w.heap.size w w' := by
  have CE := Lib.hid (fun w => eqValue vk vn vk vn s s w)
  simp only [decide_true, Bool.true_and, beq_self_eq_true] at CE
  go_enter Tryz.func98, Tryz.ntmps98
  go_wp2_with ((go_at_call 64; ((with_reducible refine (CE.out _).mono ?_); (try (have hc10 := hc9; have hf10 := hf9; have hz10 := hz9; have hb10 := hb9; have hya_10 := hya_9; have hyb_10 := hyb_9; clear hc9 hf9 hz9 hb9 hya_9 hyb_9)); (try (have hc9 := hc8; have hf9 := hf8; have hz9 := hz8; have hb9 := hb8; have hya_9 := hya_8; have hyb_9 := hyb_8; clear hc8 hf8 hz8 hb8 hya_8 hyb_8)); (try (have hc8 := hc7; have hf8 := hf7; have hz8 := hz7; have hb8 := hb7; have hya_8 := hya_7; have hyb_8 := hyb_7; clear hc7 hf7 hz7 hb7 hya_7 hyb_7)); (try (have hc7 := hc6; have hf7 := hf6; have hz7 := hz6; have hb7 := hb6; have hya_7 := hya_6; have hyb_7 := hyb_6; clear hc6 hf6 hz6 hb6 hya_6 hyb_6)); (try (have hc6 := hc5; have hf6 := hf5; have hz6 := hz5; have hb6 := hb5; have hya_6 := hya_5; have hyb_6 := hyb_5; clear hc5 hf5 hz5 hb5 hya_5 hyb_5)); (try (have hc5 := hc4; have hf5 := hf4; have hz5 := hz4; have hb5 := hb4; have hya_5 := hya_4; have hyb_5 := hyb_4; clear hc4 hf4 hz4 hb4 hya_4 hyb_4)); (try (have hc4 := hc3; have hf4 := hf3; have hz4 := hz3; have hb4 := hb3; have hya_4 := hya_3; have hyb_4 := hyb_3; clear hc3 hf3 hz3 hb3 hya_3 hyb_3)); (try (have hc3 := hc2; have hf3 := hf2; have hz3 := hz2; have hb3 := hb2; have hya_3 := hya_2; have hyb_3 := hyb_2; clear hc2 hf2 hz2 hb2 hya_2 hyb_2)); (try (have hc2 := hc1; have hf2 := hf1; have hz2 := hz1; have hb2 := hb1; have hya_2 := hya_1; have hyb_2 := hyb_1; clear hc1 hf1 hz1 hb1 hya_1 hyb_1)); rintro e w1 ⟨rfl, hb1⟩; obtain ⟨hc1, hf1⟩ := bcell hb1; (try simp only [World.size_drew, World.cell?_drew, World.frozen?_drew] at hc1 hf1); have hz1 := hb1.size; (try simp at hz1); have hya_1 : w.heap.size < w1.heap.size := (by omega); have hyb_1 : w.heap.size + 1 < w1.heap.size := (by omega))))
  all_goals (go_ret; refine ⟨retB (by first | rfl | simp), ?_⟩; (repeat (with_reducible first | exact Below.refl _ _ | exact HBD.out | (refine Below.trans ?_ (Below.mono hb1 (by first | omega | (simp; done) | (simp; omega))); clear hb1) | (refine Below.trans ?_ (Below.mono hb2 (by first | omega | (simp; done) | (simp; omega))); clear hb2) | (refine Below.trans ?_ (Below.mono hb3 (by first | omega | (simp; done) | (simp; omega))); clear hb3) | (refine Below.trans ?_ (Below.mono hb4 (by first | omega | (simp; done) | (simp; omega))); clear hb4) | (refine Below.trans ?_ (Below.mono hb5 (by first | omega | (simp; done) | (simp; omega))); clear hb5) | (refine Below.trans ?_ (Below.mono hb6 (by first | omega | (simp; done) | (simp; omega))); clear hb6) | (refine Below.trans ?_ (Below.mono hb7 (by first | omega | (simp; done) | (simp; omega))); clear hb7) | (refine Below.trans ?_ (Below.mono hb8 (by first | omega | (simp; done) | (simp; omega))); clear hb8) | (refine Below.trans ?_ (Below.mono hb9 (by first | omega | (simp; done) | (simp; omega))); clear hb9) | (refine Below.trans ?_ (Below.mono hb10 (by first | omega | (simp; done) | (simp; omega))); clear hb10) | refine Below.alloc ?_ (by first | omega | (simp; done) | (simp; omega)) _ | refine Below.setCell ?_ (by first | omega | (simp; done) | (simp; omega)) _ | refine Below.drew ?_)))
theorem szPart (k n vk vn left : Int) (s : ByteArray) (w : World) (h0 : 0 ≤ left) (h1 : left ≤ 1048576) (hs : s.size ≤ maxLen) : Calls Tryz.prog 77 #[.agg #[.int .i64 k, .int .i64 n, .int .i64 vk, .int .i64 vn, .string s], .int .i64 left] w fun e w' => ∃ r : Int, e = .returned (.int .i64 r) ∧ r ≤ left ∧ Below w.heap.size w w' := by
  have C := Lib.hid (fun w => szAny vk vn left s w h0 h1 hs)
  go_enter Tryz.func77, Tryz.ntmps77
  go_wp2_with ((go_at_call 102; ((with_reducible refine (C.out _).mono ?_); (try (have hc10 := hc9; have hf10 := hf9; have hz10 := hz9; have hb10 := hb9; have hya_10 := hya_9; clear hc9 hf9 hz9 hb9 hya_9)); (try (have hc9 := hc8; have hf9 := hf8; have hz9 := hz8; have hb9 := hb8; have hya_9 := hya_8; clear hc8 hf8 hz8 hb8 hya_8)); (try (have hc8 := hc7; have hf8 := hf7; have hz8 := hz7; have hb8 := hb7; have hya_8 := hya_7; clear hc7 hf7 hz7 hb7 hya_7)); (try (have hc7 := hc6; have hf7 := hf6; have hz7 := hz6; have hb7 := hb6; have hya_7 := hya_6; clear hc6 hf6 hz6 hb6 hya_6)); (try (have hc6 := hc5; have hf6 := hf5; have hz6 := hz5; have hb6 := hb5; have hya_6 := hya_5; clear hc5 hf5 hz5 hb5 hya_5)); (try (have hc5 := hc4; have hf5 := hf4; have hz5 := hz4; have hb5 := hb4; have hya_5 := hya_4; clear hc4 hf4 hz4 hb4 hya_4)); (try (have hc4 := hc3; have hf4 := hf3; have hz4 := hz3; have hb4 := hb3; have hya_4 := hya_3; clear hc3 hf3 hz3 hb3 hya_3)); (try (have hc3 := hc2; have hf3 := hf2; have hz3 := hz2; have hb3 := hb2; have hya_3 := hya_2; clear hc2 hf2 hz2 hb2 hya_2)); (try (have hc2 := hc1; have hf2 := hf1; have hz2 := hz1; have hb2 := hb1; have hya_2 := hya_1; clear hc1 hf1 hz1 hb1 hya_1)); rintro e w1 ⟨r, rfl, hr, hb1⟩; obtain ⟨hc1, hf1⟩ := bcell hb1; (try simp only [World.size_drew, World.cell?_drew, World.frozen?_drew] at hc1 hf1); have hz1 := hb1.size; (try simp at hz1); have hya_1 : w.heap.size < w1.heap.size := (by omega))))
  · go_ret
    exact ⟨-1, rfl, by omega, by (repeat (with_reducible first | exact Below.refl _ _ | exact HBD.out | (refine Below.trans ?_ (Below.mono hb1 (by first | omega | (simp; done) | (simp; omega))); clear hb1) | (refine Below.trans ?_ (Below.mono hb2 (by first | omega | (simp; done) | (simp; omega))); clear hb2) | (refine Below.trans ?_ (Below.mono hb3 (by first | omega | (simp; done) | (simp; omega))); clear hb3) | (refine Below.trans ?_ (Below.mono hb4 (by first | omega | (simp; done) | (simp; omega))); clear hb4) | (refine Below.trans ?_ (Below.mono hb5 (by first | omega | (simp; done) | (simp; omega))); clear hb5) | (refine Below.trans ?_ (Below.mono hb6 (by first | omega | (simp; done) | (simp; omega))); clear hb6) | (refine Below.trans ?_ (Below.mono hb7 (by first | omega | (simp; done) | (simp; omega))); clear hb7) | (refine Below.trans ?_ (Below.mono hb8 (by first | omega | (simp; done) | (simp; omega))); clear hb8) | (refine Below.trans ?_ (Below.mono hb9 (by first | omega | (simp; done) | (simp; omega))); clear hb9) | (refine Below.trans ?_ (Below.mono hb10 (by first | omega | (simp; done) | (simp; omega))); clear hb10) | refine Below.alloc ?_ (by first | omega | (simp; done) | (simp; omega)) _ | refine Below.setCell ?_ (by first | omega | (simp; done) | (simp; omega)) _ | refine Below.drew ?_))⟩
  · go_ret
    exact ⟨r, rfl, hr, by (repeat (with_reducible first | exact Below.refl _ _ | exact HBD.out | (refine Below.trans ?_ (Below.mono hb1 (by first | omega | (simp; done) | (simp; omega))); clear hb1) | (refine Below.trans ?_ (Below.mono hb2 (by first | omega | (simp; done) | (simp; omega))); clear hb2) | (refine Below.trans ?_ (Below.mono hb3 (by first | omega | (simp; done) | (simp; omega))); clear hb3) | (refine Below.trans ?_ (Below.mono hb4 (by first | omega | (simp; done) | (simp; omega))); clear hb4) | (refine Below.trans ?_ (Below.mono hb5 (by first | omega | (simp; done) | (simp; omega))); clear hb5) | (refine Below.trans ?_ (Below.mono hb6 (by first | omega | (simp; done) | (simp; omega))); clear hb6) | (refine Below.trans ?_ (Below.mono hb7 (by first | omega | (simp; done) | (simp; omega))); clear hb7) | (refine Below.trans ?_ (Below.mono hb8 (by first | omega | (simp; done) | (simp; omega))); clear hb8) | (refine Below.trans ?_ (Below.mono hb9 (by first | omega | (simp; done) | (simp; omega))); clear hb9) | (refine Below.trans ?_ (Below.mono hb10 (by first | omega | (simp; done) | (simp; omega))); clear hb10) | refine Below.alloc ?_ (by first | omega | (simp; done) | (simp; omega)) _ | refine Below.setCell ?_ (by first | omega | (simp; done) | (simp; omega)) _ | refine Below.drew ?_))⟩
end Go.Proofs.YtcgjnilkbdamjaaGreat.Val
namespace Go.Proofs.YtcgjnilkbdamjaaGreat.Val
open Go.RowKit
set_option linter.unusedVariables false
theorem szPartS (A : Option Addr) (g o cap : Nat) (ps : List PT) (left : Int) (w : World) (h : Fl w g o A (flatP ps)) (h0 : 0 ≤ left) (h1 : left ≤ 1048576) (hn : ps.length ≤ maxLen) (hs : ShortP ps) : Calls Tryz.prog 49 #[.slice A ps.length cap, .int .i64 left] w fun e w' => ∃ r : Int, e = .returned (.int .i64 r) ∧ r ≤ left ∧ (0 ≤ r → (ps.length : Int) ≤ left) ∧ Below w.heap.size w w' := by
  have H := Lib.hid h
  have HSH := Lib.hid hs
  clear h hs
  unfold maxLen at hn
  go_enter Tryz.func49, Tryz.ntmps49
  go_wp2
  · go_ret
    exact ⟨-1, rfl, by omega, fun h => absurd h (by omega), Below.refl _ _⟩
  · go_loopw [1, 5] (fun lx ix wr => ∃ (k : Nat) (r : Int), k ≤ ps.length ∧ ix = .int .i64 k ∧ lx = .int .i64 r ∧ 0 ≤ r ∧ r ≤ left ∧ Hid (Below w.heap.size w wr)) (fun _ ix _ => ps.length - (intOf ix).toNat)
    case atStart => exact ⟨0, _, Nat.zero_le _, rfl, rfl, by omega, by omega, Below.refl _ _⟩
    case round =>
      obtain ⟨k, r, hk, rfl, rfl, hr0, hr1, HW⟩ := hrel
      by_cases hlt : k < ps.length
      · obtain ⟨rfl, -, -, -, -, -, -⟩ := H.out.pt k hlt
        obtain ⟨-, hg, c0, c1, c2, c3, c4⟩ := (H.out.below HW.out).pt k hlt
        have hsz := HSH.out k hlt
        obtain ⟨K, hK⟩ : ∃ K, ps[k] = K := ⟨_, rfl⟩
        rw [hK] at c0 c1 c2 c3 c4 hsz
        obtain ⟨x, n, vx, vn, s⟩ := K
        simp only at c0 c1 c2 c3 c4 hsz
        clear hK
        have C := Lib.hid (fun w => szPart x n vx vn r s w hr0 (by omega) hsz)
        have i0' : (0 : Int) ≤ (k : Int) := by omega
        have i1' : (k : Int) < (ps.length : Int) := by omega
        go_wp2_with (go_at_call 77; (with_reducible refine (C.out _).mono ?_); rintro e w1 ⟨r2, rfl, hr2, hb1⟩; have HW1 := Lib.hid (HW.out.trans (hb1.mono HW.out.size)); clear hb1 HW)
        · go_ret
          exact ⟨-1, rfl, by omega, fun h => absurd h (by omega), HW1.out⟩
        · go_round
          case rel => exact ⟨k + 1, r2, by omega, by go_num, rfl, by omega, by omega, HW1⟩
          case measure => simp [intOf]; omega
      · obtain rfl : k = ps.length := by omega
        go_wp2
        go_ret
        exact ⟨r, rfl, by omega, fun _ => by omega, HW.out⟩
set_option maxHeartbeats 1000000 in
theorem toPartS (A : Option Addr) (g0 o cap : Nat) (ps : List PT) (w : World) (h : Fl w g0 o A (flatP ps)) (hl : ps.length ≤ 1048576) : Calls Tryz.prog 57 #[.slice A ps.length cap] w (CopiedF ps.length (flatP ps) w) := by
  obtain ⟨i0, hi, hz0, hz1', hz2⟩ := info_parts infoP
  have HA := Lib.hid h
  clear h
  have hfl := flatP_len ps
  go_enter Tryz.func57, Tryz.ntmps57
  go_wp2_with (at_make; refine wpList_make_full w rfl _ _ 44 rfl w.heap.size 112 i0 (.agg #[.int .i64 0, .int .i64 0, .int .i64 0, .int .i64 0, .string ⟨#[]⟩]) 5 Tryz.underlying44 hi hz0 hz1' .i64 .i64 ps.length ps.length ps.length rfl rfl rfl rfl (by rw [hz2]; omega) (by unfold maxLen; omega) (Nat.le_refl _) ?_; intro w0 hown hgr)
  have HB0 : Hid (Below w.heap.size w w0) := Below.grown (Below.refl _ _) hgr (Nat.le_refl _) (by intro k hk; cases hk)
  have HC0 : Hid (Fill w0 w.heap.size (flatP ps) 0) := Fill.made hown hfl
  clear hown hgr
  go_wp2
  go_loopw [4] (fun ix wr => ∃ k : Nat, k ≤ ps.length ∧ ix = .int .i64 k ∧ Hid (Below w.heap.size w wr) ∧ Hid (Fill wr w.heap.size (flatP ps) (k * 5))) (fun ix _ => ps.length - (intOf ix).toNat)
  case atStart => exact ⟨0, by omega, rfl, HB0, HC0⟩
  case round =>
    obtain ⟨k, hk, rfl, HB, HF⟩ := hrel
    clear HB0 HC0
    by_cases hlt : k < ps.length
    · obtain ⟨rfl, hg, -, -, -, -, -⟩ := HA.out.pt k hlt
      obtain ⟨-, hg2, c0, c1, c2, c3, c4⟩ := (HA.out.below HB.out).pt k hlt
      obtain ⟨u0, u1, u2, u3, u4⟩ := flatP_get ps k hlt
      obtain ⟨K, hK⟩ : ∃ K, ps[k] = K := ⟨_, rfl⟩
      rw [hK] at c0 c1 c2 c3 c4 u0 u1 u2 u3 u4
      obtain ⟨x, n, vx, vn, s⟩ := K
      simp only at c0 c1 c2 c3 c4 u0 u1 u2 u3 u4
      have U0 := Lib.hid u0
      have U1 := Lib.hid u1
      have U2 := Lib.hid u2
      have U3 := Lib.hid u3
      have U4 := Lib.hid u4
      clear hK u0 u1 u2 u3 u4
      have i0' : (0 : Int) ≤ (k : Int) := by omega
      have i1' : (k : Int) < (ps.length : Int) := by omega
      go_wp2_with (go_at_call 88; (with_reducible refine (toPart _ _ _ _ _ _).mono ?_); rintro e w1 ⟨rfl, hb1⟩; have HF1 := Lib.hid (Fill.below HF.out hb1); obtain ⟨⟨v0, hv0⟩, hf0, -⟩ := HF1.out (k * 5) (by omega); obtain ⟨⟨v1, hv1⟩, hf1, -⟩ := HF1.out (k * 5 + 1) (by omega); obtain ⟨⟨v2, hv2⟩, hf2, -⟩ := HF1.out (k * 5 + 2) (by omega); obtain ⟨⟨v3, hv3⟩, hf3, -⟩ := HF1.out (k * 5 + 3) (by omega); obtain ⟨⟨v4, hv4⟩, hf4, -⟩ := HF1.out (k * 5 + 4) (by omega); have HB1 := Lib.hid (HB.out.trans (hb1.mono HB.out.size)); clear hb1 HF HB)
      exact ⟨⟨k + 1, by omega, by go_num, ((((HB1.out.setCell (Nat.le_refl _) _).setCell (Nat.le_refl _) _).setCell (Nat.le_refl _) _).setCell (Nat.le_refl _) _).setCell (Nat.le_refl _) _, by have := ((((HF1.out.set U0.out).set U1.out).set U2.out).set U3.out).set U4.out; rwa [show (k + 1) * 5 = k * 5 + 1 + 1 + 1 + 1 + 1 by omega]⟩, by simp [intOf]; omega⟩
    · obtain rfl : k = ps.length := by omega
      go_wp2
      go_ret
      rw [← hfl] at HF
      exact ⟨w.heap.size, ps.length, rfl, HF.out.fl, HF.out.fz, Nat.le_refl _, by unfold maxLen; omega, Nat.le_refl _, HB.out⟩
/-- Two rows of the same parts. -/
theorem eqPartS (A B : Option Addr) (g g' o o' cA cB : Nat) (l : List PT) (w : World) (hA : Fl w g o A (flatP l)) (hB : Fl w g' o' B (flatP l)) (hl : l.length ≤ 2000000) :
    Calls Tryz.prog 66 #[.slice A l.length cA, .slice B l.length cB] w fun e w' => e = .returned (.bool true) ∧ Below w.heap.size w w' := by
  have HA := Lib.hid hA
  have HB := Lib.hid hB
  clear hA hB
  have e0 : ((l.length : Int) != l.length) = false := by simp
  go_enter Tryz.func66, Tryz.ntmps66
  go_wp2
  go_loopw [5] (fun ix wr => ∃ (k : Nat), k ≤ l.length ∧ ix = .int .i64 k ∧ Hid (Below w.heap.size w wr)) (fun ix _ => l.length - (intOf ix).toNat)
  case atStart => exact ⟨0, by omega, rfl, Below.refl _ _⟩
  case round =>
    obtain ⟨k, hk, rfl, HW⟩ := hrel
    by_cases hlt : k < l.length
    · obtain ⟨rfl, -, -, -, -, -, -⟩ := HA.out.pt k hlt
      obtain ⟨rfl, -, -, -, -, -, -⟩ := HB.out.pt k hlt
      obtain ⟨-, hg2, c0, c1, c2, c3, c4⟩ := (HA.out.below HW.out).pt k hlt
      obtain ⟨-, hg2', d0, d1, d2, d3, d4⟩ := (HB.out.below HW.out).pt k hlt
      obtain ⟨K, hK⟩ : ∃ K, l[k] = K := ⟨_, rfl⟩
      rw [hK] at c0 c1 c2 c3 c4 d0 d1 d2 d3 d4
      obtain ⟨x, n, vx, vn, s⟩ := K
      simp only at c0 c1 c2 c3 c4 d0 d1 d2 d3 d4
      clear hK
      have CE := Lib.hid (fun w => eqPart x n vx vn s w)
      have i0' : (0 : Int) ≤ (k : Int) := by omega
      have i1' : (k : Int) < (l.length : Int) := by omega
      go_wp2
      go_region_with (go_at_call 98; (with_reducible refine (CE.out _).mono ?_); rintro e w1 ⟨rfl, hb1⟩; have HW1 := Lib.hid (HW.out.drew.trans (hb1.mono HW.out.size)); clear hb1 HW)
      all_goals go_wp2
      all_goals exact ⟨⟨k + 1, by omega, by go_num, HW1⟩, by simp [intOf]; omega⟩
    · obtain rfl : k = l.length := by omega
      go_wp2
      go_ret
      exact ⟨rfl, HW.out⟩
end Go.Proofs.YtcgjnilkbdamjaaGreat.Val
