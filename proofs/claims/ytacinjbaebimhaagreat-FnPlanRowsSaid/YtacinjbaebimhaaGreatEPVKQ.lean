/- What a part puts down (impl.partValue); What a part puts down (impl.partValue): one value, or none; What a part puts down (impl.partValue): two values; What a part puts down (impl.partValue): two values; What a part puts down (impl.partValue): two values; What a part puts down, whatever it is (impl.partValue). -/
import Derived.Test.YtacinjbaebimhaaGreatEVSQ
import Derived.Deep.RegionWith
namespace Go.Proofs.YtacinjbaebimhaaGreat.Val
open Go.RowKit
set_option linter.unusedVariables false
set_option maxRecDepth 20000
theorem two_cells {w : World} {T : Option Addr} {g o : Nat} {k1 n1 k2 n2 : Int} {s1 s2 : ByteArray} (hT : Fl w g o T (flatV [(k1, n1, s1), (k2, n2, s2)])) : T = some ⟨g, o, none⟩ ∧ g < w.heap.size ∧ w.cell? ⟨g, o, none⟩ = some (.int .i64 k1) ∧ w.cell? ⟨g, o + 1, none⟩ = some (.int .i64 n1) ∧ w.cell? ⟨g, o + 2, none⟩ = some (.string s1) ∧ w.cell? ⟨g, o + 3, none⟩ = some (.int .i64 k2) ∧ w.cell? ⟨g, o + 3 + 1, none⟩ = some (.int .i64 n2) ∧ w.cell? ⟨g, o + 3 + 2, none⟩ = some (.string s2) := by
  obtain ⟨h1, h2, a, b, c⟩ := hT.v 0 (by simp)
  obtain ⟨-, -, d, e, f⟩ := hT.v 1 (by simp)
  exact ⟨h1, h2, a, b, c, d, e, f⟩
set_option maxHeartbeats 4000000 in
theorem partValue3 (R T : Option Addr) (rl rc g o ct : Nat) (n vk vn k1 n1 k2 n2 : Int) (s s1 s2 : ByteArray) (w : World) (hT : Fl w g o T (flatV [(k1, n1, s1), (k2, n2, s2)])) (h1 : -9999 ≤ n1) (h2 : n1 ≤ 9999) (h3 : -9999 ≤ n2) (h4 : n2 ≤ 9999) : Calls Tryz.prog 83 #[.slice R rl rc, .agg #[.int .i64 3, .int .i64 n, .int .i64 vk, .int .i64 vn, .string s], .slice T 2 ct] w fun e w' => e = .returned (aggV (sumV (k1, n1, s1) (k2, n2, s2))) ∧ Below w.heap.size w w' := by
  obtain ⟨rfl, hg, c0, c1, c2, c3, c4, c5⟩ := two_cells hT
  clear hT
  have CS := Lib.hid (fun w => sumOf k1 n1 k2 n2 s1 s2 w h1 h2 h3 h4)
  obtain ⟨r, hr⟩ : ∃ r, sumV (k1, n1, s1) (k2, n2, s2) = r := ⟨_, rfl⟩
  rw [hr] at CS ⊢
  clear hr
  obtain ⟨kr, nr, sr⟩ := r
  unfold aggV at CS ⊢
  simp only at CS ⊢
  go_enter Tryz.func83, Tryz.ntmps83
  go_wp2_with (fail)
  go_region_with (go_at_call 91; ((with_reducible refine (CS.out _).mono ?_); (try (have hc10 := hc9; have hf10 := hf9; have hz10 := hz9; have hb10 := hb9; have hya_10 := hya_9; have hyb_10 := hyb_9; clear hc9 hf9 hz9 hb9 hya_9 hyb_9)); (try (have hc9 := hc8; have hf9 := hf8; have hz9 := hz8; have hb9 := hb8; have hya_9 := hya_8; have hyb_9 := hyb_8; clear hc8 hf8 hz8 hb8 hya_8 hyb_8)); (try (have hc8 := hc7; have hf8 := hf7; have hz8 := hz7; have hb8 := hb7; have hya_8 := hya_7; have hyb_8 := hyb_7; clear hc7 hf7 hz7 hb7 hya_7 hyb_7)); (try (have hc7 := hc6; have hf7 := hf6; have hz7 := hz6; have hb7 := hb6; have hya_7 := hya_6; have hyb_7 := hyb_6; clear hc6 hf6 hz6 hb6 hya_6 hyb_6)); (try (have hc6 := hc5; have hf6 := hf5; have hz6 := hz5; have hb6 := hb5; have hya_6 := hya_5; have hyb_6 := hyb_5; clear hc5 hf5 hz5 hb5 hya_5 hyb_5)); (try (have hc5 := hc4; have hf5 := hf4; have hz5 := hz4; have hb5 := hb4; have hya_5 := hya_4; have hyb_5 := hyb_4; clear hc4 hf4 hz4 hb4 hya_4 hyb_4)); (try (have hc4 := hc3; have hf4 := hf3; have hz4 := hz3; have hb4 := hb3; have hya_4 := hya_3; have hyb_4 := hyb_3; clear hc3 hf3 hz3 hb3 hya_3 hyb_3)); (try (have hc3 := hc2; have hf3 := hf2; have hz3 := hz2; have hb3 := hb2; have hya_3 := hya_2; have hyb_3 := hyb_2; clear hc2 hf2 hz2 hb2 hya_2 hyb_2)); (try (have hc2 := hc1; have hf2 := hf1; have hz2 := hz1; have hb2 := hb1; have hya_2 := hya_1; have hyb_2 := hyb_1; clear hc1 hf1 hz1 hb1 hya_1 hyb_1)); rintro e w1 ⟨rfl, hb1⟩; obtain ⟨hc1, hf1⟩ := bcell hb1; (try simp only [World.size_drew, World.cell?_drew, World.frozen?_drew] at hc1 hf1); have hz1 := hb1.size; (try simp at hz1); have hya_1 : w.heap.size < w1.heap.size := (by omega); have hyb_1 : w.heap.size + 1 < w1.heap.size := (by omega)))
  all_goals (try go_wp2_with (fail))
  all_goals (have z0 : w1.cell? ⟨w.heap.size + 1, 0, none⟩ = some (.int .i64 0) := (by simp [go_sem, *]); have z1 : w1.cell? ⟨w.heap.size + 1, 1, none⟩ = some (.int .i64 0) := (by simp [go_sem, *]); have z2 : w1.cell? ⟨w.heap.size + 1, 2, none⟩ = some (.string ⟨#[]⟩) := (by simp [go_sem, *]))
  all_goals (refine bodyPost_ret (v := .agg #[.int .i64 kr, .int .i64 nr, .string sr]) (by simp [results, Tryz.results83, go_sem, *]) rfl ⟨rfl, ?_⟩)
  all_goals ((repeat (with_reducible first | exact Below.refl _ _ | exact HBD.out | (refine Below.trans ?_ (Below.mono hb1 (by first | omega | (simp; done) | (simp; omega))); clear hb1) | (refine Below.trans ?_ (Below.mono hb2 (by first | omega | (simp; done) | (simp; omega))); clear hb2) | (refine Below.trans ?_ (Below.mono hb3 (by first | omega | (simp; done) | (simp; omega))); clear hb3) | (refine Below.trans ?_ (Below.mono hb4 (by first | omega | (simp; done) | (simp; omega))); clear hb4) | (refine Below.trans ?_ (Below.mono hb5 (by first | omega | (simp; done) | (simp; omega))); clear hb5) | (refine Below.trans ?_ (Below.mono hb6 (by first | omega | (simp; done) | (simp; omega))); clear hb6) | (refine Below.trans ?_ (Below.mono hb7 (by first | omega | (simp; done) | (simp; omega))); clear hb7) | (refine Below.trans ?_ (Below.mono hb8 (by first | omega | (simp; done) | (simp; omega))); clear hb8) | (refine Below.trans ?_ (Below.mono hb9 (by first | omega | (simp; done) | (simp; omega))); clear hb9) | (refine Below.trans ?_ (Below.mono hb10 (by first | omega | (simp; done) | (simp; omega))); clear hb10) | refine Below.alloc ?_ (by first | omega | (simp; done) | (simp; omega)) _ | refine Below.setCell ?_ (by first | omega | (simp; done) | (simp; omega)) _ | refine Below.drew ?_)))
end Go.Proofs.YtacinjbaebimhaaGreat.Val
namespace Go.Proofs.YtacinjbaebimhaaGreat.Val
open Go.RowKit
set_option linter.unusedVariables false
set_option linter.unusedSimpArgs false
set_option maxRecDepth 20000
theorem one_cells {w : World} {T : Option Addr} {g o : Nat} {k1 n1 : Int} {s1 : ByteArray} (hT : Fl w g o T (flatV [(k1, n1, s1)])) : T = some ⟨g, o, none⟩ ∧ g < w.heap.size ∧ w.cell? ⟨g, o, none⟩ = some (.int .i64 k1) ∧ w.cell? ⟨g, o + 1, none⟩ = some (.int .i64 n1) ∧ w.cell? ⟨g, o + 2, none⟩ = some (.string s1) := by
  obtain ⟨h1, h2, a, b, c⟩ := hT.v 0 (by simp)
  exact ⟨h1, h2, a, b, c⟩
set_option maxHeartbeats 8000000 in
theorem partValue7 (R T : Option Addr) (rl rc g o ct : Nat) (n vk vn k1 n1 : Int) (s s1 : ByteArray) (w : World) (hT : Fl w g o T (flatV [(k1, n1, s1)])) (hs1 : s1.size ≤ maxLen) : Calls Tryz.prog 83 #[.slice R rl rc, .agg #[.int .i64 7, .int .i64 n, .int .i64 vk, .int .i64 vn, .string s], .slice T 1 ct] w fun e w' => e = .returned (aggV (ofT (notI (toI k1 n1 s1)))) ∧ Below w.heap.size w w' := by
  obtain ⟨rfl, hg, c0, c1, c2⟩ := one_cells hT
  clear hT
  have C1 := Lib.hid (fun w => truthOf k1 n1 s1 w hs1)
  obtain ⟨X1, hX1⟩ : ∃ x, toI k1 n1 s1 = x := ⟨_, rfl⟩
  rw [hX1] at C1 ⊢
  clear hX1
  have CA := Lib.hid (fun w => notOf X1 w)
  obtain ⟨X, hX⟩ : ∃ x, notI X1 = x := ⟨_, rfl⟩
  rw [hX] at CA ⊢
  clear hX
  have CV := Lib.hid (fun w => valueOf X w)
  rw [vO_of] at CV
  obtain ⟨r, hr⟩ : ∃ r, ofT X = r := ⟨_, rfl⟩
  rw [hr] at CV ⊢
  clear hr
  obtain ⟨kr, nr, sr⟩ := r
  unfold aggV at CV ⊢
  simp only at CV ⊢
  go_enter Tryz.func83, Tryz.ntmps83
  go_wp2_with (first | (go_at_call 94; ((with_reducible refine (C1.out _).mono ?_); (try (have hc10 := hc9; have hf10 := hf9; have hz10 := hz9; have hb10 := hb9; have hya_10 := hya_9; have hyb_10 := hyb_9; clear hc9 hf9 hz9 hb9 hya_9 hyb_9)); (try (have hc9 := hc8; have hf9 := hf8; have hz9 := hz8; have hb9 := hb8; have hya_9 := hya_8; have hyb_9 := hyb_8; clear hc8 hf8 hz8 hb8 hya_8 hyb_8)); (try (have hc8 := hc7; have hf8 := hf7; have hz8 := hz7; have hb8 := hb7; have hya_8 := hya_7; have hyb_8 := hyb_7; clear hc7 hf7 hz7 hb7 hya_7 hyb_7)); (try (have hc7 := hc6; have hf7 := hf6; have hz7 := hz6; have hb7 := hb6; have hya_7 := hya_6; have hyb_7 := hyb_6; clear hc6 hf6 hz6 hb6 hya_6 hyb_6)); (try (have hc6 := hc5; have hf6 := hf5; have hz6 := hz5; have hb6 := hb5; have hya_6 := hya_5; have hyb_6 := hyb_5; clear hc5 hf5 hz5 hb5 hya_5 hyb_5)); (try (have hc5 := hc4; have hf5 := hf4; have hz5 := hz4; have hb5 := hb4; have hya_5 := hya_4; have hyb_5 := hyb_4; clear hc4 hf4 hz4 hb4 hya_4 hyb_4)); (try (have hc4 := hc3; have hf4 := hf3; have hz4 := hz3; have hb4 := hb3; have hya_4 := hya_3; have hyb_4 := hyb_3; clear hc3 hf3 hz3 hb3 hya_3 hyb_3)); (try (have hc3 := hc2; have hf3 := hf2; have hz3 := hz2; have hb3 := hb2; have hya_3 := hya_2; have hyb_3 := hyb_2; clear hc2 hf2 hz2 hb2 hya_2 hyb_2)); (try (have hc2 := hc1; have hf2 := hf1; have hz2 := hz1; have hb2 := hb1; have hya_2 := hya_1; have hyb_2 := hyb_1; clear hc1 hf1 hz1 hb1 hya_1 hyb_1)); rintro e w1 ⟨rfl, hb1⟩; obtain ⟨hc1, hf1⟩ := bcell hb1; (try simp only [World.size_drew, World.cell?_drew, World.frozen?_drew] at hc1 hf1); have hz1 := hb1.size; (try simp at hz1); have hya_1 : w.heap.size < w1.heap.size := (by omega); have hyb_1 : w.heap.size + 1 < w1.heap.size := (by omega))) | (go_at_call 96; ((with_reducible refine (CA.out _).mono ?_); rintro e w1 ⟨rfl, rfl⟩)) | (go_at_call 68; ((with_reducible refine (CV.out _).mono ?_); (try (have hc10 := hc9; have hf10 := hf9; have hz10 := hz9; have hb10 := hb9; have hya_10 := hya_9; have hyb_10 := hyb_9; clear hc9 hf9 hz9 hb9 hya_9 hyb_9)); (try (have hc9 := hc8; have hf9 := hf8; have hz9 := hz8; have hb9 := hb8; have hya_9 := hya_8; have hyb_9 := hyb_8; clear hc8 hf8 hz8 hb8 hya_8 hyb_8)); (try (have hc8 := hc7; have hf8 := hf7; have hz8 := hz7; have hb8 := hb7; have hya_8 := hya_7; have hyb_8 := hyb_7; clear hc7 hf7 hz7 hb7 hya_7 hyb_7)); (try (have hc7 := hc6; have hf7 := hf6; have hz7 := hz6; have hb7 := hb6; have hya_7 := hya_6; have hyb_7 := hyb_6; clear hc6 hf6 hz6 hb6 hya_6 hyb_6)); (try (have hc6 := hc5; have hf6 := hf5; have hz6 := hz5; have hb6 := hb5; have hya_6 := hya_5; have hyb_6 := hyb_5; clear hc5 hf5 hz5 hb5 hya_5 hyb_5)); (try (have hc5 := hc4; have hf5 := hf4; have hz5 := hz4; have hb5 := hb4; have hya_5 := hya_4; have hyb_5 := hyb_4; clear hc4 hf4 hz4 hb4 hya_4 hyb_4)); (try (have hc4 := hc3; have hf4 := hf3; have hz4 := hz3; have hb4 := hb3; have hya_4 := hya_3; have hyb_4 := hyb_3; clear hc3 hf3 hz3 hb3 hya_3 hyb_3)); (try (have hc3 := hc2; have hf3 := hf2; have hz3 := hz2; have hb3 := hb2; have hya_3 := hya_2; have hyb_3 := hyb_2; clear hc2 hf2 hz2 hb2 hya_2 hyb_2)); (try (have hc2 := hc1; have hf2 := hf1; have hz2 := hz1; have hb2 := hb1; have hya_2 := hya_1; have hyb_2 := hyb_1; clear hc1 hf1 hz1 hb1 hya_1 hyb_1)); rintro e w1 ⟨rfl, hb1⟩; obtain ⟨hc1, hf1⟩ := bcell hb1; (try simp only [World.size_drew, World.cell?_drew, World.frozen?_drew] at hc1 hf1); have hz1 := hb1.size; (try simp at hz1); have hya_1 : w.heap.size < w1.heap.size := (by omega); have hyb_1 : w.heap.size + 1 < w1.heap.size := (by omega))))
  all_goals (have z0 : w1.cell? ⟨w.heap.size + 1, 0, none⟩ = some (.int .i64 0) := (by simp [go_sem, *]); have z1 : w1.cell? ⟨w.heap.size + 1, 1, none⟩ = some (.int .i64 0) := (by simp [go_sem, *]); have z2 : w1.cell? ⟨w.heap.size + 1, 2, none⟩ = some (.string ⟨#[]⟩) := (by simp [go_sem, *]))
  all_goals (refine bodyPost_ret (v := .agg #[.int .i64 kr, .int .i64 nr, .string sr]) (by simp [results, Tryz.results83, go_sem, *]) rfl ⟨rfl, ?_⟩)
  all_goals ((repeat (with_reducible first | exact Below.refl _ _ | exact HBD.out | (refine Below.trans ?_ (Below.mono hb1 (by first | omega | (simp; done) | (simp; omega))); clear hb1) | (refine Below.trans ?_ (Below.mono hb2 (by first | omega | (simp; done) | (simp; omega))); clear hb2) | (refine Below.trans ?_ (Below.mono hb3 (by first | omega | (simp; done) | (simp; omega))); clear hb3) | (refine Below.trans ?_ (Below.mono hb4 (by first | omega | (simp; done) | (simp; omega))); clear hb4) | (refine Below.trans ?_ (Below.mono hb5 (by first | omega | (simp; done) | (simp; omega))); clear hb5) | (refine Below.trans ?_ (Below.mono hb6 (by first | omega | (simp; done) | (simp; omega))); clear hb6) | (refine Below.trans ?_ (Below.mono hb7 (by first | omega | (simp; done) | (simp; omega))); clear hb7) | (refine Below.trans ?_ (Below.mono hb8 (by first | omega | (simp; done) | (simp; omega))); clear hb8) | (refine Below.trans ?_ (Below.mono hb9 (by first | omega | (simp; done) | (simp; omega))); clear hb9) | (refine Below.trans ?_ (Below.mono hb10 (by first | omega | (simp; done) | (simp; omega))); clear hb10) | refine Below.alloc ?_ (by first | omega | (simp; done) | (simp; omega)) _ | refine Below.setCell ?_ (by first | omega | (simp; done) | (simp; omega)) _ | refine Below.drew ?_)))
set_option maxHeartbeats 8000000 in
theorem partValue8 (R T : Option Addr) (rl rc g o ct : Nat) (n vk vn k1 n1 : Int) (s s1 : ByteArray) (w : World) (hT : Fl w g o T (flatV [(k1, n1, s1)])) (hs1 : s1.size ≤ maxLen) : Calls Tryz.prog 83 #[.slice R rl rc, .agg #[.int .i64 8, .int .i64 n, .int .i64 vk, .int .i64 vn, .string s], .slice T 1 ct] w fun e w' => e = .returned (aggV (ofT (if k1 = 0 then 1 else 0))) ∧ Below w.heap.size w w' := by
  obtain ⟨rfl, hg, c0, c1, c2⟩ := one_cells hT
  clear hT
  obtain ⟨b, hb⟩ : ∃ b, (k1 == 0) = b := ⟨_, rfl⟩
  have CA := Lib.hid (fun w => surely b w)
  obtain ⟨X, hX⟩ : ∃ x, (if b = true then (1 : Int) else 0) = x := ⟨_, rfl⟩
  rw [show (if k1 = 0 then (1 : Int) else 0) = if b = true then 1 else 0 by rw [← hb]; simp, hX]
  rw [hX] at CA
  clear hX
  have CV := Lib.hid (fun w => valueOf X w)
  rw [vO_of] at CV
  obtain ⟨r, hr⟩ : ∃ r, ofT X = r := ⟨_, rfl⟩
  rw [hr] at CV ⊢
  clear hr
  obtain ⟨kr, nr, sr⟩ := r
  unfold aggV at CV ⊢
  simp only at CV ⊢
  go_enter Tryz.func83, Tryz.ntmps83
  go_wp2_with (first | (go_at_call 97; ((with_reducible refine (CA.out _).mono ?_); rintro e w1 ⟨rfl, rfl⟩)) | (go_at_call 68; ((with_reducible refine (CV.out _).mono ?_); (try (have hc10 := hc9; have hf10 := hf9; have hz10 := hz9; have hb10 := hb9; have hya_10 := hya_9; have hyb_10 := hyb_9; clear hc9 hf9 hz9 hb9 hya_9 hyb_9)); (try (have hc9 := hc8; have hf9 := hf8; have hz9 := hz8; have hb9 := hb8; have hya_9 := hya_8; have hyb_9 := hyb_8; clear hc8 hf8 hz8 hb8 hya_8 hyb_8)); (try (have hc8 := hc7; have hf8 := hf7; have hz8 := hz7; have hb8 := hb7; have hya_8 := hya_7; have hyb_8 := hyb_7; clear hc7 hf7 hz7 hb7 hya_7 hyb_7)); (try (have hc7 := hc6; have hf7 := hf6; have hz7 := hz6; have hb7 := hb6; have hya_7 := hya_6; have hyb_7 := hyb_6; clear hc6 hf6 hz6 hb6 hya_6 hyb_6)); (try (have hc6 := hc5; have hf6 := hf5; have hz6 := hz5; have hb6 := hb5; have hya_6 := hya_5; have hyb_6 := hyb_5; clear hc5 hf5 hz5 hb5 hya_5 hyb_5)); (try (have hc5 := hc4; have hf5 := hf4; have hz5 := hz4; have hb5 := hb4; have hya_5 := hya_4; have hyb_5 := hyb_4; clear hc4 hf4 hz4 hb4 hya_4 hyb_4)); (try (have hc4 := hc3; have hf4 := hf3; have hz4 := hz3; have hb4 := hb3; have hya_4 := hya_3; have hyb_4 := hyb_3; clear hc3 hf3 hz3 hb3 hya_3 hyb_3)); (try (have hc3 := hc2; have hf3 := hf2; have hz3 := hz2; have hb3 := hb2; have hya_3 := hya_2; have hyb_3 := hyb_2; clear hc2 hf2 hz2 hb2 hya_2 hyb_2)); (try (have hc2 := hc1; have hf2 := hf1; have hz2 := hz1; have hb2 := hb1; have hya_2 := hya_1; have hyb_2 := hyb_1; clear hc1 hf1 hz1 hb1 hya_1 hyb_1)); rintro e w1 ⟨rfl, hb1⟩; obtain ⟨hc1, hf1⟩ := bcell hb1; (try simp only [World.size_drew, World.cell?_drew, World.frozen?_drew] at hc1 hf1); have hz1 := hb1.size; (try simp at hz1); have hya_1 : w.heap.size < w1.heap.size := (by omega); have hyb_1 : w.heap.size + 1 < w1.heap.size := (by omega))))
  all_goals (have z0 : w1.cell? ⟨w.heap.size + 1, 0, none⟩ = some (.int .i64 0) := (by simp [go_sem, *]); have z1 : w1.cell? ⟨w.heap.size + 1, 1, none⟩ = some (.int .i64 0) := (by simp [go_sem, *]); have z2 : w1.cell? ⟨w.heap.size + 1, 2, none⟩ = some (.string ⟨#[]⟩) := (by simp [go_sem, *]))
  all_goals (refine bodyPost_ret (v := .agg #[.int .i64 kr, .int .i64 nr, .string sr]) (by simp [results, Tryz.results83, go_sem, *]) rfl ⟨rfl, ?_⟩)
  all_goals ((repeat (with_reducible first | exact Below.refl _ _ | exact HBD.out | (refine Below.trans ?_ (Below.mono hb1 (by first | omega | (simp; done) | (simp; omega))); clear hb1) | (refine Below.trans ?_ (Below.mono hb2 (by first | omega | (simp; done) | (simp; omega))); clear hb2) | (refine Below.trans ?_ (Below.mono hb3 (by first | omega | (simp; done) | (simp; omega))); clear hb3) | (refine Below.trans ?_ (Below.mono hb4 (by first | omega | (simp; done) | (simp; omega))); clear hb4) | (refine Below.trans ?_ (Below.mono hb5 (by first | omega | (simp; done) | (simp; omega))); clear hb5) | (refine Below.trans ?_ (Below.mono hb6 (by first | omega | (simp; done) | (simp; omega))); clear hb6) | (refine Below.trans ?_ (Below.mono hb7 (by first | omega | (simp; done) | (simp; omega))); clear hb7) | (refine Below.trans ?_ (Below.mono hb8 (by first | omega | (simp; done) | (simp; omega))); clear hb8) | (refine Below.trans ?_ (Below.mono hb9 (by first | omega | (simp; done) | (simp; omega))); clear hb9) | (refine Below.trans ?_ (Below.mono hb10 (by first | omega | (simp; done) | (simp; omega))); clear hb10) | refine Below.alloc ?_ (by first | omega | (simp; done) | (simp; omega)) _ | refine Below.setCell ?_ (by first | omega | (simp; done) | (simp; omega)) _ | refine Below.drew ?_)))
set_option maxHeartbeats 8000000 in
theorem partValue1 (R T : Option Addr) (rl rc tl ct : Nat) (n vk vn : Int) (s : ByteArray) (w : World) : Calls Tryz.prog 83 #[.slice R rl rc, .agg #[.int .i64 1, .int .i64 n, .int .i64 vk, .int .i64 vn, .string s], .slice T tl ct] w fun e w' => e = .returned (.agg #[.int .i64 vk, .int .i64 vn, .string s]) ∧ Below w.heap.size w w' := by
  go_enter Tryz.func83, Tryz.ntmps83
  go_wp2
  all_goals (refine bodyPost_ret (v := .agg #[.int .i64 vk, .int .i64 vn, .string s]) (by simp [results, Tryz.results83, go_sem, *]) rfl ⟨rfl, ?_⟩)
  all_goals ((repeat (with_reducible first | exact Below.refl _ _ | exact HBD.out | (refine Below.trans ?_ (Below.mono hb1 (by first | omega | (simp; done) | (simp; omega))); clear hb1) | (refine Below.trans ?_ (Below.mono hb2 (by first | omega | (simp; done) | (simp; omega))); clear hb2) | (refine Below.trans ?_ (Below.mono hb3 (by first | omega | (simp; done) | (simp; omega))); clear hb3) | (refine Below.trans ?_ (Below.mono hb4 (by first | omega | (simp; done) | (simp; omega))); clear hb4) | (refine Below.trans ?_ (Below.mono hb5 (by first | omega | (simp; done) | (simp; omega))); clear hb5) | (refine Below.trans ?_ (Below.mono hb6 (by first | omega | (simp; done) | (simp; omega))); clear hb6) | (refine Below.trans ?_ (Below.mono hb7 (by first | omega | (simp; done) | (simp; omega))); clear hb7) | (refine Below.trans ?_ (Below.mono hb8 (by first | omega | (simp; done) | (simp; omega))); clear hb8) | (refine Below.trans ?_ (Below.mono hb9 (by first | omega | (simp; done) | (simp; omega))); clear hb9) | (refine Below.trans ?_ (Below.mono hb10 (by first | omega | (simp; done) | (simp; omega))); clear hb10) | refine Below.alloc ?_ (by first | omega | (simp; done) | (simp; omega)) _ | refine Below.setCell ?_ (by first | omega | (simp; done) | (simp; omega)) _ | refine Below.drew ?_)))
set_option maxHeartbeats 8000000 in
theorem partValue2 (R T : Option Addr) (gr o rc tl ct : Nat) (N : Nat) (vk vn : Int) (s : ByteArray) (row : List VT) (w : World) (hR : Fl w gr o R (flatV row)) (hN : N < row.length) (hl : row.length ≤ 2000000) : Calls Tryz.prog 83 #[.slice R row.length rc, .agg #[.int .i64 2, .int .i64 N, .int .i64 vk, .int .i64 vn, .string s], .slice T tl ct] w fun e w' => e = .returned (aggV row[N]) ∧ Below w.heap.size w w' := by
  obtain ⟨rfl, hg, c0, c1, c2⟩ := hR.v N hN
  clear hR
  obtain ⟨r, hr⟩ : ∃ r, row[N] = r := ⟨_, rfl⟩
  rw [hr] at c0 c1 c2 ⊢
  clear hr
  obtain ⟨kr, nr, sr⟩ := r
  unfold aggV
  simp only at c0 c1 c2 ⊢
  have i0' : (0 : Int) ≤ (N : Int) := by omega
  have i1' : (N : Int) < (row.length : Int) := by omega
  go_enter Tryz.func83, Tryz.ntmps83
  go_wp2
  all_goals (refine bodyPost_ret (v := .agg #[.int .i64 kr, .int .i64 nr, .string sr]) (by simp [results, Tryz.results83, go_sem, *]) rfl ⟨rfl, ?_⟩)
  all_goals ((repeat (with_reducible first | exact Below.refl _ _ | exact HBD.out | (refine Below.trans ?_ (Below.mono hb1 (by first | omega | (simp; done) | (simp; omega))); clear hb1) | (refine Below.trans ?_ (Below.mono hb2 (by first | omega | (simp; done) | (simp; omega))); clear hb2) | (refine Below.trans ?_ (Below.mono hb3 (by first | omega | (simp; done) | (simp; omega))); clear hb3) | (refine Below.trans ?_ (Below.mono hb4 (by first | omega | (simp; done) | (simp; omega))); clear hb4) | (refine Below.trans ?_ (Below.mono hb5 (by first | omega | (simp; done) | (simp; omega))); clear hb5) | (refine Below.trans ?_ (Below.mono hb6 (by first | omega | (simp; done) | (simp; omega))); clear hb6) | (refine Below.trans ?_ (Below.mono hb7 (by first | omega | (simp; done) | (simp; omega))); clear hb7) | (refine Below.trans ?_ (Below.mono hb8 (by first | omega | (simp; done) | (simp; omega))); clear hb8) | (refine Below.trans ?_ (Below.mono hb9 (by first | omega | (simp; done) | (simp; omega))); clear hb9) | (refine Below.trans ?_ (Below.mono hb10 (by first | omega | (simp; done) | (simp; omega))); clear hb10) | refine Below.alloc ?_ (by first | omega | (simp; done) | (simp; omega)) _ | refine Below.setCell ?_ (by first | omega | (simp; done) | (simp; omega)) _ | refine Below.drew ?_)))
end Go.Proofs.YtacinjbaebimhaaGreat.Val
namespace Go.Proofs.YtacinjbaebimhaaGreat.Val
open Go.RowKit
set_option linter.unusedVariables false
set_option linter.unusedSimpArgs false
set_option maxRecDepth 20000
set_option maxHeartbeats 8000000 in
theorem partValue4 (R T : Option Addr) (rl rc g o ct : Nat) (n vk vn k1 n1 k2 n2 : Int) (s s1 s2 : ByteArray) (w : World) (hT : Fl w g o T (flatV [(k1, n1, s1), (k2, n2, s2)])) (hs1 : s1.size ≤ maxLen) (hs2 : s2.size ≤ maxLen) : Calls Tryz.prog 83 #[.slice R rl rc, .agg #[.int .i64 4, .int .i64 n, .int .i64 vk, .int .i64 vn, .string s], .slice T 2 ct] w fun e w' => e = .returned (aggV (ofT (compI n k1 n1 s1 k2 n2 s2))) ∧ Below w.heap.size w w' := by
  obtain ⟨rfl, hg, c0, c1, c2, c3, c4, c5⟩ := two_cells hT
  clear hT
  have hg1 : g < w.heap.size + 1 := by omega
  have hg2 : g < w.heap.size + 1 + 1 := by omega
  have CC := Lib.hid (fun w => compareI n k1 n1 k2 n2 s1 s2 w hs1 hs2)
  obtain ⟨X, hX⟩ : ∃ x, compI n k1 n1 s1 k2 n2 s2 = x := ⟨_, rfl⟩
  rw [hX] at CC ⊢
  clear hX
  have CV := Lib.hid (fun w => valueOf X w)
  rw [vO_of] at CV
  obtain ⟨r, hr⟩ : ∃ r, ofT X = r := ⟨_, rfl⟩
  rw [hr] at CV ⊢
  clear hr
  obtain ⟨kr, nr, sr⟩ := r
  unfold aggV at CV ⊢
  simp only at CV ⊢
  go_enter Tryz.func83, Tryz.ntmps83
  go_wp2_with (fail)
  go_region_with (first | (go_at_call 92; ((with_reducible refine (CC.out _).mono ?_); (try (have hc10 := hc9; have hf10 := hf9; have hz10 := hz9; have hb10 := hb9; have hya_10 := hya_9; have hyb_10 := hyb_9; clear hc9 hf9 hz9 hb9 hya_9 hyb_9)); (try (have hc9 := hc8; have hf9 := hf8; have hz9 := hz8; have hb9 := hb8; have hya_9 := hya_8; have hyb_9 := hyb_8; clear hc8 hf8 hz8 hb8 hya_8 hyb_8)); (try (have hc8 := hc7; have hf8 := hf7; have hz8 := hz7; have hb8 := hb7; have hya_8 := hya_7; have hyb_8 := hyb_7; clear hc7 hf7 hz7 hb7 hya_7 hyb_7)); (try (have hc7 := hc6; have hf7 := hf6; have hz7 := hz6; have hb7 := hb6; have hya_7 := hya_6; have hyb_7 := hyb_6; clear hc6 hf6 hz6 hb6 hya_6 hyb_6)); (try (have hc6 := hc5; have hf6 := hf5; have hz6 := hz5; have hb6 := hb5; have hya_6 := hya_5; have hyb_6 := hyb_5; clear hc5 hf5 hz5 hb5 hya_5 hyb_5)); (try (have hc5 := hc4; have hf5 := hf4; have hz5 := hz4; have hb5 := hb4; have hya_5 := hya_4; have hyb_5 := hyb_4; clear hc4 hf4 hz4 hb4 hya_4 hyb_4)); (try (have hc4 := hc3; have hf4 := hf3; have hz4 := hz3; have hb4 := hb3; have hya_4 := hya_3; have hyb_4 := hyb_3; clear hc3 hf3 hz3 hb3 hya_3 hyb_3)); (try (have hc3 := hc2; have hf3 := hf2; have hz3 := hz2; have hb3 := hb2; have hya_3 := hya_2; have hyb_3 := hyb_2; clear hc2 hf2 hz2 hb2 hya_2 hyb_2)); (try (have hc2 := hc1; have hf2 := hf1; have hz2 := hz1; have hb2 := hb1; have hya_2 := hya_1; have hyb_2 := hyb_1; clear hc1 hf1 hz1 hb1 hya_1 hyb_1)); rintro e w1 ⟨rfl, hb1⟩; obtain ⟨hc1, hf1⟩ := bcell hb1; (try simp only [World.size_drew, World.cell?_drew, World.frozen?_drew] at hc1 hf1); have hz1 := hb1.size; (try simp at hz1); have hya_1 : w.heap.size < w1.heap.size := (by omega); have hyb_1 : w.heap.size + 1 < w1.heap.size := (by omega))) | (go_at_call 68; ((with_reducible refine (CV.out _).mono ?_); (try (have hc10 := hc9; have hf10 := hf9; have hz10 := hz9; have hb10 := hb9; have hya_10 := hya_9; have hyb_10 := hyb_9; clear hc9 hf9 hz9 hb9 hya_9 hyb_9)); (try (have hc9 := hc8; have hf9 := hf8; have hz9 := hz8; have hb9 := hb8; have hya_9 := hya_8; have hyb_9 := hyb_8; clear hc8 hf8 hz8 hb8 hya_8 hyb_8)); (try (have hc8 := hc7; have hf8 := hf7; have hz8 := hz7; have hb8 := hb7; have hya_8 := hya_7; have hyb_8 := hyb_7; clear hc7 hf7 hz7 hb7 hya_7 hyb_7)); (try (have hc7 := hc6; have hf7 := hf6; have hz7 := hz6; have hb7 := hb6; have hya_7 := hya_6; have hyb_7 := hyb_6; clear hc6 hf6 hz6 hb6 hya_6 hyb_6)); (try (have hc6 := hc5; have hf6 := hf5; have hz6 := hz5; have hb6 := hb5; have hya_6 := hya_5; have hyb_6 := hyb_5; clear hc5 hf5 hz5 hb5 hya_5 hyb_5)); (try (have hc5 := hc4; have hf5 := hf4; have hz5 := hz4; have hb5 := hb4; have hya_5 := hya_4; have hyb_5 := hyb_4; clear hc4 hf4 hz4 hb4 hya_4 hyb_4)); (try (have hc4 := hc3; have hf4 := hf3; have hz4 := hz3; have hb4 := hb3; have hya_4 := hya_3; have hyb_4 := hyb_3; clear hc3 hf3 hz3 hb3 hya_3 hyb_3)); (try (have hc3 := hc2; have hf3 := hf2; have hz3 := hz2; have hb3 := hb2; have hya_3 := hya_2; have hyb_3 := hyb_2; clear hc2 hf2 hz2 hb2 hya_2 hyb_2)); (try (have hc2 := hc1; have hf2 := hf1; have hz2 := hz1; have hb2 := hb1; have hya_2 := hya_1; have hyb_2 := hyb_1; clear hc1 hf1 hz1 hb1 hya_1 hyb_1)); rintro e w1 ⟨rfl, hb1⟩; obtain ⟨hc1, hf1⟩ := bcell hb1; (try simp only [World.size_drew, World.cell?_drew, World.frozen?_drew] at hc1 hf1); have hz1 := hb1.size; (try simp at hz1); have hya_1 : w.heap.size < w1.heap.size := (by omega); have hyb_1 : w.heap.size + 1 < w1.heap.size := (by omega))))
  all_goals (try go_wp2_with (fail))
  all_goals (have z0 : w1.cell? ⟨w.heap.size + 1, 0, none⟩ = some (.int .i64 0) := (by simp [go_sem, *]); have z1 : w1.cell? ⟨w.heap.size + 1, 1, none⟩ = some (.int .i64 0) := (by simp [go_sem, *]); have z2 : w1.cell? ⟨w.heap.size + 1, 2, none⟩ = some (.string ⟨#[]⟩) := (by simp [go_sem, *]))
  all_goals (refine bodyPost_ret (v := .agg #[.int .i64 kr, .int .i64 nr, .string sr]) (by simp [results, Tryz.results83, go_sem, *]) rfl ⟨rfl, ?_⟩)
  all_goals ((repeat (with_reducible first | exact Below.refl _ _ | exact HBD.out | (refine Below.trans ?_ (Below.mono hb1 (by first | omega | (simp; done) | (simp; omega))); clear hb1) | (refine Below.trans ?_ (Below.mono hb2 (by first | omega | (simp; done) | (simp; omega))); clear hb2) | (refine Below.trans ?_ (Below.mono hb3 (by first | omega | (simp; done) | (simp; omega))); clear hb3) | (refine Below.trans ?_ (Below.mono hb4 (by first | omega | (simp; done) | (simp; omega))); clear hb4) | (refine Below.trans ?_ (Below.mono hb5 (by first | omega | (simp; done) | (simp; omega))); clear hb5) | (refine Below.trans ?_ (Below.mono hb6 (by first | omega | (simp; done) | (simp; omega))); clear hb6) | (refine Below.trans ?_ (Below.mono hb7 (by first | omega | (simp; done) | (simp; omega))); clear hb7) | (refine Below.trans ?_ (Below.mono hb8 (by first | omega | (simp; done) | (simp; omega))); clear hb8) | (refine Below.trans ?_ (Below.mono hb9 (by first | omega | (simp; done) | (simp; omega))); clear hb9) | (refine Below.trans ?_ (Below.mono hb10 (by first | omega | (simp; done) | (simp; omega))); clear hb10) | refine Below.alloc ?_ (by first | omega | (simp; done) | (simp; omega)) _ | refine Below.setCell ?_ (by first | omega | (simp; done) | (simp; omega)) _ | refine Below.drew ?_)))
end Go.Proofs.YtacinjbaebimhaaGreat.Val
namespace Go.Proofs.YtacinjbaebimhaaGreat.Val
open Go.RowKit
set_option linter.unusedVariables false
set_option linter.unusedSimpArgs false
set_option maxRecDepth 20000
set_option maxHeartbeats 8000000 in
theorem partValue5 (R T : Option Addr) (rl rc g o ct : Nat) (n vk vn k1 n1 k2 n2 : Int) (s s1 s2 : ByteArray) (w : World) (hT : Fl w g o T (flatV [(k1, n1, s1), (k2, n2, s2)])) (hs1 : s1.size ≤ maxLen) (hs2 : s2.size ≤ maxLen) : Calls Tryz.prog 83 #[.slice R rl rc, .agg #[.int .i64 5, .int .i64 n, .int .i64 vk, .int .i64 vn, .string s], .slice T 2 ct] w fun e w' => e = .returned (aggV (ofT (andI (toI k1 n1 s1) (toI k2 n2 s2)))) ∧ Below w.heap.size w w' := by
  obtain ⟨rfl, hg, c0, c1, c2, c3, c4, c5⟩ := two_cells hT
  clear hT
  have hg1 : g < w.heap.size + 1 := by omega
  have hg2 : g < w.heap.size + 1 + 1 := by omega
  have C1 := Lib.hid (fun w => truthOf k1 n1 s1 w hs1)
  obtain ⟨X1, hX1⟩ : ∃ x, toI k1 n1 s1 = x := ⟨_, rfl⟩
  rw [hX1] at C1 ⊢
  clear hX1
  have C2 := Lib.hid (fun w => truthOf k2 n2 s2 w hs2)
  obtain ⟨X2, hX2⟩ : ∃ x, toI k2 n2 s2 = x := ⟨_, rfl⟩
  rw [hX2] at C2 ⊢
  clear hX2
  have CA := Lib.hid (fun w => andOf X1 X2 w)
  obtain ⟨X, hX⟩ : ∃ x, andI X1 X2 = x := ⟨_, rfl⟩
  rw [hX] at CA ⊢
  clear hX
  have CV := Lib.hid (fun w => valueOf X w)
  rw [vO_of] at CV
  obtain ⟨r, hr⟩ : ∃ r, ofT X = r := ⟨_, rfl⟩
  rw [hr] at CV ⊢
  clear hr
  obtain ⟨kr, nr, sr⟩ := r
  unfold aggV at CV ⊢
  simp only at CV ⊢
  go_enter Tryz.func83, Tryz.ntmps83
  go_wp2_with (fail)
  go_region_with (first | (go_at_call 94; ((with_reducible refine (C1.out _).mono ?_); (try (have hc10 := hc9; have hf10 := hf9; have hz10 := hz9; have hb10 := hb9; have hya_10 := hya_9; have hyb_10 := hyb_9; clear hc9 hf9 hz9 hb9 hya_9 hyb_9)); (try (have hc9 := hc8; have hf9 := hf8; have hz9 := hz8; have hb9 := hb8; have hya_9 := hya_8; have hyb_9 := hyb_8; clear hc8 hf8 hz8 hb8 hya_8 hyb_8)); (try (have hc8 := hc7; have hf8 := hf7; have hz8 := hz7; have hb8 := hb7; have hya_8 := hya_7; have hyb_8 := hyb_7; clear hc7 hf7 hz7 hb7 hya_7 hyb_7)); (try (have hc7 := hc6; have hf7 := hf6; have hz7 := hz6; have hb7 := hb6; have hya_7 := hya_6; have hyb_7 := hyb_6; clear hc6 hf6 hz6 hb6 hya_6 hyb_6)); (try (have hc6 := hc5; have hf6 := hf5; have hz6 := hz5; have hb6 := hb5; have hya_6 := hya_5; have hyb_6 := hyb_5; clear hc5 hf5 hz5 hb5 hya_5 hyb_5)); (try (have hc5 := hc4; have hf5 := hf4; have hz5 := hz4; have hb5 := hb4; have hya_5 := hya_4; have hyb_5 := hyb_4; clear hc4 hf4 hz4 hb4 hya_4 hyb_4)); (try (have hc4 := hc3; have hf4 := hf3; have hz4 := hz3; have hb4 := hb3; have hya_4 := hya_3; have hyb_4 := hyb_3; clear hc3 hf3 hz3 hb3 hya_3 hyb_3)); (try (have hc3 := hc2; have hf3 := hf2; have hz3 := hz2; have hb3 := hb2; have hya_3 := hya_2; have hyb_3 := hyb_2; clear hc2 hf2 hz2 hb2 hya_2 hyb_2)); (try (have hc2 := hc1; have hf2 := hf1; have hz2 := hz1; have hb2 := hb1; have hya_2 := hya_1; have hyb_2 := hyb_1; clear hc1 hf1 hz1 hb1 hya_1 hyb_1)); rintro e w1 ⟨rfl, hb1⟩; obtain ⟨hc1, hf1⟩ := bcell hb1; (try simp only [World.size_drew, World.cell?_drew, World.frozen?_drew] at hc1 hf1); have hz1 := hb1.size; (try simp at hz1); have hya_1 : w.heap.size < w1.heap.size := (by omega); have hyb_1 : w.heap.size + 1 < w1.heap.size := (by omega))) | (go_at_call 94; ((with_reducible refine (C2.out _).mono ?_); (try (have hc10 := hc9; have hf10 := hf9; have hz10 := hz9; have hb10 := hb9; have hya_10 := hya_9; have hyb_10 := hyb_9; clear hc9 hf9 hz9 hb9 hya_9 hyb_9)); (try (have hc9 := hc8; have hf9 := hf8; have hz9 := hz8; have hb9 := hb8; have hya_9 := hya_8; have hyb_9 := hyb_8; clear hc8 hf8 hz8 hb8 hya_8 hyb_8)); (try (have hc8 := hc7; have hf8 := hf7; have hz8 := hz7; have hb8 := hb7; have hya_8 := hya_7; have hyb_8 := hyb_7; clear hc7 hf7 hz7 hb7 hya_7 hyb_7)); (try (have hc7 := hc6; have hf7 := hf6; have hz7 := hz6; have hb7 := hb6; have hya_7 := hya_6; have hyb_7 := hyb_6; clear hc6 hf6 hz6 hb6 hya_6 hyb_6)); (try (have hc6 := hc5; have hf6 := hf5; have hz6 := hz5; have hb6 := hb5; have hya_6 := hya_5; have hyb_6 := hyb_5; clear hc5 hf5 hz5 hb5 hya_5 hyb_5)); (try (have hc5 := hc4; have hf5 := hf4; have hz5 := hz4; have hb5 := hb4; have hya_5 := hya_4; have hyb_5 := hyb_4; clear hc4 hf4 hz4 hb4 hya_4 hyb_4)); (try (have hc4 := hc3; have hf4 := hf3; have hz4 := hz3; have hb4 := hb3; have hya_4 := hya_3; have hyb_4 := hyb_3; clear hc3 hf3 hz3 hb3 hya_3 hyb_3)); (try (have hc3 := hc2; have hf3 := hf2; have hz3 := hz2; have hb3 := hb2; have hya_3 := hya_2; have hyb_3 := hyb_2; clear hc2 hf2 hz2 hb2 hya_2 hyb_2)); (try (have hc2 := hc1; have hf2 := hf1; have hz2 := hz1; have hb2 := hb1; have hya_2 := hya_1; have hyb_2 := hyb_1; clear hc1 hf1 hz1 hb1 hya_1 hyb_1)); rintro e w1 ⟨rfl, hb1⟩; obtain ⟨hc1, hf1⟩ := bcell hb1; (try simp only [World.size_drew, World.cell?_drew, World.frozen?_drew] at hc1 hf1); have hz1 := hb1.size; (try simp at hz1); have hya_1 : w.heap.size < w1.heap.size := (by omega); have hyb_1 : w.heap.size + 1 < w1.heap.size := (by omega))) | (go_at_call 93; ((with_reducible refine (CA.out _).mono ?_); rintro e w1 ⟨rfl, rfl⟩)) | (go_at_call 68; ((with_reducible refine (CV.out _).mono ?_); (try (have hc10 := hc9; have hf10 := hf9; have hz10 := hz9; have hb10 := hb9; have hya_10 := hya_9; have hyb_10 := hyb_9; clear hc9 hf9 hz9 hb9 hya_9 hyb_9)); (try (have hc9 := hc8; have hf9 := hf8; have hz9 := hz8; have hb9 := hb8; have hya_9 := hya_8; have hyb_9 := hyb_8; clear hc8 hf8 hz8 hb8 hya_8 hyb_8)); (try (have hc8 := hc7; have hf8 := hf7; have hz8 := hz7; have hb8 := hb7; have hya_8 := hya_7; have hyb_8 := hyb_7; clear hc7 hf7 hz7 hb7 hya_7 hyb_7)); (try (have hc7 := hc6; have hf7 := hf6; have hz7 := hz6; have hb7 := hb6; have hya_7 := hya_6; have hyb_7 := hyb_6; clear hc6 hf6 hz6 hb6 hya_6 hyb_6)); (try (have hc6 := hc5; have hf6 := hf5; have hz6 := hz5; have hb6 := hb5; have hya_6 := hya_5; have hyb_6 := hyb_5; clear hc5 hf5 hz5 hb5 hya_5 hyb_5)); (try (have hc5 := hc4; have hf5 := hf4; have hz5 := hz4; have hb5 := hb4; have hya_5 := hya_4; have hyb_5 := hyb_4; clear hc4 hf4 hz4 hb4 hya_4 hyb_4)); (try (have hc4 := hc3; have hf4 := hf3; have hz4 := hz3; have hb4 := hb3; have hya_4 := hya_3; have hyb_4 := hyb_3; clear hc3 hf3 hz3 hb3 hya_3 hyb_3)); (try (have hc3 := hc2; have hf3 := hf2; have hz3 := hz2; have hb3 := hb2; have hya_3 := hya_2; have hyb_3 := hyb_2; clear hc2 hf2 hz2 hb2 hya_2 hyb_2)); (try (have hc2 := hc1; have hf2 := hf1; have hz2 := hz1; have hb2 := hb1; have hya_2 := hya_1; have hyb_2 := hyb_1; clear hc1 hf1 hz1 hb1 hya_1 hyb_1)); rintro e w1 ⟨rfl, hb1⟩; obtain ⟨hc1, hf1⟩ := bcell hb1; (try simp only [World.size_drew, World.cell?_drew, World.frozen?_drew] at hc1 hf1); have hz1 := hb1.size; (try simp at hz1); have hya_1 : w.heap.size < w1.heap.size := (by omega); have hyb_1 : w.heap.size + 1 < w1.heap.size := (by omega))))
  all_goals (try go_wp2_with (fail))
  all_goals (have z0 : w1.cell? ⟨w.heap.size + 1, 0, none⟩ = some (.int .i64 0) := (by simp [go_sem, *]); have z1 : w1.cell? ⟨w.heap.size + 1, 1, none⟩ = some (.int .i64 0) := (by simp [go_sem, *]); have z2 : w1.cell? ⟨w.heap.size + 1, 2, none⟩ = some (.string ⟨#[]⟩) := (by simp [go_sem, *]))
  all_goals (refine bodyPost_ret (v := .agg #[.int .i64 kr, .int .i64 nr, .string sr]) (by simp [results, Tryz.results83, go_sem, *]) rfl ⟨rfl, ?_⟩)
  all_goals ((repeat (with_reducible first | exact Below.refl _ _ | exact HBD.out | (refine Below.trans ?_ (Below.mono hb1 (by first | omega | (simp; done) | (simp; omega))); clear hb1) | (refine Below.trans ?_ (Below.mono hb2 (by first | omega | (simp; done) | (simp; omega))); clear hb2) | (refine Below.trans ?_ (Below.mono hb3 (by first | omega | (simp; done) | (simp; omega))); clear hb3) | (refine Below.trans ?_ (Below.mono hb4 (by first | omega | (simp; done) | (simp; omega))); clear hb4) | (refine Below.trans ?_ (Below.mono hb5 (by first | omega | (simp; done) | (simp; omega))); clear hb5) | (refine Below.trans ?_ (Below.mono hb6 (by first | omega | (simp; done) | (simp; omega))); clear hb6) | (refine Below.trans ?_ (Below.mono hb7 (by first | omega | (simp; done) | (simp; omega))); clear hb7) | (refine Below.trans ?_ (Below.mono hb8 (by first | omega | (simp; done) | (simp; omega))); clear hb8) | (refine Below.trans ?_ (Below.mono hb9 (by first | omega | (simp; done) | (simp; omega))); clear hb9) | (refine Below.trans ?_ (Below.mono hb10 (by first | omega | (simp; done) | (simp; omega))); clear hb10) | refine Below.alloc ?_ (by first | omega | (simp; done) | (simp; omega)) _ | refine Below.setCell ?_ (by first | omega | (simp; done) | (simp; omega)) _ | refine Below.drew ?_)))
end Go.Proofs.YtacinjbaebimhaaGreat.Val
namespace Go.Proofs.YtacinjbaebimhaaGreat.Val
open Go.RowKit
set_option linter.unusedVariables false
set_option linter.unusedSimpArgs false
set_option maxRecDepth 20000
set_option maxHeartbeats 8000000 in
theorem partValue6 (R T : Option Addr) (rl rc g o ct : Nat) (n vk vn k1 n1 k2 n2 : Int) (s s1 s2 : ByteArray) (w : World) (hT : Fl w g o T (flatV [(k1, n1, s1), (k2, n2, s2)])) (hs1 : s1.size ≤ maxLen) (hs2 : s2.size ≤ maxLen) : Calls Tryz.prog 83 #[.slice R rl rc, .agg #[.int .i64 6, .int .i64 n, .int .i64 vk, .int .i64 vn, .string s], .slice T 2 ct] w fun e w' => e = .returned (aggV (ofT (orI (toI k1 n1 s1) (toI k2 n2 s2)))) ∧ Below w.heap.size w w' := by
  obtain ⟨rfl, hg, c0, c1, c2, c3, c4, c5⟩ := two_cells hT
  clear hT
  have hg1 : g < w.heap.size + 1 := by omega
  have hg2 : g < w.heap.size + 1 + 1 := by omega
  have C1 := Lib.hid (fun w => truthOf k1 n1 s1 w hs1)
  obtain ⟨X1, hX1⟩ : ∃ x, toI k1 n1 s1 = x := ⟨_, rfl⟩
  rw [hX1] at C1 ⊢
  clear hX1
  have C2 := Lib.hid (fun w => truthOf k2 n2 s2 w hs2)
  obtain ⟨X2, hX2⟩ : ∃ x, toI k2 n2 s2 = x := ⟨_, rfl⟩
  rw [hX2] at C2 ⊢
  clear hX2
  have CA := Lib.hid (fun w => orOf X1 X2 w)
  obtain ⟨X, hX⟩ : ∃ x, orI X1 X2 = x := ⟨_, rfl⟩
  rw [hX] at CA ⊢
  clear hX
  have CV := Lib.hid (fun w => valueOf X w)
  rw [vO_of] at CV
  obtain ⟨r, hr⟩ : ∃ r, ofT X = r := ⟨_, rfl⟩
  rw [hr] at CV ⊢
  clear hr
  obtain ⟨kr, nr, sr⟩ := r
  unfold aggV at CV ⊢
  simp only at CV ⊢
  go_enter Tryz.func83, Tryz.ntmps83
  go_wp2_with (fail)
  go_region_with (first | (go_at_call 94; ((with_reducible refine (C1.out _).mono ?_); (try (have hc10 := hc9; have hf10 := hf9; have hz10 := hz9; have hb10 := hb9; have hya_10 := hya_9; have hyb_10 := hyb_9; clear hc9 hf9 hz9 hb9 hya_9 hyb_9)); (try (have hc9 := hc8; have hf9 := hf8; have hz9 := hz8; have hb9 := hb8; have hya_9 := hya_8; have hyb_9 := hyb_8; clear hc8 hf8 hz8 hb8 hya_8 hyb_8)); (try (have hc8 := hc7; have hf8 := hf7; have hz8 := hz7; have hb8 := hb7; have hya_8 := hya_7; have hyb_8 := hyb_7; clear hc7 hf7 hz7 hb7 hya_7 hyb_7)); (try (have hc7 := hc6; have hf7 := hf6; have hz7 := hz6; have hb7 := hb6; have hya_7 := hya_6; have hyb_7 := hyb_6; clear hc6 hf6 hz6 hb6 hya_6 hyb_6)); (try (have hc6 := hc5; have hf6 := hf5; have hz6 := hz5; have hb6 := hb5; have hya_6 := hya_5; have hyb_6 := hyb_5; clear hc5 hf5 hz5 hb5 hya_5 hyb_5)); (try (have hc5 := hc4; have hf5 := hf4; have hz5 := hz4; have hb5 := hb4; have hya_5 := hya_4; have hyb_5 := hyb_4; clear hc4 hf4 hz4 hb4 hya_4 hyb_4)); (try (have hc4 := hc3; have hf4 := hf3; have hz4 := hz3; have hb4 := hb3; have hya_4 := hya_3; have hyb_4 := hyb_3; clear hc3 hf3 hz3 hb3 hya_3 hyb_3)); (try (have hc3 := hc2; have hf3 := hf2; have hz3 := hz2; have hb3 := hb2; have hya_3 := hya_2; have hyb_3 := hyb_2; clear hc2 hf2 hz2 hb2 hya_2 hyb_2)); (try (have hc2 := hc1; have hf2 := hf1; have hz2 := hz1; have hb2 := hb1; have hya_2 := hya_1; have hyb_2 := hyb_1; clear hc1 hf1 hz1 hb1 hya_1 hyb_1)); rintro e w1 ⟨rfl, hb1⟩; obtain ⟨hc1, hf1⟩ := bcell hb1; (try simp only [World.size_drew, World.cell?_drew, World.frozen?_drew] at hc1 hf1); have hz1 := hb1.size; (try simp at hz1); have hya_1 : w.heap.size < w1.heap.size := (by omega); have hyb_1 : w.heap.size + 1 < w1.heap.size := (by omega))) | (go_at_call 94; ((with_reducible refine (C2.out _).mono ?_); (try (have hc10 := hc9; have hf10 := hf9; have hz10 := hz9; have hb10 := hb9; have hya_10 := hya_9; have hyb_10 := hyb_9; clear hc9 hf9 hz9 hb9 hya_9 hyb_9)); (try (have hc9 := hc8; have hf9 := hf8; have hz9 := hz8; have hb9 := hb8; have hya_9 := hya_8; have hyb_9 := hyb_8; clear hc8 hf8 hz8 hb8 hya_8 hyb_8)); (try (have hc8 := hc7; have hf8 := hf7; have hz8 := hz7; have hb8 := hb7; have hya_8 := hya_7; have hyb_8 := hyb_7; clear hc7 hf7 hz7 hb7 hya_7 hyb_7)); (try (have hc7 := hc6; have hf7 := hf6; have hz7 := hz6; have hb7 := hb6; have hya_7 := hya_6; have hyb_7 := hyb_6; clear hc6 hf6 hz6 hb6 hya_6 hyb_6)); (try (have hc6 := hc5; have hf6 := hf5; have hz6 := hz5; have hb6 := hb5; have hya_6 := hya_5; have hyb_6 := hyb_5; clear hc5 hf5 hz5 hb5 hya_5 hyb_5)); (try (have hc5 := hc4; have hf5 := hf4; have hz5 := hz4; have hb5 := hb4; have hya_5 := hya_4; have hyb_5 := hyb_4; clear hc4 hf4 hz4 hb4 hya_4 hyb_4)); (try (have hc4 := hc3; have hf4 := hf3; have hz4 := hz3; have hb4 := hb3; have hya_4 := hya_3; have hyb_4 := hyb_3; clear hc3 hf3 hz3 hb3 hya_3 hyb_3)); (try (have hc3 := hc2; have hf3 := hf2; have hz3 := hz2; have hb3 := hb2; have hya_3 := hya_2; have hyb_3 := hyb_2; clear hc2 hf2 hz2 hb2 hya_2 hyb_2)); (try (have hc2 := hc1; have hf2 := hf1; have hz2 := hz1; have hb2 := hb1; have hya_2 := hya_1; have hyb_2 := hyb_1; clear hc1 hf1 hz1 hb1 hya_1 hyb_1)); rintro e w1 ⟨rfl, hb1⟩; obtain ⟨hc1, hf1⟩ := bcell hb1; (try simp only [World.size_drew, World.cell?_drew, World.frozen?_drew] at hc1 hf1); have hz1 := hb1.size; (try simp at hz1); have hya_1 : w.heap.size < w1.heap.size := (by omega); have hyb_1 : w.heap.size + 1 < w1.heap.size := (by omega))) | (go_at_call 95; ((with_reducible refine (CA.out _).mono ?_); rintro e w1 ⟨rfl, rfl⟩)) | (go_at_call 68; ((with_reducible refine (CV.out _).mono ?_); (try (have hc10 := hc9; have hf10 := hf9; have hz10 := hz9; have hb10 := hb9; have hya_10 := hya_9; have hyb_10 := hyb_9; clear hc9 hf9 hz9 hb9 hya_9 hyb_9)); (try (have hc9 := hc8; have hf9 := hf8; have hz9 := hz8; have hb9 := hb8; have hya_9 := hya_8; have hyb_9 := hyb_8; clear hc8 hf8 hz8 hb8 hya_8 hyb_8)); (try (have hc8 := hc7; have hf8 := hf7; have hz8 := hz7; have hb8 := hb7; have hya_8 := hya_7; have hyb_8 := hyb_7; clear hc7 hf7 hz7 hb7 hya_7 hyb_7)); (try (have hc7 := hc6; have hf7 := hf6; have hz7 := hz6; have hb7 := hb6; have hya_7 := hya_6; have hyb_7 := hyb_6; clear hc6 hf6 hz6 hb6 hya_6 hyb_6)); (try (have hc6 := hc5; have hf6 := hf5; have hz6 := hz5; have hb6 := hb5; have hya_6 := hya_5; have hyb_6 := hyb_5; clear hc5 hf5 hz5 hb5 hya_5 hyb_5)); (try (have hc5 := hc4; have hf5 := hf4; have hz5 := hz4; have hb5 := hb4; have hya_5 := hya_4; have hyb_5 := hyb_4; clear hc4 hf4 hz4 hb4 hya_4 hyb_4)); (try (have hc4 := hc3; have hf4 := hf3; have hz4 := hz3; have hb4 := hb3; have hya_4 := hya_3; have hyb_4 := hyb_3; clear hc3 hf3 hz3 hb3 hya_3 hyb_3)); (try (have hc3 := hc2; have hf3 := hf2; have hz3 := hz2; have hb3 := hb2; have hya_3 := hya_2; have hyb_3 := hyb_2; clear hc2 hf2 hz2 hb2 hya_2 hyb_2)); (try (have hc2 := hc1; have hf2 := hf1; have hz2 := hz1; have hb2 := hb1; have hya_2 := hya_1; have hyb_2 := hyb_1; clear hc1 hf1 hz1 hb1 hya_1 hyb_1)); rintro e w1 ⟨rfl, hb1⟩; obtain ⟨hc1, hf1⟩ := bcell hb1; (try simp only [World.size_drew, World.cell?_drew, World.frozen?_drew] at hc1 hf1); have hz1 := hb1.size; (try simp at hz1); have hya_1 : w.heap.size < w1.heap.size := (by omega); have hyb_1 : w.heap.size + 1 < w1.heap.size := (by omega))))
  all_goals (try go_wp2_with (fail))
  all_goals (have z0 : w1.cell? ⟨w.heap.size + 1, 0, none⟩ = some (.int .i64 0) := (by simp [go_sem, *]); have z1 : w1.cell? ⟨w.heap.size + 1, 1, none⟩ = some (.int .i64 0) := (by simp [go_sem, *]); have z2 : w1.cell? ⟨w.heap.size + 1, 2, none⟩ = some (.string ⟨#[]⟩) := (by simp [go_sem, *]))
  all_goals (refine bodyPost_ret (v := .agg #[.int .i64 kr, .int .i64 nr, .string sr]) (by simp [results, Tryz.results83, go_sem, *]) rfl ⟨rfl, ?_⟩)
  all_goals ((repeat (with_reducible first | exact Below.refl _ _ | exact HBD.out | (refine Below.trans ?_ (Below.mono hb1 (by first | omega | (simp; done) | (simp; omega))); clear hb1) | (refine Below.trans ?_ (Below.mono hb2 (by first | omega | (simp; done) | (simp; omega))); clear hb2) | (refine Below.trans ?_ (Below.mono hb3 (by first | omega | (simp; done) | (simp; omega))); clear hb3) | (refine Below.trans ?_ (Below.mono hb4 (by first | omega | (simp; done) | (simp; omega))); clear hb4) | (refine Below.trans ?_ (Below.mono hb5 (by first | omega | (simp; done) | (simp; omega))); clear hb5) | (refine Below.trans ?_ (Below.mono hb6 (by first | omega | (simp; done) | (simp; omega))); clear hb6) | (refine Below.trans ?_ (Below.mono hb7 (by first | omega | (simp; done) | (simp; omega))); clear hb7) | (refine Below.trans ?_ (Below.mono hb8 (by first | omega | (simp; done) | (simp; omega))); clear hb8) | (refine Below.trans ?_ (Below.mono hb9 (by first | omega | (simp; done) | (simp; omega))); clear hb9) | (refine Below.trans ?_ (Below.mono hb10 (by first | omega | (simp; done) | (simp; omega))); clear hb10) | refine Below.alloc ?_ (by first | omega | (simp; done) | (simp; omega)) _ | refine Below.setCell ?_ (by first | omega | (simp; done) | (simp; omega)) _ | refine Below.drew ?_)))
end Go.Proofs.YtacinjbaebimhaaGreat.Val
namespace Go.Proofs.YtacinjbaebimhaaGreat.Val
open Go.RowKit
set_option linter.unusedVariables false
theorem ok_size {v : VT} (h : okV v = true) : v.2.2.size ≤ maxLen := by
  obtain ⟨k, n, s⟩ := v
  have hz : ∀ s : ByteArray, s.toList = [] → s.size ≤ maxLen := fun s h => by rw [bytes_none h]; decide
  rcases ok_cases k n s with ho | ⟨-, -, h1, -⟩ | ⟨-, -, -, h1, -⟩ | ⟨-, -, h1, -⟩ | ⟨-, -, h1, -⟩ | ⟨-, -, h1, -⟩
  · have h' : okB k n s = true := h
    rw [h'] at ho; cases ho
  · exact hz _ h1
  · exact hz _ h1
  · show s.size ≤ maxLen
    unfold maxLen; omega
  · exact hz _ h1
  · exact hz _ h1
/-- A part that can be done asks for no more than there is, and what it asks of is there. -/
theorem step_has {cs : List CT} {p : PT} {st st' : List Int} (h : stepK cs p st = some st') : fieldB cs p = true ∧ takesI p.1 ≤ st.length := by
  constructor
  · rcases hb : fieldB cs p with _ | _
    · rw [fits_not hb] at h; cases h
    · rfl
  · rcases Nat.lt_or_ge st.length (takesI p.1) with h2 | h2
    · rw [few_not h2] at h; cases h
    · exact h2
theorem typ_ok {vs : List VT} : ∀ {ks : List Int}, Typ vs ks → ∀ v ∈ vs, okV v = true := by
  induction vs with
  | nil => intro ks _ v hv; cases hv
  | cons v vs ih =>
    intro ks h u hu
    cases ks with
    | nil => exact absurd h (by simp [Typ])
    | cons k ks =>
      rcases List.mem_cons.1 hu with rfl | hu
      · exact h.1.1
      · exact ih h.2 u hu
theorem partValueA (R T : Option Addr) (gr orr rc g o ct : Nat) (cs : List CT) (row vs : List VT) (st st' : List Int) (p : PT) (w : World) (hR : Fl w gr orr R (flatV row)) (hT : Fl w g o T (flatV (vs.take (takesI p.1)).reverse)) (hs : stepK cs p st = some st') (hty : Typ vs st) (hf : fitB cs row = true) (hl : row.length ≤ 2000000) : Calls Tryz.prog 83 #[.slice R row.length rc, aggP p, .slice T (takesI p.1) ct] w fun e w' => e = .returned (aggV (putV row p (vs.take (takesI p.1)).reverse)) ∧ Below w.heap.size w w' := by
  obtain ⟨hfd, htk⟩ := step_has hs
  rw [← hty.len] at htk
  have hok := typ_ok hty
  clear hs hty
  obtain ⟨k, n, vk, vn, s⟩ := p
  simp only [fieldB] at hfd
  unfold aggP
  simp only [takesI] at hT htk ⊢
  rcases kind_eight k with rfl | rfl | rfl | rfl | rfl | rfl | rfl | rfl | ⟨h1, h2, h3, h4, h5, h6, h7, h8⟩
  case inr.inr.inr.inr.inr.inr.inr.inr => simp [h1, h2, h3, h4, h5, h6, h7, h8] at hfd
  · exact partValue1 R T _ _ _ _ _ _ _ _ w
  · simp at hfd
    obtain ⟨-, hn0, hn1⟩ := hfd
    simp only [fitB, Bool.and_eq_true, decide_eq_true_eq] at hf
    obtain ⟨N, rfl⟩ : ∃ N : Nat, n = N := ⟨n.toNat, by omega⟩
    have hN : N < row.length := by have := hf.1.2; omega
    have := partValue2 R T gr orr rc 0 ct N vk vn s row w hR hN hl
    simpa [putV, List.getD_eq_getElem?_getD, List.getElem?_eq_getElem hN] using this
  all_goals (rcases vs with _ | ⟨a, _ | ⟨b, q⟩⟩)
  all_goals try (simp at htk; done)
  · obtain ⟨h1, h2⟩ := ok_num (hok b (by simp)); obtain ⟨h3, h4⟩ := ok_num (hok a (by simp))
    exact partValue3 R T _ _ g o ct _ _ _ _ _ _ _ _ _ _ w hT h1 h2 h3 h4
  · exact partValue4 R T _ _ g o ct _ _ _ _ _ _ _ _ _ _ w hT (ok_size (hok b (by simp))) (ok_size (hok a (by simp)))
  · exact partValue5 R T _ _ g o ct _ _ _ _ _ _ _ _ _ _ w hT (ok_size (hok b (by simp))) (ok_size (hok a (by simp)))
  · exact partValue6 R T _ _ g o ct _ _ _ _ _ _ _ _ _ _ w hT (ok_size (hok b (by simp))) (ok_size (hok a (by simp)))
  · exact partValue7 R T _ _ g o ct _ _ _ _ _ _ _ w hT (ok_size (hok a (by simp)))
  · exact partValue7 R T _ _ g o ct _ _ _ _ _ _ _ w hT (ok_size (hok a (by simp)))
  · exact partValue8 R T _ _ g o ct _ _ _ _ _ _ _ w hT (ok_size (hok a (by simp)))
  · exact partValue8 R T _ _ g o ct _ _ _ _ _ _ _ w hT (ok_size (hok a (by simp)))
end Go.Proofs.YtacinjbaebimhaaGreat.Val
