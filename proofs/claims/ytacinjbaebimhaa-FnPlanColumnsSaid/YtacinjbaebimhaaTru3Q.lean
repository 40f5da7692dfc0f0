/- Contracts of the functions on truths (both sides); TruthOf of spec, ValueOf, and Compare's parts; Compare, both sides. -/
import Derived.Test.YtacinjbaebimhaaTMathQ
import Derived.Deep.RegionHeld3
import Derived.Deep.RegionWith
namespace Go.Proofs.Ytacinjbaebimhaa.Val
open Go.RowKit
theorem retV {a b : Value} (h : a = b) : Ending.returned a = Ending.returned b := by rw [h]
theorem truthOk (n : Int) (w : World) : Calls Try.prog 169 #[.int .i64 n] w fun e w' => e = .returned (.bool (tB n)) ∧ w = w' := by
  go_enter Try.func169, Try.ntmps169
  go_wp2
  all_goals (go_ret; refine ⟨retB ?_, rfl⟩)
  all_goals (first | (simp_all [tB]; done) | (rw [tB, Bool.eq_iff_iff]; simp; omega))
theorem truthPlace (n : Int) (w : World) : Calls Try.prog 170 #[.int .i64 n] w fun e w' => e = .returned (.int .i64 (pl n)) ∧ w = w' := by
  go_enter Try.func170, Try.ntmps170
  go_wp2
  all_goals (go_ret; refine ⟨retI ?_, rfl⟩)
  all_goals (simp_all [pl])
theorem leastOf (a b : Int) (w : World) : Calls Try.prog 171 #[.int .i64 a, .int .i64 b] w fun e w' => e = .returned (.int .i64 (if a < b then a else b)) ∧ w = w' := by
  go_enter Try.func171, Try.ntmps171
  go_wp2
  all_goals (go_ret; refine ⟨retI ?_, rfl⟩)
  all_goals (simp_all)
  all_goals (try omega)
theorem greatestOf (a b : Int) (w : World) : Calls Try.prog 172 #[.int .i64 a, .int .i64 b] w fun e w' => e = .returned (.int .i64 (if b < a then a else b)) ∧ w = w' := by
  go_enter Try.func172, Try.ntmps172
  go_wp2
  all_goals (go_ret; refine ⟨retI ?_, rfl⟩)
  all_goals (simp_all)
  all_goals (try omega)
theorem andOf (a b : Int) (w : World) : Calls Try.prog 163 #[.int .i64 a, .int .i64 b] w fun e w' => e = .returned (.int .i64 (andI a b)) ∧ w = w' := by
  go_enter Try.func163, Try.ntmps163
  go_wp2_with (first | (go_at_call 169; ((with_reducible refine (truthOk _ _).mono ?_); rintro e w1 ⟨rfl, rfl⟩)) | (go_at_call 170; ((with_reducible refine (truthPlace _ _).mono ?_); rintro e w1 ⟨rfl, rfl⟩)) | (go_at_call 171; ((with_reducible refine (leastOf _ _ _).mono ?_); rintro e w1 ⟨rfl, rfl⟩)))
  all_goals (go_ret; refine ⟨retI ?_, rfl⟩)
  all_goals (try (exact (andI_no (by simp_all)).symm))
  all_goals (have ha : tB a = true := by simp_all)
  all_goals (have hb : tB b = true := by simp_all)
  all_goals (rcases tB_cases ha with rfl | rfl | rfl <;> rcases tB_cases hb with rfl | rfl | rfl <;> first | decide | (exfalso; simp_all [pl]; done))
theorem orOf (a b : Int) (w : World) : Calls Try.prog 165 #[.int .i64 a, .int .i64 b] w fun e w' => e = .returned (.int .i64 (orI a b)) ∧ w = w' := by
  go_enter Try.func165, Try.ntmps165
  go_wp2_with (first | (go_at_call 169; ((with_reducible refine (truthOk _ _).mono ?_); rintro e w1 ⟨rfl, rfl⟩)) | (go_at_call 170; ((with_reducible refine (truthPlace _ _).mono ?_); rintro e w1 ⟨rfl, rfl⟩)) | (go_at_call 172; ((with_reducible refine (greatestOf _ _ _).mono ?_); rintro e w1 ⟨rfl, rfl⟩)))
  all_goals (go_ret; refine ⟨retI ?_, rfl⟩)
  all_goals (try (exact (orI_no (by simp_all)).symm))
  all_goals (have ha : tB a = true := by simp_all)
  all_goals (have hb : tB b = true := by simp_all)
  all_goals (rcases tB_cases ha with rfl | rfl | rfl <;> rcases tB_cases hb with rfl | rfl | rfl <;> first | decide | (exfalso; simp_all [pl]; done))
theorem notOf (a : Int) (w : World) : Calls Try.prog 166 #[.int .i64 a] w fun e w' => e = .returned (.int .i64 (notI a)) ∧ w = w' := by
  go_enter Try.func166, Try.ntmps166
  go_wp2
  all_goals (go_ret; refine ⟨retI ?_, rfl⟩)
  all_goals (simp_all [notI])
theorem truthOf (k n : Int) (s : ByteArray) (w : World) (hs : s.size ≤ maxLen) : Calls Try.prog 164 #[.agg #[.int .i64 k, .int .i64 n, .string s]] w fun e w' => e = .returned (.int .i64 (toI k n s)) ∧ Below w.heap.size w w' := by
  go_enter Try.func164, Try.ntmps164
  go_wp2_with ((go_at_call 50; ((with_reducible refine (valueOk _ _ _ _ (by assumption)).mono ?_); (try (have hc10 := hc9; have hf10 := hf9; have hz10 := hz9; have hb10 := hb9; have hya_10 := hya_9; clear hc9 hf9 hz9 hb9 hya_9)); (try (have hc9 := hc8; have hf9 := hf8; have hz9 := hz8; have hb9 := hb8; have hya_9 := hya_8; clear hc8 hf8 hz8 hb8 hya_8)); (try (have hc8 := hc7; have hf8 := hf7; have hz8 := hz7; have hb8 := hb7; have hya_8 := hya_7; clear hc7 hf7 hz7 hb7 hya_7)); (try (have hc7 := hc6; have hf7 := hf6; have hz7 := hz6; have hb7 := hb6; have hya_7 := hya_6; clear hc6 hf6 hz6 hb6 hya_6)); (try (have hc6 := hc5; have hf6 := hf5; have hz6 := hz5; have hb6 := hb5; have hya_6 := hya_5; clear hc5 hf5 hz5 hb5 hya_5)); (try (have hc5 := hc4; have hf5 := hf4; have hz5 := hz4; have hb5 := hb4; have hya_5 := hya_4; clear hc4 hf4 hz4 hb4 hya_4)); (try (have hc4 := hc3; have hf4 := hf3; have hz4 := hz3; have hb4 := hb3; have hya_4 := hya_3; clear hc3 hf3 hz3 hb3 hya_3)); (try (have hc3 := hc2; have hf3 := hf2; have hz3 := hz2; have hb3 := hb2; have hya_3 := hya_2; clear hc2 hf2 hz2 hb2 hya_2)); (try (have hc2 := hc1; have hf2 := hf1; have hz2 := hz1; have hb2 := hb1; have hya_2 := hya_1; clear hc1 hf1 hz1 hb1 hya_1)); rintro e w1 ⟨rfl, hb1⟩; obtain ⟨hc1, hf1⟩ := bcell hb1; (try simp only [World.size_drew, World.cell?_drew, World.frozen?_drew] at hc1 hf1); have hz1 := hb1.size; (try simp at hz1); have hya_1 : w.heap.size < w1.heap.size := (by omega))))
  all_goals (go_ret; refine ⟨retI ?_, by (repeat (with_reducible first | exact Below.refl _ _ | exact HBD.out | (refine Below.trans ?_ (Below.mono hb1 (by first | omega | (simp; done) | (simp; omega))); clear hb1) | (refine Below.trans ?_ (Below.mono hb2 (by first | omega | (simp; done) | (simp; omega))); clear hb2) | (refine Below.trans ?_ (Below.mono hb3 (by first | omega | (simp; done) | (simp; omega))); clear hb3) | (refine Below.trans ?_ (Below.mono hb4 (by first | omega | (simp; done) | (simp; omega))); clear hb4) | (refine Below.trans ?_ (Below.mono hb5 (by first | omega | (simp; done) | (simp; omega))); clear hb5) | (refine Below.trans ?_ (Below.mono hb6 (by first | omega | (simp; done) | (simp; omega))); clear hb6) | (refine Below.trans ?_ (Below.mono hb7 (by first | omega | (simp; done) | (simp; omega))); clear hb7) | (refine Below.trans ?_ (Below.mono hb8 (by first | omega | (simp; done) | (simp; omega))); clear hb8) | (refine Below.trans ?_ (Below.mono hb9 (by first | omega | (simp; done) | (simp; omega))); clear hb9) | (refine Below.trans ?_ (Below.mono hb10 (by first | omega | (simp; done) | (simp; omega))); clear hb10) | refine Below.alloc ?_ (by first | omega | (simp; done) | (simp; omega)) _ | refine Below.setCell ?_ (by first | omega | (simp; done) | (simp; omega)) _ | refine Below.drew ?_))⟩)
  all_goals (simp_all [toI])
end Go.Proofs.Ytacinjbaebimhaa.Val
namespace Go.Proofs.Ytacinjbaebimhaa.Val
open Go.RowKit
/-- The value of a truth. -/
def vO (t : Int) : Value := if t = 0 ∨ t = 1 then .agg #[.int .i64 3, .int .i64 t, .string ⟨#[]⟩] else .agg #[.int .i64 0, .int .i64 0, .string ⟨#[]⟩]
theorem valueOf (t : Int) (w : World) : Calls Try.prog 144 #[.int .i64 t] w fun e w' => e = .returned (vO t) ∧ Below w.heap.size w w' := by
  go_enter Try.func144, Try.ntmps144
  go_wp2
  all_goals (refine bodyPost_ret (v := .agg #[.int .i64 _, .int .i64 _, .string ⟨#[]⟩]) (by simp [results, Try.results144, go_sem, *]; first | exact ⟨rfl, rfl, rfl⟩ | exact ⟨rfl, rfl⟩) rfl ⟨retV ?_, by (repeat (with_reducible first | exact Below.refl _ _ | exact HBD.out | (refine Below.trans ?_ (Below.mono hb1 (by first | omega | (simp; done) | (simp; omega))); clear hb1) | (refine Below.trans ?_ (Below.mono hb2 (by first | omega | (simp; done) | (simp; omega))); clear hb2) | (refine Below.trans ?_ (Below.mono hb3 (by first | omega | (simp; done) | (simp; omega))); clear hb3) | (refine Below.trans ?_ (Below.mono hb4 (by first | omega | (simp; done) | (simp; omega))); clear hb4) | (refine Below.trans ?_ (Below.mono hb5 (by first | omega | (simp; done) | (simp; omega))); clear hb5) | (refine Below.trans ?_ (Below.mono hb6 (by first | omega | (simp; done) | (simp; omega))); clear hb6) | (refine Below.trans ?_ (Below.mono hb7 (by first | omega | (simp; done) | (simp; omega))); clear hb7) | (refine Below.trans ?_ (Below.mono hb8 (by first | omega | (simp; done) | (simp; omega))); clear hb8) | (refine Below.trans ?_ (Below.mono hb9 (by first | omega | (simp; done) | (simp; omega))); clear hb9) | (refine Below.trans ?_ (Below.mono hb10 (by first | omega | (simp; done) | (simp; omega))); clear hb10) | refine Below.alloc ?_ (by first | omega | (simp; done) | (simp; omega)) _ | refine Below.setCell ?_ (by first | omega | (simp; done) | (simp; omega)) _ | refine Below.drew ?_))⟩)
  all_goals (simp_all [vO])
theorem surely (b : Bool) (w : World) : Calls Try.prog 167 #[.bool b] w fun e w' => e = .returned (.int .i64 (if b = true then 1 else 0)) ∧ w = w' := by
  go_enter Try.func167, Try.ntmps167
  go_wp2
  all_goals (go_ret; refine ⟨retI ?_, rfl⟩)
  all_goals simp_all
theorem comparisonOk (n : Int) (w : World) : Calls Try.prog 157 #[.int .i64 n] w fun e w' => e = .returned (.bool (decide (1 ≤ n) && decide (n ≤ 4))) ∧ w = w' := by
  go_enter Try.func157, Try.ntmps157
  go_wp2
  all_goals (go_ret; refine ⟨retB ?_, rfl⟩)
  all_goals (simp_all <;> omega)
theorem comparisonHolds (kind o : Int) (w : World) : Calls Try.prog 168 #[.int .i64 kind, .int .i64 o] w fun e w' => e = .returned (.bool (holdB kind o)) ∧ w = w' := by
  go_enter Try.func168, Try.ntmps168
  go_wp2
  all_goals (go_ret; refine ⟨retB ?_, rfl⟩)
  all_goals (simp_all [holdB])
  all_goals (try rfl)
end Go.Proofs.Ytacinjbaebimhaa.Val
namespace Go.Proofs.Ytacinjbaebimhaa.Val
open Go.RowKit
theorem compareI (kind k1 n1 k2 n2 : Int) (s1 s2 : ByteArray) (w : World) (h1 : s1.size ≤ maxLen) (h2 : s2.size ≤ maxLen) : Calls Try.prog 162 #[.int .i64 kind, .agg #[.int .i64 k1, .int .i64 n1, .string s1], .agg #[.int .i64 k2, .int .i64 n2, .string s2]] w fun e w' => e = .returned (.int .i64 (compI kind k1 n1 s1 k2 n2 s2)) ∧ Below w.heap.size w w' := by
  obtain ⟨N, hN⟩ : ∃ N, ordI k1 n1 s1 k2 n2 s2 = N := ⟨_, rfl⟩
  have C := Lib.hid (fun w => valueOrderI k1 n1 k2 n2 s1 s2 w h1 h2)
  rw [hN] at C
  have HN := Lib.hid hN
  clear hN
  go_enter Try.func162, Try.ntmps162
  go_wp2_with (first | (go_at_call 157; ((with_reducible refine (comparisonOk _ _).mono ?_); rintro e w1 ⟨rfl, rfl⟩)) | (go_at_call 50; ((with_reducible refine (valueOk _ _ _ _ (by assumption)).mono ?_); (try (have hc10 := hc9; have hf10 := hf9; have hz10 := hz9; have hb10 := hb9; have hya_10 := hya_9; have hyb_10 := hyb_9; clear hc9 hf9 hz9 hb9 hya_9 hyb_9)); (try (have hc9 := hc8; have hf9 := hf8; have hz9 := hz8; have hb9 := hb8; have hya_9 := hya_8; have hyb_9 := hyb_8; clear hc8 hf8 hz8 hb8 hya_8 hyb_8)); (try (have hc8 := hc7; have hf8 := hf7; have hz8 := hz7; have hb8 := hb7; have hya_8 := hya_7; have hyb_8 := hyb_7; clear hc7 hf7 hz7 hb7 hya_7 hyb_7)); (try (have hc7 := hc6; have hf7 := hf6; have hz7 := hz6; have hb7 := hb6; have hya_7 := hya_6; have hyb_7 := hyb_6; clear hc6 hf6 hz6 hb6 hya_6 hyb_6)); (try (have hc6 := hc5; have hf6 := hf5; have hz6 := hz5; have hb6 := hb5; have hya_6 := hya_5; have hyb_6 := hyb_5; clear hc5 hf5 hz5 hb5 hya_5 hyb_5)); (try (have hc5 := hc4; have hf5 := hf4; have hz5 := hz4; have hb5 := hb4; have hya_5 := hya_4; have hyb_5 := hyb_4; clear hc4 hf4 hz4 hb4 hya_4 hyb_4)); (try (have hc4 := hc3; have hf4 := hf3; have hz4 := hz3; have hb4 := hb3; have hya_4 := hya_3; have hyb_4 := hyb_3; clear hc3 hf3 hz3 hb3 hya_3 hyb_3)); (try (have hc3 := hc2; have hf3 := hf2; have hz3 := hz2; have hb3 := hb2; have hya_3 := hya_2; have hyb_3 := hyb_2; clear hc2 hf2 hz2 hb2 hya_2 hyb_2)); (try (have hc2 := hc1; have hf2 := hf1; have hz2 := hz1; have hb2 := hb1; have hya_2 := hya_1; have hyb_2 := hyb_1; clear hc1 hf1 hz1 hb1 hya_1 hyb_1)); rintro e w1 ⟨rfl, hb1⟩; obtain ⟨hc1, hf1⟩ := bcell hb1; (try simp only [World.size_drew, World.cell?_drew, World.frozen?_drew] at hc1 hf1); have hz1 := hb1.size; (try simp at hz1); have hya_1 : w.heap.size < w1.heap.size := (by omega); have hyb_1 : w.heap.size + 1 < w1.heap.size := (by omega))) | (go_at_call 126; ((with_reducible refine (C.out _).mono ?_); (try (have hc10 := hc9; have hf10 := hf9; have hz10 := hz9; have hb10 := hb9; have hya_10 := hya_9; have hyb_10 := hyb_9; clear hc9 hf9 hz9 hb9 hya_9 hyb_9)); (try (have hc9 := hc8; have hf9 := hf8; have hz9 := hz8; have hb9 := hb8; have hya_9 := hya_8; have hyb_9 := hyb_8; clear hc8 hf8 hz8 hb8 hya_8 hyb_8)); (try (have hc8 := hc7; have hf8 := hf7; have hz8 := hz7; have hb8 := hb7; have hya_8 := hya_7; have hyb_8 := hyb_7; clear hc7 hf7 hz7 hb7 hya_7 hyb_7)); (try (have hc7 := hc6; have hf7 := hf6; have hz7 := hz6; have hb7 := hb6; have hya_7 := hya_6; have hyb_7 := hyb_6; clear hc6 hf6 hz6 hb6 hya_6 hyb_6)); (try (have hc6 := hc5; have hf6 := hf5; have hz6 := hz5; have hb6 := hb5; have hya_6 := hya_5; have hyb_6 := hyb_5; clear hc5 hf5 hz5 hb5 hya_5 hyb_5)); (try (have hc5 := hc4; have hf5 := hf4; have hz5 := hz4; have hb5 := hb4; have hya_5 := hya_4; have hyb_5 := hyb_4; clear hc4 hf4 hz4 hb4 hya_4 hyb_4)); (try (have hc4 := hc3; have hf4 := hf3; have hz4 := hz3; have hb4 := hb3; have hya_4 := hya_3; have hyb_4 := hyb_3; clear hc3 hf3 hz3 hb3 hya_3 hyb_3)); (try (have hc3 := hc2; have hf3 := hf2; have hz3 := hz2; have hb3 := hb2; have hya_3 := hya_2; have hyb_3 := hyb_2; clear hc2 hf2 hz2 hb2 hya_2 hyb_2)); (try (have hc2 := hc1; have hf2 := hf1; have hz2 := hz1; have hb2 := hb1; have hya_2 := hya_1; have hyb_2 := hyb_1; clear hc1 hf1 hz1 hb1 hya_1 hyb_1)); rintro e w1 ⟨rfl, hb1⟩; obtain ⟨hc1, hf1⟩ := bcell hb1; (try simp only [World.size_drew, World.cell?_drew, World.frozen?_drew] at hc1 hf1); have hz1 := hb1.size; (try simp at hz1); have hya_1 : w.heap.size < w1.heap.size := (by omega); have hyb_1 : w.heap.size + 1 < w1.heap.size := (by omega))) | (go_at_call 168; ((with_reducible refine (comparisonHolds _ _ _).mono ?_); rintro e w1 ⟨rfl, rfl⟩)) | (go_at_call 167; ((with_reducible refine (surely _ _).mono ?_); rintro e w1 ⟨rfl, rfl⟩)))
  all_goals (go_ret; refine ⟨retI ?_, ?_⟩)
  all_goals (try (show Below _ _ _; (repeat (with_reducible first | exact Below.refl _ _ | exact HBD.out | (refine Below.trans ?_ (Below.mono hb1 (by first | omega | (simp; done) | (simp; omega))); clear hb1) | (refine Below.trans ?_ (Below.mono hb2 (by first | omega | (simp; done) | (simp; omega))); clear hb2) | (refine Below.trans ?_ (Below.mono hb3 (by first | omega | (simp; done) | (simp; omega))); clear hb3) | (refine Below.trans ?_ (Below.mono hb4 (by first | omega | (simp; done) | (simp; omega))); clear hb4) | (refine Below.trans ?_ (Below.mono hb5 (by first | omega | (simp; done) | (simp; omega))); clear hb5) | (refine Below.trans ?_ (Below.mono hb6 (by first | omega | (simp; done) | (simp; omega))); clear hb6) | (refine Below.trans ?_ (Below.mono hb7 (by first | omega | (simp; done) | (simp; omega))); clear hb7) | (refine Below.trans ?_ (Below.mono hb8 (by first | omega | (simp; done) | (simp; omega))); clear hb8) | (refine Below.trans ?_ (Below.mono hb9 (by first | omega | (simp; done) | (simp; omega))); clear hb9) | (refine Below.trans ?_ (Below.mono hb10 (by first | omega | (simp; done) | (simp; omega))); clear hb10) | refine Below.alloc ?_ (by first | omega | (simp; done) | (simp; omega)) _ | refine Below.setCell ?_ (by first | omega | (simp; done) | (simp; omega)) _ | refine Below.drew ?_))))
  all_goals (unfold compI; rw [HN.out]; clear C HN)
  all_goals (cases hA : okB k1 n1 s1 <;> cases hB : okB k2 n2 s2 <;> simp_all <;> (try omega))
end Go.Proofs.Ytacinjbaebimhaa.Val
