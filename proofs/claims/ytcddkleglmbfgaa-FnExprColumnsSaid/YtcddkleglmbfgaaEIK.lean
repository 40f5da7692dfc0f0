/- Parts by their fields and by what they take: impl's helpers for kinds. -/
import Derived.Test.YtcddkleglmbfgaaFlP
import Derived.Test.YtcddkleglmbfgaaEMathA
import Derived.Test.YtcddkleglmbfgaaTru2
import Derived.Deep.RegionHeldLaw
namespace Go.Proofs.Ytcddkleglmbfgaa.Val
open Go.RowKit
set_option linter.unusedVariables false
set_option maxRecDepth 20000
theorem partTakes (k : Int) (w : World) : Calls Try.prog 62 #[.int .i64 k] w fun e w' => e = .returned (.int .i64 (takesI k)) ∧ w = w' := by
  go_enter Try.func62, Try.ntmps62
  go_wp2
  all_goals (go_ret; refine ⟨retI ?_, rfl⟩)
  all_goals (simp_all [takesI])
theorem kindIf (b : Bool) (k : Int) (w : World) : Calls Try.prog 116 #[.bool b, .int .i64 k] w fun e w' => e = .returned (.int .i64 (if b = true then k else -1)) ∧ w = w' := by
  go_enter Try.func116, Try.ntmps116
  go_wp2
  all_goals (go_ret; refine ⟨retI ?_, rfl⟩)
  all_goals (simp_all)
set_option maxHeartbeats 4000000 in
theorem partOk (A : Option Addr) (cc : Nat) (cs : List CT) (p : PT) (w : World) (hs : p.2.2.2.2.size ≤ maxLen) (hcs : cs.length ≤ 2000000) : Calls Try.prog 91 #[.slice A cs.length cc, aggP p] w fun e w' => e = .returned (.bool (fieldB cs p)) ∧ Below w.heap.size w w' := by
  obtain ⟨k, n, vk, vn, s⟩ := p
  unfold aggP
  simp only at hs ⊢
  go_enter Try.func91, Try.ntmps91
  go_wp2_with (first | (go_at_call 64; ((with_reducible refine (valueOk _ _ _ _ (by assumption)).mono ?_); (try (have hc10 := hc9; have hf10 := hf9; have hz10 := hz9; have hb10 := hb9; have hya_10 := hya_9; clear hc9 hf9 hz9 hb9 hya_9)); (try (have hc9 := hc8; have hf9 := hf8; have hz9 := hz8; have hb9 := hb8; have hya_9 := hya_8; clear hc8 hf8 hz8 hb8 hya_8)); (try (have hc8 := hc7; have hf8 := hf7; have hz8 := hz7; have hb8 := hb7; have hya_8 := hya_7; clear hc7 hf7 hz7 hb7 hya_7)); (try (have hc7 := hc6; have hf7 := hf6; have hz7 := hz6; have hb7 := hb6; have hya_7 := hya_6; clear hc6 hf6 hz6 hb6 hya_6)); (try (have hc6 := hc5; have hf6 := hf5; have hz6 := hz5; have hb6 := hb5; have hya_6 := hya_5; clear hc5 hf5 hz5 hb5 hya_5)); (try (have hc5 := hc4; have hf5 := hf4; have hz5 := hz4; have hb5 := hb4; have hya_5 := hya_4; clear hc4 hf4 hz4 hb4 hya_4)); (try (have hc4 := hc3; have hf4 := hf3; have hz4 := hz3; have hb4 := hb3; have hya_4 := hya_3; clear hc3 hf3 hz3 hb3 hya_3)); (try (have hc3 := hc2; have hf3 := hf2; have hz3 := hz2; have hb3 := hb2; have hya_3 := hya_2; clear hc2 hf2 hz2 hb2 hya_2)); (try (have hc2 := hc1; have hf2 := hf1; have hz2 := hz1; have hb2 := hb1; have hya_2 := hya_1; clear hc1 hf1 hz1 hb1 hya_1)); rintro e w1 ⟨rfl, hb1⟩; obtain ⟨hc1, hf1⟩ := bcell hb1; (try simp only [World.size_drew, World.cell?_drew, World.frozen?_drew] at hc1 hf1); have hz1 := hb1.size; (try simp at hz1); have hya_1 : w.heap.size < w1.heap.size := (by omega))) | (go_at_call 115; ((with_reducible refine (comparisonOk _ _).mono ?_); rintro e w1 ⟨rfl, rfl⟩)))
  all_goals (go_ret; refine ⟨retB ?_, ?_⟩)
  all_goals (try (show Below _ _ _; (repeat (with_reducible first | exact Below.refl _ _ | exact HBD.out | (refine Below.trans ?_ (Below.mono hb1 (by first | omega | (simp; done) | (simp; omega))); clear hb1) | (refine Below.trans ?_ (Below.mono hb2 (by first | omega | (simp; done) | (simp; omega))); clear hb2) | (refine Below.trans ?_ (Below.mono hb3 (by first | omega | (simp; done) | (simp; omega))); clear hb3) | (refine Below.trans ?_ (Below.mono hb4 (by first | omega | (simp; done) | (simp; omega))); clear hb4) | (refine Below.trans ?_ (Below.mono hb5 (by first | omega | (simp; done) | (simp; omega))); clear hb5) | (refine Below.trans ?_ (Below.mono hb6 (by first | omega | (simp; done) | (simp; omega))); clear hb6) | (refine Below.trans ?_ (Below.mono hb7 (by first | omega | (simp; done) | (simp; omega))); clear hb7) | (refine Below.trans ?_ (Below.mono hb8 (by first | omega | (simp; done) | (simp; omega))); clear hb8) | (refine Below.trans ?_ (Below.mono hb9 (by first | omega | (simp; done) | (simp; omega))); clear hb9) | (refine Below.trans ?_ (Below.mono hb10 (by first | omega | (simp; done) | (simp; omega))); clear hb10) | refine Below.alloc ?_ (by first | omega | (simp; done) | (simp; omega)) _ | refine Below.setCell ?_ (by first | omega | (simp; done) | (simp; omega)) _ | refine Below.drew ?_))))
  all_goals (simp_all [fieldB, isNil, okV])
  all_goals (first | omega | rfl)
theorem kall_no {l : List Int} {kk : Int} {i : Nat} (h : i < l.length) (hne : l[i] ≠ kk) : l.all (fun x => decide (x = kk)) = false := by
  rw [List.all_eq_false]
  exact ⟨l[i], List.getElem_mem h, by simpa using hne⟩
set_option maxHeartbeats 1000000 in
theorem kindsAre (A : Option Addr) (g o cap : Nat) (l : List Int) (kk : Int) (w : World) (hA : Fl w g o A (l.map iv)) (hl : l.length ≤ 2000000) :
    Calls Try.prog 117 #[.slice A l.length cap, .int .i64 kk] w fun e w' => e = .returned (.bool (l.all (fun x => decide (x = kk)))) ∧ Below w.heap.size w w' := by
  have HA := Lib.hid hA
  clear hA
  go_enter Try.func117, Try.ntmps117
  go_wp2
  go_loopw [5] (fun ix wr => ∃ (k : Nat), k ≤ l.length ∧ ix = .int .i64 k ∧ Hid (∀ i (h : i < l.length), i < k → l[i] = kk) ∧ Hid (Below w.heap.size w wr)) (fun ix _ => l.length - (intOf ix).toNat)
  case atStart => exact ⟨0, by omega, rfl, (fun i h h0 => absurd h0 (by omega) : ∀ i (h : i < l.length), i < 0 → l[i] = kk), Below.refl _ _⟩
  case round =>
    obtain ⟨k, hk, rfl, HE, HW⟩ := hrel
    by_cases hlt : k < l.length
    · obtain ⟨rfl, -, -⟩ := HA.out.n k hlt
      obtain ⟨-, hg2, c0⟩ := (HA.out.below HW.out).n k hlt
      have HN := Lib.hid (fun (hne : l[k] ≠ kk) => kall_no hlt hne)
      have HE2 : l[k] = kk → Hid (∀ i (h : i < l.length), i < k + 1 → l[i] = kk) := by
        intro he i h hi
        by_cases hik : i = k
        · subst hik; exact he
        · exact HE.out i h (by omega)
      have HE3 := Lib.hid HE2
      clear HE2
      obtain ⟨K, hK⟩ : ∃ K, l[k] = K := ⟨_, rfl⟩
      rw [hK] at c0 HN HE3
      clear hK
      have i0' : (0 : Int) ≤ (k : Int) := by omega
      have i1' : (k : Int) < (l.length : Int) := by omega
      go_wp2
      all_goals (try go_region)
      all_goals (try go_wp2)
      all_goals first
        | exact ⟨⟨k + 1, by omega, by go_num, HE3.out (by assumption), HW⟩, by simp [intOf]; omega⟩
        | exact ⟨⟨k + 1, by omega, by go_num, HE3.out (by simp_all), HW⟩, by simp [intOf]; omega⟩
        | exact ⟨⟨k + 1, by omega, by go_num, HE3.out (by simp_all), HW.out.drew⟩, by simp [intOf]; omega⟩
        | (go_ret; exact ⟨retB (HN.out (by simp_all)).symm, HW.out⟩)
        | (go_ret; exact ⟨retB (HN.out (by simp_all)).symm, HW.out.drew⟩)
    · obtain rfl : k = l.length := by omega
      go_wp2
      go_ret
      refine ⟨retB ?_, HW.out⟩
      symm
      rw [List.all_eq_true]
      intro x hx
      obtain ⟨i, hi, rfl⟩ := List.mem_iff_getElem.1 hx
      simpa using HE.out i hi hi
theorem kindsAreB (A : Option Addr) (g o cap n : Nat) (l : List Int) (kk : Int) (b : Bool) (w : World) (hA : Fl w g o A (l.map iv)) (hn : l.length = n) (hb : l.all (fun x => decide (x = kk)) = b) (hl : n ≤ 2000000) :
    Calls Try.prog 117 #[.slice A n cap, .int .i64 kk] w fun e w' => e = .returned (.bool b) ∧ Below w.heap.size w w' := by
  subst hn hb
  exact kindsAre A g o cap l kk w hA hl
set_option maxHeartbeats 4000000 in
theorem partKind3 (A T : Option Addr) (cc g o ct m : Nat) (n vk vn : Int) (s : ByteArray) (l : List Int) (b : Bool) (w : World) (hT : Fl w g o T (l.map iv)) (hl : l.length = 2) (hb : l.all (fun x => decide (x = 1)) = b) : Calls Try.prog 92 #[.slice A m cc, .agg #[.int .i64 3, .int .i64 n, .int .i64 vk, .int .i64 vn, .string s], .slice T 2 ct] w fun e w' => e = .returned (.int .i64 (if b = true then 1 else -1)) ∧ Below w.heap.size w w' := by
  have HT := Lib.hid hT
  have HL := Lib.hid hl
  have HBb := Lib.hid hb
  clear hT hl hb
  cases b
  all_goals (go_enter Try.func92, Try.ntmps92)
  all_goals (go_wp2_with (first | (go_at_call 117; ((with_reducible refine (kindsAreB T g o ct 2 l 1 _ _ (by repeat (with_reducible first | exact HT.out | apply Fl.alloc | apply Fl.drew)) HL.out HBb.out (by omega)).mono ?_); rintro e w1 ⟨rfl, hb1⟩; obtain ⟨hc1, hf1⟩ := bcell hb1; (try simp only [World.size_drew, World.cell?_drew, World.frozen?_drew] at hc1 hf1); have hz1 := hb1.size; (try simp at hz1))) | (go_at_call 116; ((with_reducible refine (kindIf _ _ _).mono ?_); rintro e w1 ⟨rfl, rfl⟩))))
  all_goals (go_ret; refine ⟨retI ?_, by (repeat (with_reducible first | exact Below.refl _ _ | exact HBD.out | (refine Below.trans ?_ (Below.mono hb1 (by first | omega | (simp; done) | (simp; omega))); clear hb1) | (refine Below.trans ?_ (Below.mono hb2 (by first | omega | (simp; done) | (simp; omega))); clear hb2) | (refine Below.trans ?_ (Below.mono hb3 (by first | omega | (simp; done) | (simp; omega))); clear hb3) | (refine Below.trans ?_ (Below.mono hb4 (by first | omega | (simp; done) | (simp; omega))); clear hb4) | (refine Below.trans ?_ (Below.mono hb5 (by first | omega | (simp; done) | (simp; omega))); clear hb5) | (refine Below.trans ?_ (Below.mono hb6 (by first | omega | (simp; done) | (simp; omega))); clear hb6) | (refine Below.trans ?_ (Below.mono hb7 (by first | omega | (simp; done) | (simp; omega))); clear hb7) | (refine Below.trans ?_ (Below.mono hb8 (by first | omega | (simp; done) | (simp; omega))); clear hb8) | (refine Below.trans ?_ (Below.mono hb9 (by first | omega | (simp; done) | (simp; omega))); clear hb9) | (refine Below.trans ?_ (Below.mono hb10 (by first | omega | (simp; done) | (simp; omega))); clear hb10) | refine Below.alloc ?_ (by first | omega | (simp; done) | (simp; omega)) _ | refine Below.setCell ?_ (by first | omega | (simp; done) | (simp; omega)) _ | refine Below.drew ?_))⟩)
  all_goals (simp)
set_option maxHeartbeats 4000000 in
theorem partKind5 (A T : Option Addr) (cc g o ct m : Nat) (n vk vn : Int) (s : ByteArray) (l : List Int) (b : Bool) (w : World) (hT : Fl w g o T (l.map iv)) (hl : l.length = 2) (hb : l.all (fun x => decide (x = 3)) = b) : Calls Try.prog 92 #[.slice A m cc, .agg #[.int .i64 5, .int .i64 n, .int .i64 vk, .int .i64 vn, .string s], .slice T 2 ct] w fun e w' => e = .returned (.int .i64 (if b = true then 3 else -1)) ∧ Below w.heap.size w w' := by
  have HT := Lib.hid hT
  have HL := Lib.hid hl
  have HBb := Lib.hid hb
  clear hT hl hb
  cases b
  all_goals (go_enter Try.func92, Try.ntmps92)
  all_goals (go_wp2_with (first | (go_at_call 117; ((with_reducible refine (kindsAreB T g o ct 2 l 3 _ _ (by repeat (with_reducible first | exact HT.out | apply Fl.alloc | apply Fl.drew)) HL.out HBb.out (by omega)).mono ?_); rintro e w1 ⟨rfl, hb1⟩; obtain ⟨hc1, hf1⟩ := bcell hb1; (try simp only [World.size_drew, World.cell?_drew, World.frozen?_drew] at hc1 hf1); have hz1 := hb1.size; (try simp at hz1))) | (go_at_call 116; ((with_reducible refine (kindIf _ _ _).mono ?_); rintro e w1 ⟨rfl, rfl⟩))))
  all_goals (go_ret; refine ⟨retI ?_, by (repeat (with_reducible first | exact Below.refl _ _ | exact HBD.out | (refine Below.trans ?_ (Below.mono hb1 (by first | omega | (simp; done) | (simp; omega))); clear hb1) | (refine Below.trans ?_ (Below.mono hb2 (by first | omega | (simp; done) | (simp; omega))); clear hb2) | (refine Below.trans ?_ (Below.mono hb3 (by first | omega | (simp; done) | (simp; omega))); clear hb3) | (refine Below.trans ?_ (Below.mono hb4 (by first | omega | (simp; done) | (simp; omega))); clear hb4) | (refine Below.trans ?_ (Below.mono hb5 (by first | omega | (simp; done) | (simp; omega))); clear hb5) | (refine Below.trans ?_ (Below.mono hb6 (by first | omega | (simp; done) | (simp; omega))); clear hb6) | (refine Below.trans ?_ (Below.mono hb7 (by first | omega | (simp; done) | (simp; omega))); clear hb7) | (refine Below.trans ?_ (Below.mono hb8 (by first | omega | (simp; done) | (simp; omega))); clear hb8) | (refine Below.trans ?_ (Below.mono hb9 (by first | omega | (simp; done) | (simp; omega))); clear hb9) | (refine Below.trans ?_ (Below.mono hb10 (by first | omega | (simp; done) | (simp; omega))); clear hb10) | refine Below.alloc ?_ (by first | omega | (simp; done) | (simp; omega)) _ | refine Below.setCell ?_ (by first | omega | (simp; done) | (simp; omega)) _ | refine Below.drew ?_))⟩)
  all_goals (simp)
set_option maxHeartbeats 4000000 in
theorem partKind6 (A T : Option Addr) (cc g o ct m : Nat) (n vk vn : Int) (s : ByteArray) (l : List Int) (b : Bool) (w : World) (hT : Fl w g o T (l.map iv)) (hl : l.length = 2) (hb : l.all (fun x => decide (x = 3)) = b) : Calls Try.prog 92 #[.slice A m cc, .agg #[.int .i64 6, .int .i64 n, .int .i64 vk, .int .i64 vn, .string s], .slice T 2 ct] w fun e w' => e = .returned (.int .i64 (if b = true then 3 else -1)) ∧ Below w.heap.size w w' := by
  have HT := Lib.hid hT
  have HL := Lib.hid hl
  have HBb := Lib.hid hb
  clear hT hl hb
  cases b
  all_goals (go_enter Try.func92, Try.ntmps92)
  all_goals (go_wp2_with (first | (go_at_call 117; ((with_reducible refine (kindsAreB T g o ct 2 l 3 _ _ (by repeat (with_reducible first | exact HT.out | apply Fl.alloc | apply Fl.drew)) HL.out HBb.out (by omega)).mono ?_); rintro e w1 ⟨rfl, hb1⟩; obtain ⟨hc1, hf1⟩ := bcell hb1; (try simp only [World.size_drew, World.cell?_drew, World.frozen?_drew] at hc1 hf1); have hz1 := hb1.size; (try simp at hz1))) | (go_at_call 116; ((with_reducible refine (kindIf _ _ _).mono ?_); rintro e w1 ⟨rfl, rfl⟩))))
  all_goals (go_ret; refine ⟨retI ?_, by (repeat (with_reducible first | exact Below.refl _ _ | exact HBD.out | (refine Below.trans ?_ (Below.mono hb1 (by first | omega | (simp; done) | (simp; omega))); clear hb1) | (refine Below.trans ?_ (Below.mono hb2 (by first | omega | (simp; done) | (simp; omega))); clear hb2) | (refine Below.trans ?_ (Below.mono hb3 (by first | omega | (simp; done) | (simp; omega))); clear hb3) | (refine Below.trans ?_ (Below.mono hb4 (by first | omega | (simp; done) | (simp; omega))); clear hb4) | (refine Below.trans ?_ (Below.mono hb5 (by first | omega | (simp; done) | (simp; omega))); clear hb5) | (refine Below.trans ?_ (Below.mono hb6 (by first | omega | (simp; done) | (simp; omega))); clear hb6) | (refine Below.trans ?_ (Below.mono hb7 (by first | omega | (simp; done) | (simp; omega))); clear hb7) | (refine Below.trans ?_ (Below.mono hb8 (by first | omega | (simp; done) | (simp; omega))); clear hb8) | (refine Below.trans ?_ (Below.mono hb9 (by first | omega | (simp; done) | (simp; omega))); clear hb9) | (refine Below.trans ?_ (Below.mono hb10 (by first | omega | (simp; done) | (simp; omega))); clear hb10) | refine Below.alloc ?_ (by first | omega | (simp; done) | (simp; omega)) _ | refine Below.setCell ?_ (by first | omega | (simp; done) | (simp; omega)) _ | refine Below.drew ?_))⟩)
  all_goals (simp)
set_option maxHeartbeats 4000000 in
theorem partKind7 (A T : Option Addr) (cc g o ct m : Nat) (n vk vn : Int) (s : ByteArray) (l : List Int) (b : Bool) (w : World) (hT : Fl w g o T (l.map iv)) (hl : l.length = 1) (hb : l.all (fun x => decide (x = 3)) = b) : Calls Try.prog 92 #[.slice A m cc, .agg #[.int .i64 7, .int .i64 n, .int .i64 vk, .int .i64 vn, .string s], .slice T 1 ct] w fun e w' => e = .returned (.int .i64 (if b = true then 3 else -1)) ∧ Below w.heap.size w w' := by
  have HT := Lib.hid hT
  have HL := Lib.hid hl
  have HBb := Lib.hid hb
  clear hT hl hb
  cases b
  all_goals (go_enter Try.func92, Try.ntmps92)
  all_goals (go_wp2_with (first | (go_at_call 117; ((with_reducible refine (kindsAreB T g o ct 1 l 3 _ _ (by repeat (with_reducible first | exact HT.out | apply Fl.alloc | apply Fl.drew)) HL.out HBb.out (by omega)).mono ?_); rintro e w1 ⟨rfl, hb1⟩; obtain ⟨hc1, hf1⟩ := bcell hb1; (try simp only [World.size_drew, World.cell?_drew, World.frozen?_drew] at hc1 hf1); have hz1 := hb1.size; (try simp at hz1))) | (go_at_call 116; ((with_reducible refine (kindIf _ _ _).mono ?_); rintro e w1 ⟨rfl, rfl⟩))))
  all_goals (go_ret; refine ⟨retI ?_, by (repeat (with_reducible first | exact Below.refl _ _ | exact HBD.out | (refine Below.trans ?_ (Below.mono hb1 (by first | omega | (simp; done) | (simp; omega))); clear hb1) | (refine Below.trans ?_ (Below.mono hb2 (by first | omega | (simp; done) | (simp; omega))); clear hb2) | (refine Below.trans ?_ (Below.mono hb3 (by first | omega | (simp; done) | (simp; omega))); clear hb3) | (refine Below.trans ?_ (Below.mono hb4 (by first | omega | (simp; done) | (simp; omega))); clear hb4) | (refine Below.trans ?_ (Below.mono hb5 (by first | omega | (simp; done) | (simp; omega))); clear hb5) | (refine Below.trans ?_ (Below.mono hb6 (by first | omega | (simp; done) | (simp; omega))); clear hb6) | (refine Below.trans ?_ (Below.mono hb7 (by first | omega | (simp; done) | (simp; omega))); clear hb7) | (refine Below.trans ?_ (Below.mono hb8 (by first | omega | (simp; done) | (simp; omega))); clear hb8) | (refine Below.trans ?_ (Below.mono hb9 (by first | omega | (simp; done) | (simp; omega))); clear hb9) | (refine Below.trans ?_ (Below.mono hb10 (by first | omega | (simp; done) | (simp; omega))); clear hb10) | refine Below.alloc ?_ (by first | omega | (simp; done) | (simp; omega)) _ | refine Below.setCell ?_ (by first | omega | (simp; done) | (simp; omega)) _ | refine Below.drew ?_))⟩)
  all_goals (simp)
set_option maxHeartbeats 4000000 in
theorem partKind (A T : Option Addr) (gc oc cc g o ct : Nat) (cs : List CT) (l : List Int) (p : PT) (w : World) (hA : Fl w gc oc A (flatC cs)) (hT : Fl w g o T (l.map iv)) (hf : fieldB cs p = true) (hl : l.length = takesI p.1) (hcs : cs.length ≤ 2000000) : Calls Try.prog 92 #[.slice A cs.length cc, aggP p, .slice T l.length ct] w fun e w' => e = .returned (.int .i64 (putK cs p l)) ∧ Below w.heap.size w w' := by
  obtain ⟨k, n, vk, vn, s⟩ := p
  have hl2 : l.length ≤ 2000000 := by rw [hl]; have := takes_le k; simp only; omega
  have HT := Lib.hid hT
  simp only [takesI] at hl
  rcases kind_eight k with rfl | rfl | rfl | rfl | rfl | rfl | rfl | rfl | ⟨h1, h2, h3, h4, h5, h6, h7, h8⟩
  case inr.inr.inr.inr.inr.inr.inr.inr => simp [fieldB, h1, h2, h3, h4, h5, h6, h7, h8] at hf
  case inr.inl =>
    simp [fieldB] at hf
    obtain ⟨-, hn0, hn1⟩ := hf
    obtain ⟨N, rfl⟩ := Int.eq_ofNat_of_zero_le hn0
    have hN : N < cs.length := by omega
    obtain ⟨rfl, hg2, c0, -⟩ := hA.cl N hN
    have i0' : (0 : Int) ≤ (N : Int) := by omega
    have i1' : (N : Int) < (cs.length : Int) := by omega
    have hv : putK cs (2, (N : Int), (vk, vn, s)) l = cs[N].1 := by simp [putK, colAt, hN]
    rw [hv]
    obtain ⟨K, hK⟩ : ∃ K, cs[N].1 = K := ⟨_, rfl⟩
    rw [hK] at c0 ⊢
    clear hK hA hT
    unfold aggP
    go_enter Try.func92, Try.ntmps92
    go_wp2
    all_goals (try go_region)
    all_goals (try go_wp2)
    go_ret
    exact ⟨rfl, by (repeat (with_reducible first | exact Below.refl _ _ | exact HBD.out | (refine Below.trans ?_ (Below.mono hb1 (by first | omega | (simp; done) | (simp; omega))); clear hb1) | (refine Below.trans ?_ (Below.mono hb2 (by first | omega | (simp; done) | (simp; omega))); clear hb2) | (refine Below.trans ?_ (Below.mono hb3 (by first | omega | (simp; done) | (simp; omega))); clear hb3) | (refine Below.trans ?_ (Below.mono hb4 (by first | omega | (simp; done) | (simp; omega))); clear hb4) | (refine Below.trans ?_ (Below.mono hb5 (by first | omega | (simp; done) | (simp; omega))); clear hb5) | (refine Below.trans ?_ (Below.mono hb6 (by first | omega | (simp; done) | (simp; omega))); clear hb6) | (refine Below.trans ?_ (Below.mono hb7 (by first | omega | (simp; done) | (simp; omega))); clear hb7) | (refine Below.trans ?_ (Below.mono hb8 (by first | omega | (simp; done) | (simp; omega))); clear hb8) | (refine Below.trans ?_ (Below.mono hb9 (by first | omega | (simp; done) | (simp; omega))); clear hb9) | (refine Below.trans ?_ (Below.mono hb10 (by first | omega | (simp; done) | (simp; omega))); clear hb10) | refine Below.alloc ?_ (by first | omega | (simp; done) | (simp; omega)) _ | refine Below.setCell ?_ (by first | omega | (simp; done) | (simp; omega)) _ | refine Below.drew ?_))⟩
  case inr.inr.inr.inl =>
    simp at hl
    obtain ⟨x, y, rfl⟩ : ∃ x y, l = [x, y] := by
      rcases l with _ | ⟨x, _ | ⟨y, _ | ⟨z, q⟩⟩⟩ <;> simp at hl
      exact ⟨x, y, rfl⟩
    obtain ⟨rfl, hg2, c0⟩ := hT.n 0 (by simp)
    obtain ⟨-, -, c1⟩ := hT.n 1 (by simp)
    simp only [List.getElem_cons_zero, List.getElem_cons_succ, Nat.add_zero] at c0 c1
    clear hA hT HT hl
    unfold aggP
    rcases Decidable.em (x = y) with rfl | hxy
    · have e1 : (x == x) = true := by simp
      go_enter Try.func92, Try.ntmps92
      go_wp2_with (fail)
      all_goals (go_region_held_law (fun w' => w'.cell? ⟨g, o, none⟩ = some (.int .i64 x) ∧ w'.cell? ⟨g, o + 1, none⟩ = some (.int .i64 x)) (go_keep) (first | (go_at_call 116; ((with_reducible refine (kindIf true _ _).mono ?_); rintro e w1 ⟨rfl, rfl⟩))))
      all_goals (try go_wp2_with (fail))
      all_goals (go_ret; refine ⟨retI ?_, by (repeat (with_reducible first | exact Below.refl _ _ | exact HBD.out | (refine Below.trans ?_ (Below.mono hb1 (by first | omega | (simp; done) | (simp; omega))); clear hb1) | (refine Below.trans ?_ (Below.mono hb2 (by first | omega | (simp; done) | (simp; omega))); clear hb2) | (refine Below.trans ?_ (Below.mono hb3 (by first | omega | (simp; done) | (simp; omega))); clear hb3) | (refine Below.trans ?_ (Below.mono hb4 (by first | omega | (simp; done) | (simp; omega))); clear hb4) | (refine Below.trans ?_ (Below.mono hb5 (by first | omega | (simp; done) | (simp; omega))); clear hb5) | (refine Below.trans ?_ (Below.mono hb6 (by first | omega | (simp; done) | (simp; omega))); clear hb6) | (refine Below.trans ?_ (Below.mono hb7 (by first | omega | (simp; done) | (simp; omega))); clear hb7) | (refine Below.trans ?_ (Below.mono hb8 (by first | omega | (simp; done) | (simp; omega))); clear hb8) | (refine Below.trans ?_ (Below.mono hb9 (by first | omega | (simp; done) | (simp; omega))); clear hb9) | (refine Below.trans ?_ (Below.mono hb10 (by first | omega | (simp; done) | (simp; omega))); clear hb10) | refine Below.alloc ?_ (by first | omega | (simp; done) | (simp; omega)) _ | refine Below.setCell ?_ (by first | omega | (simp; done) | (simp; omega)) _ | refine Below.drew ?_))⟩)
      all_goals (simp [putK])
    · have e1 : (x == y) = false := by simp [hxy]
      go_enter Try.func92, Try.ntmps92
      go_wp2_with (fail)
      all_goals (go_region_held_law (fun w' => w'.cell? ⟨g, o, none⟩ = some (.int .i64 x) ∧ w'.cell? ⟨g, o + 1, none⟩ = some (.int .i64 y)) (go_keep) (first | (go_at_call 116; ((with_reducible refine (kindIf false _ _).mono ?_); rintro e w1 ⟨rfl, rfl⟩))))
      all_goals (try go_wp2_with (fail))
      all_goals (go_ret; refine ⟨retI ?_, by (repeat (with_reducible first | exact Below.refl _ _ | exact HBD.out | (refine Below.trans ?_ (Below.mono hb1 (by first | omega | (simp; done) | (simp; omega))); clear hb1) | (refine Below.trans ?_ (Below.mono hb2 (by first | omega | (simp; done) | (simp; omega))); clear hb2) | (refine Below.trans ?_ (Below.mono hb3 (by first | omega | (simp; done) | (simp; omega))); clear hb3) | (refine Below.trans ?_ (Below.mono hb4 (by first | omega | (simp; done) | (simp; omega))); clear hb4) | (refine Below.trans ?_ (Below.mono hb5 (by first | omega | (simp; done) | (simp; omega))); clear hb5) | (refine Below.trans ?_ (Below.mono hb6 (by first | omega | (simp; done) | (simp; omega))); clear hb6) | (refine Below.trans ?_ (Below.mono hb7 (by first | omega | (simp; done) | (simp; omega))); clear hb7) | (refine Below.trans ?_ (Below.mono hb8 (by first | omega | (simp; done) | (simp; omega))); clear hb8) | (refine Below.trans ?_ (Below.mono hb9 (by first | omega | (simp; done) | (simp; omega))); clear hb9) | (refine Below.trans ?_ (Below.mono hb10 (by first | omega | (simp; done) | (simp; omega))); clear hb10) | refine Below.alloc ?_ (by first | omega | (simp; done) | (simp; omega)) _ | refine Below.setCell ?_ (by first | omega | (simp; done) | (simp; omega)) _ | refine Below.drew ?_))⟩)
      all_goals (simp [putK, hxy])
  · clear hl hT
    unfold aggP
    go_enter Try.func92, Try.ntmps92
    go_wp2
    all_goals (go_ret; refine ⟨retI ?_, by (repeat (with_reducible first | exact Below.refl _ _ | exact HBD.out | (refine Below.trans ?_ (Below.mono hb1 (by first | omega | (simp; done) | (simp; omega))); clear hb1) | (refine Below.trans ?_ (Below.mono hb2 (by first | omega | (simp; done) | (simp; omega))); clear hb2) | (refine Below.trans ?_ (Below.mono hb3 (by first | omega | (simp; done) | (simp; omega))); clear hb3) | (refine Below.trans ?_ (Below.mono hb4 (by first | omega | (simp; done) | (simp; omega))); clear hb4) | (refine Below.trans ?_ (Below.mono hb5 (by first | omega | (simp; done) | (simp; omega))); clear hb5) | (refine Below.trans ?_ (Below.mono hb6 (by first | omega | (simp; done) | (simp; omega))); clear hb6) | (refine Below.trans ?_ (Below.mono hb7 (by first | omega | (simp; done) | (simp; omega))); clear hb7) | (refine Below.trans ?_ (Below.mono hb8 (by first | omega | (simp; done) | (simp; omega))); clear hb8) | (refine Below.trans ?_ (Below.mono hb9 (by first | omega | (simp; done) | (simp; omega))); clear hb9) | (refine Below.trans ?_ (Below.mono hb10 (by first | omega | (simp; done) | (simp; omega))); clear hb10) | refine Below.alloc ?_ (by first | omega | (simp; done) | (simp; omega)) _ | refine Below.setCell ?_ (by first | omega | (simp; done) | (simp; omega)) _ | refine Below.drew ?_))⟩)
    all_goals (simp [putK])
  · have hl3 : l.length = 2 := by simpa using hl
    have h := partKind3 A T cc g o ct cs.length n vk vn s l _ w hT hl3 rfl
    rw [hl3]
    simpa [putK, aggP] using h
  · have hl3 : l.length = 2 := by simpa using hl
    have h := partKind5 A T cc g o ct cs.length n vk vn s l _ w hT hl3 rfl
    rw [hl3]
    simpa [putK, aggP] using h
  · have hl3 : l.length = 2 := by simpa using hl
    have h := partKind6 A T cc g o ct cs.length n vk vn s l _ w hT hl3 rfl
    rw [hl3]
    simpa [putK, aggP] using h
  · have hl3 : l.length = 1 := by simpa using hl
    have h := partKind7 A T cc g o ct cs.length n vk vn s l _ w hT hl3 rfl
    rw [hl3]
    simpa [putK, aggP] using h
  · clear hl hT
    unfold aggP
    go_enter Try.func92, Try.ntmps92
    go_wp2
    all_goals (go_ret; refine ⟨retI ?_, by (repeat (with_reducible first | exact Below.refl _ _ | exact HBD.out | (refine Below.trans ?_ (Below.mono hb1 (by first | omega | (simp; done) | (simp; omega))); clear hb1) | (refine Below.trans ?_ (Below.mono hb2 (by first | omega | (simp; done) | (simp; omega))); clear hb2) | (refine Below.trans ?_ (Below.mono hb3 (by first | omega | (simp; done) | (simp; omega))); clear hb3) | (refine Below.trans ?_ (Below.mono hb4 (by first | omega | (simp; done) | (simp; omega))); clear hb4) | (refine Below.trans ?_ (Below.mono hb5 (by first | omega | (simp; done) | (simp; omega))); clear hb5) | (refine Below.trans ?_ (Below.mono hb6 (by first | omega | (simp; done) | (simp; omega))); clear hb6) | (refine Below.trans ?_ (Below.mono hb7 (by first | omega | (simp; done) | (simp; omega))); clear hb7) | (refine Below.trans ?_ (Below.mono hb8 (by first | omega | (simp; done) | (simp; omega))); clear hb8) | (refine Below.trans ?_ (Below.mono hb9 (by first | omega | (simp; done) | (simp; omega))); clear hb9) | (refine Below.trans ?_ (Below.mono hb10 (by first | omega | (simp; done) | (simp; omega))); clear hb10) | refine Below.alloc ?_ (by first | omega | (simp; done) | (simp; omega)) _ | refine Below.setCell ?_ (by first | omega | (simp; done) | (simp; omega)) _ | refine Below.drew ?_))⟩)
    all_goals (simp [putK])
end Go.Proofs.Ytcddkleglmbfgaa.Val
