/- Parts by their fields and by what they take: impl's helpers for kinds; The kind of an expression (impl.ExprKind). -/
import Derived.Test.YtacinjbaebimhaaFlPQ
import Derived.Test.YtacinjbaebimhaaEMathAQ
import Derived.Test.YtacinjbaebimhaaTru3Q
import Derived.Test.YtacinjbaebimhaaEKSQ
import Derived.Deep.RegionHeldLaw
namespace Go.Proofs.Ytacinjbaebimhaa.Val
open Go.RowKit
set_option linter.unusedVariables false
set_option maxRecDepth 20000
theorem partTakes (k : Int) (w : World) : Calls Try.prog 152 #[.int .i64 k] w fun e w' => e = .returned (.int .i64 (takesI k)) ∧ w = w' := by
  go_enter Try.func152, Try.ntmps152
  go_wp2
  all_goals (go_ret; refine ⟨retI ?_, rfl⟩)
  all_goals (simp_all [takesI])
theorem kindIf (b : Bool) (k : Int) (w : World) : Calls Try.prog 158 #[.bool b, .int .i64 k] w fun e w' => e = .returned (.int .i64 (if b = true then k else -1)) ∧ w = w' := by
  go_enter Try.func158, Try.ntmps158
  go_wp2
  all_goals (go_ret; refine ⟨retI ?_, rfl⟩)
  all_goals (simp_all)
set_option maxHeartbeats 4000000 in
theorem partOk (A : Option Addr) (cc : Nat) (cs : List CT) (p : PT) (w : World) (hs : p.2.2.2.2.size ≤ maxLen) (hcs : cs.length ≤ 2000000) : Calls Try.prog 153 #[.slice A cs.length cc, aggP p] w fun e w' => e = .returned (.bool (fieldB cs p)) ∧ Below w.heap.size w w' := by
  obtain ⟨k, n, vk, vn, s⟩ := p
  unfold aggP
  simp only at hs ⊢
  go_enter Try.func153, Try.ntmps153
  go_wp2_with (first | (go_at_call 50; ((with_reducible refine (valueOk _ _ _ _ (by assumption)).mono ?_); (try (have hc10 := hc9; have hf10 := hf9; have hz10 := hz9; have hb10 := hb9; have hya_10 := hya_9; clear hc9 hf9 hz9 hb9 hya_9)); (try (have hc9 := hc8; have hf9 := hf8; have hz9 := hz8; have hb9 := hb8; have hya_9 := hya_8; clear hc8 hf8 hz8 hb8 hya_8)); (try (have hc8 := hc7; have hf8 := hf7; have hz8 := hz7; have hb8 := hb7; have hya_8 := hya_7; clear hc7 hf7 hz7 hb7 hya_7)); (try (have hc7 := hc6; have hf7 := hf6; have hz7 := hz6; have hb7 := hb6; have hya_7 := hya_6; clear hc6 hf6 hz6 hb6 hya_6)); (try (have hc6 := hc5; have hf6 := hf5; have hz6 := hz5; have hb6 := hb5; have hya_6 := hya_5; clear hc5 hf5 hz5 hb5 hya_5)); (try (have hc5 := hc4; have hf5 := hf4; have hz5 := hz4; have hb5 := hb4; have hya_5 := hya_4; clear hc4 hf4 hz4 hb4 hya_4)); (try (have hc4 := hc3; have hf4 := hf3; have hz4 := hz3; have hb4 := hb3; have hya_4 := hya_3; clear hc3 hf3 hz3 hb3 hya_3)); (try (have hc3 := hc2; have hf3 := hf2; have hz3 := hz2; have hb3 := hb2; have hya_3 := hya_2; clear hc2 hf2 hz2 hb2 hya_2)); (try (have hc2 := hc1; have hf2 := hf1; have hz2 := hz1; have hb2 := hb1; have hya_2 := hya_1; clear hc1 hf1 hz1 hb1 hya_1)); rintro e w1 ⟨rfl, hb1⟩; obtain ⟨hc1, hf1⟩ := bcell hb1; (try simp only [World.size_drew, World.cell?_drew, World.frozen?_drew] at hc1 hf1); have hz1 := hb1.size; (try simp at hz1); have hya_1 : w.heap.size < w1.heap.size := (by omega))) | (go_at_call 157; ((with_reducible refine (comparisonOk _ _).mono ?_); rintro e w1 ⟨rfl, rfl⟩)))
  all_goals (go_ret; refine ⟨retB ?_, ?_⟩)
  all_goals (try (show Below _ _ _; (repeat (with_reducible first | exact Below.refl _ _ | exact HBD.out | (refine Below.trans ?_ (Below.mono hb1 (by first | omega | (simp; done) | (simp; omega))); clear hb1) | (refine Below.trans ?_ (Below.mono hb2 (by first | omega | (simp; done) | (simp; omega))); clear hb2) | (refine Below.trans ?_ (Below.mono hb3 (by first | omega | (simp; done) | (simp; omega))); clear hb3) | (refine Below.trans ?_ (Below.mono hb4 (by first | omega | (simp; done) | (simp; omega))); clear hb4) | (refine Below.trans ?_ (Below.mono hb5 (by first | omega | (simp; done) | (simp; omega))); clear hb5) | (refine Below.trans ?_ (Below.mono hb6 (by first | omega | (simp; done) | (simp; omega))); clear hb6) | (refine Below.trans ?_ (Below.mono hb7 (by first | omega | (simp; done) | (simp; omega))); clear hb7) | (refine Below.trans ?_ (Below.mono hb8 (by first | omega | (simp; done) | (simp; omega))); clear hb8) | (refine Below.trans ?_ (Below.mono hb9 (by first | omega | (simp; done) | (simp; omega))); clear hb9) | (refine Below.trans ?_ (Below.mono hb10 (by first | omega | (simp; done) | (simp; omega))); clear hb10) | refine Below.alloc ?_ (by first | omega | (simp; done) | (simp; omega)) _ | refine Below.setCell ?_ (by first | omega | (simp; done) | (simp; omega)) _ | refine Below.drew ?_))))
  all_goals (simp_all [fieldB, isNil, okV])
  all_goals (first | omega | rfl)
theorem kall_no {l : List Int} {kk : Int} {i : Nat} (h : i < l.length) (hne : l[i] ≠ kk) : l.all (fun x => decide (x = kk)) = false := by
  rw [List.all_eq_false]
  exact ⟨l[i], List.getElem_mem h, by simpa using hne⟩
set_option maxHeartbeats 1000000 in
theorem kindsAre (A : Option Addr) (g o cap : Nat) (l : List Int) (kk : Int) (w : World) (hA : Fl w g o A (l.map iv)) (hl : l.length ≤ 2000000) :
    Calls Try.prog 159 #[.slice A l.length cap, .int .i64 kk] w fun e w' => e = .returned (.bool (l.all (fun x => decide (x = kk)))) ∧ Below w.heap.size w w' := by
  have HA := Lib.hid hA
  clear hA
  go_enter Try.func159, Try.ntmps159
  go_wp2
  go_loopw [5] (fun ix wr => ∃ (k : Nat), k ≤ l.length ∧ ix = .int .i64 k ∧ Hid (∀ i (h : i < l.length), i < k → l[i] = kk) ∧ Hid (Below w.heap.size w wr)) (fun ix _ => l.length - (intOf ix).toNat)
  case atStart => exact ⟨0, by omega, rfl, (fun i h h0 => absurd h0 (by omega) : ∀ i (h : i < l.length), i < 0 → l[i] = kk), Below.refl _ _⟩
  case round =>
    obtain ⟨k, hk, rfl, HE, HW⟩ := hrel
    by_cases hlt : k < l.length
    · obtain ⟨rfl, -, -⟩ := HA.out.n k hlt
      obtain ⟨-, hg2, c0⟩ := (HA.out.below HW.out).n k hlt
      have HN := Lib.hid (fun (hne : l[k] ≠ kk) => kall_no hlt hne)
      have HE2 : l[k] = kk → Hid (∀ i (h : i < l.length), i < k + 1 → l[i] = kk) := by
        intro he i h hi
        by_cases hik : i = k
        · subst hik; exact he
        · exact HE.out i h (by omega)
      have HE3 := Lib.hid HE2
      clear HE2
      obtain ⟨K, hK⟩ : ∃ K, l[k] = K := ⟨_, rfl⟩
      rw [hK] at c0 HN HE3
      clear hK
      have i0' : (0 : Int) ≤ (k : Int) := by omega
      have i1' : (k : Int) < (l.length : Int) := by omega
      go_wp2
      all_goals (try go_region)
      all_goals (try go_wp2)
      all_goals first
        | exact ⟨⟨k + 1, by omega, by go_num, HE3.out (by assumption), HW⟩, by simp [intOf]; omega⟩
        | exact ⟨⟨k + 1, by omega, by go_num, HE3.out (by simp_all), HW⟩, by simp [intOf]; omega⟩
        | exact ⟨⟨k + 1, by omega, by go_num, HE3.out (by simp_all), HW.out.drew⟩, by simp [intOf]; omega⟩
        | (go_ret; exact ⟨retB (HN.out (by simp_all)).symm, HW.out⟩)
        | (go_ret; exact ⟨retB (HN.out (by simp_all)).symm, HW.out.drew⟩)
    · obtain rfl : k = l.length := by omega
      go_wp2
      go_ret
      refine ⟨retB ?_, HW.out⟩
      symm
      rw [List.all_eq_true]
      intro x hx
      obtain ⟨i, hi, rfl⟩ := List.mem_iff_getElem.1 hx
      simpa using HE.out i hi hi
theorem kindsAreB (A : Option Addr) (g o cap n : Nat) (l : List Int) (kk : Int) (b : Bool) (w : World) (hA : Fl w g o A (l.map iv)) (hn : l.length = n) (hb : l.all (fun x => decide (x = kk)) = b) (hl : n ≤ 2000000) :
    Calls Try.prog 159 #[.slice A n cap, .int .i64 kk] w fun e w' => e = .returned (.bool b) ∧ Below w.heap.size w w' := by
  subst hn hb
  exact kindsAre A g o cap l kk w hA hl
set_option maxHeartbeats 4000000 in
theorem partKind3 (A T : Option Addr) (cc g o ct m : Nat) (n vk vn : Int) (s : ByteArray) (l : List Int) (b : Bool) (w : World) (hT : Fl w g o T (l.map iv)) (hl : l.length = 2) (hb : l.all (fun x => decide (x = 1)) = b) : Calls Try.prog 154 #[.slice A m cc, .agg #[.int .i64 3, .int .i64 n, .int .i64 vk, .int .i64 vn, .string s], .slice T 2 ct] w fun e w' => e = .returned (.int .i64 (if b = true then 1 else -1)) ∧ Below w.heap.size w w' := by
  have HT := Lib.hid hT
  have HL := Lib.hid hl
  have HBb := Lib.hid hb
  clear hT hl hb
  cases b
  all_goals (go_enter Try.func154, Try.ntmps154)
  all_goals (go_wp2_with (first | (go_at_call 159; ((with_reducible refine (kindsAreB T g o ct 2 l 1 _ _ (by repeat (with_reducible first | exact HT.out | apply Fl.alloc | apply Fl.drew)) HL.out HBb.out (by omega)).mono ?_); rintro e w1 ⟨rfl, hb1⟩; obtain ⟨hc1, hf1⟩ := bcell hb1; (try simp only [World.size_drew, World.cell?_drew, World.frozen?_drew] at hc1 hf1); have hz1 := hb1.size; (try simp at hz1))) | (go_at_call 158; ((with_reducible refine (kindIf _ _ _).mono ?_); rintro e w1 ⟨rfl, rfl⟩))))
  all_goals (go_ret; refine ⟨retI ?_, by (repeat (with_reducible first | exact Below.refl _ _ | exact HBD.out | (refine Below.trans ?_ (Below.mono hb1 (by first | omega | (simp; done) | (simp; omega))); clear hb1) | (refine Below.trans ?_ (Below.mono hb2 (by first | omega | (simp; done) | (simp; omega))); clear hb2) | (refine Below.trans ?_ (Below.mono hb3 (by first | omega | (simp; done) | (simp; omega))); clear hb3) | (refine Below.trans ?_ (Below.mono hb4 (by first | omega | (simp; done) | (simp; omega))); clear hb4) | (refine Below.trans ?_ (Below.mono hb5 (by first | omega | (simp; done) | (simp; omega))); clear hb5) | (refine Below.trans ?_ (Below.mono hb6 (by first | omega | (simp; done) | (simp; omega))); clear hb6) | (refine Below.trans ?_ (Below.mono hb7 (by first | omega | (simp; done) | (simp; omega))); clear hb7) | (refine Below.trans ?_ (Below.mono hb8 (by first | omega | (simp; done) | (simp; omega))); clear hb8) | (refine Below.trans ?_ (Below.mono hb9 (by first | omega | (simp; done) | (simp; omega))); clear hb9) | (refine Below.trans ?_ (Below.mono hb10 (by first | omega | (simp; done) | (simp; omega))); clear hb10) | refine Below.alloc ?_ (by first | omega | (simp; done) | (simp; omega)) _ | refine Below.setCell ?_ (by first | omega | (simp; done) | (simp; omega)) _ | refine Below.drew ?_))⟩)
  all_goals (simp)
set_option maxHeartbeats 4000000 in
theorem partKind5 (A T : Option Addr) (cc g o ct m : Nat) (n vk vn : Int) (s : ByteArray) (l : List Int) (b : Bool) (w : World) (hT : Fl w g o T (l.map iv)) (hl : l.length = 2) (hb : l.all (fun x => decide (x = 3)) = b) : Calls Try.prog 154 #[.slice A m cc, .agg #[.int .i64 5, .int .i64 n, .int .i64 vk, .int .i64 vn, .string s], .slice T 2 ct] w fun e w' => e = .returned (.int .i64 (if b = true then 3 else -1)) ∧ Below w.heap.size w w' := by
  have HT := Lib.hid hT
  have HL := Lib.hid hl
  have HBb := Lib.hid hb
  clear hT hl hb
  cases b
  all_goals (go_enter Try.func154, Try.ntmps154)
  all_goals (go_wp2_with (first | (go_at_call 159; ((with_reducible refine (kindsAreB T g o ct 2 l 3 _ _ (by repeat (with_reducible first | exact HT.out | apply Fl.alloc | apply Fl.drew)) HL.out HBb.out (by omega)).mono ?_); rintro e w1 ⟨rfl, hb1⟩; obtain ⟨hc1, hf1⟩ := bcell hb1; (try simp only [World.size_drew, World.cell?_drew, World.frozen?_drew] at hc1 hf1); have hz1 := hb1.size; (try simp at hz1))) | (go_at_call 158; ((with_reducible refine (kindIf _ _ _).mono ?_); rintro e w1 ⟨rfl, rfl⟩))))
  all_goals (go_ret; refine ⟨retI ?_, by (repeat (with_reducible first | exact Below.refl _ _ | exact HBD.out | (refine Below.trans ?_ (Below.mono hb1 (by first | omega | (simp; done) | (simp; omega))); clear hb1) | (refine Below.trans ?_ (Below.mono hb2 (by first | omega | (simp; done) | (simp; omega))); clear hb2) | (refine Below.trans ?_ (Below.mono hb3 (by first | omega | (simp; done) | (simp; omega))); clear hb3) | (refine Below.trans ?_ (Below.mono hb4 (by first | omega | (simp; done) | (simp; omega))); clear hb4) | (refine Below.trans ?_ (Below.mono hb5 (by first | omega | (simp; done) | (simp; omega))); clear hb5) | (refine Below.trans ?_ (Below.mono hb6 (by first | omega | (simp; done) | (simp; omega))); clear hb6) | (refine Below.trans ?_ (Below.mono hb7 (by first | omega | (simp; done) | (simp; omega))); clear hb7) | (refine Below.trans ?_ (Below.mono hb8 (by first | omega | (simp; done) | (simp; omega))); clear hb8) | (refine Below.trans ?_ (Below.mono hb9 (by first | omega | (simp; done) | (simp; omega))); clear hb9) | (refine Below.trans ?_ (Below.mono hb10 (by first | omega | (simp; done) | (simp; omega))); clear hb10) | refine Below.alloc ?_ (by first | omega | (simp; done) | (simp; omega)) _ | refine Below.setCell ?_ (by first | omega | (simp; done) | (simp; omega)) _ | refine Below.drew ?_))⟩)
  all_goals (simp)
set_option maxHeartbeats 4000000 in
theorem partKind6 (A T : Option Addr) (cc g o ct m : Nat) (n vk vn : Int) (s : ByteArray) (l : List Int) (b : Bool) (w : World) (hT : Fl w g o T (l.map iv)) (hl : l.length = 2) (hb : l.all (fun x => decide (x = 3)) = b) : Calls Try.prog 154 #[.slice A m cc, .agg #[.int .i64 6, .int .i64 n, .int .i64 vk, .int .i64 vn, .string s], .slice T 2 ct] w fun e w' => e = .returned (.int .i64 (if b = true then 3 else -1)) ∧ Below w.heap.size w w' := by
  have HT := Lib.hid hT
  have HL := Lib.hid hl
  have HBb := Lib.hid hb
  clear hT hl hb
  cases b
  all_goals (go_enter Try.func154, Try.ntmps154)
  all_goals (go_wp2_with (first | (go_at_call 159; ((with_reducible refine (kindsAreB T g o ct 2 l 3 _ _ (by repeat (with_reducible first | exact HT.out | apply Fl.alloc | apply Fl.drew)) HL.out HBb.out (by omega)).mono ?_); rintro e w1 ⟨rfl, hb1⟩; obtain ⟨hc1, hf1⟩ := bcell hb1; (try simp only [World.size_drew, World.cell?_drew, World.frozen?_drew] at hc1 hf1); have hz1 := hb1.size; (try simp at hz1))) | (go_at_call 158; ((with_reducible refine (kindIf _ _ _).mono ?_); rintro e w1 ⟨rfl, rfl⟩))))
  all_goals (go_ret; refine ⟨retI ?_, by (repeat (with_reducible first | exact Below.refl _ _ | exact HBD.out | (refine Below.trans ?_ (Below.mono hb1 (by first | omega | (simp; done) | (simp; omega))); clear hb1) | (refine Below.trans ?_ (Below.mono hb2 (by first | omega | (simp; done) | (simp; omega))); clear hb2) | (refine Below.trans ?_ (Below.mono hb3 (by first | omega | (simp; done) | (simp; omega))); clear hb3) | (refine Below.trans ?_ (Below.mono hb4 (by first | omega | (simp; done) | (simp; omega))); clear hb4) | (refine Below.trans ?_ (Below.mono hb5 (by first | omega | (simp; done) | (simp; omega))); clear hb5) | (refine Below.trans ?_ (Below.mono hb6 (by first | omega | (simp; done) | (simp; omega))); clear hb6) | (refine Below.trans ?_ (Below.mono hb7 (by first | omega | (simp; done) | (simp; omega))); clear hb7) | (refine Below.trans ?_ (Below.mono hb8 (by first | omega | (simp; done) | (simp; omega))); clear hb8) | (refine Below.trans ?_ (Below.mono hb9 (by first | omega | (simp; done) | (simp; omega))); clear hb9) | (refine Below.trans ?_ (Below.mono hb10 (by first | omega | (simp; done) | (simp; omega))); clear hb10) | refine Below.alloc ?_ (by first | omega | (simp; done) | (simp; omega)) _ | refine Below.setCell ?_ (by first | omega | (simp; done) | (simp; omega)) _ | refine Below.drew ?_))⟩)
  all_goals (simp)
set_option maxHeartbeats 4000000 in
theorem partKind7 (A T : Option Addr) (cc g o ct m : Nat) (n vk vn : Int) (s : ByteArray) (l : List Int) (b : Bool) (w : World) (hT : Fl w g o T (l.map iv)) (hl : l.length = 1) (hb : l.all (fun x => decide (x = 3)) = b) : Calls Try.prog 154 #[.slice A m cc, .agg #[.int .i64 7, .int .i64 n, .int .i64 vk, .int .i64 vn, .string s], .slice T 1 ct] w fun e w' => e = .returned (.int .i64 (if b = true then 3 else -1)) ∧ Below w.heap.size w w' := by
  have HT := Lib.hid hT
  have HL := Lib.hid hl
  have HBb := Lib.hid hb
  clear hT hl hb
  cases b
  all_goals (go_enter Try.func154, Try.ntmps154)
  all_goals (go_wp2_with (first | (go_at_call 159; ((with_reducible refine (kindsAreB T g o ct 1 l 3 _ _ (by repeat (with_reducible first | exact HT.out | apply Fl.alloc | apply Fl.drew)) HL.out HBb.out (by omega)).mono ?_); rintro e w1 ⟨rfl, hb1⟩; obtain ⟨hc1, hf1⟩ := bcell hb1; (try simp only [World.size_drew, World.cell?_drew, World.frozen?_drew] at hc1 hf1); have hz1 := hb1.size; (try simp at hz1))) | (go_at_call 158; ((with_reducible refine (kindIf _ _ _).mono ?_); rintro e w1 ⟨rfl, rfl⟩))))
  all_goals (go_ret; refine ⟨retI ?_, by (repeat (with_reducible first | exact Below.refl _ _ | exact HBD.out | (refine Below.trans ?_ (Below.mono hb1 (by first | omega | (simp; done) | (simp; omega))); clear hb1) | (refine Below.trans ?_ (Below.mono hb2 (by first | omega | (simp; done) | (simp; omega))); clear hb2) | (refine Below.trans ?_ (Below.mono hb3 (by first | omega | (simp; done) | (simp; omega))); clear hb3) | (refine Below.trans ?_ (Below.mono hb4 (by first | omega | (simp; done) | (simp; omega))); clear hb4) | (refine Below.trans ?_ (Below.mono hb5 (by first | omega | (simp; done) | (simp; omega))); clear hb5) | (refine Below.trans ?_ (Below.mono hb6 (by first | omega | (simp; done) | (simp; omega))); clear hb6) | (refine Below.trans ?_ (Below.mono hb7 (by first | omega | (simp; done) | (simp; omega))); clear hb7) | (refine Below.trans ?_ (Below.mono hb8 (by first | omega | (simp; done) | (simp; omega))); clear hb8) | (refine Below.trans ?_ (Below.mono hb9 (by first | omega | (simp; done) | (simp; omega))); clear hb9) | (refine Below.trans ?_ (Below.mono hb10 (by first | omega | (simp; done) | (simp; omega))); clear hb10) | refine Below.alloc ?_ (by first | omega | (simp; done) | (simp; omega)) _ | refine Below.setCell ?_ (by first | omega | (simp; done) | (simp; omega)) _ | refine Below.drew ?_))⟩)
  all_goals (simp)
set_option maxHeartbeats 4000000 in
theorem partKind (A T : Option Addr) (gc oc cc g o ct : Nat) (cs : List CT) (l : List Int) (p : PT) (w : World) (hA : Fl w gc oc A (flatC cs)) (hT : Fl w g o T (l.map iv)) (hf : fieldB cs p = true) (hl : l.length = takesI p.1) (hcs : cs.length ≤ 2000000) : Calls Try.prog 154 #[.slice A cs.length cc, aggP p, .slice T l.length ct] w fun e w' => e = .returned (.int .i64 (putK cs p l)) ∧ Below w.heap.size w w' := by
  obtain ⟨k, n, vk, vn, s⟩ := p
  have hl2 : l.length ≤ 2000000 := by rw [hl]; have := takes_le k; simp only; omega
  have HT := Lib.hid hT
  simp only [takesI] at hl
  rcases kind_eight k with rfl | rfl | rfl | rfl | rfl | rfl | rfl | rfl | ⟨h1, h2, h3, h4, h5, h6, h7, h8⟩
  case inr.inr.inr.inr.inr.inr.inr.inr => simp [fieldB, h1, h2, h3, h4, h5, h6, h7, h8] at hf
  case inr.inl =>
    simp [fieldB] at hf
    obtain ⟨-, hn0, hn1⟩ := hf
    obtain ⟨N, rfl⟩ := Int.eq_ofNat_of_zero_le hn0
    have hN : N < cs.length := by omega
    obtain ⟨rfl, hg2, c0, -⟩ := hA.cl N hN
    have i0' : (0 : Int) ≤ (N : Int) := by omega
    have i1' : (N : Int) < (cs.length : Int) := by omega
    have hv : putK cs (2, (N : Int), (vk, vn, s)) l = cs[N].1 := by simp [putK, colAt, hN]
    rw [hv]
    obtain ⟨K, hK⟩ : ∃ K, cs[N].1 = K := ⟨_, rfl⟩
    rw [hK] at c0 ⊢
    clear hK hA hT
    unfold aggP
    go_enter Try.func154, Try.ntmps154
    go_wp2
    all_goals (try go_region)
    all_goals (try go_wp2)
    go_ret
    exact ⟨rfl, by (repeat (with_reducible first | exact Below.refl _ _ | exact HBD.out | (refine Below.trans ?_ (Below.mono hb1 (by first | omega | (simp; done) | (simp; omega))); clear hb1) | (refine Below.trans ?_ (Below.mono hb2 (by first | omega | (simp; done) | (simp; omega))); clear hb2) | (refine Below.trans ?_ (Below.mono hb3 (by first | omega | (simp; done) | (simp; omega))); clear hb3) | (refine Below.trans ?_ (Below.mono hb4 (by first | omega | (simp; done) | (simp; omega))); clear hb4) | (refine Below.trans ?_ (Below.mono hb5 (by first | omega | (simp; done) | (simp; omega))); clear hb5) | (refine Below.trans ?_ (Below.mono hb6 (by first | omega | (simp; done) | (simp; omega))); clear hb6) | (refine Below.trans ?_ (Below.mono hb7 (by first | omega | (simp; done) | (simp; omega))); clear hb7) | (refine Below.trans ?_ (Below.mono hb8 (by first | omega | (simp; done) | (simp; omega))); clear hb8) | (refine Below.trans ?_ (Below.mono hb9 (by first | omega | (simp; done) | (simp; omega))); clear hb9) | (refine Below.trans ?_ (Below.mono hb10 (by first | omega | (simp; done) | (simp; omega))); clear hb10) | refine Below.alloc ?_ (by first | omega | (simp; done) | (simp; omega)) _ | refine Below.setCell ?_ (by first | omega | (simp; done) | (simp; omega)) _ | refine Below.drew ?_))⟩
  case inr.inr.inr.inl =>
    simp at hl
    obtain ⟨x, y, rfl⟩ : ∃ x y, l = [x, y] := by
      rcases l with _ | ⟨x, _ | ⟨y, _ | ⟨z, q⟩⟩⟩ <;> simp at hl
      exact ⟨x, y, rfl⟩
    obtain ⟨rfl, hg2, c0⟩ := hT.n 0 (by simp)
    obtain ⟨-, -, c1⟩ := hT.n 1 (by simp)
    simp only [List.getElem_cons_zero, List.getElem_cons_succ, Nat.add_zero] at c0 c1
    clear hA hT HT hl
    unfold aggP
    rcases Decidable.em (x = y) with rfl | hxy
    · have e1 : (x == x) = true := by simp
      go_enter Try.func154, Try.ntmps154
      go_wp2_with (fail)
      all_goals (go_region_held_law (fun w' => w'.cell? ⟨g, o, none⟩ = some (.int .i64 x) ∧ w'.cell? ⟨g, o + 1, none⟩ = some (.int .i64 x)) (go_keep) (first | (go_at_call 158; ((with_reducible refine (kindIf true _ _).mono ?_); rintro e w1 ⟨rfl, rfl⟩))))
      all_goals (try go_wp2_with (fail))
      all_goals (go_ret; refine ⟨retI ?_, by (repeat (with_reducible first | exact Below.refl _ _ | exact HBD.out | (refine Below.trans ?_ (Below.mono hb1 (by first | omega | (simp; done) | (simp; omega))); clear hb1) | (refine Below.trans ?_ (Below.mono hb2 (by first | omega | (simp; done) | (simp; omega))); clear hb2) | (refine Below.trans ?_ (Below.mono hb3 (by first | omega | (simp; done) | (simp; omega))); clear hb3) | (refine Below.trans ?_ (Below.mono hb4 (by first | omega | (simp; done) | (simp; omega))); clear hb4) | (refine Below.trans ?_ (Below.mono hb5 (by first | omega | (simp; done) | (simp; omega))); clear hb5) | (refine Below.trans ?_ (Below.mono hb6 (by first | omega | (simp; done) | (simp; omega))); clear hb6) | (refine Below.trans ?_ (Below.mono hb7 (by first | omega | (simp; done) | (simp; omega))); clear hb7) | (refine Below.trans ?_ (Below.mono hb8 (by first | omega | (simp; done) | (simp; omega))); clear hb8) | (refine Below.trans ?_ (Below.mono hb9 (by first | omega | (simp; done) | (simp; omega))); clear hb9) | (refine Below.trans ?_ (Below.mono hb10 (by first | omega | (simp; done) | (simp; omega))); clear hb10) | refine Below.alloc ?_ (by first | omega | (simp; done) | (simp; omega)) _ | refine Below.setCell ?_ (by first | omega | (simp; done) | (simp; omega)) _ | refine Below.drew ?_))⟩)
      all_goals (simp [putK])
    · have e1 : (x == y) = false := by simp [hxy]
      go_enter Try.func154, Try.ntmps154
      go_wp2_with (fail)
      all_goals (go_region_held_law (fun w' => w'.cell? ⟨g, o, none⟩ = some (.int .i64 x) ∧ w'.cell? ⟨g, o + 1, none⟩ = some (.int .i64 y)) (go_keep) (first | (go_at_call 158; ((with_reducible refine (kindIf false _ _).mono ?_); rintro e w1 ⟨rfl, rfl⟩))))
      all_goals (try go_wp2_with (fail))
      all_goals (go_ret; refine ⟨retI ?_, by (repeat (with_reducible first | exact Below.refl _ _ | exact HBD.out | (refine Below.trans ?_ (Below.mono hb1 (by first | omega | (simp; done) | (simp; omega))); clear hb1) | (refine Below.trans ?_ (Below.mono hb2 (by first | omega | (simp; done) | (simp; omega))); clear hb2) | (refine Below.trans ?_ (Below.mono hb3 (by first | omega | (simp; done) | (simp; omega))); clear hb3) | (refine Below.trans ?_ (Below.mono hb4 (by first | omega | (simp; done) | (simp; omega))); clear hb4) | (refine Below.trans ?_ (Below.mono hb5 (by first | omega | (simp; done) | (simp; omega))); clear hb5) | (refine Below.trans ?_ (Below.mono hb6 (by first | omega | (simp; done) | (simp; omega))); clear hb6) | (refine Below.trans ?_ (Below.mono hb7 (by first | omega | (simp; done) | (simp; omega))); clear hb7) | (refine Below.trans ?_ (Below.mono hb8 (by first | omega | (simp; done) | (simp; omega))); clear hb8) | (refine Below.trans ?_ (Below.mono hb9 (by first | omega | (simp; done) | (simp; omega))); clear hb9) | (refine Below.trans ?_ (Below.mono hb10 (by first | omega | (simp; done) | (simp; omega))); clear hb10) | refine Below.alloc ?_ (by first | omega | (simp; done) | (simp; omega)) _ | refine Below.setCell ?_ (by first | omega | (simp; done) | (simp; omega)) _ | refine Below.drew ?_))⟩)
      all_goals (simp [putK, hxy])
  · clear hl hT
    unfold aggP
    go_enter Try.func154, Try.ntmps154
    go_wp2
    all_goals (go_ret; refine ⟨retI ?_, by (repeat (with_reducible first | exact Below.refl _ _ | exact HBD.out | (refine Below.trans ?_ (Below.mono hb1 (by first | omega | (simp; done) | (simp; omega))); clear hb1) | (refine Below.trans ?_ (Below.mono hb2 (by first | omega | (simp; done) | (simp; omega))); clear hb2) | (refine Below.trans ?_ (Below.mono hb3 (by first | omega | (simp; done) | (simp; omega))); clear hb3) | (refine Below.trans ?_ (Below.mono hb4 (by first | omega | (simp; done) | (simp; omega))); clear hb4) | (refine Below.trans ?_ (Below.mono hb5 (by first | omega | (simp; done) | (simp; omega))); clear hb5) | (refine Below.trans ?_ (Below.mono hb6 (by first | omega | (simp; done) | (simp; omega))); clear hb6) | (refine Below.trans ?_ (Below.mono hb7 (by first | omega | (simp; done) | (simp; omega))); clear hb7) | (refine Below.trans ?_ (Below.mono hb8 (by first | omega | (simp; done) | (simp; omega))); clear hb8) | (refine Below.trans ?_ (Below.mono hb9 (by first | omega | (simp; done) | (simp; omega))); clear hb9) | (refine Below.trans ?_ (Below.mono hb10 (by first | omega | (simp; done) | (simp; omega))); clear hb10) | refine Below.alloc ?_ (by first | omega | (simp; done) | (simp; omega)) _ | refine Below.setCell ?_ (by first | omega | (simp; done) | (simp; omega)) _ | refine Below.drew ?_))⟩)
    all_goals (simp [putK])
  · have hl3 : l.length = 2 := by simpa using hl
    have h := partKind3 A T cc g o ct cs.length n vk vn s l _ w hT hl3 rfl
    rw [hl3]
    simpa [putK, aggP] using h
  · have hl3 : l.length = 2 := by simpa using hl
    have h := partKind5 A T cc g o ct cs.length n vk vn s l _ w hT hl3 rfl
    rw [hl3]
    simpa [putK, aggP] using h
  · have hl3 : l.length = 2 := by simpa using hl
    have h := partKind6 A T cc g o ct cs.length n vk vn s l _ w hT hl3 rfl
    rw [hl3]
    simpa [putK, aggP] using h
  · have hl3 : l.length = 1 := by simpa using hl
    have h := partKind7 A T cc g o ct cs.length n vk vn s l _ w hT hl3 rfl
    rw [hl3]
    simpa [putK, aggP] using h
  · clear hl hT
    unfold aggP
    go_enter Try.func154, Try.ntmps154
    go_wp2
    all_goals (go_ret; refine ⟨retI ?_, by (repeat (with_reducible first | exact Below.refl _ _ | exact HBD.out | (refine Below.trans ?_ (Below.mono hb1 (by first | omega | (simp; done) | (simp; omega))); clear hb1) | (refine Below.trans ?_ (Below.mono hb2 (by first | omega | (simp; done) | (simp; omega))); clear hb2) | (refine Below.trans ?_ (Below.mono hb3 (by first | omega | (simp; done) | (simp; omega))); clear hb3) | (refine Below.trans ?_ (Below.mono hb4 (by first | omega | (simp; done) | (simp; omega))); clear hb4) | (refine Below.trans ?_ (Below.mono hb5 (by first | omega | (simp; done) | (simp; omega))); clear hb5) | (refine Below.trans ?_ (Below.mono hb6 (by first | omega | (simp; done) | (simp; omega))); clear hb6) | (refine Below.trans ?_ (Below.mono hb7 (by first | omega | (simp; done) | (simp; omega))); clear hb7) | (refine Below.trans ?_ (Below.mono hb8 (by first | omega | (simp; done) | (simp; omega))); clear hb8) | (refine Below.trans ?_ (Below.mono hb9 (by first | omega | (simp; done) | (simp; omega))); clear hb9) | (refine Below.trans ?_ (Below.mono hb10 (by first | omega | (simp; done) | (simp; omega))); clear hb10) | refine Below.alloc ?_ (by first | omega | (simp; done) | (simp; omega)) _ | refine Below.setCell ?_ (by first | omega | (simp; done) | (simp; omega)) _ | refine Below.drew ?_))⟩)
    all_goals (simp [putK])
end Go.Proofs.Ytacinjbaebimhaa.Val
namespace Go.Proofs.Ytacinjbaebimhaa.Val
open Go.RowKit
set_option linter.unusedVariables false
set_option maxRecDepth 20000
theorem keepE {w W w1 : World} {ge a gc oc size n : Nat} {A : Option Addr} {x0 x1 x2 x3 x4 v : Value} {cl xs : List Value} {ty : TypeId} (h : W.cell? ⟨ge, a, none⟩ = some x0 ∧ W.cell? ⟨ge, a + 1, none⟩ = some x1 ∧ W.cell? ⟨ge, a + 2, none⟩ = some x2 ∧ W.cell? ⟨ge, a + 3, none⟩ = some x3 ∧ W.cell? ⟨ge, a + 4, none⟩ = some x4 ∧ Fl W gc oc A cl ∧ W.ownsRow w.heap.size ty size v n xs ∧ Below w.heap.size w W ∧ w.heap.size ≤ W.heap.size) (hb : Below W.heap.size W w1) : w1.cell? ⟨ge, a, none⟩ = some x0 ∧ w1.cell? ⟨ge, a + 1, none⟩ = some x1 ∧ w1.cell? ⟨ge, a + 2, none⟩ = some x2 ∧ w1.cell? ⟨ge, a + 3, none⟩ = some x3 ∧ w1.cell? ⟨ge, a + 4, none⟩ = some x4 ∧ Fl w1 gc oc A cl ∧ w1.ownsRow w.heap.size ty size v n xs ∧ Below w.heap.size w w1 ∧ w.heap.size ≤ w1.heap.size := by
  obtain ⟨a0, a1, a2, a3, a4, hF, ho, hB, hz⟩ := h
  have c := fun (p : Addr) (v : Value) (h : W.cell? p = some v) => (hb.cell (World.block_lt_of_cell? W p h)).trans h
  have := hb.size
  exact ⟨c _ _ a0, c _ _ a1, c _ _ a2, c _ _ a3, c _ _ a4, hF.below hb, own_below ho hb, hB.trans (hb.mono hz), by omega⟩
theorem keepED {w W : World} {ge a gc oc size n : Nat} {A : Option Addr} {x0 x1 x2 x3 x4 v : Value} {cl xs : List Value} {ty : TypeId} (h : W.cell? ⟨ge, a, none⟩ = some x0 ∧ W.cell? ⟨ge, a + 1, none⟩ = some x1 ∧ W.cell? ⟨ge, a + 2, none⟩ = some x2 ∧ W.cell? ⟨ge, a + 3, none⟩ = some x3 ∧ W.cell? ⟨ge, a + 4, none⟩ = some x4 ∧ Fl W gc oc A cl ∧ W.ownsRow w.heap.size ty size v n xs ∧ Below w.heap.size w W ∧ w.heap.size ≤ W.heap.size) : W.drew.cell? ⟨ge, a, none⟩ = some x0 ∧ W.drew.cell? ⟨ge, a + 1, none⟩ = some x1 ∧ W.drew.cell? ⟨ge, a + 2, none⟩ = some x2 ∧ W.drew.cell? ⟨ge, a + 3, none⟩ = some x3 ∧ W.drew.cell? ⟨ge, a + 4, none⟩ = some x4 ∧ Fl W.drew gc oc A cl ∧ W.drew.ownsRow w.heap.size ty size v n xs ∧ Below w.heap.size w W.drew ∧ w.heap.size ≤ W.drew.heap.size := by
  obtain ⟨a0, a1, a2, a3, a4, hF, ho, hB, hz⟩ := h
  exact ⟨a0, a1, a2, a3, a4, hF.drew, own_drew ho, hB.drew, hz⟩
theorem keepEF {w W : World} {ge a gc oc size n : Nat} {A : Option Addr} {x0 x1 x2 x3 x4 v : Value} {cl xs : List Value} {ty : TypeId} (h : W.cell? ⟨ge, a, none⟩ = some x0 ∧ W.cell? ⟨ge, a + 1, none⟩ = some x1 ∧ W.cell? ⟨ge, a + 2, none⟩ = some x2 ∧ W.cell? ⟨ge, a + 3, none⟩ = some x3 ∧ W.cell? ⟨ge, a + 4, none⟩ = some x4 ∧ Fl W gc oc A cl ∧ W.ownsRow w.heap.size ty size v n xs ∧ Below w.heap.size w W ∧ w.heap.size ≤ W.heap.size) : Fl W gc oc A cl := h.2.2.2.2.2.1
theorem keepEO {w W : World} {ge a gc oc size n : Nat} {A : Option Addr} {x0 x1 x2 x3 x4 v : Value} {cl xs : List Value} {ty : TypeId} (h : W.cell? ⟨ge, a, none⟩ = some x0 ∧ W.cell? ⟨ge, a + 1, none⟩ = some x1 ∧ W.cell? ⟨ge, a + 2, none⟩ = some x2 ∧ W.cell? ⟨ge, a + 3, none⟩ = some x3 ∧ W.cell? ⟨ge, a + 4, none⟩ = some x4 ∧ Fl W gc oc A cl ∧ W.ownsRow w.heap.size ty size v n xs ∧ Below w.heap.size w W ∧ w.heap.size ≤ W.heap.size) : W.ownsRow w.heap.size ty size v n xs := h.2.2.2.2.2.2.1
theorem keepEB {w W : World} {ge a gc oc size n : Nat} {A : Option Addr} {x0 x1 x2 x3 x4 v : Value} {cl xs : List Value} {ty : TypeId} (h : W.cell? ⟨ge, a, none⟩ = some x0 ∧ W.cell? ⟨ge, a + 1, none⟩ = some x1 ∧ W.cell? ⟨ge, a + 2, none⟩ = some x2 ∧ W.cell? ⟨ge, a + 3, none⟩ = some x3 ∧ W.cell? ⟨ge, a + 4, none⟩ = some x4 ∧ Fl W gc oc A cl ∧ W.ownsRow w.heap.size ty size v n xs ∧ Below w.heap.size w W ∧ w.heap.size ≤ W.heap.size) : Below w.heap.size w W := h.2.2.2.2.2.2.2.1
theorem fl_tail1 {W : World} {B g m t cap : Nat} {ty : TypeId} {st : List Int} (hcm : ¬ cap = m) (h : W.ownsRow B ty 1 (.slice (some ⟨g, 0, none⟩) (m + t) cap) (m + t) (st.reverse.map iv)) (hl : st.length = m + t) : Fl W g m (some ⟨g, m, none⟩) ((st.take t).reverse.map iv) := by
  have hlen : ((st.take t).reverse.map iv).length = t := by simp; omega
  refine ⟨fun h0 => rfl, fun j hj => ?_⟩
  rw [hlen] at hj
  rw [own_at h (m + j) (by simp; omega), List.getElem_map]
  simp only [iv, List.getElem_reverse, List.getElem_take, List.length_take]
  congr 3
  omega
theorem fl_tail0 {W : World} {B g m t : Nat} {ty : TypeId} {st : List Int} (h : W.ownsRow B ty 1 (.slice (some ⟨g, 0, none⟩) (m + t) m) (m + t) (st.reverse.map iv)) (hl : st.length = m + t) : Fl W g m (some ⟨g, 0, none⟩) ((st.take t).reverse.map iv) := by
  obtain ⟨-, -, hc, -⟩ := own_cap h
  have ht : t = 0 := by omega
  subst ht
  exact ⟨fun h0 => absurd h0 (by simp), fun j hj => absurd hj (by simp)⟩
theorem own_drop {W : World} {B g m t cap : Nat} {ty : TypeId} {st : List Int} (h : W.ownsRow B ty 1 (.slice (some ⟨g, 0, none⟩) (m + t) cap) (m + t) (st.reverse.map iv)) (hl : st.length = m + t) : W.ownsRow B ty 1 (.slice (some ⟨g, 0, none⟩) m cap) m ((st.drop t).reverse.map iv) := by
  have := own_take h (m := m) (by omega)
  rwa [Nat.mul_one, show (st.reverse.map iv).take m = (st.drop t).reverse.map iv from by rw [← List.map_take, List.take_reverse, hl, Nat.add_sub_cancel_left]] at this
theorem own_slice {W : World} {B size n : Nat} {ty : TypeId} {v : Value} {xs : List Value} (h : W.ownsRow B ty size v n xs) (h0 : 0 < n) : ∃ g cap, v = .slice (some ⟨g, 0, none⟩) n cap := by
  rcases h.2 with ⟨-, hz⟩ | ⟨g, cap, cur, hv, -⟩
  · omega
  · exact ⟨g, cap, hv⟩
set_option maxHeartbeats 4000000 in
theorem exprKindI (A E : Option Addr) (gc oc cc ge oe ce : Nat) (cs : List CT) (ps : List PT) (w : World) (hA : Fl w gc oc A (flatC cs)) (hE : Fl w ge oe E (flatP ps)) (hl : cs.length ≤ 2000000) (hp : ps.length ≤ 2000000) (hs : ShortP ps) : Calls Try.prog 140 #[.slice A cs.length cc, .slice E ps.length ce] w fun e w' => e = .returned (.int .i64 (kindI cs ps)) ∧ Below w.heap.size w w' := by
  have HA := Lib.hid hA
  have HE := Lib.hid hE
  have HS := Lib.hid hs
  clear hA hE hs
  obtain ⟨i0, hi, iz0, iz1, iz2⟩ := info_parts infoN
  have CC := Lib.hid (fun w hw => columnsOkI A gc oc cc cs w hw hl)
  obtain ⟨b1, hb1⟩ : ∃ b, colB cs = b := ⟨_, rfl⟩
  rw [hb1] at CC
  by_cases hc : b1 = true ∧ ps.length ≤ 12
  case neg =>
    have HK := Lib.hid (kindI_no (cs := cs) (ps := ps) (by rw [hb1]; exact hc))
    clear hb1
    cases b1
    · clear hc
      go_enter Try.func140, Try.ntmps140
      go_wp2_with (go_at_call 18; (with_reducible refine (CC.out _ HA.out).mono ?_); rintro e w1 ⟨rfl, rfl⟩)
      all_goals (go_ret; exact ⟨retI HK.out.symm, Below.refl _ _⟩)
    · have h12 : ¬ ps.length ≤ 12 := fun h => hc ⟨rfl, h⟩
      clear hc
      have h12' : (12 : Int) < ps.length := by omega
      go_enter Try.func140, Try.ntmps140
      go_wp2_with (go_at_call 18; (with_reducible refine (CC.out _ HA.out).mono ?_); rintro e w1 ⟨rfl, rfl⟩)
      all_goals first
        | (go_ret; exact ⟨retI HK.out.symm, Below.refl _ _⟩)
        | omega
  case pos =>
    obtain ⟨rfl, h12⟩ := hc
    have HC := Lib.hid (show colB cs = true ∧ ps.length ≤ 12 from ⟨hb1, h12⟩)
    clear hb1
    have h12' : ¬ (12 : Int) < ps.length := by omega
    go_enter Try.func140, Try.ntmps140
    go_wp2_with (go_at_call 18; (with_reducible refine (CC.out _ HA.out).mono ?_); rintro e w1 ⟨rfl, rfl⟩)
    go_loopw [5, 6] (fun kx ix wr => ∃ (k : Nat) (st : List Int) (g cap : Nat), k ≤ ps.length ∧ ix = .int .i64 k ∧ Hid (Below w.heap.size w wr) ∧ kx = .slice (some ⟨g, 0, none⟩) st.length cap ∧ st.length ≤ k ∧ Hid (runK cs (ps.take k) [] = some st) ∧ Hid (wr.ownsRow w.heap.size 3 1 kx st.length (st.reverse.map iv))) (fun _ ix _ => ps.length - (intOf ix).toNat)
    case atStart =>
      exact ⟨0, [], _, _, by omega, rfl, (Below.refl _ _).alloc (Nat.le_refl _) _, rfl, by simp, rfl, own_empty3 3 1 rfl (Nat.le_refl _)⟩
    case round =>
      obtain ⟨k, st, g, cap, hk, rfl, HW, rfl, hst, HR, OWN⟩ := hrel
      by_cases hlt : k < ps.length
      · obtain ⟨rfl, -⟩ := HE.out.pt k hlt
        obtain ⟨-, hg2, c0, c1, c2, c3, c4⟩ := (HE.out.below HW.out).pt k hlt
        have HSK := Lib.hid (HS.out k hlt)
        obtain ⟨p, hpk⟩ : ∃ p, ps[k] = p := ⟨_, rfl⟩
        have HM := Lib.hid (fun (st' : List Int) => run_more (st' := st') hlt hpk HR.out)
        have HD := Lib.hid (run_dead1 hlt hpk HR.out)
        rw [hpk] at c0 c1 c2 c3 c4 HSK
        clear hpk
        have i0' : (0 : Int) ≤ (k : Int) := by omega
        have i1' : (k : Int) < (ps.length : Int) := by omega
        obtain ⟨pk, pn, vk, vn, s⟩ := p
        have ht2 := takes_le pk
        obtain ⟨t, ht⟩ : ∃ t, takesI pk = t := ⟨_, rfl⟩
        have CT := Lib.hid (fun w => partTakes pk w)
        rw [ht] at CT ht2
        simp only at c0 c1 c2 c3 c4 HSK
        by_cases htl : t ≤ st.length
        case neg =>
          have HX := Lib.hid (kindI_dead (HD.out (few_not (by rw [ht]; omega))))
          have hneg : (st.length : Int) - (t : Int) < 0 := by omega
          have hw1 : IntKind.i64.wrap ((st.length : Int) - (t : Int)) = (st.length : Int) - (t : Int) := IntWalk.i64_in _ (by omega)
          go_wp2_with (go_at_call 152; (with_reducible refine (CT.out _).mono ?_); rintro e w1 ⟨rfl, rfl⟩)
          all_goals (go_ret; exact ⟨retI HX.out.symm, HW.out⟩)
        case pos =>
          obtain ⟨m, hm⟩ : ∃ m, st.length = m + t := ⟨st.length - t, by omega⟩
          obtain ⟨F, hF⟩ : ∃ F, fieldB cs (pk, pn, vk, vn, s) = F := ⟨_, rfl⟩
          have CO := Lib.hid (fun w => partOk A cc cs (pk, pn, vk, vn, s) w HSK.out hl)
          rw [hF] at CO
          unfold aggP at CO
          rw [hm] at OWN hst ⊢
          have e0 : ((m : Int) + (t : Int) - (t : Int)) = (m : Int) := by omega
          have hw1 : IntKind.i64.wrap (m : Int) = (m : Int) := IntWalk.i64_in _ (by omega)
          have m0 : ¬ ((m : Int) < 0) := by omega
          have hmt : (m : Int) ≤ (m : Int) + (t : Int) := by omega
          have hg3 : ge < wr.heap.size := hg2
          cases F
          · have HX := Lib.hid (kindI_dead (HD.out (fits_not hF)))
            clear hF hm
            go_wp2_with (first | (go_at_call 152; (with_reducible refine (CT.out _).mono ?_); rintro e w1 ⟨rfl, rfl⟩) | (go_at_call 153; (with_reducible refine (CO.out _).mono ?_); rintro e w1 ⟨rfl, hb1⟩; have HW1 := Lib.hid (Below.trans HW.out (hb1.mono HW.out.size)); clear hb1))
            all_goals (go_ret; exact ⟨retI HX.out.symm, HW1.out⟩)
          · have HP := Lib.hid (step_put (st := st) HC.out.1 (by rw [ht]; omega) hF)
            rw [ht] at HP
            have hlt2 : (st.take t).reverse.length = t := by simp; omega
            have CK := Lib.hid (fun (W : World) (T : Option Addr) (ct : Nat) (hW : Fl W gc oc A (flatC cs)) (hT : Fl W g m T (((st.take t).reverse).map iv)) => partKind A T gc oc cc g m ct cs (st.take t).reverse (pk, pn, vk, vn, s) W hW hT hF (by rw [hlt2, ht]) hl)
            rw [hlt2] at CK
            unfold aggP at CK
            obtain ⟨K, hK⟩ : ∃ K, putK cs (pk, pn, vk, vn, s) (st.take t).reverse = K := ⟨_, rfl⟩
            rw [hK] at CK HP
            have HMM := Lib.hid hm
            clear hK hF hlt2 hm
            go_wp2_with (first | (go_at_call 152; (with_reducible refine (CT.out _).mono ?_); rintro e w1 ⟨rfl, rfl⟩) | (go_at_call 153; (with_reducible refine (CO.out _).mono ?_); rintro e w1 ⟨rfl, hb1⟩; have HW1 := Lib.hid (Below.trans HW.out (hb1.mono HW.out.size)); obtain ⟨hc1, hf1⟩ := bcell hb1; have HB1 := Lib.hid hb1; clear hb1))
            have HS0 : (fun w' => w'.cell? ⟨ge, oe + k * 5, none⟩ = some (.int .i64 pk) ∧ w'.cell? ⟨ge, oe + k * 5 + 1, none⟩ = some (.int .i64 pn) ∧ w'.cell? ⟨ge, oe + k * 5 + 2, none⟩ = some (.int .i64 vk) ∧ w'.cell? ⟨ge, oe + k * 5 + 3, none⟩ = some (.int .i64 vn) ∧ w'.cell? ⟨ge, oe + k * 5 + 4, none⟩ = some (.string s) ∧ Fl w' gc oc A (flatC cs) ∧ w'.ownsRow w.heap.size 3 1 (.slice (some ⟨g, 0, none⟩) (m + t) cap) (m + t) (st.reverse.map iv) ∧ Below w.heap.size w w' ∧ w.heap.size ≤ w'.heap.size) w1 := keepE ⟨c0, c1, c2, c3, c4, HA.out.below HW.out, OWN.out, HW.out, HW.out.size⟩ HB1.out
            clear hc1 hf1
            by_cases hcm : cap = m
            · subst hcm
              by_cases hK0 : K < 0
              · rw [if_pos hK0] at HP
                have HX := Lib.hid (kindI_dead (HD.out HP.out))
                clear HP
                go_region_held_law (fun w' => w'.cell? ⟨ge, oe + k * 5, none⟩ = some (.int .i64 pk) ∧ w'.cell? ⟨ge, oe + k * 5 + 1, none⟩ = some (.int .i64 pn) ∧ w'.cell? ⟨ge, oe + k * 5 + 2, none⟩ = some (.int .i64 vk) ∧ w'.cell? ⟨ge, oe + k * 5 + 3, none⟩ = some (.int .i64 vn) ∧ w'.cell? ⟨ge, oe + k * 5 + 4, none⟩ = some (.string s) ∧ Fl w' gc oc A (flatC cs) ∧ w'.ownsRow w.heap.size 3 1 (.slice (some ⟨g, 0, none⟩) (cap + t) cap) (cap + t) (st.reverse.map iv) ∧ Below w.heap.size w w' ∧ w.heap.size ≤ w'.heap.size) (first | exact keepE (by assumption) hbq | exact keepED (by assumption) | assumption) (first | (go_at_call 154; refine (CK.out _ _ _ (keepEF (by assumption)) (fl_tail0 (keepEO (by assumption)) HMM.out)).mono ?_; rintro e w2 ⟨rfl, hbq⟩))
                all_goals go_wp2_with (fail)
                all_goals (go_ret; exact ⟨retI HX.out.symm, keepEB (by assumption)⟩)
              · rw [if_neg hK0] at HP
                go_region_held_law (fun w' => w'.cell? ⟨ge, oe + k * 5, none⟩ = some (.int .i64 pk) ∧ w'.cell? ⟨ge, oe + k * 5 + 1, none⟩ = some (.int .i64 pn) ∧ w'.cell? ⟨ge, oe + k * 5 + 2, none⟩ = some (.int .i64 vk) ∧ w'.cell? ⟨ge, oe + k * 5 + 3, none⟩ = some (.int .i64 vn) ∧ w'.cell? ⟨ge, oe + k * 5 + 4, none⟩ = some (.string s) ∧ Fl w' gc oc A (flatC cs) ∧ w'.ownsRow w.heap.size 3 1 (.slice (some ⟨g, 0, none⟩) (cap + t) cap) (cap + t) (st.reverse.map iv) ∧ Below w.heap.size w w' ∧ w.heap.size ≤ w'.heap.size) (first | exact keepE (by assumption) hbq | exact keepED (by assumption) | assumption) (first | (go_at_call 154; refine (CK.out _ _ _ (keepEF (by assumption)) (fl_tail0 (keepEO (by assumption)) HMM.out)).mono ?_; rintro e w2 ⟨rfl, hbq⟩))
                all_goals (have OQ := Lib.hid (own_drop (keepEO (by assumption)) HMM.out); have HBN := Lib.hid (keepEB (by assumption)))
                all_goals go_wp2_with (at_builtin; refine wpList_append_own _ rfl (.tmp 57) (.tmp 59) 30 rfl w.heap.size 3 i0 (.int .i64 0) 1 8 Try.underlying30 hi iz0 iz1 iz2 rfl (by decide) (.slice (some ⟨g, 0, none⟩) cap cap) cap ((st.drop t).reverse.map iv) rfl (by repeat (with_reducible first | exact OQ.out | apply World.ownsRow.alloc | apply own_drew)) ⟨w2.heap.size, 0, none⟩ 1 1 [.int .i64 K] rfl rfl (news_new (by simp)) (by simp [Value.oneCell']) (by unfold maxLen; omega) (by omega) (by have := HBN.out.size; simp; omega) ?_; intro v2 w3 hown2 hgr2 _; have OWN2 := Lib.hid hown2; have HB2 := Lib.hid (Below.grown (B := w.heap.size) (a := w) (HBN.out.alloc HBN.out.size _) hgr2 (by have := HBN.out.size; simp; omega) (fun k hk => (OQ.out.lt k hk).1)); clear hown2 hgr2)
                all_goals (obtain ⟨g', cap', rfl⟩ := own_slice OWN2.out (by omega))
                all_goals (have hlen : (K :: st.drop t).length = cap + 1 := by have := HMM.out; simp; omega)
                all_goals (refine ⟨⟨k + 1, K :: st.drop t, g', cap', by omega, by go_num, HB2, by rw [hlen], by rw [hlen]; omega, HM.out _ HP.out, ?_⟩, by simp [intOf]; omega⟩)
                all_goals (rw [hlen]; exact Lib.hid (by have := OWN2.out; simpa [iv] using this))
            · have hmc : (m : Int) ≤ (cap : Int) := by have := (own_cap OWN.out).2.2.1; omega
              have hmc2 : m ≤ cap := by omega
              by_cases hK0 : K < 0
              · rw [if_pos hK0] at HP
                have HX := Lib.hid (kindI_dead (HD.out HP.out))
                clear HP
                go_region_held_law (fun w' => w'.cell? ⟨ge, oe + k * 5, none⟩ = some (.int .i64 pk) ∧ w'.cell? ⟨ge, oe + k * 5 + 1, none⟩ = some (.int .i64 pn) ∧ w'.cell? ⟨ge, oe + k * 5 + 2, none⟩ = some (.int .i64 vk) ∧ w'.cell? ⟨ge, oe + k * 5 + 3, none⟩ = some (.int .i64 vn) ∧ w'.cell? ⟨ge, oe + k * 5 + 4, none⟩ = some (.string s) ∧ Fl w' gc oc A (flatC cs) ∧ w'.ownsRow w.heap.size 3 1 (.slice (some ⟨g, 0, none⟩) (m + t) cap) (m + t) (st.reverse.map iv) ∧ Below w.heap.size w w' ∧ w.heap.size ≤ w'.heap.size) (first | exact keepE (by assumption) hbq | exact keepED (by assumption) | assumption) (first | (go_at_call 154; refine (CK.out _ _ _ (keepEF (by assumption)) (fl_tail1 hcm (keepEO (by assumption)) HMM.out)).mono ?_; rintro e w2 ⟨rfl, hbq⟩))
                all_goals go_wp2_with (fail)
                all_goals (go_ret; exact ⟨retI HX.out.symm, keepEB (by assumption)⟩)
              · rw [if_neg hK0] at HP
                go_region_held_law (fun w' => w'.cell? ⟨ge, oe + k * 5, none⟩ = some (.int .i64 pk) ∧ w'.cell? ⟨ge, oe + k * 5 + 1, none⟩ = some (.int .i64 pn) ∧ w'.cell? ⟨ge, oe + k * 5 + 2, none⟩ = some (.int .i64 vk) ∧ w'.cell? ⟨ge, oe + k * 5 + 3, none⟩ = some (.int .i64 vn) ∧ w'.cell? ⟨ge, oe + k * 5 + 4, none⟩ = some (.string s) ∧ Fl w' gc oc A (flatC cs) ∧ w'.ownsRow w.heap.size 3 1 (.slice (some ⟨g, 0, none⟩) (m + t) cap) (m + t) (st.reverse.map iv) ∧ Below w.heap.size w w' ∧ w.heap.size ≤ w'.heap.size) (first | exact keepE (by assumption) hbq | exact keepED (by assumption) | assumption) (first | (go_at_call 154; refine (CK.out _ _ _ (keepEF (by assumption)) (fl_tail1 hcm (keepEO (by assumption)) HMM.out)).mono ?_; rintro e w2 ⟨rfl, hbq⟩))
                all_goals (have OQ := Lib.hid (own_drop (keepEO (by assumption)) HMM.out); have HBN := Lib.hid (keepEB (by assumption)))
                all_goals go_wp2_with (at_builtin; refine wpList_append_own _ rfl (.tmp 57) (.tmp 59) 30 rfl w.heap.size 3 i0 (.int .i64 0) 1 8 Try.underlying30 hi iz0 iz1 iz2 rfl (by decide) (.slice (some ⟨g, 0, none⟩) m cap) m ((st.drop t).reverse.map iv) rfl (by repeat (with_reducible first | exact OQ.out | apply World.ownsRow.alloc | apply own_drew)) ⟨w2.heap.size, 0, none⟩ 1 1 [.int .i64 K] rfl rfl (news_new (by simp)) (by simp [Value.oneCell']) (by unfold maxLen; omega) (by omega) (by have := HBN.out.size; simp; omega) ?_; intro v2 w3 hown2 hgr2 _; have OWN2 := Lib.hid hown2; have HB2 := Lib.hid (Below.grown (B := w.heap.size) (a := w) (HBN.out.alloc HBN.out.size _) hgr2 (by have := HBN.out.size; simp; omega) (fun k hk => (OQ.out.lt k hk).1)); clear hown2 hgr2)
                all_goals (obtain ⟨g', cap', rfl⟩ := own_slice OWN2.out (by omega))
                all_goals (have hlen : (K :: st.drop t).length = m + 1 := by have := HMM.out; simp; omega)
                all_goals (refine ⟨⟨k + 1, K :: st.drop t, g', cap', by omega, by go_num, HB2, by rw [hlen], by rw [hlen]; omega, HM.out _ HP.out, ?_⟩, by simp [intOf]; omega⟩)
                all_goals (rw [hlen]; exact Lib.hid (by have := OWN2.out; simpa [iv] using this))
      · obtain rfl : k = ps.length := by omega
        have HR2 : Hid (runK cs ps [] = some st) := by have := HR.out; rwa [List.take_length] at this
        have HK := Lib.hid (kindI_run HC.out HR2.out)
        rcases st with _ | ⟨x, _ | ⟨y, q⟩⟩
        · go_wp2
          all_goals (go_ret; exact ⟨retI HK.out.symm, HW.out⟩)
        · have c0 := own_at (l := [x]) OWN.out 0 (by simp)
          simp only [List.getElem_cons_zero] at c0
          go_wp2
          all_goals (go_ret; exact ⟨retI HK.out.symm, HW.out⟩)
        · have e2 : ((q.length : Int) + 1 + 1 != 1) = true := by simp; omega
          go_wp2
          all_goals (go_ret; exact ⟨retI HK.out.symm, HW.out⟩)
end Go.Proofs.Ytacinjbaebimhaa.Val
