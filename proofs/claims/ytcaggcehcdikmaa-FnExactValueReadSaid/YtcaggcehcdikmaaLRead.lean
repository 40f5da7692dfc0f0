/- ValueRead, impl against the model, at every text: the law FnExactValueRead returns true whatever text it is called with, and leaves its argument as it was. No condition. -/
import Derived.Test.YtcaggcehcdikmaaRows
import Derived.Test.YtcaggcehcdikmaaReadS2
import Derived.Deep.RegionHeld3
import Derived.ProofKit
import Derived.OpenShut
import Derived.ShutString
import Derived.ChangeOld
import Derived.Below
import Derived.Lib.SmallJoins
namespace Go.Proofs.Ytcaggcehcdikmaa.Val
open Go.ChangeShapes Go.WideShapes Go.ChangeAt Go.RowKit
open Go.ChangeMaps (open_string shut_string)
set_option linter.unusedVariables false
theorem own : ownKnob Try.prog.godebug = none := by kernel_rfl
theorem laidOut : laidOutB Try.prog = true := by kernel_rfl
theorem walk_FnExactValueRead (s : ByteArray) (w : World) (hs : s.size ≤ maxLen) :
    Calls Try.prog 12 #[.string s] w fun e w' => e = .returned (.bool true) ∧ Below w.heap.size w w' := by
  by_cases hl : 1048576 < s.size
  · unfold maxLen at hs
    go_enter Try.func12, Try.ntmps12
    go_wp2
    go_ret
    exact ⟨rfl, Below.refl _ _⟩
  · obtain ⟨k, n, t, b, -, ci, cs⟩ := read_pair s hs
    have CI := Lib.hid ci
    have CS := Lib.hid cs
    clear ci cs
    unfold maxLen at hs
    go_enter Try.func12, Try.ntmps12
    go_wp2_with (first | (go_at_call 26; ((with_reducible refine (CI.out _).mono ?_); (try (have hc10 := hc9; have hf10 := hf9; have hz10 := hz9; have hb10 := hb9; clear hc9 hf9 hz9 hb9)); (try (have hc9 := hc8; have hf9 := hf8; have hz9 := hz8; have hb9 := hb8; clear hc8 hf8 hz8 hb8)); (try (have hc8 := hc7; have hf8 := hf7; have hz8 := hz7; have hb8 := hb7; clear hc7 hf7 hz7 hb7)); (try (have hc7 := hc6; have hf7 := hf6; have hz7 := hz6; have hb7 := hb6; clear hc6 hf6 hz6 hb6)); (try (have hc6 := hc5; have hf6 := hf5; have hz6 := hz5; have hb6 := hb5; clear hc5 hf5 hz5 hb5)); (try (have hc5 := hc4; have hf5 := hf4; have hz5 := hz4; have hb5 := hb4; clear hc4 hf4 hz4 hb4)); (try (have hc4 := hc3; have hf4 := hf3; have hz4 := hz3; have hb4 := hb3; clear hc3 hf3 hz3 hb3)); (try (have hc3 := hc2; have hf3 := hf2; have hz3 := hz2; have hb3 := hb2; clear hc2 hf2 hz2 hb2)); (try (have hc2 := hc1; have hf2 := hf1; have hz2 := hz1; have hb2 := hb1; clear hc1 hf1 hz1 hb1)); rintro e w1 ⟨rfl, hb1⟩; obtain ⟨hc1, hf1⟩ := bcell hb1; (try simp only [World.size_drew, World.cell?_drew, World.frozen?_drew] at hc1 hf1); have hz1 := hb1.size; (try simp at hz1); (try (have hx6 := hx5; have hn6 := hn5)); (try (have hx5 := hx4; have hn5 := hn4)); (try (have hx4 := hx3; have hn4 := hn3)); (try (have hx3 := hx2; have hn3 := hn2)); (try (have hx2 := hx1; have hn2 := hn1)); (try (have hx1 := Nat.lt_of_succ_le hz1; have hn1 := Nat.ne_of_lt hx1)))) | (go_at_call 28; ((with_reducible refine (CS.out _).mono ?_); (try (have hc10 := hc9; have hf10 := hf9; have hz10 := hz9; have hb10 := hb9; clear hc9 hf9 hz9 hb9)); (try (have hc9 := hc8; have hf9 := hf8; have hz9 := hz8; have hb9 := hb8; clear hc8 hf8 hz8 hb8)); (try (have hc8 := hc7; have hf8 := hf7; have hz8 := hz7; have hb8 := hb7; clear hc7 hf7 hz7 hb7)); (try (have hc7 := hc6; have hf7 := hf6; have hz7 := hz6; have hb7 := hb6; clear hc6 hf6 hz6 hb6)); (try (have hc6 := hc5; have hf6 := hf5; have hz6 := hz5; have hb6 := hb5; clear hc5 hf5 hz5 hb5)); (try (have hc5 := hc4; have hf5 := hf4; have hz5 := hz4; have hb5 := hb4; clear hc4 hf4 hz4 hb4)); (try (have hc4 := hc3; have hf4 := hf3; have hz4 := hz3; have hb4 := hb3; clear hc3 hf3 hz3 hb3)); (try (have hc3 := hc2; have hf3 := hf2; have hz3 := hz2; have hb3 := hb2; clear hc2 hf2 hz2 hb2)); (try (have hc2 := hc1; have hf2 := hf1; have hz2 := hz1; have hb2 := hb1; clear hc1 hf1 hz1 hb1)); rintro e w1 ⟨rfl, hb1⟩; obtain ⟨hc1, hf1⟩ := bcell hb1; (try simp only [World.size_drew, World.cell?_drew, World.frozen?_drew] at hc1 hf1); have hz1 := hb1.size; (try simp at hz1); (try (have hx6 := hx5; have hn6 := hn5)); (try (have hx5 := hx4; have hn5 := hn4)); (try (have hx4 := hx3; have hn4 := hn3)); (try (have hx3 := hx2; have hn3 := hn2)); (try (have hx2 := hx1; have hn2 := hn1)); (try (have hx1 := Nat.lt_of_succ_le hz1; have hn1 := Nat.ne_of_lt hx1)))) | (go_at_call 36; ((with_reducible refine (eqValue _ _ _ _ _ _ _).mono ?_); (try (have hc10 := hc9; have hf10 := hf9; have hz10 := hz9; have hb10 := hb9; clear hc9 hf9 hz9 hb9)); (try (have hc9 := hc8; have hf9 := hf8; have hz9 := hz8; have hb9 := hb8; clear hc8 hf8 hz8 hb8)); (try (have hc8 := hc7; have hf8 := hf7; have hz8 := hz7; have hb8 := hb7; clear hc7 hf7 hz7 hb7)); (try (have hc7 := hc6; have hf7 := hf6; have hz7 := hz6; have hb7 := hb6; clear hc6 hf6 hz6 hb6)); (try (have hc6 := hc5; have hf6 := hf5; have hz6 := hz5; have hb6 := hb5; clear hc5 hf5 hz5 hb5)); (try (have hc5 := hc4; have hf5 := hf4; have hz5 := hz4; have hb5 := hb4; clear hc4 hf4 hz4 hb4)); (try (have hc4 := hc3; have hf4 := hf3; have hz4 := hz3; have hb4 := hb3; clear hc3 hf3 hz3 hb3)); (try (have hc3 := hc2; have hf3 := hf2; have hz3 := hz2; have hb3 := hb2; clear hc2 hf2 hz2 hb2)); (try (have hc2 := hc1; have hf2 := hf1; have hz2 := hz1; have hb2 := hb1; clear hc1 hf1 hz1 hb1)); rintro e w1 ⟨rfl, hb1⟩; obtain ⟨hc1, hf1⟩ := bcell hb1; (try simp only [World.size_drew, World.cell?_drew, World.frozen?_drew] at hc1 hf1); have hz1 := hb1.size; (try simp at hz1); (try (have hx6 := hx5; have hn6 := hn5)); (try (have hx5 := hx4; have hn5 := hn4)); (try (have hx4 := hx3; have hn4 := hn3)); (try (have hx3 := hx2; have hn3 := hn2)); (try (have hx2 := hx1; have hn2 := hn1)); (try (have hx1 := Nat.lt_of_succ_le hz1; have hn1 := Nat.ne_of_lt hx1)))))
    all_goals go_ways
    all_goals go_outline
    all_goals (go_ret; exact ⟨rfl, by (repeat (with_reducible first | exact Below.refl _ _ | exact HBD.out | (refine Below.trans ?_ (Below.mono hb1 (by first | omega | (simp; done) | (simp; omega))); clear hb1) | (refine Below.trans ?_ (Only.below hb1 (by first | omega | (simp; done) | (simp; omega)) (by first | omega | (simp; done) | (simp; omega))); clear hb1) | (refine Below.trans ?_ (Below.mono hb2 (by first | omega | (simp; done) | (simp; omega))); clear hb2) | (refine Below.trans ?_ (Only.below hb2 (by first | omega | (simp; done) | (simp; omega)) (by first | omega | (simp; done) | (simp; omega))); clear hb2) | (refine Below.trans ?_ (Below.mono hb3 (by first | omega | (simp; done) | (simp; omega))); clear hb3) | (refine Below.trans ?_ (Only.below hb3 (by first | omega | (simp; done) | (simp; omega)) (by first | omega | (simp; done) | (simp; omega))); clear hb3) | (refine Below.trans ?_ (Below.mono hb4 (by first | omega | (simp; done) | (simp; omega))); clear hb4) | (refine Below.trans ?_ (Only.below hb4 (by first | omega | (simp; done) | (simp; omega)) (by first | omega | (simp; done) | (simp; omega))); clear hb4) | (refine Below.trans ?_ (Below.mono hb5 (by first | omega | (simp; done) | (simp; omega))); clear hb5) | (refine Below.trans ?_ (Only.below hb5 (by first | omega | (simp; done) | (simp; omega)) (by first | omega | (simp; done) | (simp; omega))); clear hb5) | (refine Below.trans ?_ (Below.mono hb6 (by first | omega | (simp; done) | (simp; omega))); clear hb6) | (refine Below.trans ?_ (Only.below hb6 (by first | omega | (simp; done) | (simp; omega)) (by first | omega | (simp; done) | (simp; omega))); clear hb6) | (refine Below.trans ?_ (Below.mono hb7 (by first | omega | (simp; done) | (simp; omega))); clear hb7) | (refine Below.trans ?_ (Only.below hb7 (by first | omega | (simp; done) | (simp; omega)) (by first | omega | (simp; done) | (simp; omega))); clear hb7) | (refine Below.trans ?_ (Below.mono hb8 (by first | omega | (simp; done) | (simp; omega))); clear hb8) | (refine Below.trans ?_ (Only.below hb8 (by first | omega | (simp; done) | (simp; omega)) (by first | omega | (simp; done) | (simp; omega))); clear hb8) | (refine Below.trans ?_ (Below.mono hb9 (by first | omega | (simp; done) | (simp; omega))); clear hb9) | (refine Below.trans ?_ (Only.below hb9 (by first | omega | (simp; done) | (simp; omega)) (by first | omega | (simp; done) | (simp; omega))); clear hb9) | (refine Below.trans ?_ (Below.mono hb10 (by first | omega | (simp; done) | (simp; omega))); clear hb10) | (refine Below.trans ?_ (Only.below hb10 (by first | omega | (simp; done) | (simp; omega)) (by first | omega | (simp; done) | (simp; omega))); clear hb10) | refine Below.alloc ?_ (by first | omega | (simp; done) | (simp; omega)) _ | refine Below.setCell ?_ (by first | omega | (simp; done) | (simp; omega)) _ | refine Below.drew ?_))⟩)
set_option maxRecDepth 100000 in
theorem lifted_FnExactValueRead (os : Os) (started : os.Started) (H : Type) (enc : TypeId × Value → H) :
    ReturnsInHanded {} Try.checked os 12 .any (Rows.fnExactValueReadSpec.pre6 enc Try.prog Try.f12 Rows.fnExactValueReadRow.domain false) (Rows.fnExactValueReadSpec.post enc Try.prog Try.f12 false true false false) := by
  refine returnsInHanded_of_change (C := Try.checked) own started (by kernel_rfl) Try.func12
    (ChangeSpec.witness6 (enc := enc) (C := Try.checked) false ⟨#[], #[.string ByteArray.empty], []⟩ 8 (by kernel_rfl) (by kernel_rfl) (by kernel_rfl) (by kernel_rfl)) ?_
  intro W base args ds gs before hval0 hW hcnd _
  have hval : ∀ (j : Nat) t v, Try.f12.params[j]? = some t → args[j]? = some v → Value.okWide Try.prog W .any base t v := hval0
  have hW' := hW
  obtain ⟨p, q, hA0, hV, rfl, hfz, hnd⟩ := hW
  have hA : DataW.TrodAll enc Try.prog W 0 (fun _ => true) true Try.f12.params.toList args.toList ds p := hA0
  rw [Try.params12] at hA hval
  obtain ⟨v0, vs0, d0, ds0, p0, q0, hargs, rfl, rfl, h0, r0⟩ := trodAll_cons hA
  obtain ⟨rfl, rfl, rfl⟩ := trodAll_nil r0
  obtain rfl : args = #[v0] := by cases args; simp_all
  obtain ⟨rfl, rfl⟩ := trodVars_none hV
  obtain ⟨a0, rfl, rfl, rfl, w0⟩ := open_string Try.underlying9 (hval 0 9 v0 rfl rfl) h0
  clear hA0 hval0
  refine (walk_FnExactValueRead a0 W w0).mono fun e W' ⟨he, bel⟩ => ?_
  subst he
  exact ⟨_, rfl, _, _, _, [], _, [], hW', trodAll_mk1 (shut_bool Try.underlying4 _), (trodAll_cons_mk (shut_string Try.underlying9 w0) trodAll_mk0), rfl, bel.frame _, fun h => by cases h⟩
/-- The row itself. -/
theorem fnExactValueRead_holds : Rows.FnExactValueReadSaid :=
  OpenClaim.holds_of_wide 12 Try.f12 rfl rfl rfl rfl rfl rfl rfl ⟨rfl, rfl, rfl, rfl, rfl⟩ rfl rfl rfl rfl rfl (by kernel_rfl) Try.func12 (by kernel_rfl)
    (of_decide_eq_true (by kernel_rfl)) (by unfold Func.isWrapper; first | (rw [if_pos (by decide +kernel)]; kernel_rfl) | (rw [if_neg (by decide +kernel)]; exact ⟨rfl, rfl⟩))
    (fun os started H enc _ => lifted_FnExactValueRead os started H enc)
#print axioms fnExactValueRead_holds
end Go.Proofs.Ytcaggcehcdikmaa.Val
