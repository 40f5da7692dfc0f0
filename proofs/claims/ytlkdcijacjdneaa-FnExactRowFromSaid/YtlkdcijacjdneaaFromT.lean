/- ValueFrom (spec), whole. -/
import Derived.Test.YtlkdcijacjdneaaFromS
import Derived.Deep.RegionHeldLaw
namespace Go.Proofs.Ytlkdcijacjdneaa.Val
open Go.RowKit
set_option linter.unusedVariables false
theorem RowAt.far {w : World} {g b o : Nat} {A : Option Addr} {L : List UInt8} (h : RowAt w g A L) (hb : g ≠ b) (u : Value) : RowAt (w.setCell ⟨b, o, none⟩ u) g A L :=
  ⟨h.ad, fun i hi => (World.cell?_setCell_other _ _ _ _ (ne_off (.inr (Ne.symm hb)))).trans (h.c i hi), fun i hi => (World.frozen?_setCell _ _ _ _).trans (h.f i hi)⟩
theorem conv_pre {W : World} {g cap : Nat} {A : Option Addr} {l : List UInt8} (h : RowAt W g A l) (m : Nat) (hm : m ≤ l.length) :
    (convert 22 9 (.slice (some ⟨g, 0, none⟩) m cap)).run Try.prog W = .ok (.string ⟨(l.take m).toArray⟩) W := by
  have hlen : (l.take m).length = m := by rw [List.length_take]; omega
  have := run_convert_bytes_back (P := Try.prog) W 22 9 5 ⟨g, 0, none⟩ cap (l.take m) Try.underlying22 Try.underlying5 Try.underlying9 (fun j hj => by
    have hj' : j < m := by omega
    have ha : (⟨g, 0, none⟩ : Addr).add j = ⟨g, j, none⟩ := by unfold Addr.add; split <;> simp_all
    rw [ha, h.c j (by omega)]
    simp)
  rwa [hlen] at this
theorem str_ne {T U : ByteArray} (h : T ≠ U) : (T.toList == U.toList) = false := by
  rw [beq_eq_false_iff_ne]
  intro e
  rw [ByteArray.toList_eq, ByteArray.toList_eq] at e
  obtain ⟨a⟩ := T; obtain ⟨b⟩ := U
  exact h (by rw [show a = b from Array.toList_inj.1 e])
theorem mk_inj {a b : List UInt8} (h : (⟨a.toArray⟩ : ByteArray) = ⟨b.toArray⟩) : a = b := by
  have := ByteArray.mk.inj h
  simpa using this
set_option maxHeartbeats 4000000 in
theorem specFrom1 (g cap : Nat) (l : List UInt8) (w : World) (h : RowAt w g (some ⟨g, 0, none⟩) l) (hl : l.length ≤ 1048576) (hc : l.length ≤ cap) (hc2 : cap ≤ maxLen) (a1 : bAt l 0 = 1) (hlen : 2 < l.length) :
    Calls Try.prog 50 #[.slice (some ⟨g, 0, none⟩) l.length cap] w fun e w' => e = .returned (fV (fromO l)) ∧ Below w.heap.size w w' := by
  unfold maxLen at hc2
  have hp : (0 : Int) < l.length := by omega
  have e0 : ((l.length : Int) == 0) = false := by rw [beq_eq_false_iff_ne]; omega
  have hg := h.lt (by omega)
  have hgn : ¬ (g = w.heap.size) := by omega
  have hgn2 : ¬ (g = w.heap.size + 1) := by omega
  have H := Lib.hid h
  have c0 := h.get 0 (by omega)
  have i1 : (1 : Int) < l.length := by omega
  have i2 : (2 : Int) < l.length := by omega
  have c1 := h.get 1 (by omega)
  have c2 := h.get 2 (by omega)
  rw [a1] at c0
  obtain ⟨b10, b11⟩ := bAt_bd l 1
  obtain ⟨b20, b21⟩ := bAt_bd l 2
  clear h
  have hN : vN l = 256 * bAt l 1 + bAt l 2 - 10000 := by unfold vN; rw [if_pos ⟨a1, hlen⟩]
  have hS : vS l = [] := by unfold vS; rw [if_neg (by omega)]
  obtain ⟨y, hy⟩ : ∃ y, bAt l 1 = y := ⟨_, rfl⟩
  obtain ⟨z, hz⟩ : ∃ z, bAt l 2 = z := ⟨_, rfl⟩
  rw [hy, hz] at hN
  rw [hy] at c1 b10 b11
  rw [hz] at c2 b20 b21
  have q4 : IntKind.i64.wrap y = y := IntWalk.i64_in _ (by omega)
  have q5 : IntKind.i64.wrap z = z := IntWalk.i64_in _ (by omega)
  have q1 : IntKind.i64.wrap (256 * y) = 256 * y := IntWalk.i64_in _ (by omega)
  have q2 : IntKind.i64.wrap (256 * y + z) = 256 * y + z := IntWalk.i64_in _ (by omega)
  have q3 : IntKind.i64.wrap (256 * y + z - 10000) = 256 * y + z - 10000 := IntWalk.i64_in _ (by omega)
  have C := Lib.hid (fun w => valueBytesS (1) (256 * y + z - 10000) ⟨#[]⟩ w (by decide))
  have hvL : vL l = bytesL (1) (256 * y + z - 10000) ⟨#[]⟩ := by unfold vL; rw [hN, hS, a1]
  obtain ⟨L, hL⟩ : ∃ L, bytesL (1) (256 * y + z - 10000) ⟨#[]⟩ = L := ⟨_, rfl⟩
  rw [hL] at C hvL
  have hFN := @from_v_none l
  have hFS := @from_v_some l
  rw [hvL] at hFN hFS
  rw [a1, hN, hS] at hFS
  clear hL hvL hN hS
  by_cases hL0 : L.length = 0
  · rw [hFN (.inl hL0), fV_none]
    obtain rfl := List.eq_nil_of_length_eq_zero hL0
    clear hFN hFS
    have CB := Lib.hid (fun w => bytes_of_post (C.out w))
    go_enter Try.func50, Try.ntmps50
    go_wp2
    go_region_held_law (fun w' => w'.cell? ⟨g, 1, none⟩ = some (.int .u8 y) ∧ w'.cell? ⟨g, 2, none⟩ = some (.int .u8 z)) (go_keep) (fail)
    go_wp2_with ((go_at_call 66; ((with_reducible refine (CB.out _).mono ?_); (try (have hc10 := hc9; have hf10 := hf9; have hz10 := hz9; have hb10 := hb9; have hya_10 := hya_9; have hyb_10 := hyb_9; clear hc9 hf9 hz9 hb9 hya_9 hyb_9)); (try (have hc9 := hc8; have hf9 := hf8; have hz9 := hz8; have hb9 := hb8; have hya_9 := hya_8; have hyb_9 := hyb_8; clear hc8 hf8 hz8 hb8 hya_8 hyb_8)); (try (have hc8 := hc7; have hf8 := hf7; have hz8 := hz7; have hb8 := hb7; have hya_8 := hya_7; have hyb_8 := hyb_7; clear hc7 hf7 hz7 hb7 hya_7 hyb_7)); (try (have hc7 := hc6; have hf7 := hf6; have hz7 := hz6; have hb7 := hb6; have hya_7 := hya_6; have hyb_7 := hyb_6; clear hc6 hf6 hz6 hb6 hya_6 hyb_6)); (try (have hc6 := hc5; have hf6 := hf5; have hz6 := hz5; have hb6 := hb5; have hya_6 := hya_5; have hyb_6 := hyb_5; clear hc5 hf5 hz5 hb5 hya_5 hyb_5)); (try (have hc5 := hc4; have hf5 := hf4; have hz5 := hz4; have hb5 := hb4; have hya_5 := hya_4; have hyb_5 := hyb_4; clear hc4 hf4 hz4 hb4 hya_4 hyb_4)); (try (have hc4 := hc3; have hf4 := hf3; have hz4 := hz3; have hb4 := hb3; have hya_4 := hya_3; have hyb_4 := hyb_3; clear hc3 hf3 hz3 hb3 hya_3 hyb_3)); (try (have hc3 := hc2; have hf3 := hf2; have hz3 := hz2; have hb3 := hb2; have hya_3 := hya_2; have hyb_3 := hyb_2; clear hc2 hf2 hz2 hb2 hya_2 hyb_2)); (try (have hc2 := hc1; have hf2 := hf1; have hz2 := hz1; have hb2 := hb1; have hya_2 := hya_1; have hyb_2 := hyb_1; clear hc1 hf1 hz1 hb1 hya_1 hyb_1)); rintro e w1 ⟨gw, Aw, cw, rfl, hrw, hgw, hb1⟩; obtain ⟨hc1, hf1⟩ := bcell hb1; (try simp only [World.size_drew, World.cell?_drew, World.frozen?_drew] at hc1 hf1); have hz1 := hb1.size; (try simp at hz1); have hya_1 : w.heap.size < w1.heap.size := (by omega); have hyb_1 : w.heap.size + 1 < w1.heap.size := (by omega); (try (have hx6 := hx5; have hn6 := hn5)); (try (have hx5 := hx4; have hn5 := hn4)); (try (have hx4 := hx3; have hn4 := hn3)); (try (have hx3 := hx2; have hn3 := hn2)); (try (have hx2 := hx1; have hn2 := hn1)); (try (have hx1 := Nat.lt_of_succ_le hz1; have hn1 := Nat.ne_of_lt hx1)))))
    all_goals (first | go_region | skip)
    all_goals go_wp2
    all_goals (have z0 : w1.cell? ⟨w.heap.size, 0, none⟩ = some (.int .i64 0) := (by simp [go_sem, *]); have z1 : w1.cell? ⟨w.heap.size, 1, none⟩ = some (.int .i64 0) := (by simp [go_sem, *]); have z2 : w1.cell? ⟨w.heap.size, 2, none⟩ = some (.string ⟨#[]⟩) := (by simp [go_sem, *]))
    all_goals exact bodyPost_ret (v := .tuple #[.agg #[.int .i64 0, .int .i64 0, .string ⟨#[]⟩], .int .i64 0]) (by simp [results, Try.results50, go_sem, *]) rfl ⟨rfl, by (repeat (with_reducible first | exact Below.refl _ _ | exact HBD.out | (refine Below.trans ?_ (Below.mono hb1 (by first | omega | (simp; done) | (simp; omega))); clear hb1) | (refine Below.trans ?_ (Below.mono hb2 (by first | omega | (simp; done) | (simp; omega))); clear hb2) | (refine Below.trans ?_ (Below.mono hb3 (by first | omega | (simp; done) | (simp; omega))); clear hb3) | (refine Below.trans ?_ (Below.mono hb4 (by first | omega | (simp; done) | (simp; omega))); clear hb4) | (refine Below.trans ?_ (Below.mono hb5 (by first | omega | (simp; done) | (simp; omega))); clear hb5) | (refine Below.trans ?_ (Below.mono hb6 (by first | omega | (simp; done) | (simp; omega))); clear hb6) | (refine Below.trans ?_ (Below.mono hb7 (by first | omega | (simp; done) | (simp; omega))); clear hb7) | (refine Below.trans ?_ (Below.mono hb8 (by first | omega | (simp; done) | (simp; omega))); clear hb8) | (refine Below.trans ?_ (Below.mono hb9 (by first | omega | (simp; done) | (simp; omega))); clear hb9) | (refine Below.trans ?_ (Below.mono hb10 (by first | omega | (simp; done) | (simp; omega))); clear hb10) | refine Below.alloc ?_ (by first | omega | (simp; done) | (simp; omega)) _ | refine Below.setCell ?_ (by first | omega | (simp; done) | (simp; omega)) _ | refine Below.drew ?_))⟩
  by_cases hL1 : l.length < L.length
  · rw [hFN (.inr (.inl hL1)), fV_none]
    clear hFN hFS
    have CP := Lib.hid (fun w => bytesP_of (C.out w) (by omega))
    have eL : ((L.length : Int) == 0) = false := by rw [beq_eq_false_iff_ne]; omega
    have eLl : (l.length : Int) < L.length := by omega
    go_enter Try.func50, Try.ntmps50
    go_wp2
    go_region_held_law (fun w' => w'.cell? ⟨g, 1, none⟩ = some (.int .u8 y) ∧ w'.cell? ⟨g, 2, none⟩ = some (.int .u8 z)) (go_keep) (fail)
    go_wp2_with ((go_at_call 66; ((with_reducible refine (CP.out _).mono ?_); (try (have hc10 := hc9; have hf10 := hf9; have hz10 := hz9; have hb10 := hb9; have hya_10 := hya_9; have hyb_10 := hyb_9; clear hc9 hf9 hz9 hb9 hya_9 hyb_9)); (try (have hc9 := hc8; have hf9 := hf8; have hz9 := hz8; have hb9 := hb8; have hya_9 := hya_8; have hyb_9 := hyb_8; clear hc8 hf8 hz8 hb8 hya_8 hyb_8)); (try (have hc8 := hc7; have hf8 := hf7; have hz8 := hz7; have hb8 := hb7; have hya_8 := hya_7; have hyb_8 := hyb_7; clear hc7 hf7 hz7 hb7 hya_7 hyb_7)); (try (have hc7 := hc6; have hf7 := hf6; have hz7 := hz6; have hb7 := hb6; have hya_7 := hya_6; have hyb_7 := hyb_6; clear hc6 hf6 hz6 hb6 hya_6 hyb_6)); (try (have hc6 := hc5; have hf6 := hf5; have hz6 := hz5; have hb6 := hb5; have hya_6 := hya_5; have hyb_6 := hyb_5; clear hc5 hf5 hz5 hb5 hya_5 hyb_5)); (try (have hc5 := hc4; have hf5 := hf4; have hz5 := hz4; have hb5 := hb4; have hya_5 := hya_4; have hyb_5 := hyb_4; clear hc4 hf4 hz4 hb4 hya_4 hyb_4)); (try (have hc4 := hc3; have hf4 := hf3; have hz4 := hz3; have hb4 := hb3; have hya_4 := hya_3; have hyb_4 := hyb_3; clear hc3 hf3 hz3 hb3 hya_3 hyb_3)); (try (have hc3 := hc2; have hf3 := hf2; have hz3 := hz2; have hb3 := hb2; have hya_3 := hya_2; have hyb_3 := hyb_2; clear hc2 hf2 hz2 hb2 hya_2 hyb_2)); (try (have hc2 := hc1; have hf2 := hf1; have hz2 := hz1; have hb2 := hb1; have hya_2 := hya_1; have hyb_2 := hyb_1; clear hc1 hf1 hz1 hb1 hya_1 hyb_1)); rintro e w1 ⟨gw, cw, rfl, hrw, hcw, hcw2, hb1⟩; obtain ⟨hc1, hf1⟩ := bcell hb1; (try simp only [World.size_drew, World.cell?_drew, World.frozen?_drew] at hc1 hf1); have hz1 := hb1.size; (try simp at hz1); have hya_1 : w.heap.size < w1.heap.size := (by omega); have hyb_1 : w.heap.size + 1 < w1.heap.size := (by omega); (try (have hx6 := hx5; have hn6 := hn5)); (try (have hx5 := hx4; have hn5 := hn4)); (try (have hx4 := hx3; have hn4 := hn3)); (try (have hx3 := hx2; have hn3 := hn2)); (try (have hx2 := hx1; have hn2 := hn1)); (try (have hx1 := Nat.lt_of_succ_le hz1; have hn1 := Nat.ne_of_lt hx1)))))
    all_goals (first | go_region | skip)
    all_goals go_wp2
    all_goals (have z0 : w1.cell? ⟨w.heap.size, 0, none⟩ = some (.int .i64 0) := (by simp [go_sem, *]); have z1 : w1.cell? ⟨w.heap.size, 1, none⟩ = some (.int .i64 0) := (by simp [go_sem, *]); have z2 : w1.cell? ⟨w.heap.size, 2, none⟩ = some (.string ⟨#[]⟩) := (by simp [go_sem, *]))
    all_goals exact bodyPost_ret (v := .tuple #[.agg #[.int .i64 0, .int .i64 0, .string ⟨#[]⟩], .int .i64 0]) (by simp [results, Try.results50, go_sem, *]) rfl ⟨rfl, by (repeat (with_reducible first | exact Below.refl _ _ | exact HBD.out | (refine Below.trans ?_ (Below.mono hb1 (by first | omega | (simp; done) | (simp; omega))); clear hb1) | (refine Below.trans ?_ (Below.mono hb2 (by first | omega | (simp; done) | (simp; omega))); clear hb2) | (refine Below.trans ?_ (Below.mono hb3 (by first | omega | (simp; done) | (simp; omega))); clear hb3) | (refine Below.trans ?_ (Below.mono hb4 (by first | omega | (simp; done) | (simp; omega))); clear hb4) | (refine Below.trans ?_ (Below.mono hb5 (by first | omega | (simp; done) | (simp; omega))); clear hb5) | (refine Below.trans ?_ (Below.mono hb6 (by first | omega | (simp; done) | (simp; omega))); clear hb6) | (refine Below.trans ?_ (Below.mono hb7 (by first | omega | (simp; done) | (simp; omega))); clear hb7) | (refine Below.trans ?_ (Below.mono hb8 (by first | omega | (simp; done) | (simp; omega))); clear hb8) | (refine Below.trans ?_ (Below.mono hb9 (by first | omega | (simp; done) | (simp; omega))); clear hb9) | (refine Below.trans ?_ (Below.mono hb10 (by first | omega | (simp; done) | (simp; omega))); clear hb10) | refine Below.alloc ?_ (by first | omega | (simp; done) | (simp; omega)) _ | refine Below.setCell ?_ (by first | omega | (simp; done) | (simp; omega)) _ | refine Below.drew ?_))⟩
  · have hLle : L.length ≤ l.length := by omega
    have CP := Lib.hid (fun w => bytesP_of (C.out w) (by omega))
    have eL : ((L.length : Int) == 0) = false := by rw [beq_eq_false_iff_ne]; omega
    have eLl : ¬ (l.length : Int) < L.length := by omega
    have eLc : (L.length : Int) ≤ cap := by omega
    have kc2 := fun W (hW : RowAt W g (some ⟨g, 0, none⟩) l) => conv_pre (cap := cap) hW L.length hLle
    have kc3 := fun W gw cw (hW : RowAt W gw (some ⟨gw, 0, none⟩) L) => conv_row (cap := cw) hW
    by_cases hTU : L = l.take L.length
    · rw [hFS (by omega) hTU, fV_some]
      rw [← hTU] at kc2
      clear hFN hFS hTU
      obtain ⟨T, hT⟩ : ∃ T : ByteArray, ⟨L.toArray⟩ = T := ⟨_, rfl⟩
      rw [hT] at kc2
      simp only [hT] at kc3
      clear hT
      go_enter Try.func50, Try.ntmps50
      go_wp2
      go_region_held_law (fun w' => w'.cell? ⟨g, 1, none⟩ = some (.int .u8 y) ∧ w'.cell? ⟨g, 2, none⟩ = some (.int .u8 z)) (go_keep) (fail)
      go_wp2_with ((go_at_call 66; ((with_reducible refine (CP.out _).mono ?_); (try (have hc10 := hc9; have hf10 := hf9; have hz10 := hz9; have hb10 := hb9; have hya_10 := hya_9; have hyb_10 := hyb_9; clear hc9 hf9 hz9 hb9 hya_9 hyb_9)); (try (have hc9 := hc8; have hf9 := hf8; have hz9 := hz8; have hb9 := hb8; have hya_9 := hya_8; have hyb_9 := hyb_8; clear hc8 hf8 hz8 hb8 hya_8 hyb_8)); (try (have hc8 := hc7; have hf8 := hf7; have hz8 := hz7; have hb8 := hb7; have hya_8 := hya_7; have hyb_8 := hyb_7; clear hc7 hf7 hz7 hb7 hya_7 hyb_7)); (try (have hc7 := hc6; have hf7 := hf6; have hz7 := hz6; have hb7 := hb6; have hya_7 := hya_6; have hyb_7 := hyb_6; clear hc6 hf6 hz6 hb6 hya_6 hyb_6)); (try (have hc6 := hc5; have hf6 := hf5; have hz6 := hz5; have hb6 := hb5; have hya_6 := hya_5; have hyb_6 := hyb_5; clear hc5 hf5 hz5 hb5 hya_5 hyb_5)); (try (have hc5 := hc4; have hf5 := hf4; have hz5 := hz4; have hb5 := hb4; have hya_5 := hya_4; have hyb_5 := hyb_4; clear hc4 hf4 hz4 hb4 hya_4 hyb_4)); (try (have hc4 := hc3; have hf4 := hf3; have hz4 := hz3; have hb4 := hb3; have hya_4 := hya_3; have hyb_4 := hyb_3; clear hc3 hf3 hz3 hb3 hya_3 hyb_3)); (try (have hc3 := hc2; have hf3 := hf2; have hz3 := hz2; have hb3 := hb2; have hya_3 := hya_2; have hyb_3 := hyb_2; clear hc2 hf2 hz2 hb2 hya_2 hyb_2)); (try (have hc2 := hc1; have hf2 := hf1; have hz2 := hz1; have hb2 := hb1; have hya_2 := hya_1; have hyb_2 := hyb_1; clear hc1 hf1 hz1 hb1 hya_1 hyb_1)); rintro e w1 ⟨gw, cw, rfl, hrw, hcw, hcw2, hb1⟩; obtain ⟨hc1, hf1⟩ := bcell hb1; (try simp only [World.size_drew, World.cell?_drew, World.frozen?_drew] at hc1 hf1); have hz1 := hb1.size; (try simp at hz1); have hya_1 : w.heap.size < w1.heap.size := (by omega); have hyb_1 : w.heap.size + 1 < w1.heap.size := (by omega); (try (have hx6 := hx5; have hn6 := hn5)); (try (have hx5 := hx4; have hn5 := hn4)); (try (have hx4 := hx3; have hn4 := hn3)); (try (have hx3 := hx2; have hn3 := hn2)); (try (have hx2 := hx1; have hn2 := hn1)); (try (have hx1 := Nat.lt_of_succ_le hz1; have hn1 := Nat.ne_of_lt hx1)); have HB := Lib.hid (RowAt.below (g := g) (A := some ⟨g, 0, none⟩) (L := l) (by (repeat (with_reducible first | exact H.out | apply RowAt.alloc | apply RowAt.drew | refine RowAt.far ?_ (by omega) _))) hb1); have HRW := Lib.hid hrw; clear hrw)))
      go_region_held_law (fun w' => RowAt w' gw (some ⟨gw, 0, none⟩) L ∧ RowAt w' g (some ⟨g, 0, none⟩) l) (first | exact ⟨HRW.out.drew, HB.out.drew⟩ | assumption) (fail)
      all_goals go_wp2
      all_goals (have z0 : w1.cell? ⟨w.heap.size, 0, none⟩ = some (.int .i64 0) := (by simp [go_sem, *]); have z1 : w1.cell? ⟨w.heap.size, 1, none⟩ = some (.int .i64 0) := (by simp [go_sem, *]); have z2 : w1.cell? ⟨w.heap.size, 2, none⟩ = some (.string ⟨#[]⟩) := (by simp [go_sem, *]))
      all_goals exact bodyPost_ret (v := .tuple #[.agg #[.int .i64 (1), .int .i64 (256 * y + z - 10000), .string ⟨#[]⟩], .int .i64 L.length]) (by simp [results, Try.results50, go_sem, *]) rfl ⟨rfl, by (repeat (with_reducible first | exact Below.refl _ _ | exact HBD.out | (refine Below.trans ?_ (Below.mono hb1 (by first | omega | (simp; done) | (simp; omega))); clear hb1) | (refine Below.trans ?_ (Below.mono hb2 (by first | omega | (simp; done) | (simp; omega))); clear hb2) | (refine Below.trans ?_ (Below.mono hb3 (by first | omega | (simp; done) | (simp; omega))); clear hb3) | (refine Below.trans ?_ (Below.mono hb4 (by first | omega | (simp; done) | (simp; omega))); clear hb4) | (refine Below.trans ?_ (Below.mono hb5 (by first | omega | (simp; done) | (simp; omega))); clear hb5) | (refine Below.trans ?_ (Below.mono hb6 (by first | omega | (simp; done) | (simp; omega))); clear hb6) | (refine Below.trans ?_ (Below.mono hb7 (by first | omega | (simp; done) | (simp; omega))); clear hb7) | (refine Below.trans ?_ (Below.mono hb8 (by first | omega | (simp; done) | (simp; omega))); clear hb8) | (refine Below.trans ?_ (Below.mono hb9 (by first | omega | (simp; done) | (simp; omega))); clear hb9) | (refine Below.trans ?_ (Below.mono hb10 (by first | omega | (simp; done) | (simp; omega))); clear hb10) | refine Below.alloc ?_ (by first | omega | (simp; done) | (simp; omega)) _ | refine Below.setCell ?_ (by first | omega | (simp; done) | (simp; omega)) _ | refine Below.drew ?_))⟩
    · have hne : (⟨L.toArray⟩ : ByteArray) ≠ ⟨(l.take L.length).toArray⟩ := fun e => hTU (mk_inj e)
      rw [hFN (.inr (.inr hTU)), fV_none]
      clear hFN hFS hTU
      obtain ⟨T, hT⟩ : ∃ T : ByteArray, ⟨L.toArray⟩ = T := ⟨_, rfl⟩
      obtain ⟨U, hU⟩ : ∃ U : ByteArray, ⟨(l.take L.length).toArray⟩ = U := ⟨_, rfl⟩
      rw [hU] at kc2
      simp only [hT] at kc3
      rw [hT, hU] at hne
      have hne2 := str_ne hne
      clear hT hU
      go_enter Try.func50, Try.ntmps50
      go_wp2
      go_region_held_law (fun w' => w'.cell? ⟨g, 1, none⟩ = some (.int .u8 y) ∧ w'.cell? ⟨g, 2, none⟩ = some (.int .u8 z)) (go_keep) (fail)
      go_wp2_with ((go_at_call 66; ((with_reducible refine (CP.out _).mono ?_); (try (have hc10 := hc9; have hf10 := hf9; have hz10 := hz9; have hb10 := hb9; have hya_10 := hya_9; have hyb_10 := hyb_9; clear hc9 hf9 hz9 hb9 hya_9 hyb_9)); (try (have hc9 := hc8; have hf9 := hf8; have hz9 := hz8; have hb9 := hb8; have hya_9 := hya_8; have hyb_9 := hyb_8; clear hc8 hf8 hz8 hb8 hya_8 hyb_8)); (try (have hc8 := hc7; have hf8 := hf7; have hz8 := hz7; have hb8 := hb7; have hya_8 := hya_7; have hyb_8 := hyb_7; clear hc7 hf7 hz7 hb7 hya_7 hyb_7)); (try (have hc7 := hc6; have hf7 := hf6; have hz7 := hz6; have hb7 := hb6; have hya_7 := hya_6; have hyb_7 := hyb_6; clear hc6 hf6 hz6 hb6 hya_6 hyb_6)); (try (have hc6 := hc5; have hf6 := hf5; have hz6 := hz5; have hb6 := hb5; have hya_6 := hya_5; have hyb_6 := hyb_5; clear hc5 hf5 hz5 hb5 hya_5 hyb_5)); (try (have hc5 := hc4; have hf5 := hf4; have hz5 := hz4; have hb5 := hb4; have hya_5 := hya_4; have hyb_5 := hyb_4; clear hc4 hf4 hz4 hb4 hya_4 hyb_4)); (try (have hc4 := hc3; have hf4 := hf3; have hz4 := hz3; have hb4 := hb3; have hya_4 := hya_3; have hyb_4 := hyb_3; clear hc3 hf3 hz3 hb3 hya_3 hyb_3)); (try (have hc3 := hc2; have hf3 := hf2; have hz3 := hz2; have hb3 := hb2; have hya_3 := hya_2; have hyb_3 := hyb_2; clear hc2 hf2 hz2 hb2 hya_2 hyb_2)); (try (have hc2 := hc1; have hf2 := hf1; have hz2 := hz1; have hb2 := hb1; have hya_2 := hya_1; have hyb_2 := hyb_1; clear hc1 hf1 hz1 hb1 hya_1 hyb_1)); rintro e w1 ⟨gw, cw, rfl, hrw, hcw, hcw2, hb1⟩; obtain ⟨hc1, hf1⟩ := bcell hb1; (try simp only [World.size_drew, World.cell?_drew, World.frozen?_drew] at hc1 hf1); have hz1 := hb1.size; (try simp at hz1); have hya_1 : w.heap.size < w1.heap.size := (by omega); have hyb_1 : w.heap.size + 1 < w1.heap.size := (by omega); (try (have hx6 := hx5; have hn6 := hn5)); (try (have hx5 := hx4; have hn5 := hn4)); (try (have hx4 := hx3; have hn4 := hn3)); (try (have hx3 := hx2; have hn3 := hn2)); (try (have hx2 := hx1; have hn2 := hn1)); (try (have hx1 := Nat.lt_of_succ_le hz1; have hn1 := Nat.ne_of_lt hx1)); have HB := Lib.hid (RowAt.below (g := g) (A := some ⟨g, 0, none⟩) (L := l) (by (repeat (with_reducible first | exact H.out | apply RowAt.alloc | apply RowAt.drew | refine RowAt.far ?_ (by omega) _))) hb1); have HRW := Lib.hid hrw; clear hrw)))
      go_region_held_law (fun w' => RowAt w' gw (some ⟨gw, 0, none⟩) L ∧ RowAt w' g (some ⟨g, 0, none⟩) l) (first | exact ⟨HRW.out.drew, HB.out.drew⟩ | assumption) (fail)
      all_goals go_wp2
      all_goals (have z0 : w1.cell? ⟨w.heap.size, 0, none⟩ = some (.int .i64 0) := (by simp [go_sem, *]); have z1 : w1.cell? ⟨w.heap.size, 1, none⟩ = some (.int .i64 0) := (by simp [go_sem, *]); have z2 : w1.cell? ⟨w.heap.size, 2, none⟩ = some (.string ⟨#[]⟩) := (by simp [go_sem, *]))
      all_goals exact bodyPost_ret (v := .tuple #[.agg #[.int .i64 0, .int .i64 0, .string ⟨#[]⟩], .int .i64 0]) (by simp [results, Try.results50, go_sem, *]) rfl ⟨rfl, by (repeat (with_reducible first | exact Below.refl _ _ | exact HBD.out | (refine Below.trans ?_ (Below.mono hb1 (by first | omega | (simp; done) | (simp; omega))); clear hb1) | (refine Below.trans ?_ (Below.mono hb2 (by first | omega | (simp; done) | (simp; omega))); clear hb2) | (refine Below.trans ?_ (Below.mono hb3 (by first | omega | (simp; done) | (simp; omega))); clear hb3) | (refine Below.trans ?_ (Below.mono hb4 (by first | omega | (simp; done) | (simp; omega))); clear hb4) | (refine Below.trans ?_ (Below.mono hb5 (by first | omega | (simp; done) | (simp; omega))); clear hb5) | (refine Below.trans ?_ (Below.mono hb6 (by first | omega | (simp; done) | (simp; omega))); clear hb6) | (refine Below.trans ?_ (Below.mono hb7 (by first | omega | (simp; done) | (simp; omega))); clear hb7) | (refine Below.trans ?_ (Below.mono hb8 (by first | omega | (simp; done) | (simp; omega))); clear hb8) | (refine Below.trans ?_ (Below.mono hb9 (by first | omega | (simp; done) | (simp; omega))); clear hb9) | (refine Below.trans ?_ (Below.mono hb10 (by first | omega | (simp; done) | (simp; omega))); clear hb10) | refine Below.alloc ?_ (by first | omega | (simp; done) | (simp; omega)) _ | refine Below.setCell ?_ (by first | omega | (simp; done) | (simp; omega)) _ | refine Below.drew ?_))⟩
end Go.Proofs.Ytlkdcijacjdneaa.Val
