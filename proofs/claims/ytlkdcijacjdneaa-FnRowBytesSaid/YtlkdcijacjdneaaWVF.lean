/- The walk of the law FnValueFrom. -/
import Derived.Test.YtlkdcijacjdneaaFromU
import Derived.Test.YtlkdcijacjdneaaDrawF
import Derived.Test.YtlkdcijacjdneaaAlive
import Derived.Deep.RegionHeldLaw
import Derived.ProofKit
import Derived.OpenShut
import Derived.ShutString
import Derived.ChangeOld
import Derived.Below
import Derived.Lib.SmallJoins
namespace Go.Proofs.Ytlkdcijacjdneaa.Val
open Go.ChangeShapes Go.WideShapes Go.ChangeAt Go.RowKit
open Go.ChangeMaps (open_string shut_string)
set_option linter.unusedVariables false
theorem RowAt.take {w : World} {g : Nat} {A : Option Addr} {L : List UInt8} (h : RowAt w g A L) (m : Nat) : RowAt w g A (L.take m) :=
  ⟨fun h0 => h.ad (by simp at h0; omega), fun i hi => by rw [h.c i (by simp at hi; omega), List.getElem_take], fun i hi => h.f i (by simp at hi; omega)⟩
theorem row_of_own3 {w : World} {B n : Nat} {e : TypeId} {v : Value} {L : List UInt8} (h : w.ownsRow B e 1 v n (L.map bv)) (hn : n = L.length) : ∃ (g : Nat) (A : Option Addr) (c : Nat), v = .slice A n c ∧ RowAt w g A L ∧ n ≤ c ∧ c ≤ maxLen := by
  subst hn
  have hh := h
  rcases h.2 with ⟨rfl, hz⟩ | ⟨g, cap, cur, rfl, hB, _, h1, h2, _⟩
  · have : L = [] := List.eq_nil_of_length_eq_zero hz
    subst this
    exact ⟨0, none, 0, rfl, row_none _ _ _, by simp, by omega⟩
  · refine ⟨g, _, cap, rfl, ⟨fun _ => rfl, fun i hi => ?_, fun i hi => hh.frozenAt i⟩, h1, h2⟩
    rw [hh.cellAt i (by omega), List.getElem?_map, List.getElem?_eq_getElem hi]; rfl
theorem own_empty2 {w : World} {B X : Nat} (e : TypeId) (hX : w.heap.size = X) (hB : B ≤ X) : (w.alloc (.cells #[] e)).ownsRow B e 1 (.slice (some ⟨X, 0, none⟩) 0 0) 0 [] := by
  subst hX; exact own_empty e hB
theorem ones_bv (L : List UInt8) : ∀ u ∈ L.map bv, u.oneCell' = true := by
  intro u hu
  obtain ⟨c, _, rfl⟩ := List.mem_map.1 hu
  rfl
theorem box3 (W : World) (k n : Int) (s : ByteArray) (t : TypeId) : (W.alloc (.cells #[.int .i64 k, .int .i64 n, .string s] t)).cell? ⟨W.heap.size, 0, none⟩ = some (.int .i64 k) ∧ (W.alloc (.cells #[.int .i64 k, .int .i64 n, .string s] t)).cell? ⟨W.heap.size, 1, none⟩ = some (.int .i64 n) ∧ (W.alloc (.cells #[.int .i64 k, .int .i64 n, .string s] t)).cell? ⟨W.heap.size, 2, none⟩ = some (.string s) := by simp [go_sem]
set_option maxHeartbeats 2000000 in
theorem walk_FnValueFrom (a : Option Addr) (len cap : Nat) (zs : List Int) (w : World) (h : IsRow .u8 w a len cap zs) :
    Calls Try.prog 15 #[.slice a len cap] w fun e w' => e = .returned (.bool true) ∧ Below w.heap.size w w' := by
  by_cases hl : 1048576 < len
  · clear h
    go_enter Try.func15, Try.ntmps15
    go_wp2
    go_ret
    exact ⟨rfl, Below.refl _ _⟩
  · have HI := Lib.hid h
    clear h
    obtain ⟨i0, hi, iz0, iz1, iz2⟩ := info_parts info5
    go_enter Try.func15, Try.ntmps15
    go_wp2_with (go_at_call 48; refine (drawValueFrom _ _ _ zs _ HI.out).mono ?_; rintro e wd ⟨gg, A, c, l, rfl, hr, hlc, hcm, hl30, hbd⟩; have HBD := Lib.hid hbd; have hzd := hbd.size; have HR := Lib.hid hr; clear hbd hr)
    rcases hf : fromO l with _ | ⟨k, n, s, m⟩
    · have CI := Lib.hid (fun W hW => valueFromI A gg c l W hW (by omega) hlc hcm)
      have CS := Lib.hid (fun W hW => valueFromS A gg c l W hW (by omega) hlc hcm)
      rw [hf, fV_none] at CI CS
      clear hf
      go_wp2_with (first | (go_at_call 49; ((with_reducible refine (CI.out _ HR.out).mono ?_); (try (have hc10 := hc9; have hf10 := hf9; have hz10 := hz9; have hb10 := hb9; clear hc9 hf9 hz9 hb9)); (try (have hc9 := hc8; have hf9 := hf8; have hz9 := hz8; have hb9 := hb8; clear hc8 hf8 hz8 hb8)); (try (have hc8 := hc7; have hf8 := hf7; have hz8 := hz7; have hb8 := hb7; clear hc7 hf7 hz7 hb7)); (try (have hc7 := hc6; have hf7 := hf6; have hz7 := hz6; have hb7 := hb6; clear hc6 hf6 hz6 hb6)); (try (have hc6 := hc5; have hf6 := hf5; have hz6 := hz5; have hb6 := hb5; clear hc5 hf5 hz5 hb5)); (try (have hc5 := hc4; have hf5 := hf4; have hz5 := hz4; have hb5 := hb4; clear hc4 hf4 hz4 hb4)); (try (have hc4 := hc3; have hf4 := hf3; have hz4 := hz3; have hb4 := hb3; clear hc3 hf3 hz3 hb3)); (try (have hc3 := hc2; have hf3 := hf2; have hz3 := hz2; have hb3 := hb2; clear hc2 hf2 hz2 hb2)); (try (have hc2 := hc1; have hf2 := hf1; have hz2 := hz1; have hb2 := hb1; clear hc1 hf1 hz1 hb1)); rintro e w1 ⟨rfl, hb1⟩; obtain ⟨hc1, hf1⟩ := bcell hb1; (try simp only [World.size_drew, World.cell?_drew, World.frozen?_drew] at hc1 hf1); have hz1 := hb1.size; (try simp at hz1); (try (have hx6 := hx5; have hn6 := hn5)); (try (have hx5 := hx4; have hn5 := hn4)); (try (have hx4 := hx3; have hn4 := hn3)); (try (have hx3 := hx2; have hn3 := hn2)); (try (have hx2 := hx1; have hn2 := hn1)); (try (have hx1 := Nat.lt_of_succ_le hz1; have hn1 := Nat.ne_of_lt hx1)); have HR1 := Lib.hid (RowAt.below HR.out hb1))) | (go_at_call 50; ((with_reducible refine (CS.out _ (RowAt.alloc HR1.out _)).mono ?_); (try (have hc10 := hc9; have hf10 := hf9; have hz10 := hz9; have hb10 := hb9; clear hc9 hf9 hz9 hb9)); (try (have hc9 := hc8; have hf9 := hf8; have hz9 := hz8; have hb9 := hb8; clear hc8 hf8 hz8 hb8)); (try (have hc8 := hc7; have hf8 := hf7; have hz8 := hz7; have hb8 := hb7; clear hc7 hf7 hz7 hb7)); (try (have hc7 := hc6; have hf7 := hf6; have hz7 := hz6; have hb7 := hb6; clear hc6 hf6 hz6 hb6)); (try (have hc6 := hc5; have hf6 := hf5; have hz6 := hz5; have hb6 := hb5; clear hc5 hf5 hz5 hb5)); (try (have hc5 := hc4; have hf5 := hf4; have hz5 := hz4; have hb5 := hb4; clear hc4 hf4 hz4 hb4)); (try (have hc4 := hc3; have hf4 := hf3; have hz4 := hz3; have hb4 := hb3; clear hc3 hf3 hz3 hb3)); (try (have hc3 := hc2; have hf3 := hf2; have hz3 := hz2; have hb3 := hb2; clear hc2 hf2 hz2 hb2)); (try (have hc2 := hc1; have hf2 := hf1; have hz2 := hz1; have hb2 := hb1; clear hc1 hf1 hz1 hb1)); rintro e w1 ⟨rfl, hb1⟩; obtain ⟨hc1, hf1⟩ := bcell hb1; (try simp only [World.size_drew, World.cell?_drew, World.frozen?_drew] at hc1 hf1); have hz1 := hb1.size; (try simp at hz1); (try (have hx6 := hx5; have hn6 := hn5)); (try (have hx5 := hx4; have hn5 := hn4)); (try (have hx4 := hx3; have hn4 := hn3)); (try (have hx3 := hx2; have hn3 := hn2)); (try (have hx2 := hx1; have hn2 := hn1)); (try (have hx1 := Nat.lt_of_succ_le hz1; have hn1 := Nat.ne_of_lt hx1)))) | (go_at_call 19; ((with_reducible refine (alive _).mono ?_); (try (have hc10 := hc9; have hf10 := hf9; have hz10 := hz9; have hb10 := hb9; clear hc9 hf9 hz9 hb9)); (try (have hc9 := hc8; have hf9 := hf8; have hz9 := hz8; have hb9 := hb8; clear hc8 hf8 hz8 hb8)); (try (have hc8 := hc7; have hf8 := hf7; have hz8 := hz7; have hb8 := hb7; clear hc7 hf7 hz7 hb7)); (try (have hc7 := hc6; have hf7 := hf6; have hz7 := hz6; have hb7 := hb6; clear hc6 hf6 hz6 hb6)); (try (have hc6 := hc5; have hf6 := hf5; have hz6 := hz5; have hb6 := hb5; clear hc5 hf5 hz5 hb5)); (try (have hc5 := hc4; have hf5 := hf4; have hz5 := hz4; have hb5 := hb4; clear hc4 hf4 hz4 hb4)); (try (have hc4 := hc3; have hf4 := hf3; have hz4 := hz3; have hb4 := hb3; clear hc3 hf3 hz3 hb3)); (try (have hc3 := hc2; have hf3 := hf2; have hz3 := hz2; have hb3 := hb2; clear hc2 hf2 hz2 hb2)); (try (have hc2 := hc1; have hf2 := hf1; have hz2 := hz1; have hb2 := hb1; clear hc1 hf1 hz1 hb1)); rintro e w1 ⟨rfl, hb1⟩; obtain ⟨hc1, hf1⟩ := bcell hb1; (try simp only [World.size_drew, World.cell?_drew, World.frozen?_drew] at hc1 hf1); have hz1 := hb1.size; (try simp at hz1); (try (have hx6 := hx5; have hn6 := hn5)); (try (have hx5 := hx4; have hn5 := hn4)); (try (have hx4 := hx3; have hn4 := hn3)); (try (have hx3 := hx2; have hn3 := hn2)); (try (have hx2 := hx1; have hn2 := hn1)); (try (have hx1 := Nat.lt_of_succ_le hz1; have hn1 := Nat.ne_of_lt hx1)))))
      all_goals (go_ret; exact ⟨retB (by first | rfl | simp), by (repeat (with_reducible first | exact Below.refl _ _ | exact HBD.out | (refine Below.trans ?_ (Below.mono hb1 (by first | omega | (simp; done) | (simp; omega))); clear hb1) | (refine Below.trans ?_ (Below.mono hb2 (by first | omega | (simp; done) | (simp; omega))); clear hb2) | (refine Below.trans ?_ (Below.mono hb3 (by first | omega | (simp; done) | (simp; omega))); clear hb3) | (refine Below.trans ?_ (Below.mono hb4 (by first | omega | (simp; done) | (simp; omega))); clear hb4) | (refine Below.trans ?_ (Below.mono hb5 (by first | omega | (simp; done) | (simp; omega))); clear hb5) | (refine Below.trans ?_ (Below.mono hb6 (by first | omega | (simp; done) | (simp; omega))); clear hb6) | (refine Below.trans ?_ (Below.mono hb7 (by first | omega | (simp; done) | (simp; omega))); clear hb7) | (refine Below.trans ?_ (Below.mono hb8 (by first | omega | (simp; done) | (simp; omega))); clear hb8) | (refine Below.trans ?_ (Below.mono hb9 (by first | omega | (simp; done) | (simp; omega))); clear hb9) | (refine Below.trans ?_ (Below.mono hb10 (by first | omega | (simp; done) | (simp; omega))); clear hb10) | refine Below.alloc ?_ (by first | omega | (simp; done) | (simp; omega)) _ | refine Below.setCell ?_ (by first | omega | (simp; done) | (simp; omega)) _ | refine Below.drew ?_))⟩)
    · obtain ⟨hok, hbl, hm0, hml⟩ := from_some hf
      have hls := from_less hf
      have CI := Lib.hid (fun W hW => valueFromI A gg c l W hW (by omega) hlc hcm)
      have CS := Lib.hid (fun W hW => valueFromS A gg c l W hW (by omega) hlc hcm)
      rw [hf, fV_some] at CI CS
      obtain rfl := HR.out.ad (by omega)
      obtain ⟨M, rfl⟩ : ∃ M, m = M + 1 := ⟨m - 1, by omega⟩
      rw [Nat.add_sub_cancel] at hls
      have CL := Lib.hid (fun W g A c (hW : RowAt W g A (l.take M)) h1 h2 => valueFromI A g c (l.take M) W hW (by simp; omega) h1 h2)
      have hlt : (l.take M).length = M := by simp; omega
      rw [hls, fV_none, hlt] at CL
      obtain ⟨S0, hS0⟩ : ∃ S0 : ByteArray, (⟨s.toArray⟩ : ByteArray) = S0 := ⟨_, rfl⟩
      rw [hS0] at CI CS hok hbl
      have hss : S0.size ≤ maxLen := by
        rcases ok_cases k n S0 with ho | ⟨-, -, he, -⟩ | ⟨-, -, -, he, -⟩ | ⟨-, -, he, -, -⟩ | ⟨-, -, he, -⟩ | ⟨-, -, he, -⟩
        · rw [hok] at ho; cases ho
        all_goals (first | (rw [bytes_none he]; exact Nat.zero_le _) | (unfold maxLen; omega))
      have C1 := Lib.hid (fun w => bytesP_of (valueBytesI k n S0 w hss) (by rw [hbl]; simp; omega))
      rw [hbl] at C1
      have hlm : (l.take (M + 1)).length = M + 1 := by simp; omega
      obtain ⟨T, hT⟩ : ∃ T : ByteArray, ⟨(l.take (M + 1)).toArray⟩ = T := ⟨_, rfl⟩
      have kc := fun W (hW : RowAt W gg (some ⟨gg, 0, none⟩) l) => conv_row (cap := c) (hW.take (M + 1))
      rw [hT, hlm] at kc
      obtain ⟨L1, hL1⟩ : ∃ L1, l.take (M + 1) = L1 := ⟨_, rfl⟩
      rw [hL1] at C1 hT
      clear hf hls hok hS0 hlm
      have e0 : (((M + 1 : Nat) : Int) == 0) = false := by rw [beq_eq_false_iff_ne]; omega
      have em : ((M + 1 : Nat) : Int) - 1 = (M : Int) := by omega
      go_wp2_with (first
        | ((fail_if_success (have _ := HR1)); go_at_call 49; (with_reducible refine (CI.out _ HR.out).mono ?_); rintro e wv ⟨rfl, hbv⟩; have HR1 := Lib.hid (HR.out.below hbv); have HB1 := Lib.hid (HBD.out.trans (hbv.mono HBD.out.size)); have hzv := hbv.size; clear hbv HBD)
        | (go_at_call 50; (with_reducible refine (CS.out _ (RowAt.alloc HR1.out _)).mono ?_); rintro e wq ⟨rfl, hbq⟩; have HS := Lib.hid (keepR (w := w) (wd := wv) (k := k) (n := n) (s := S0) ⟨RowAt.alloc HR1.out _, (box3 _ _ _ _ _).1, (box3 _ _ _ _ _).2.1, (box3 _ _ _ _ _).2.2, HB1.out.alloc HB1.out.size _, by have := HB1.out.size; simp; omega⟩ hbq); obtain ⟨-, d0, d1, d2, -, hzq⟩ := HS.out; have hvq : wv.heap.size < wq.heap.size := World.block_lt_of_cell? wq _ d0; have hgq : gg < wq.heap.size := HS.out.1.lt (by omega); have hvn : ¬ (wv.heap.size = wq.heap.size) := (by omega); clear hbq)
        | (at_builtin; refine wpList_append_own _ rfl (.tmp 37) (.tmp 41) 22 rfl (wq.heap.size + 1) 5 i0 (.int .u8 0) 1 1 Try.underlying22 hi iz0 iz1 iz2 rfl (by decide) (.slice (some ⟨wq.heap.size + 1, 0, none⟩) 0 0) 0 [] rfl (own_empty2 5 (by simp) (Nat.le_refl _)) ⟨gg, 0, none⟩ M c ((l.take M).map bv) rfl (by simp; omega) (news_row (((HS.out.1.alloc _).alloc _).take M)) (ones_bv _) (by unfold maxLen; omega) (by omega) (by simp) ?_; intro v2 w2 hown2 hgr2 _; rw [Nat.zero_add, List.nil_append] at hown2; have HS2 := Lib.hid (keepGr (keepAl (keepAl HS.out _) _) hgr2 (N := wq.heap.size) hgq hvq hzq (by intro b hb; simp [Value.ownBlock] at hb; omega)); obtain ⟨g2, A2, c2, rfl, hr2, hn2, hc2⟩ := row_of_own3 hown2 (by simp; omega); have HR2 := Lib.hid hr2; clear hown2 hgr2 hr2)
        | (have _ := HR2; go_at_call 49; (with_reducible refine (CL.out _ _ _ _ HR2.out hn2 hc2).mono ?_); rintro e w3 ⟨rfl, hb3⟩; have HS3 := Lib.hid (keepAl (keepR HS2.out hb3) (.cells #[.int .i64 0, .int .i64 0, .string ⟨#[]⟩] 59)); clear hb3))
      have HS0 := HS3.out
      have hs0 : (0 : Int) ≤ (M : Int) + 1 := by omega
      have hs1 : (M : Int) + 1 ≤ (c : Int) := by omega
      go_region_held_law (fun w' => RowAt w' gg (some ⟨gg, 0, none⟩) l ∧ w'.cell? ⟨wv.heap.size, 0, none⟩ = some (.int .i64 k) ∧ w'.cell? ⟨wv.heap.size, 1, none⟩ = some (.int .i64 n) ∧ w'.cell? ⟨wv.heap.size, 2, none⟩ = some (.string S0) ∧ Below w.heap.size w w' ∧ w.heap.size ≤ w'.heap.size) (first | exact keepR (by assumption) hbq | exact keepRD (by assumption) | assumption) (first | (go_at_call 51; (with_reducible refine (C1.out _).mono ?_); rintro e w1 ⟨gw, cw, rfl, hrw, -, -, hbq⟩; have kw := conv_row (cap := cw) hrw; rw [hT] at kw; clear hrw))
      all_goals (go_wp2; go_ret; have HW1 : RowAt w1 gg (some ⟨gg, 0, none⟩) l ∧ w1.cell? ⟨wv.heap.size, 0, none⟩ = some (.int .i64 k) ∧ w1.cell? ⟨wv.heap.size, 1, none⟩ = some (.int .i64 n) ∧ w1.cell? ⟨wv.heap.size, 2, none⟩ = some (.string S0) ∧ Below w.heap.size w w1 ∧ w.heap.size ≤ w1.heap.size := by assumption
                 exact ⟨retB (by first | rfl | simp), HW1.2.2.2.2.1⟩)
end Go.Proofs.Ytlkdcijacjdneaa.Val
