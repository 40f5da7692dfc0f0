/- The walk of the law FnBatchOk. -/
import Derived.Test.YtjidkjnlnenmbaaBatI
import Derived.Test.YtjidkjnlnenmbaaBatS
import Derived.Test.YtjidkjnlnenmbaaDrawBk
import Derived.Test.YtjidkjnlnenmbaaBatZ
import Derived.Test.YtjidkjnlnenmbaaAlive
import Derived.IntWalk
import Derived.Deep.RegionLaw
import Derived.Deep.RegionHeldLaw
namespace Go.Proofs.Ytjidkjnlnenmbaa.Val
open Go.RowKit
set_option linter.unusedVariables false
set_option linter.unusedSimpArgs false
set_option maxRecDepth 8000
theorem rws_one {W : World} {gb mb n : Nat} (hc : W.cell? ⟨gb, 0, none⟩ = some (.slice (some ⟨mb, 0, none⟩) (n + 1) (n + 1))) (hf : Fl W mb 0 (some ⟨mb, 0, none⟩) (flatV (List.replicate (n + 1) nilV))) : Rws W gb 0 (some ⟨gb, 0, none⟩) [List.replicate (n + 1) nilV] :=
  ⟨fun _ => rfl, fun j hj => by
    obtain rfl : j = 0 := by simp at hj; omega
    exact ⟨n + 1, mb, 0, by simpa using hc, hf⟩⟩
theorem keep8 {w W W1 : World} {a b : Nat} {x y z : Value} (h : W.cell? ⟨a, 1, none⟩ = some x ∧ W.cell? ⟨b, 0, none⟩ = some y ∧ W.cell? ⟨b, 1, none⟩ = some z ∧ Below w.heap.size w W ∧ w.heap.size ≤ W.heap.size) (hb : Below W.heap.size W W1) :
    W1.cell? ⟨a, 1, none⟩ = some x ∧ W1.cell? ⟨b, 0, none⟩ = some y ∧ W1.cell? ⟨b, 1, none⟩ = some z ∧ Below w.heap.size w W1 ∧ w.heap.size ≤ W1.heap.size := by
  obtain ⟨h1, h2, h3, h5, h6⟩ := h
  have hc := fun b q x (h : W.cell? ⟨b, q, none⟩ = some x) => (hb.cell (p := ⟨b, q, none⟩) (World.block_lt_of_cell? W ⟨b, q, none⟩ h)).trans h
  exact ⟨hc _ _ _ h1, hc _ _ _ h2, hc _ _ _ h3, h5.trans (hb.mono h6), Nat.le_trans h6 hb.size⟩
theorem keep8D {w W : World} {a b : Nat} {x y z : Value} (h : W.cell? ⟨a, 1, none⟩ = some x ∧ W.cell? ⟨b, 0, none⟩ = some y ∧ W.cell? ⟨b, 1, none⟩ = some z ∧ Below w.heap.size w W ∧ w.heap.size ≤ W.heap.size) :
    W.drew.cell? ⟨a, 1, none⟩ = some x ∧ W.drew.cell? ⟨b, 0, none⟩ = some y ∧ W.drew.cell? ⟨b, 1, none⟩ = some z ∧ Below w.heap.size w W.drew ∧ w.heap.size ≤ W.drew.heap.size := keep8 h ((Below.refl _ _).drew)
theorem batchOkEnters (vs : Array Value) (w : World) : (callFunc 15 vs).run Try.prog w = .ok (.enter 15 vs) w := by
  go_simp
theorem aliveEnters (vs : Array Value) (w : World) : (callFunc 44 vs).run Try.prog w = .ok (.enter 44 vs) w := by
  go_simp
theorem Box2.grownN {x : Nat} {u v : Value} {w w' : World} (hg : w.grownBy w' none) (h : Box2 x u v w) : Box2 x u v w' := ⟨(cellOf (hg.block x h.lt (by simp))).trans h.1, (cellOf (hg.block x h.lt (by simp))).trans h.2⟩
set_option maxHeartbeats 8000000 in
theorem walk_FnBatchOk (a : Option Addr) (len cap : Nat) (zs : List Int) (w : World) (h : IsRow .u8 w a len cap zs) :
    Calls Try.prog 7 #[.slice a len cap] w fun e w' => e = .returned (.bool true) ∧ Below w.heap.size w w' := by
  by_cases hl : 1048576 < len
  · clear h
    go_enter Try.func7, Try.ntmps7
    go_wp2
    go_ret
    exact ⟨rfl, Below.refl _ _⟩
  · have HI := Lib.hid h
    clear h
    go_enter Try.func7, Try.ntmps7
    obtain ⟨j0, hj, jz0, jz1, jz2⟩ := info_parts infoV
    have HB := Lib.hid (Below.refl w.heap.size w)
    have S0 := True.intro
    go_upto_region 4 with (first
      | ((have _ := S0); (fail_if_success (have _ := S1)); go_at_call 43; (with_reducible refine (drawBatchOk _ _ _ zs _ HI.out).mono ?_); rintro e wn0 ⟨A1, c1, g1, A2, c2, g2, cols, bs, rfl, hbr, hok, h6, h5, hb1⟩; have hbX : Below w.heap.size w wn0 := Below.trans (by repeat (with_reducible first | exact Below.refl _ _ | refine Below.alloc ?_ (by first | omega | (simp; done) | (simp; omega) | (simp [World.setCell]; done) | (simp [World.setCell]; omega)) _ | refine Below.setCell ?_ (by first | omega | (simp; done) | (simp; omega) | (simp [World.setCell]; done) | (simp [World.setCell]; omega)) _ | apply Below.drew)) (Below.mono hb1 (by first | omega | (simp; done) | (simp; omega) | (simp [World.setCell]; done) | (simp [World.setCell]; omega))); have HBn := Lib.hid (HB.out.trans (hbX.mono HB.out.size)); clear HB; have HB := HBn; clear HBn; have VR := Lib.hid hbr; have OKC := Lib.hid hok; clear hbr hok; clear hb1 hbX; have S1 := True.intro))
    have CB := Lib.hid (fun W hW => batchOkI A1 A2 g1 0 c1 g2 0 c2 cols bs W hW OKC.out (by omega))
    have CS := Lib.hid (fun W hW => batchOkS A1 A2 g1 0 c1 g2 0 c2 cols bs W hW OKC.out (by omega))
    obtain ⟨E, hE⟩ : ∃ E, batB cols bs.length = E := ⟨_, rfl⟩
    rw [hE] at CB CS
    clear hE
    have eE : (E != E) = false := by cases E <;> rfl
    go_wp2_with (first
      | ((have _ := S1); (fail_if_success (have _ := S2)); go_at_call 15; (with_reducible refine (CB.out _ (VR.out.below (by repeat (with_reducible first | exact Below.refl _ _ | refine Below.alloc ?_ (by first | omega | (simp; done) | (simp; omega) | (simp [World.setCell]; done) | (simp [World.setCell]; omega)) _ | refine Below.setCell ?_ (by first | omega | (simp; done) | (simp; omega) | (simp [World.setCell]; done) | (simp [World.setCell]; omega)) _ | apply Below.drew)))).mono ?_); rintro e wn1 ⟨rfl, hb1⟩; have hbX : Below wn0.heap.size wn0 wn1 := Below.trans (by repeat (with_reducible first | exact Below.refl _ _ | refine Below.alloc ?_ (by first | omega | (simp; done) | (simp; omega) | (simp [World.setCell]; done) | (simp [World.setCell]; omega)) _ | refine Below.setCell ?_ (by first | omega | (simp; done) | (simp; omega) | (simp [World.setCell]; done) | (simp [World.setCell]; omega)) _ | apply Below.drew)) (Below.mono hb1 (by first | omega | (simp; done) | (simp; omega) | (simp [World.setCell]; done) | (simp [World.setCell]; omega))); have HBn := Lib.hid (HB.out.trans (hbX.mono HB.out.size)); clear HB; have HB := HBn; clear HBn; have K0 := Lib.hid (VR.out.below hbX); clear VR; have VR := K0; clear K0; have HX := Lib.hid (Box2.below (x := wn0.heap.size) (u := .slice A1 cols.length c1) (v := .slice A2 bs.length c2) ⟨by simp [go_sem], by simp [go_sem]⟩ hb1); (try clear bx0 bx1 bxl); obtain ⟨bx0, bx1⟩ := HX.out; have bxl := Box2.lt HX.out; clear hb1 hbX; have S2 := True.intro)
      | ((have _ := S2); (fail_if_success (have _ := S3)); go_at_call 13; (with_reducible refine (CS.out _ (VR.out.below (by repeat (with_reducible first | exact Below.refl _ _ | refine Below.alloc ?_ (by first | omega | (simp; done) | (simp; omega) | (simp [World.setCell]; done) | (simp [World.setCell]; omega)) _ | refine Below.setCell ?_ (by first | omega | (simp; done) | (simp; omega) | (simp [World.setCell]; done) | (simp [World.setCell]; omega)) _ | apply Below.drew)))).mono ?_); rintro e wn2 ⟨rfl, hb1⟩; have hbX : Below wn1.heap.size wn1 wn2 := Below.trans (by repeat (with_reducible first | exact Below.refl _ _ | refine Below.alloc ?_ (by first | omega | (simp; done) | (simp; omega) | (simp [World.setCell]; done) | (simp [World.setCell]; omega)) _ | refine Below.setCell ?_ (by first | omega | (simp; done) | (simp; omega) | (simp [World.setCell]; done) | (simp [World.setCell]; omega)) _ | apply Below.drew)) (Below.mono hb1 (by first | omega | (simp; done) | (simp; omega) | (simp [World.setCell]; done) | (simp [World.setCell]; omega))); have HBn := Lib.hid (HB.out.trans (hbX.mono HB.out.size)); clear HB; have HB := HBn; clear HBn; have K0 := Lib.hid (VR.out.below hbX); clear VR; have VR := K0; clear K0; have K0 := Lib.hid (HX.out.below hbX); clear HX; have HX := K0; clear K0; (try clear bx0 bx1 bxl); obtain ⟨bx0, bx1⟩ := HX.out; have bxl := Box2.lt HX.out; clear hb1 hbX; have S3 := True.intro))
    obtain ⟨n, hn⟩ : ∃ n, bs.length = n := ⟨_, rfl⟩
    have HNL := Lib.hid hn
    rw [hn] at h5 HX bx1 ⊢
    clear hn
    have wk : IntKind.i64.wrap ((n : Int) + 1) = (n : Int) + 1 := IntWalk.i64_in _ (by omega)
    obtain ⟨wA, hA, oA, gA⟩ := run_make_full (P := Try.prog) wn2.drew wn2.heap.size 53 73 j0 (.agg #[.int .i64 0, .int .i64 0, .string ⟨#[]⟩]) 3 Try.underlying53 hj jz0 jz1 .i64 .i64 (n + 1) (by rw [jz2]; omega) (by unfold maxLen; omega) (by first | exact Nat.le_refl _ | (simp; done) | (simp; omega))
    obtain ⟨wB, hB, oB, gB⟩ := run_make_full (P := Try.prog) ((wn2.alloc (.cells #[.slice none 0 0, .slice none 0 0] 30)).drew) wn2.heap.size 53 73 j0 (.agg #[.int .i64 0, .int .i64 0, .string ⟨#[]⟩]) 3 Try.underlying53 hj jz0 jz1 .i64 .i64 (n + 1) (by rw [jz2]; omega) (by unfold maxLen; omega) (by first | exact Nat.le_refl _ | (simp; done) | (simp; omega))
    rw [made_nil] at oA oB
    rw [show ((wn2.alloc (.cells #[.slice none 0 0, .slice none 0 0] 30)).drew).heap.size = wn2.heap.size + 1 from by simp] at oB
    clear bx0 bx1 bxl
    obtain ⟨bx0, bx1⟩ := HX.out
    have bxl := Box2.lt HX.out
    rw [show ((n + 1 : Nat) : Int) = (n : Int) + 1 from rfl] at hA hB
    have HXA := Lib.hid (Box2.grownN gA HX.out.drew)
    have HXB := Lib.hid (Box2.grownN gB (HX.out.alloc _).drew)
    obtain ⟨ba0, ba1⟩ := HXA.out
    obtain ⟨bb0, bb1⟩ := HXB.out
    have FA := Lib.hid (fl_some9 oA)
    have FB := Lib.hid (fl_some9 oB)
    have GA := Lib.hid gA
    have GB := Lib.hid gB
    have HZB := Lib.hid (BoxW.grown (show BoxW wn2.heap.size (.slice none 0 0) (.slice none 0 0) ((wn2.alloc (.cells #[.slice none 0 0, .slice none 0 0] 30)).drew) from ⟨⟨by simp [go_sem], by simp [go_sem]⟩, by simp [go_sem], by simp [go_sem]⟩) gB (by simp))
    obtain ⟨⟨bz0, bz1⟩, bzf0, bzf1⟩ := HZB.out
    have bzl := HZB.out.lt
    have bal := Box2.lt HXA.out
    have bbl := Box2.lt HXB.out
    have bsA := gA.size
    have bsB := gB.size
    simp at bsA bsB
    clear oA oB gA gB
    have CN := Lib.hid (fun W hW => batchOkI none A2 0 0 0 g2 0 c2 [] bs W hW ⟨by simp, fun r hr => absurd hr (by simp)⟩ (by rw [HNL.out]; omega))
    have CL := Lib.hid (fun gb W hW => batchOkI (some ⟨gb, 0, none⟩) A2 gb 0 1 g2 0 c2 [List.replicate (n + 1) nilV] bs W hW (ok2_long h5) (by rw [HNL.out]; omega))
    rw [HNL.out, batB_none] at CN
    rw [HNL.out, batB_long] at CL
    simp only [List.length_nil, List.length_singleton] at CN CL
    have h4e : (decide (n ≤ 4) == decide ((n : Int) ≤ 4)) = true := by rw [beq_iff_eq]; exact decide_eq_decide.2 (by omega)
    go_region
    · have HBW : Below wn2.heap.size wn2 ((wA.alloc (.cells #[.slice (some ⟨wn2.heap.size, 0, none⟩) (n + 1) (n + 1)] 53)).alloc (.cells #[.slice (some ⟨wA.heap.size, 0, none⟩) 1 1, .slice A2 n c2] 30)) := (((Below.refl wn2.heap.size wn2).drew.grown GA.out (Nat.le_refl _) (by intro k hk; cases hk)).alloc (by simpa using bsA) _).alloc (by simp; omega) _
      have HZ : Box2 (wA.heap.size + 1) (.slice (some ⟨wA.heap.size, 0, none⟩) 1 1) (.slice A2 n c2) ((wA.alloc (.cells #[.slice (some ⟨wn2.heap.size, 0, none⟩) (n + 1) (n + 1)] 53)).alloc (.cells #[.slice (some ⟨wA.heap.size, 0, none⟩) 1 1, .slice A2 n c2] 30)) := ⟨by simp [go_sem], by simp [go_sem]⟩
      have HRW : Rws ((wA.alloc (.cells #[.slice (some ⟨wn2.heap.size, 0, none⟩) (n + 1) (n + 1)] 53)).alloc (.cells #[.slice (some ⟨wA.heap.size, 0, none⟩) 1 1, .slice A2 n c2] 30)) wA.heap.size 0 (some ⟨wA.heap.size, 0, none⟩) [List.replicate (n + 1) nilV] := rws_one (mb := wn2.heap.size) (by simp [go_sem]) ((FA.out.alloc _).alloc _)
      obtain ⟨W, hW⟩ : ∃ Z, ((wA.alloc (.cells #[.slice (some ⟨wn2.heap.size, 0, none⟩) (n + 1) (n + 1)] 53)).alloc (.cells #[.slice (some ⟨wA.heap.size, 0, none⟩) 1 1, .slice A2 n c2] 30)) = Z := ⟨_, rfl⟩
      rw [hW] at HBW HZ HRW ⊢
      obtain ⟨xb, hxb⟩ : ∃ z, (wA.heap.size + 1) = z := ⟨_, rfl⟩
      obtain ⟨gb, hgb⟩ : ∃ z, wA.heap.size = z := ⟨_, rfl⟩
      rw [hxb] at HZ ⊢
      rw [hgb] at HZ HRW
      clear hxb hgb hW
      have VRW := Lib.hid (VR.out.below HBW)
      have HBF := Lib.hid (HB.out.trans (HBW.mono HB.out.size))
      have HXW := HX.out.below HBW
      have VL : Hid (BatR W (some ⟨gb, 0, none⟩) gb 0 A2 g2 0 [List.replicate (n + 1) nilV] bs) := ⟨HRW, VRW.out.pk⟩
      obtain ⟨cx0, cx1⟩ := HXW
      obtain ⟨cz0, cz1⟩ := HZ
      clear ba0 ba1 bb0 bb1 bz0 bz1 bzf0 bzf1 bzl bal bbl bsA bsB bx0 bx1 bxl HBW HRW hA hB
      have hS : (fun Z : World => Z.cell? ⟨wn0.heap.size, 1, none⟩ = some (.slice A2 n c2) ∧ Z.cell? ⟨xb, 0, none⟩ = some (.slice (some ⟨gb, 0, none⟩) 1 1) ∧ Z.cell? ⟨xb, 1, none⟩ = some (.slice A2 n c2) ∧ Below W.heap.size W Z ∧ W.heap.size ≤ Z.heap.size) W := ⟨cx1, cz0, cz1, Below.refl _ _, Nat.le_refl _⟩
      go_wp2_with (fail)
      refine wp_region_held_drew (S := (fun Z : World => Z.cell? ⟨wn0.heap.size, 1, none⟩ = some (.slice A2 n c2) ∧ Z.cell? ⟨xb, 0, none⟩ = some (.slice (some ⟨gb, 0, none⟩) 1 1) ∧ Z.cell? ⟨xb, 1, none⟩ = some (.slice A2 n c2) ∧ Below W.heap.size W Z ∧ W.heap.size ≤ Z.heap.size)) (by kernel_rfl) (keep8D hS) (fun hS1 => ?_)
      refine wpAnyH_take (i := 0) (v := ?_) rfl (by kernel_rfl) (by kernel_rfl) (by kernel_rfl) (fun _ _ _ h => h) (Or.inl ⟨by rfl, ?_⟩) hS1 ?_
      rotate_left 1
      · (intro w hSw; go_simp)
        all_goals with_reducible rfl
      try go_simp
      refine wpAnyH_take (i := 1) (v := ?_) rfl (by kernel_rfl) (by kernel_rfl) (by kernel_rfl) (fun _ _ _ h => h) (Or.inl ⟨by rfl, ?_⟩) hS1 ?_
      rotate_left 1
      · (intro w hSw; have hSx : (fun Z : World => Z.cell? ⟨wn0.heap.size, 1, none⟩ = some (.slice A2 n c2) ∧ Z.cell? ⟨xb, 0, none⟩ = some (.slice (some ⟨gb, 0, none⟩) 1 1) ∧ Z.cell? ⟨xb, 1, none⟩ = some (.slice A2 n c2) ∧ Below W.heap.size W Z ∧ W.heap.size ≤ Z.heap.size) w := hSw; obtain ⟨s0, s1, s2, -, -⟩ := hSx; go_simp)
        all_goals with_reducible rfl
      try go_simp
      refine wpAnyH_take (i := 2) (v := ?_) rfl (by kernel_rfl) (by kernel_rfl) (by kernel_rfl) (fun _ _ _ h => h) (Or.inl ⟨by rfl, ?_⟩) hS1 ?_
      rotate_left 1
      · (intro w hSw; go_simp)
        all_goals with_reducible rfl
      try go_simp
      refine wpAnyH_take (i := 4) (v := ?_) rfl (by kernel_rfl) (by kernel_rfl) (by kernel_rfl) (fun _ _ _ h => h) (Or.inl ⟨by rfl, ?_⟩) hS1 ?_
      rotate_left 1
      · (intro w hSw; go_simp)
        all_goals with_reducible rfl
      try go_simp
      refine wpAnyH_take (i := 5) (v := ?_) rfl (by kernel_rfl) (by kernel_rfl) (by kernel_rfl) (fun _ _ _ h => h) (Or.inl ⟨by rfl, ?_⟩) hS1 ?_
      rotate_left 1
      · (intro w hSw; have hSx : (fun Z : World => Z.cell? ⟨wn0.heap.size, 1, none⟩ = some (.slice A2 n c2) ∧ Z.cell? ⟨xb, 0, none⟩ = some (.slice (some ⟨gb, 0, none⟩) 1 1) ∧ Z.cell? ⟨xb, 1, none⟩ = some (.slice A2 n c2) ∧ Below W.heap.size W Z ∧ W.heap.size ≤ Z.heap.size) w := hSw; obtain ⟨s0, s1, s2, -, -⟩ := hSx; go_simp)
        all_goals with_reducible rfl
      try go_simp
      refine wpAnyH_take (i := 6) (v := ?_) rfl (by kernel_rfl) (by kernel_rfl) (by kernel_rfl) (fun _ _ _ h => h) (Or.inl ⟨by rfl, ?_⟩) hS1 ?_
      rotate_left 1
      · (intro w hSw; go_simp)
        all_goals with_reducible rfl
      try go_simp
      refine wpAnyH_take (i := 7) (v := ?_) rfl (by kernel_rfl) (by kernel_rfl) (by kernel_rfl) (fun _ _ _ h => h) (Or.inl ⟨by rfl, ?_⟩) hS1 ?_
      rotate_left 1
      · (intro w hSw; go_simp)
        all_goals with_reducible rfl
      try go_simp
      refine wpAnyH_ready (rs := [3]) (by kernel_rfl) (by simp) ?_
      refine AllReadyH.cons rfl (fun K0 hK0 => ?_) AllReadyH.nil
      refine step_call rfl 15 _ _ rfl batchOkEnters #[.agg #[.slice none 0 0, .slice A2 n c2]] rfl (CN.out _ (batR_none (VRW.out.below hS1.2.2.2.1))) ?_
      rintro e w1 ⟨rfl, hbq⟩
      refine ⟨_, rfl, hK0.out _ _ (keep8 hS1 hbq) (fun hS2 => ?_)⟩
      clear hK0 K0
      try go_simp
      refine wpAnyH_take (i := 8) (v := ?_) rfl (by kernel_rfl) (by kernel_rfl) (by kernel_rfl) (fun _ _ _ h => h) (Or.inl ⟨by rfl, ?_⟩) hS2 ?_
      rotate_left 1
      · (intro w hSw; go_simp)
        all_goals with_reducible rfl
      try go_simp
      refine wpAnyH_take (i := 9) (v := ?_) rfl (by kernel_rfl) (by kernel_rfl) (by kernel_rfl) (fun _ _ _ h => h) (Or.inl ⟨by rfl, ?_⟩) hS2 ?_
      rotate_left 1
      · (intro w hSw; go_simp)
        all_goals with_reducible rfl
      try go_simp
      refine wpAnyH_take (i := 10) (v := ?_) rfl (by kernel_rfl) (by kernel_rfl) (by kernel_rfl) (fun _ _ _ h => h) (Or.inl ⟨by rfl, ?_⟩) hS2 ?_
      rotate_left 1
      · (intro w hSw; have hSx : (fun Z : World => Z.cell? ⟨wn0.heap.size, 1, none⟩ = some (.slice A2 n c2) ∧ Z.cell? ⟨xb, 0, none⟩ = some (.slice (some ⟨gb, 0, none⟩) 1 1) ∧ Z.cell? ⟨xb, 1, none⟩ = some (.slice A2 n c2) ∧ Below W.heap.size W Z ∧ W.heap.size ≤ Z.heap.size) w := hSw; obtain ⟨s0, s1, s2, -, -⟩ := hSx; go_simp)
        all_goals with_reducible rfl
      try go_simp
      refine wpAnyH_ready (rs := [11]) (by kernel_rfl) (by simp) ?_
      refine AllReadyH.cons rfl (fun K0 hK0 => ?_) AllReadyH.nil
      refine step_callW (by rfl) 15 _ _ rfl batchOkEnters #[.agg #[.slice (some ⟨gb, 0, none⟩) 1 1, .slice A2 n c2]] rfl (CL.out gb _ (VL.out.below hS2.2.2.2.1)) ?_
      rintro e w1 ⟨rfl, hbq⟩
      refine ⟨_, rfl, hK0.out _ _ (keep8 hS2 hbq) (fun hS3 => ?_)⟩
      clear hK0 K0
      try go_simp
      refine wpAnyH_take (i := 12) (v := ?_) rfl (by kernel_rfl) (by kernel_rfl) (by kernel_rfl) (fun _ _ _ h => h) (Or.inl ⟨by rfl, ?_⟩) hS3 ?_
      rotate_left 1
      · (intro w hSw; go_simp)
        all_goals with_reducible rfl
      try go_simp
      refine wpAnyH_take (i := 13) (v := ?_) rfl (by kernel_rfl) (by kernel_rfl) (by kernel_rfl) (fun _ _ _ h => h) (Or.inl ⟨by rfl, ?_⟩) hS3 ?_
      rotate_left 1
      · (intro w hSw; go_simp)
        all_goals with_reducible rfl
      try go_simp
      refine wpAnyH_take (i := 14) (v := ?_) rfl (by kernel_rfl) (by kernel_rfl) (by kernel_rfl) (fun _ _ _ h => h) (Or.inl ⟨by rfl, ?_⟩) hS3 ?_
      rotate_left 1
      · (intro w hSw; go_simp)
        all_goals with_reducible rfl
      try go_simp
      refine wpAnyH_ready (rs := [15]) (by kernel_rfl) (by simp) ?_
      refine AllReadyH.cons rfl (fun K0 hK0 => ?_) AllReadyH.nil
      refine step_callW (by rfl) 44 _ _ rfl aliveEnters #[] rfl (alive _) ?_
      rintro e w1 ⟨rfl, hbq⟩
      refine ⟨_, rfl, hK0.out _ _ (keep8 hS3 hbq) (fun hS4 => ?_)⟩
      clear hK0 K0
      try go_simp
      refine wpAnyH_take (i := 16) (v := ?_) rfl (by kernel_rfl) (by kernel_rfl) (by kernel_rfl) (fun _ _ _ h => h) (Or.inl ⟨by rfl, ?_⟩) hS4 ?_
      rotate_left 1
      · (intro w hSw; go_simp)
        all_goals with_reducible rfl
      try go_simp
      refine wpAnyH_take (i := 17) (v := ?_) rfl (by kernel_rfl) (by kernel_rfl) (by kernel_rfl) (fun _ _ _ h => h) (Or.inl ⟨by rfl, ?_⟩) hS4 ?_
      rotate_left 1
      · (intro w hSw; go_simp)
        all_goals with_reducible rfl
      try go_simp
      refine wpAnyH_done (by kernel_rfl) ?_ _
      have HB9 := Lib.hid (HBF.out.trans (hS4.2.2.2.1.mono HBF.out.size))
      go_wp2
      go_ret
      exact ⟨retB (by first | rfl | simp), HB9.out⟩
    · have HBW : Below wn2.heap.size wn2 ((wA.alloc (.cells #[.slice (some ⟨wA.heap.size + 1, 0, none⟩) 1 1, .slice A2 n c2] 30)).alloc (.cells #[.slice (some ⟨wn2.heap.size, 0, none⟩) (n + 1) (n + 1)] 53)) := (((Below.refl wn2.heap.size wn2).drew.grown GA.out (Nat.le_refl _) (by intro k hk; cases hk)).alloc (by simpa using bsA) _).alloc (by simp; omega) _
      have HZ : Box2 wA.heap.size (.slice (some ⟨(wA.heap.size + 1), 0, none⟩) 1 1) (.slice A2 n c2) ((wA.alloc (.cells #[.slice (some ⟨wA.heap.size + 1, 0, none⟩) 1 1, .slice A2 n c2] 30)).alloc (.cells #[.slice (some ⟨wn2.heap.size, 0, none⟩) (n + 1) (n + 1)] 53)) := Box2.alloc ⟨by simp [go_sem], by simp [go_sem]⟩ _
      have HRW : Rws ((wA.alloc (.cells #[.slice (some ⟨wA.heap.size + 1, 0, none⟩) 1 1, .slice A2 n c2] 30)).alloc (.cells #[.slice (some ⟨wn2.heap.size, 0, none⟩) (n + 1) (n + 1)] 53)) (wA.heap.size + 1) 0 (some ⟨(wA.heap.size + 1), 0, none⟩) [List.replicate (n + 1) nilV] := rws_one (mb := wn2.heap.size) (by simp [go_sem]) ((FA.out.alloc _).alloc _)
      obtain ⟨W, hW⟩ : ∃ Z, ((wA.alloc (.cells #[.slice (some ⟨wA.heap.size + 1, 0, none⟩) 1 1, .slice A2 n c2] 30)).alloc (.cells #[.slice (some ⟨wn2.heap.size, 0, none⟩) (n + 1) (n + 1)] 53)) = Z := ⟨_, rfl⟩
      rw [hW] at HBW HZ HRW ⊢
      obtain ⟨xb, hxb⟩ : ∃ z, wA.heap.size = z := ⟨_, rfl⟩
      obtain ⟨gb, hgb⟩ : ∃ z, (wA.heap.size + 1) = z := ⟨_, rfl⟩
      rw [hgb] at HZ HRW ⊢
      rw [hxb] at HZ ⊢
      clear hxb hgb hW
      have VRW := Lib.hid (VR.out.below HBW)
      have HBF := Lib.hid (HB.out.trans (HBW.mono HB.out.size))
      have HXW := HX.out.below HBW
      have VL : Hid (BatR W (some ⟨gb, 0, none⟩) gb 0 A2 g2 0 [List.replicate (n + 1) nilV] bs) := ⟨HRW, VRW.out.pk⟩
      obtain ⟨cx0, cx1⟩ := HXW
      obtain ⟨cz0, cz1⟩ := HZ
      clear ba0 ba1 bb0 bb1 bz0 bz1 bzf0 bzf1 bzl bal bbl bsA bsB bx0 bx1 bxl HBW HRW hA hB
      have hS : (fun Z : World => Z.cell? ⟨wn0.heap.size, 1, none⟩ = some (.slice A2 n c2) ∧ Z.cell? ⟨xb, 0, none⟩ = some (.slice (some ⟨gb, 0, none⟩) 1 1) ∧ Z.cell? ⟨xb, 1, none⟩ = some (.slice A2 n c2) ∧ Below W.heap.size W Z ∧ W.heap.size ≤ Z.heap.size) W := ⟨cx1, cz0, cz1, Below.refl _ _, Nat.le_refl _⟩
      go_wp2_with (fail)
      refine wp_region_held_drew (S := (fun Z : World => Z.cell? ⟨wn0.heap.size, 1, none⟩ = some (.slice A2 n c2) ∧ Z.cell? ⟨xb, 0, none⟩ = some (.slice (some ⟨gb, 0, none⟩) 1 1) ∧ Z.cell? ⟨xb, 1, none⟩ = some (.slice A2 n c2) ∧ Below W.heap.size W Z ∧ W.heap.size ≤ Z.heap.size)) (by kernel_rfl) (keep8D hS) (fun hS1 => ?_)
      refine wpAnyH_take (i := 0) (v := ?_) rfl (by kernel_rfl) (by kernel_rfl) (by kernel_rfl) (fun _ _ _ h => h) (Or.inl ⟨by rfl, ?_⟩) hS1 ?_
      rotate_left 1
      · (intro w hSw; go_simp)
        all_goals with_reducible rfl
      try go_simp
      refine wpAnyH_take (i := 1) (v := ?_) rfl (by kernel_rfl) (by kernel_rfl) (by kernel_rfl) (fun _ _ _ h => h) (Or.inl ⟨by rfl, ?_⟩) hS1 ?_
      rotate_left 1
      · (intro w hSw; have hSx : (fun Z : World => Z.cell? ⟨wn0.heap.size, 1, none⟩ = some (.slice A2 n c2) ∧ Z.cell? ⟨xb, 0, none⟩ = some (.slice (some ⟨gb, 0, none⟩) 1 1) ∧ Z.cell? ⟨xb, 1, none⟩ = some (.slice A2 n c2) ∧ Below W.heap.size W Z ∧ W.heap.size ≤ Z.heap.size) w := hSw; obtain ⟨s0, s1, s2, -, -⟩ := hSx; go_simp)
        all_goals with_reducible rfl
      try go_simp
      refine wpAnyH_take (i := 2) (v := ?_) rfl (by kernel_rfl) (by kernel_rfl) (by kernel_rfl) (fun _ _ _ h => h) (Or.inl ⟨by rfl, ?_⟩) hS1 ?_
      rotate_left 1
      · (intro w hSw; go_simp)
        all_goals with_reducible rfl
      try go_simp
      refine wpAnyH_take (i := 4) (v := ?_) rfl (by kernel_rfl) (by kernel_rfl) (by kernel_rfl) (fun _ _ _ h => h) (Or.inl ⟨by rfl, ?_⟩) hS1 ?_
      rotate_left 1
      · (intro w hSw; go_simp)
        all_goals with_reducible rfl
      try go_simp
      refine wpAnyH_take (i := 5) (v := ?_) rfl (by kernel_rfl) (by kernel_rfl) (by kernel_rfl) (fun _ _ _ h => h) (Or.inl ⟨by rfl, ?_⟩) hS1 ?_
      rotate_left 1
      · (intro w hSw; have hSx : (fun Z : World => Z.cell? ⟨wn0.heap.size, 1, none⟩ = some (.slice A2 n c2) ∧ Z.cell? ⟨xb, 0, none⟩ = some (.slice (some ⟨gb, 0, none⟩) 1 1) ∧ Z.cell? ⟨xb, 1, none⟩ = some (.slice A2 n c2) ∧ Below W.heap.size W Z ∧ W.heap.size ≤ Z.heap.size) w := hSw; obtain ⟨s0, s1, s2, -, -⟩ := hSx; go_simp)
        all_goals with_reducible rfl
      try go_simp
      refine wpAnyH_take (i := 6) (v := ?_) rfl (by kernel_rfl) (by kernel_rfl) (by kernel_rfl) (fun _ _ _ h => h) (Or.inl ⟨by rfl, ?_⟩) hS1 ?_
      rotate_left 1
      · (intro w hSw; go_simp)
        all_goals with_reducible rfl
      try go_simp
      refine wpAnyH_take (i := 7) (v := ?_) rfl (by kernel_rfl) (by kernel_rfl) (by kernel_rfl) (fun _ _ _ h => h) (Or.inl ⟨by rfl, ?_⟩) hS1 ?_
      rotate_left 1
      · (intro w hSw; go_simp)
        all_goals with_reducible rfl
      try go_simp
      refine wpAnyH_ready (rs := [3]) (by kernel_rfl) (by simp) ?_
      refine AllReadyH.cons rfl (fun K0 hK0 => ?_) AllReadyH.nil
      refine step_call rfl 15 _ _ rfl batchOkEnters #[.agg #[.slice none 0 0, .slice A2 n c2]] rfl (CN.out _ (batR_none (VRW.out.below hS1.2.2.2.1))) ?_
      rintro e w1 ⟨rfl, hbq⟩
      refine ⟨_, rfl, hK0.out _ _ (keep8 hS1 hbq) (fun hS2 => ?_)⟩
      clear hK0 K0
      try go_simp
      refine wpAnyH_take (i := 8) (v := ?_) rfl (by kernel_rfl) (by kernel_rfl) (by kernel_rfl) (fun _ _ _ h => h) (Or.inl ⟨by rfl, ?_⟩) hS2 ?_
      rotate_left 1
      · (intro w hSw; go_simp)
        all_goals with_reducible rfl
      try go_simp
      refine wpAnyH_take (i := 9) (v := ?_) rfl (by kernel_rfl) (by kernel_rfl) (by kernel_rfl) (fun _ _ _ h => h) (Or.inl ⟨by rfl, ?_⟩) hS2 ?_
      rotate_left 1
      · (intro w hSw; go_simp)
        all_goals with_reducible rfl
      try go_simp
      refine wpAnyH_take (i := 10) (v := ?_) rfl (by kernel_rfl) (by kernel_rfl) (by kernel_rfl) (fun _ _ _ h => h) (Or.inl ⟨by rfl, ?_⟩) hS2 ?_
      rotate_left 1
      · (intro w hSw; have hSx : (fun Z : World => Z.cell? ⟨wn0.heap.size, 1, none⟩ = some (.slice A2 n c2) ∧ Z.cell? ⟨xb, 0, none⟩ = some (.slice (some ⟨gb, 0, none⟩) 1 1) ∧ Z.cell? ⟨xb, 1, none⟩ = some (.slice A2 n c2) ∧ Below W.heap.size W Z ∧ W.heap.size ≤ Z.heap.size) w := hSw; obtain ⟨s0, s1, s2, -, -⟩ := hSx; go_simp)
        all_goals with_reducible rfl
      try go_simp
      refine wpAnyH_ready (rs := [11]) (by kernel_rfl) (by simp) ?_
      refine AllReadyH.cons rfl (fun K0 hK0 => ?_) AllReadyH.nil
      refine step_callW (by rfl) 15 _ _ rfl batchOkEnters #[.agg #[.slice (some ⟨gb, 0, none⟩) 1 1, .slice A2 n c2]] rfl (CL.out gb _ (VL.out.below hS2.2.2.2.1)) ?_
      rintro e w1 ⟨rfl, hbq⟩
      refine ⟨_, rfl, hK0.out _ _ (keep8 hS2 hbq) (fun hS3 => ?_)⟩
      clear hK0 K0
      try go_simp
      refine wpAnyH_take (i := 12) (v := ?_) rfl (by kernel_rfl) (by kernel_rfl) (by kernel_rfl) (fun _ _ _ h => h) (Or.inl ⟨by rfl, ?_⟩) hS3 ?_
      rotate_left 1
      · (intro w hSw; go_simp)
        all_goals with_reducible rfl
      try go_simp
      refine wpAnyH_take (i := 13) (v := ?_) rfl (by kernel_rfl) (by kernel_rfl) (by kernel_rfl) (fun _ _ _ h => h) (Or.inl ⟨by rfl, ?_⟩) hS3 ?_
      rotate_left 1
      · (intro w hSw; go_simp)
        all_goals with_reducible rfl
      try go_simp
      refine wpAnyH_take (i := 14) (v := ?_) rfl (by kernel_rfl) (by kernel_rfl) (by kernel_rfl) (fun _ _ _ h => h) (Or.inl ⟨by rfl, ?_⟩) hS3 ?_
      rotate_left 1
      · (intro w hSw; go_simp)
        all_goals with_reducible rfl
      try go_simp
      refine wpAnyH_ready (rs := [15]) (by kernel_rfl) (by simp) ?_
      refine AllReadyH.cons rfl (fun K0 hK0 => ?_) AllReadyH.nil
      refine step_callW (by rfl) 44 _ _ rfl aliveEnters #[] rfl (alive _) ?_
      rintro e w1 ⟨rfl, hbq⟩
      refine ⟨_, rfl, hK0.out _ _ (keep8 hS3 hbq) (fun hS4 => ?_)⟩
      clear hK0 K0
      try go_simp
      refine wpAnyH_take (i := 16) (v := ?_) rfl (by kernel_rfl) (by kernel_rfl) (by kernel_rfl) (fun _ _ _ h => h) (Or.inl ⟨by rfl, ?_⟩) hS4 ?_
      rotate_left 1
      · (intro w hSw; go_simp)
        all_goals with_reducible rfl
      try go_simp
      refine wpAnyH_take (i := 17) (v := ?_) rfl (by kernel_rfl) (by kernel_rfl) (by kernel_rfl) (fun _ _ _ h => h) (Or.inl ⟨by rfl, ?_⟩) hS4 ?_
      rotate_left 1
      · (intro w hSw; go_simp)
        all_goals with_reducible rfl
      try go_simp
      refine wpAnyH_done (by kernel_rfl) ?_ _
      have HB9 := Lib.hid (HBF.out.trans (hS4.2.2.2.1.mono HBF.out.size))
      go_wp2
      go_ret
      exact ⟨retB (by first | rfl | simp), HB9.out⟩
    · have HBW : Below wn2.heap.size wn2 (((wB.setCell ⟨wn2.heap.size, 0, none⟩ (.slice (some ⟨wB.heap.size, 0, none⟩) 1 1)).setCell ⟨wn2.heap.size, 1, none⟩ (.slice A2 n c2)).alloc (.cells #[.slice (some ⟨wn2.heap.size + 1, 0, none⟩) (n + 1) (n + 1)] 53)) := ((((((Below.refl wn2.heap.size wn2).alloc (Nat.le_refl _) _).drew).grown GB.out (by simp) (by intro k hk; cases hk)).setCell (p := ⟨wn2.heap.size, 0, none⟩) (Nat.le_refl _) _).setCell (p := ⟨wn2.heap.size, 1, none⟩) (Nat.le_refl _) _).alloc (by simp [World.setCell]; omega) _
      have HZ : Box2 wn2.heap.size (.slice (some ⟨wB.heap.size, 0, none⟩) 1 1) (.slice A2 n c2) (((wB.setCell ⟨wn2.heap.size, 0, none⟩ (.slice (some ⟨wB.heap.size, 0, none⟩) 1 1)).setCell ⟨wn2.heap.size, 1, none⟩ (.slice A2 n c2)).alloc (.cells #[.slice (some ⟨wn2.heap.size + 1, 0, none⟩) (n + 1) (n + 1)] 53)) := (((HZB.out.set0 _).set1 _).alloc _).1
      have HRW : Rws (((wB.setCell ⟨wn2.heap.size, 0, none⟩ (.slice (some ⟨wB.heap.size, 0, none⟩) 1 1)).setCell ⟨wn2.heap.size, 1, none⟩ (.slice A2 n c2)).alloc (.cells #[.slice (some ⟨wn2.heap.size + 1, 0, none⟩) (n + 1) (n + 1)] 53)) wB.heap.size 0 (some ⟨wB.heap.size, 0, none⟩) [List.replicate (n + 1) nilV] := rws_one (mb := (wn2.heap.size + 1)) (by simp [go_sem]) (((FB.out.keep fun _ j => cellOf (hsetNe (by omega))).keep fun _ j => cellOf (hsetNe (by omega))).alloc _)
      obtain ⟨W, hW⟩ : ∃ Z, (((wB.setCell ⟨wn2.heap.size, 0, none⟩ (.slice (some ⟨wB.heap.size, 0, none⟩) 1 1)).setCell ⟨wn2.heap.size, 1, none⟩ (.slice A2 n c2)).alloc (.cells #[.slice (some ⟨wn2.heap.size + 1, 0, none⟩) (n + 1) (n + 1)] 53)) = Z := ⟨_, rfl⟩
      rw [hW] at HBW HZ HRW ⊢
      obtain ⟨xb, hxb⟩ : ∃ z, wn2.heap.size = z := ⟨_, rfl⟩
      obtain ⟨gb, hgb⟩ : ∃ z, wB.heap.size = z := ⟨_, rfl⟩
      rw [hxb] at HZ ⊢
      rw [hgb] at HZ HRW
      clear hxb hgb hW
      have VRW := Lib.hid (VR.out.below HBW)
      have HBF := Lib.hid (HB.out.trans (HBW.mono HB.out.size))
      have HXW := HX.out.below HBW
      have VL : Hid (BatR W (some ⟨gb, 0, none⟩) gb 0 A2 g2 0 [List.replicate (n + 1) nilV] bs) := ⟨HRW, VRW.out.pk⟩
      obtain ⟨cx0, cx1⟩ := HXW
      obtain ⟨cz0, cz1⟩ := HZ
      clear ba0 ba1 bb0 bb1 bz0 bz1 bzf0 bzf1 bzl bal bbl bsA bsB bx0 bx1 bxl HBW HRW hA hB
      have hS : (fun Z : World => Z.cell? ⟨wn0.heap.size, 1, none⟩ = some (.slice A2 n c2) ∧ Z.cell? ⟨xb, 0, none⟩ = some (.slice (some ⟨gb, 0, none⟩) 1 1) ∧ Z.cell? ⟨xb, 1, none⟩ = some (.slice A2 n c2) ∧ Below W.heap.size W Z ∧ W.heap.size ≤ Z.heap.size) W := ⟨cx1, cz0, cz1, Below.refl _ _, Nat.le_refl _⟩
      go_wp2_with (fail)
      refine wp_region_held_drew (S := (fun Z : World => Z.cell? ⟨wn0.heap.size, 1, none⟩ = some (.slice A2 n c2) ∧ Z.cell? ⟨xb, 0, none⟩ = some (.slice (some ⟨gb, 0, none⟩) 1 1) ∧ Z.cell? ⟨xb, 1, none⟩ = some (.slice A2 n c2) ∧ Below W.heap.size W Z ∧ W.heap.size ≤ Z.heap.size)) (by kernel_rfl) (keep8D hS) (fun hS1 => ?_)
      refine wpAnyH_take (i := 0) (v := ?_) rfl (by kernel_rfl) (by kernel_rfl) (by kernel_rfl) (fun _ _ _ h => h) (Or.inl ⟨by rfl, ?_⟩) hS1 ?_
      rotate_left 1
      · (intro w hSw; go_simp)
        all_goals with_reducible rfl
      try go_simp
      refine wpAnyH_take (i := 1) (v := ?_) rfl (by kernel_rfl) (by kernel_rfl) (by kernel_rfl) (fun _ _ _ h => h) (Or.inl ⟨by rfl, ?_⟩) hS1 ?_
      rotate_left 1
      · (intro w hSw; have hSx : (fun Z : World => Z.cell? ⟨wn0.heap.size, 1, none⟩ = some (.slice A2 n c2) ∧ Z.cell? ⟨xb, 0, none⟩ = some (.slice (some ⟨gb, 0, none⟩) 1 1) ∧ Z.cell? ⟨xb, 1, none⟩ = some (.slice A2 n c2) ∧ Below W.heap.size W Z ∧ W.heap.size ≤ Z.heap.size) w := hSw; obtain ⟨s0, s1, s2, -, -⟩ := hSx; go_simp)
        all_goals with_reducible rfl
      try go_simp
      refine wpAnyH_take (i := 2) (v := ?_) rfl (by kernel_rfl) (by kernel_rfl) (by kernel_rfl) (fun _ _ _ h => h) (Or.inl ⟨by rfl, ?_⟩) hS1 ?_
      rotate_left 1
      · (intro w hSw; go_simp)
        all_goals with_reducible rfl
      try go_simp
      refine wpAnyH_take (i := 4) (v := ?_) rfl (by kernel_rfl) (by kernel_rfl) (by kernel_rfl) (fun _ _ _ h => h) (Or.inl ⟨by rfl, ?_⟩) hS1 ?_
      rotate_left 1
      · (intro w hSw; go_simp)
        all_goals with_reducible rfl
      try go_simp
      refine wpAnyH_take (i := 5) (v := ?_) rfl (by kernel_rfl) (by kernel_rfl) (by kernel_rfl) (fun _ _ _ h => h) (Or.inl ⟨by rfl, ?_⟩) hS1 ?_
      rotate_left 1
      · (intro w hSw; have hSx : (fun Z : World => Z.cell? ⟨wn0.heap.size, 1, none⟩ = some (.slice A2 n c2) ∧ Z.cell? ⟨xb, 0, none⟩ = some (.slice (some ⟨gb, 0, none⟩) 1 1) ∧ Z.cell? ⟨xb, 1, none⟩ = some (.slice A2 n c2) ∧ Below W.heap.size W Z ∧ W.heap.size ≤ Z.heap.size) w := hSw; obtain ⟨s0, s1, s2, -, -⟩ := hSx; go_simp)
        all_goals with_reducible rfl
      try go_simp
      refine wpAnyH_take (i := 6) (v := ?_) rfl (by kernel_rfl) (by kernel_rfl) (by kernel_rfl) (fun _ _ _ h => h) (Or.inl ⟨by rfl, ?_⟩) hS1 ?_
      rotate_left 1
      · (intro w hSw; go_simp)
        all_goals with_reducible rfl
      try go_simp
      refine wpAnyH_take (i := 7) (v := ?_) rfl (by kernel_rfl) (by kernel_rfl) (by kernel_rfl) (fun _ _ _ h => h) (Or.inl ⟨by rfl, ?_⟩) hS1 ?_
      rotate_left 1
      · (intro w hSw; go_simp)
        all_goals with_reducible rfl
      try go_simp
      refine wpAnyH_ready (rs := [3]) (by kernel_rfl) (by simp) ?_
      refine AllReadyH.cons rfl (fun K0 hK0 => ?_) AllReadyH.nil
      refine step_call rfl 15 _ _ rfl batchOkEnters #[.agg #[.slice none 0 0, .slice A2 n c2]] rfl (CN.out _ (batR_none (VRW.out.below hS1.2.2.2.1))) ?_
      rintro e w1 ⟨rfl, hbq⟩
      refine ⟨_, rfl, hK0.out _ _ (keep8 hS1 hbq) (fun hS2 => ?_)⟩
      clear hK0 K0
      try go_simp
      refine wpAnyH_take (i := 8) (v := ?_) rfl (by kernel_rfl) (by kernel_rfl) (by kernel_rfl) (fun _ _ _ h => h) (Or.inl ⟨by rfl, ?_⟩) hS2 ?_
      rotate_left 1
      · (intro w hSw; go_simp)
        all_goals with_reducible rfl
      try go_simp
      refine wpAnyH_take (i := 9) (v := ?_) rfl (by kernel_rfl) (by kernel_rfl) (by kernel_rfl) (fun _ _ _ h => h) (Or.inl ⟨by rfl, ?_⟩) hS2 ?_
      rotate_left 1
      · (intro w hSw; go_simp)
        all_goals with_reducible rfl
      try go_simp
      refine wpAnyH_take (i := 10) (v := ?_) rfl (by kernel_rfl) (by kernel_rfl) (by kernel_rfl) (fun _ _ _ h => h) (Or.inl ⟨by rfl, ?_⟩) hS2 ?_
      rotate_left 1
      · (intro w hSw; have hSx : (fun Z : World => Z.cell? ⟨wn0.heap.size, 1, none⟩ = some (.slice A2 n c2) ∧ Z.cell? ⟨xb, 0, none⟩ = some (.slice (some ⟨gb, 0, none⟩) 1 1) ∧ Z.cell? ⟨xb, 1, none⟩ = some (.slice A2 n c2) ∧ Below W.heap.size W Z ∧ W.heap.size ≤ Z.heap.size) w := hSw; obtain ⟨s0, s1, s2, -, -⟩ := hSx; go_simp)
        all_goals with_reducible rfl
      try go_simp
      refine wpAnyH_ready (rs := [11]) (by kernel_rfl) (by simp) ?_
      refine AllReadyH.cons rfl (fun K0 hK0 => ?_) AllReadyH.nil
      refine step_callW (by rfl) 15 _ _ rfl batchOkEnters #[.agg #[.slice (some ⟨gb, 0, none⟩) 1 1, .slice A2 n c2]] rfl (CL.out gb _ (VL.out.below hS2.2.2.2.1)) ?_
      rintro e w1 ⟨rfl, hbq⟩
      refine ⟨_, rfl, hK0.out _ _ (keep8 hS2 hbq) (fun hS3 => ?_)⟩
      clear hK0 K0
      try go_simp
      refine wpAnyH_take (i := 12) (v := ?_) rfl (by kernel_rfl) (by kernel_rfl) (by kernel_rfl) (fun _ _ _ h => h) (Or.inl ⟨by rfl, ?_⟩) hS3 ?_
      rotate_left 1
      · (intro w hSw; go_simp)
        all_goals with_reducible rfl
      try go_simp
      refine wpAnyH_take (i := 13) (v := ?_) rfl (by kernel_rfl) (by kernel_rfl) (by kernel_rfl) (fun _ _ _ h => h) (Or.inl ⟨by rfl, ?_⟩) hS3 ?_
      rotate_left 1
      · (intro w hSw; go_simp)
        all_goals with_reducible rfl
      try go_simp
      refine wpAnyH_take (i := 14) (v := ?_) rfl (by kernel_rfl) (by kernel_rfl) (by kernel_rfl) (fun _ _ _ h => h) (Or.inl ⟨by rfl, ?_⟩) hS3 ?_
      rotate_left 1
      · (intro w hSw; go_simp)
        all_goals with_reducible rfl
      try go_simp
      refine wpAnyH_ready (rs := [15]) (by kernel_rfl) (by simp) ?_
      refine AllReadyH.cons rfl (fun K0 hK0 => ?_) AllReadyH.nil
      refine step_callW (by rfl) 44 _ _ rfl aliveEnters #[] rfl (alive _) ?_
      rintro e w1 ⟨rfl, hbq⟩
      refine ⟨_, rfl, hK0.out _ _ (keep8 hS3 hbq) (fun hS4 => ?_)⟩
      clear hK0 K0
      try go_simp
      refine wpAnyH_take (i := 16) (v := ?_) rfl (by kernel_rfl) (by kernel_rfl) (by kernel_rfl) (fun _ _ _ h => h) (Or.inl ⟨by rfl, ?_⟩) hS4 ?_
      rotate_left 1
      · (intro w hSw; go_simp)
        all_goals with_reducible rfl
      try go_simp
      refine wpAnyH_take (i := 17) (v := ?_) rfl (by kernel_rfl) (by kernel_rfl) (by kernel_rfl) (fun _ _ _ h => h) (Or.inl ⟨by rfl, ?_⟩) hS4 ?_
      rotate_left 1
      · (intro w hSw; go_simp)
        all_goals with_reducible rfl
      try go_simp
      refine wpAnyH_done (by kernel_rfl) ?_ _
      have HB9 := Lib.hid (HBF.out.trans (hS4.2.2.2.1.mono HBF.out.size))
      go_wp2
      go_ret
      exact ⟨retB (by first | rfl | simp), HB9.out⟩
end Go.Proofs.Ytjidkjnlnenmbaa.Val
