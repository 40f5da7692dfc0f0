/- The walk of the law FnColumnsOk. -/
import Derived.Test.YtlkdcijacjdneaaDrawR3
import Derived.Test.YtlkdcijacjdneaaAlive
import Derived.ProofKit
namespace Go.Proofs.Ytlkdcijacjdneaa.Val
open Go.RowKit
set_option linter.unusedVariables false
theorem news_fl {W : World} {g : Nat} {xs : List Value} (h : Fl W g 0 (some ⟨g, 0, none⟩) xs) : ∀ j u, xs[j]? = some u → W.cell? ((⟨g, 0, none⟩ : Addr).add j) = some u := by
  intro j u hj
  obtain ⟨hjl, rfl⟩ := List.getElem?_eq_some_iff.1 hj
  have ha : (⟨g, 0, none⟩ : Addr).add j = ⟨g, j, none⟩ := by unfold Addr.add; split <;> simp_all
  rw [ha]
  have := h.c j hjl
  rwa [Nat.zero_add] at this
theorem ones_c (cs : List CT) : ∀ u ∈ flatC cs, u.oneCell' = true := by
  intro u hu
  obtain ⟨c, _, hc⟩ := List.mem_flatMap.1 hu
  simp at hc
  rcases hc with rfl | rfl <;> rfl
theorem ones_v (vs : List VT) : ∀ u ∈ flatV vs, u.oneCell' = true := by
  intro u hu
  obtain ⟨c, _, hc⟩ := List.mem_flatMap.1 hu
  simp at hc
  rcases hc with rfl | rfl | rfl <;> rfl
theorem colB_take (cs : List CT) (k : Nat) (h : colB cs = true) : colB (cs.take k) = true := by
  simp only [colB, Bool.and_eq_true, decide_eq_true_eq, List.all_eq_true] at h ⊢
  refine ⟨by simp; omega, fun c hc => h.2 c (List.mem_of_mem_take hc)⟩
set_option maxHeartbeats 2000000 in
theorem walk_FnColumnsOk (a : Option Addr) (len cap : Nat) (zs : List Int) (w : World) (h : IsRow .u8 w a len cap zs) :
    Calls Try.prog 3 #[.slice a len cap] w fun e w' => e = .returned (.bool true) ∧ Below w.heap.size w w' := by
  by_cases hl : 1048576 < len
  · clear h
    go_enter Try.func3, Try.ntmps3
    go_wp2
    go_ret
    exact ⟨rfl, Below.refl _ _⟩
  · have HI := Lib.hid h
    clear h
    obtain ⟨i0, hi, iz0, iz1, iz2⟩ := info_parts infoC
    go_enter Try.func3, Try.ntmps3
    go_wp2_with (go_at_call 16; refine (drawColumnsOk _ _ _ zs _ HI.out).mono ?_; rintro e wd ⟨cs, g, c, rfl, hcs, hbd⟩; have HB := Lib.hid hbd; have HC := Lib.hid hcs; clear hbd hcs)
    have hc6 := HC.out.2.1
    have hc0 := HC.out.1
    have hcc := HC.out.2.2.1
    have hcm := HC.out.2.2.2.1
    have CI := Lib.hid (fun W h => columnsOkI (some ⟨g, 0, none⟩) g 0 c cs W h (by omega))
    have CS := Lib.hid (fun W h => columnsOkS (some ⟨g, 0, none⟩) g 0 c cs W h (by omega))
    have CN := Lib.hid (fun W A g c (h : Fl W g 0 A (flatC [])) => columnsOkI A g 0 c [] W h (by simp))
    have CT := fun k => Lib.hid (fun W A g c (h : Fl W g 0 A (flatC (cs.take k))) => columnsOkI A g 0 c (cs.take k) W h (by simp; omega))
    have hcn : colB [] = true := by decide
    rw [hcn] at CN
    simp only [List.length_nil] at CN
    have HF := Lib.hid HC.out.2.2.2.2
    have FN : Hid (∀ (W : World) (A : Option Addr), Fl W 0 0 A (flatC [])) := fun W A => ⟨fun h => absurd h (by simp [flatC]), fun j h => absurd h (by simp [flatC])⟩
    have HBs := HB.out.size
    rcases hB : colB cs with _ | _
    · rw [hB] at CI CS
      clear hB CT hcn
      go_wp2_with (first
        | (go_at_call 17; (with_reducible refine (CI.out _ HF.out).mono ?_); rintro e w1 ⟨rfl, rfl⟩)
        | (go_at_call 18; (with_reducible refine (CS.out _ HF.out).mono ?_); rintro e w1 ⟨rfl, rfl⟩))
      go_loopw [5] (fun kx wr => kx = .int .i64 0 ∧ Hid (Below w.heap.size w wr)) (fun _ _ => 0)
      case atStart => exact ⟨rfl, HB⟩
      case round =>
        obtain ⟨rfl, HW⟩ := hrel
        go_wp2_with (first
          | (go_at_call 17; (with_reducible refine (CN.out _ _ 0 _ (FN.out _ _)).mono ?_); rintro e w1 ⟨rfl, rfl⟩)
          | (go_at_call 19; (with_reducible refine (alive _).mono ?_); rintro e w2 ⟨rfl, hb2⟩; have HB2 := Lib.hid ((HW.out.alloc HW.out.size _).trans (hb2.mono (by have := HW.out.size; simp; omega))); clear hb2))
        all_goals (go_ret; exact ⟨retB (by first | rfl | simp), HB2.out⟩)
    · have HQ := Lib.hid hB
      rw [hB] at CI CS
      clear hB hcn
      go_wp2_with (first
        | (go_at_call 17; (with_reducible refine (CI.out _ HF.out).mono ?_); rintro e w1 ⟨rfl, rfl⟩)
        | (go_at_call 18; (with_reducible refine (CS.out _ HF.out).mono ?_); rintro e w1 ⟨rfl, rfl⟩))
      go_loopw [5] (fun kx wr => ∃ k : Nat, k ≤ cs.length ∧ kx = .int .i64 k ∧ Hid (Below w.heap.size w wr) ∧ Hid (Fl wr g 0 (some ⟨g, 0, none⟩) (flatC cs))) (fun kx _ => cs.length - (intOf kx).toNat)
      case atStart => exact ⟨0, Nat.zero_le _, rfl, HB, HF⟩
      case round =>
        obtain ⟨k, hk, rfl, HW, HG⟩ := hrel
        by_cases hlt : k < cs.length
        · have CK := Lib.hid (CT k).out
          have hkt : (cs.take k).length = k := by simp; omega
          rw [hkt, colB_take cs k HQ.out] at CK
          have hk6 : k ≤ 6 := by omega
          have i0' : (0 : Int) ≤ (k : Int) := by omega
          have i1' : (k : Int) ≤ (c : Int) := by omega
          have hWs := HW.out.size
          have hgl : g < wr.heap.size := HG.out.lt (by rw [flatC_len]; omega)
          go_wp2_with (first
            | (at_builtin; refine wpList_append_own _ rfl (.tmp 26) (.tmp 29) 23 rfl wr.heap.size 36 i0 (.agg #[.int .i64 0, .bool false]) 2 16 Try.underlying23 hi iz0 iz1 iz2 rfl (by decide) (.slice (some ⟨wr.heap.size, 0, none⟩) 0 0) 0 [] rfl (own_empty3 36 2 rfl (Nat.le_refl _)) ⟨g, 0, none⟩ k c (flatC (cs.take k)) rfl (by rw [flatC_len, hkt]) (news_fl ((HG.out.alloc _).take (flatC_take cs k))) (ones_c _) (by unfold maxLen; omega) (by omega) (by simp) ?_; intro v2 w2 hown2 hgr2 _; rw [Nat.zero_add, List.nil_append] at hown2; obtain ⟨g2, A2, c2, rfl, hf2, -, -, -, -⟩ := fl_of_own hown2; have HF2 := Lib.hid hf2; have HB2 := Lib.hid (Below.grown (HW.out.alloc hWs _) hgr2 (by simp; omega) (by intro b hb; simp [Value.ownBlock] at hb; omega)); have HG2 := Lib.hid ((HG.out.alloc (.cells #[] 36)).keep fun hg j => World.cell?_of_block (hgr2.block g hg (by simp [Value.ownBlock]; omega))); clear hown2 hgr2 hf2)
            | (go_at_call 17; (with_reducible refine (CK.out _ _ _ _ HF2.out).mono ?_); rintro e w1 ⟨rfl, rfl⟩))
          exact ⟨⟨k + 1, by omega, by go_num, HB2, HG2⟩, by simp [intOf]; omega⟩
        · go_wp2_with (first
          | (go_at_call 17; (with_reducible refine (CN.out _ _ 0 _ (FN.out _ _)).mono ?_); rintro e w1 ⟨rfl, rfl⟩)
          | (go_at_call 19; (with_reducible refine (alive _).mono ?_); rintro e w2 ⟨rfl, hb2⟩; have HB2 := Lib.hid ((HW.out.alloc HW.out.size _).trans (hb2.mono (by have := HW.out.size; simp; omega))); clear hb2))
          all_goals (go_ret; exact ⟨retB (by first | rfl | simp), HB2.out⟩)
end Go.Proofs.Ytlkdcijacjdneaa.Val
