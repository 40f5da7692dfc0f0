/- Lists of rows that are the same, that are all rows, that are joined (the laws' helpers). -/
import Derived.Test.YtjidkjnlnenmbaaRLess
import Derived.Test.YtjidkjnlnenmbaaBag
namespace Go.Proofs.Ytjidkjnlnenmbaa.Val
open Go.RowKit
set_option linter.unusedVariables false
set_option maxRecDepth 8000
theorem sameRowL (A B : Option Addr) (g g' o o' cA cB : Nat) (l m : List VT) (w : World) (hA : Fl w g o A (flatV l)) (hB : Fl w g' o' B (flatV m)) (hl : l.length ≤ 2000000) (hm : m.length ≤ 2000000) :
    Calls Try.prog 52 #[.slice A l.length cA, .slice B m.length cB] w fun e w' => e = .returned (.bool (decide (l = m))) ∧ Below w.heap.size w w' := by
  refine (sameRow A B g g' o o' cA cB l m w hA hB hl hm).mono ?_
  rintro e w' ⟨E, ⟨rfl, h⟩, hb⟩
  refine ⟨?_, hb⟩
  have : E = decide (l = m) := by rw [Bool.eq_iff_iff, h, decide_eq_true_iff]
  rw [this]
theorem take_step {al bs : List RT} {k : Nat} (h : k < al.length) (h' : k < bs.length) : (al.take k = bs.take k → al[k] = bs[k] → al.take (k + 1) = bs.take (k + 1)) ∧ (al[k] ≠ bs[k] → al ≠ bs) :=
  ⟨fun ht e => by rw [List.take_succ_eq_append_getElem h, List.take_succ_eq_append_getElem h', ht, e], fun hn e => hn (by subst e; rfl)⟩
set_option maxHeartbeats 1000000 in
theorem sameRowsL (A B : Option Addr) (g g' o o' cA cB : Nat) (al bs : List RT) (w : World) (hA : Rws w g o A al) (hB : Rws w g' o' B bs) (hok : Ok2 al) (hok2 : Ok2 bs) :
    Calls Try.prog 46 #[.slice A al.length cA, .slice B bs.length cB] w fun e w' => e = .returned (.bool (decide (al = bs))) ∧ Below w.heap.size w w' := by
  have HA := Lib.hid hA
  have HB := Lib.hid hB
  have HK := Lib.hid hok
  have HK2 := Lib.hid hok2
  have hl := hok.1
  clear hA hB hok hok2
  by_cases hlen : al.length = bs.length
  · have e0 : ((al.length : Int) != bs.length) = false := by simp; omega
    have HLN := Lib.hid hlen
    clear hlen
    go_enter Try.func46, Try.ntmps46
    go_wp2
    go_loopw [5] (fun ix wr => ∃ (k : Nat), k ≤ al.length ∧ ix = .int .i64 k ∧ Hid (al.take k = bs.take k) ∧ Hid (Below w.heap.size w wr)) (fun ix _ => al.length - (intOf ix).toNat)
    case atStart => exact ⟨0, by omega, rfl, rfl, Below.refl _ _⟩
    case round =>
      obtain ⟨k, hk, rfl, HT, HW⟩ := hrel
      by_cases hlt : k < al.length
      · have hlt2 : k < bs.length := by have := HLN.out; omega
        obtain ⟨rfl, hg, c1, g1, o1, hc1, hf1⟩ := (HA.out.below HW.out).at k hlt
        obtain ⟨rfl, hg', c2, g2, o2, hc2, hf2⟩ := (HB.out.below HW.out).at k hlt2
        have HF1 := Lib.hid hf1
        have HF2 := Lib.hid hf2
        have hlr := (HK.out.at k hlt).1
        have hlr2 := (HK2.out.at k hlt2).1
        have HS := Lib.hid (take_step hlt hlt2)
        obtain ⟨K, hK⟩ : ∃ K, al[k] = K := ⟨_, rfl⟩
        obtain ⟨M, hM⟩ : ∃ K, bs[k]'hlt2 = K := ⟨_, rfl⟩
        rw [hK] at hc1 HF1 hlr
        rw [hM] at hc2 HF2 hlr2
        rw [hK, hM] at HS
        clear hK hM hf1 hf2
        have CE := Lib.hid (fun W hA hB => sameRowL (some ⟨g1, o1, none⟩) (some ⟨g2, o2, none⟩) g1 g2 o1 o2 c1 c2 K M W hA hB hlr hlr2)
        obtain ⟨kl, hkl⟩ : ∃ n, K.length = n := ⟨_, rfl⟩
        obtain ⟨ml, hml⟩ : ∃ n, M.length = n := ⟨_, rfl⟩
        rw [hkl] at hc1 CE
        rw [hml] at hc2 CE
        clear hkl hml
        have i0' : (0 : Int) ≤ (k : Int) := by omega
        have i1' : (k : Int) < (al.length : Int) := by omega
        have i2' : (k : Int) < (bs.length : Int) := by omega
        by_cases hq : K = M
        · rw [decide_eq_true hq] at CE
          have HN : Hid (al.take (k + 1) = bs.take (k + 1)) := HS.out.1 HT.out hq
          clear HS hq
          go_wp2
          go_region_with (go_at_call 52; (with_reducible refine (CE.out _ (by repeat (with_reducible first | exact HF1.out | apply Fl.drew)) (by repeat (with_reducible first | exact HF2.out | apply Fl.drew))).mono ?_); rintro e w1 ⟨rfl, hb1⟩; have HW1 := Lib.hid (HW.out.drew.trans (hb1.mono HW.out.size)); clear hb1 HW)
          all_goals go_wp2
          all_goals exact ⟨⟨k + 1, by omega, by go_num, HN, HW1⟩, by simp [intOf]; omega⟩
        · rw [decide_eq_false hq] at CE
          have HN : Hid (al ≠ bs) := HS.out.2 hq
          clear HS hq
          go_wp2
          go_region_with (go_at_call 52; (with_reducible refine (CE.out _ (by repeat (with_reducible first | exact HF1.out | apply Fl.drew)) (by repeat (with_reducible first | exact HF2.out | apply Fl.drew))).mono ?_); rintro e w1 ⟨rfl, hb1⟩; have HW1 := Lib.hid (HW.out.drew.trans (hb1.mono HW.out.size)); clear hb1 HW)
          all_goals go_wp2
          all_goals (go_ret; exact ⟨retB (decide_eq_false HN.out).symm, HW1.out⟩)
      · obtain rfl : k = al.length := by omega
        have HE : Hid (al = bs) := by
          show _ = _
          have h1 := HT.out
          rwa [List.take_length, HLN.out, List.take_length] at h1
        go_wp2
        go_ret
        exact ⟨retB (decide_eq_true HE.out).symm, HW.out⟩
  · have e0 : ((al.length : Int) != bs.length) = true := by simp; omega
    have HN : Hid (al ≠ bs) := fun e => hlen (by rw [e])
    clear hlen
    go_enter Try.func46, Try.ntmps46
    go_wp2
    go_ret
    exact ⟨retB (decide_eq_false HN.out).symm, Below.refl _ _⟩
theorem chooseLt {α : Type} [Inhabited α] {n : Nat} {p : Nat → α → Prop} (h : ∀ i, i < n → ∃ x, p i x) : ∃ f : Nat → α, ∀ i, i < n → p i (f i) := by
  classical
  refine ⟨fun i => if h' : i < n then (h i h').choose else default, fun i hi => ?_⟩
  simp only [dif_pos hi]
  exact (h i hi).choose_spec
/-- The headers of rows. -/
theorem Rws.heads {w : World} {g o : Nat} {A : Option Addr} {ls : List RT} (h : Rws w g o A ls) : ∃ D : List Value, GoneD w D ls ∧ (∀ j u, D[j]? = some u → w.cell? ((⟨g, o, none⟩ : Addr).add j) = some u) ∧ (∀ u ∈ D, u.oneCell' = true) := by
  obtain ⟨f, hf⟩ := chooseLt (n := ls.length) (p := fun j (x : Nat × Nat × Nat) => ∃ hj : j < ls.length, w.cell? ⟨g, o + j, none⟩ = some (.slice (some ⟨x.1, x.2.1, none⟩) ls[j].length x.2.2) ∧ Fl w x.1 x.2.1 (some ⟨x.1, x.2.1, none⟩) (flatV ls[j])) (fun j hj => by
    obtain ⟨c', g', o', h1, h2⟩ := h.hd j hj
    exact ⟨(g', o', c'), hj, h1, h2⟩)
  refine ⟨(List.range ls.length).map (fun j => .slice (some ⟨(f j).1, (f j).2.1, none⟩) (ls.getD j []).length (f j).2.2), ⟨by simp, fun j hj hj2 => ?_⟩, fun j u hu => ?_, fun u hu => ?_⟩
  · obtain ⟨_, h1, h2⟩ := hf j hj
    refine ⟨(f j).2.2, (f j).1, (f j).2.1, ?_, h2⟩
    simp [List.getElem?_eq_getElem hj]
  · rw [List.getElem?_map] at hu
    by_cases hj : j < ls.length
    · obtain ⟨_, h1, h2⟩ := hf j hj
      rw [List.getElem?_range hj] at hu
      simp [List.getElem?_eq_getElem hj] at hu
      rw [addNone, h1, ← hu]
    · rw [List.getElem?_eq_none (by simp; omega)] at hu
      simp at hu
  · obtain ⟨j, -, rfl⟩ := List.mem_map.1 hu
    rfl
theorem gone_app {w : World} {D E : List Value} {al bs : List RT} (h : GoneD w D al) (k : GoneD w E bs) : GoneD w (D ++ E) (al ++ bs) := by
  refine ⟨by rw [List.length_append, List.length_append, h.1, k.1], fun j hj hj2 => ?_⟩
  by_cases hlt : j < al.length
  · obtain ⟨c', g', o', h1, h2⟩ := h.2 j hlt (by rw [h.1]; exact hlt)
    exact ⟨c', g', o', by rw [List.getElem_append_left (by rw [h.1]; exact hlt), List.getElem_append_left hlt, h1], by rw [List.getElem_append_left hlt]; exact h2⟩
  · have hb : j - al.length < bs.length := by simp at hj; omega
    obtain ⟨c', g', o', h1, h2⟩ := k.2 (j - al.length) hb (by rw [k.1]; exact hb)
    refine ⟨c', g', o', ?_, ?_⟩
    · rw [List.getElem_append_right (by rw [h.1]; omega), List.getElem_append_right (by omega)]
      simp only [h.1]
      exact h1
    · rw [List.getElem_append_right (by omega)]; exact h2
/-- Rows laid behind each other in headers of one's own. -/
def RetRwsL (ls : List RT) (w : World) (e : Ending) (w' : World) : Prop := ∃ (g c : Nat), e = .returned (.slice (some ⟨g, 0, none⟩) ls.length c) ∧ Rws w' g 0 (some ⟨g, 0, none⟩) ls ∧ ls.length ≤ c ∧ c ≤ maxLen ∧ Below w.heap.size w w'
theorem news_keep {w W : World} {g o : Nat} {D : List Value} (h : ∀ j u, D[j]? = some u → w.cell? ((⟨g, o, none⟩ : Addr).add j) = some u) (hb : Below w.heap.size w W) : ∀ j u, D[j]? = some u → W.cell? ((⟨g, o, none⟩ : Addr).add j) = some u := by
  intro j u hu
  have h1 := h j u hu
  rw [addNone] at h1 ⊢
  exact (hb.cell (p := ⟨g, o + j, none⟩) (World.block_lt_of_cell? w _ h1)).trans h1
theorem joinedL (g g' o o' cA cB : Nat) (al bs : List RT) (w : World) (hA : Rws w g o (some ⟨g, o, none⟩) al) (hB : Rws w g' o' (some ⟨g', o', none⟩) bs) (hl : al.length ≤ 2000000) (hl2 : bs.length ≤ 2000000) :
    Calls Try.prog 49 #[.slice (some ⟨g, o, none⟩) al.length cA, .slice (some ⟨g', o', none⟩) bs.length cB] w (RetRwsL (al ++ bs) w) := by
  obtain ⟨i0, hi, iz0, iz1, iz2⟩ := info_parts infoVS
  obtain ⟨D, hD, hDc, hD1⟩ := hA.heads
  obtain ⟨E, hE, hEc, hE1⟩ := hB.heads
  have hdl := hD.1
  have hel := hE.1
  have GD := Lib.hid (gone_app hD hE)
  have HDC := Lib.hid hDc
  have HEC := Lib.hid hEc
  have HD1 := Lib.hid hD1
  have HE1 := Lib.hid hE1
  obtain ⟨n, hn⟩ : ∃ n, al.length = n := ⟨_, rfl⟩
  obtain ⟨m, hm⟩ : ∃ n, bs.length = n := ⟨_, rfl⟩
  have HLN : Hid ((al ++ bs).length = n + m) := by show _ = _; rw [List.length_append, hn, hm]
  rw [hn] at hdl hl ⊢
  rw [hm] at hel hl2 ⊢
  have HDL := Lib.hid hdl
  have HEL := Lib.hid hel
  clear hA hB hDc hEc hD1 hE1 hD hE hn hm hdl hel
  have HB0 := Lib.hid ((Below.refl w.heap.size w).alloc (Nat.le_refl _) (.cells #[] 53))
  have OW := Lib.hid (own_empty3 (w := w) (B := w.heap.size) 53 1 rfl (Nat.le_refl _))
  go_enter Try.func49, Try.ntmps49
  go_wp2_with (first
    | (at_builtin; refine wpList_append_block _ rfl (.tmp 5) (.tmp 6) 28 rfl w.heap.size 53 i0 (.slice none 0 0) 1 24 Try.underlying28 hi iz0 iz1 iz2 rfl (by decide) w.heap.size 0 0 [] rfl OW.out ⟨g, o, none⟩ n cA D rfl (by rw [HDL.out]; omega) (news_keep HDC.out HB0.out) HD1.out (by unfold maxLen; omega) (by omega) (by first | omega | (simp; done) | (simp; omega)) ?_; intro g1 c1 w1 hown hgr hgg; (try simp only [Nat.zero_add, List.nil_append] at hown); have OW1 := Lib.hid hown; have HB1 := Lib.hid (Below.grown HB0.out hgr (by simp) (fun k hk => by obtain rfl := Option.some.inj hk; exact Nat.le_refl _)); have hz1 := HB1.out.size; clear hown hgr hgg)
    | (at_builtin; refine wpList_append_block _ rfl (.tmp 7) (.tmp 8) 28 rfl w.heap.size 53 i0 (.slice none 0 0) 1 24 Try.underlying28 hi iz0 iz1 iz2 rfl (by decide) g1 n c1 D rfl OW1.out ⟨g', o', none⟩ m cB E rfl (by rw [HEL.out]; omega) (news_keep HEC.out HB1.out) HE1.out (by unfold maxLen; omega) (by omega) (by omega) ?_; intro g2 c2 w2 hown hgr hgg; have OW2 := Lib.hid hown; have HB2 := Lib.hid (Below.grown HB1.out hgr hz1 (fun k hk => by obtain rfl := Option.some.inj hk; exact (OW1.out.lt _ rfl).1)); clear hown hgr hgg))
  go_ret
  have h1 := OW2.out
  rw [← HLN.out] at h1
  exact ⟨g2, c2, by rw [HLN.out]; rfl, gone_rws GD.out h1 HB2.out, (own_caps h1).1, (own_caps h1).2, HB2.out⟩
end Go.Proofs.Ytjidkjnlnenmbaa.Val
