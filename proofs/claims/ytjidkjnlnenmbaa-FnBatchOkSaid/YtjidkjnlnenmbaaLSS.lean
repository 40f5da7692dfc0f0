/- Lists of lists of values: measured, copied, compared (the exact laws' helpers); arguments that are such. -/
import Derived.Test.YtjidkjnlnenmbaaBag
import Derived.Test.YtjidkjnlnenmbaaOpenS
import Derived.Deep.Slices
namespace Go.Proofs.Ytjidkjnlnenmbaa.Val
open Go.ChangeShapes Go.WideShapes Go.ChangeAt Go.RowKit Go.Deep
set_option linter.unusedVariables false
set_option maxRecDepth 8000
/-- The rows of an argument. -/
structure RwsA (w : World) (g o : Nat) (A : Option Addr) (ls : List RT) : Prop where
  ad : 0 < ls.length → A = some ⟨g, o, none⟩
  hd : ∀ j (h : j < ls.length), ∃ (A' : Option Addr) (c' g' o' : Nat), w.cell? ⟨g, o + j, none⟩ = some (.slice A' ls[j].length c') ∧ Fl w g' o' A' (flatV ls[j])
theorem RwsA.below {w w' : World} {g o : Nat} {A : Option Addr} {ls : List RT} (h : RwsA w g o A ls) (hb : Below w.heap.size w w') : RwsA w' g o A ls := by
  refine ⟨h.ad, fun j hj => ?_⟩
  obtain ⟨A', c', g', o', h1, h2⟩ := h.hd j hj
  exact ⟨A', c', g', o', (hb.cell (p := ⟨g, o + j, none⟩) (World.block_lt_of_cell? w ⟨g, o + j, none⟩ h1)).trans h1, h2.below hb⟩
theorem RwsA.at {w : World} {g o : Nat} {A : Option Addr} {ls : List RT} (h : RwsA w g o A ls) (j : Nat) (hj : j < ls.length) : A = some ⟨g, o, none⟩ ∧ g < w.heap.size ∧ ∃ (A' : Option Addr) (c' g' o' : Nat), w.cell? ⟨g, o + j, none⟩ = some (.slice A' ls[j].length c') ∧ Fl w g' o' A' (flatV ls[j]) := by
  obtain ⟨A', c', g', o', h1, h2⟩ := h.hd j hj
  exact ⟨h.ad (by omega), World.block_lt_of_cell? w ⟨g, o + j, none⟩ h1, A', c', g', o', h1, h2⟩
def Fit2 (ls : List RT) : Prop := ∀ r ∈ ls, r.length ≤ maxLen ∧ Short r
theorem total_snoc (ls : List RT) (k : Nat) (h : k < ls.length) : total (ls.take (k + 1)) = total (ls.take k) + ls[k].length := by
  rw [total, List.take_succ_eq_append_getElem h, List.map_append, List.sum_append]; simp [total]
theorem total_at (ls : List RT) (r : RT) (h : r ∈ ls) : r.length ≤ total ls := by
  induction ls with
  | nil => simp at h
  | cons x ls ih =>
    simp only [total, List.map_cons, List.sum_cons] at ih ⊢
    rcases List.mem_cons.1 h with rfl | h
    · omega
    · have := ih h; omega
/-- What was measured is not too much. -/
theorem Fit2.ok {ls : List RT} (h : Fit2 ls) (hl : ls.length ≤ 1048576) (ht : total ls ≤ 1048576) : Ok2 ls := ⟨by omega, fun r hr => ⟨by have := total_at ls r hr; omega, (h r hr).2⟩⟩
theorem open_valss {H : Type} {enc : TypeId × Value → H} {W : World} {v : Value} {d : DataW H} {p : List MemPlace} {A0 : Option Addr} {l0 c0 : Nat} (hv : v = .slice A0 l0 c0) (h : DataW.Trod enc Try.prog W 0 (fun _ => true) true 22 v d p) :
    ∃ (A : Option Addr) (cap g o : Nat) (ls : List RT), v = .slice A ls.length cap ∧ ls.length ≤ maxLen ∧ Fit2 ls ∧ RwsA W g o A ls := by
  obtain ⟨fuel, hf⟩ := h
  rcases open_slice1 Try.underlying22 (by kernel_rfl) hf with ⟨hcs, _⟩ | ⟨a, len, cap, m, n, V, D, Pl, hcs, _, hl, hm, hmm, _, hx⟩
  · subst hv
    simp [Value.cells] at hcs
    obtain ⟨rfl, rfl, rfl⟩ := hcs
    exact ⟨none, 0, 0, 0, [], rfl, Nat.zero_le _, fun r hr => absurd hr (by simp), ⟨fun hp => absurd hp (by simp), fun j hj => absurd hj (by simp)⟩⟩
  · subst hv
    simp [Value.cells] at hcs
    obtain ⟨rfl, rfl, rfl⟩ := hcs
    simp only [if_true] at hmm
    subst hmm
    obtain ⟨b, off, sp⟩ := a
    have ex : ∀ i, i < l0 → ∃ q : RT, (q.length ≤ maxLen ∧ Short q) ∧ ∃ (A' : Option Addr) (c' g' o' : Nat), W.cell? ((⟨b, off, sp⟩ : Addr).add i) = some (.slice A' q.length c') ∧ Fl W g' o' A' (flatV q) := by
      intro i hi
      obtain ⟨h1, h2⟩ := hx i (by omega)
      obtain ⟨A1, l1, c1, hV⟩ : ∃ A1 l1 c1, V i = .slice A1 l1 c1 := by
        rcases open_slice Try.underlying85 h2 with ⟨hcs, _⟩ | ⟨a, len, cap, m, n, D, Pl, hcs, _⟩
        · exact ⟨none, 0, 0, by simpa using hcs⟩
        · exact ⟨some a, len, cap, by simpa using hcs⟩
      have h3 : DataW.Trod enc Try.prog W 0 (fun _ => true) true 85 (V i) (D i) (Pl i) := ⟨n, by rw [hV] at h2 ⊢; exact h2⟩
      obtain ⟨A', c', g', o', q, hq, hq1, hq2, hq3⟩ := open_vals hV h3
      exact ⟨q, ⟨hq1, hq2⟩, A', c', g', o', by rw [h1, hq], hq3⟩
    obtain ⟨q, hq⟩ := choose_lt ex
    refine ⟨some ⟨b, off, sp⟩, m, b, off, (List.range l0).map q, by simp, by simp; omega, ?_, ?_, ?_⟩
    · intro r hr
      simp at hr
      obtain ⟨i, hi, rfl⟩ := hr
      exact (hq i hi).1
    · intro h0
      simp at h0
      obtain ⟨-, A', c', g', o', hc, -⟩ := hq 0 h0
      have := spot_none rfl hc
      rw [this]
    · intro j hj
      simp at hj
      obtain ⟨-, A', c', g', o', hc, hff⟩ := hq j hj
      obtain ⟨-, A2, c2, g2, o2, hc2, -⟩ := hq 0 (by omega)
      have := spot_none rfl hc2
      subst this
      rw [add_none] at hc
      simp only [List.getElem_map, List.getElem_range]
      exact ⟨A', c', g', o', hc, hff⟩
theorem szValueS2 (A : Option Addr) (g o cap : Nat) (vs : List VT) (left : Int) (w : World) (h : Fl w g o A (flatV vs)) (h0 : 0 ≤ left) (h1 : left ≤ 1048576) (hn : vs.length ≤ maxLen) (hs : Short vs) : Calls Try.prog 66 #[.slice A vs.length cap, .int .i64 left] w fun e w' => ∃ r : Int, e = .returned (.int .i64 r) ∧ r ≤ left ∧ (0 ≤ r → r + (vs.length : Int) ≤ left) ∧ Below w.heap.size w w' := by
  have H := Lib.hid h
  have HSH := Lib.hid hs
  clear h hs
  unfold maxLen at hn
  go_enter Try.func66, Try.ntmps66
  go_wp2
  · go_ret
    exact ⟨-1, rfl, by omega, fun h => absurd h (by omega), Below.refl _ _⟩
  · go_loopw [1, 5] (fun lx ix wr => ∃ (k : Nat) (r : Int), k ≤ vs.length ∧ ix = .int .i64 k ∧ lx = .int .i64 r ∧ 0 ≤ r ∧ r + (vs.length : Int) ≤ left ∧ Hid (Below w.heap.size w wr)) (fun _ ix _ => vs.length - (intOf ix).toNat)
    case atStart => exact ⟨0, _, Nat.zero_le _, rfl, rfl, by omega, by omega, Below.refl _ _⟩
    case round =>
      obtain ⟨k, r, hk, rfl, rfl, hr0, hr1, HW⟩ := hrel
      by_cases hlt : k < vs.length
      · obtain ⟨rfl, -, -, -, -⟩ := H.out.v k hlt
        obtain ⟨-, hg, c0, c1, c2⟩ := (H.out.below HW.out).v k hlt
        have hsz := HSH.out k hlt
        obtain ⟨K, hK⟩ : ∃ K, vs[k] = K := ⟨_, rfl⟩
        rw [hK] at c0 c1 c2 hsz
        obtain ⟨x, n, s⟩ := K
        simp only at c0 c1 c2 hsz
        clear hK
        have C := Lib.hid (fun w => szAny x n r s w hr0 (by omega) hsz)
        have i0' : (0 : Int) ≤ (k : Int) := by omega
        have i1' : (k : Int) < (vs.length : Int) := by omega
        go_wp2_with (go_at_call 105; (with_reducible refine (C.out _).mono ?_); rintro e w1 ⟨r2, rfl, hr2, hb1⟩; have HW1 := Lib.hid (HW.out.trans (hb1.mono HW.out.size)); clear hb1 HW)
        · go_ret
          exact ⟨-1, rfl, by omega, fun h => absurd h (by omega), HW1.out⟩
        · go_round
          case rel => exact ⟨k + 1, r2, by omega, by go_num, rfl, by omega, by omega, HW1⟩
          case measure => simp [intOf]; omega
      · obtain rfl : k = vs.length := by omega
        go_wp2
        go_ret
        exact ⟨r, rfl, by omega, fun _ => by omega, HW.out⟩
theorem szValueSS (A : Option Addr) (g o cap : Nat) (ls : List RT) (left : Int) (w : World) (h : RwsA w g o A ls) (h0 : 0 ≤ left) (h1 : left ≤ 1048576) (hn : ls.length ≤ maxLen) (hs : Fit2 ls) : Calls Try.prog 24 #[.slice A ls.length cap, .int .i64 left] w fun e w' => ∃ r : Int, e = .returned (.int .i64 r) ∧ r ≤ left ∧ (0 ≤ r → r + (ls.length : Int) + (total ls : Int) ≤ left) ∧ Below w.heap.size w w' := by
  have H := Lib.hid h
  have HSH := Lib.hid hs
  clear h hs
  unfold maxLen at hn
  go_enter Try.func24, Try.ntmps24
  go_wp2
  · go_ret
    exact ⟨-1, rfl, by omega, fun h => absurd h (by omega), Below.refl _ _⟩
  · go_loopw [1, 5] (fun lx ix wr => ∃ (k : Nat) (r : Int) (t : Nat), k ≤ ls.length ∧ ix = .int .i64 k ∧ lx = .int .i64 r ∧ 0 ≤ r ∧ r + (ls.length : Int) + (t : Int) ≤ left ∧ Hid (total (ls.take k) = t) ∧ Hid (Below w.heap.size w wr)) (fun _ ix _ => ls.length - (intOf ix).toNat)
    case atStart => exact ⟨0, _, 0, Nat.zero_le _, rfl, rfl, by omega, by omega, rfl, Below.refl _ _⟩
    case round =>
      obtain ⟨k, r, t, hk, rfl, rfl, hr0, hr1, HT, HW⟩ := hrel
      by_cases hlt : k < ls.length
      · obtain ⟨rfl, hg, A', c', g', o', hc, hf⟩ := (H.out.below HW.out).at k hlt
        have HF := Lib.hid hf
        obtain ⟨hrl, hrs⟩ := HSH.out _ (List.getElem_mem hlt)
        have HS := Lib.hid (total_snoc ls k hlt)
        obtain ⟨K, hK⟩ : ∃ K, ls[k] = K := ⟨_, rfl⟩
        rw [hK] at hc HF HS hrl hrs
        clear hK hf
        have C := Lib.hid (fun W hW => szValueS2 A' g' o' c' K r W hW hr0 (by omega) hrl hrs)
        obtain ⟨kl, hkl⟩ : ∃ n, K.length = n := ⟨_, rfl⟩
        rw [hkl] at hc C HS
        clear hkl hrl hrs
        have i0' : (0 : Int) ≤ (k : Int) := by omega
        have i1' : (k : Int) < (ls.length : Int) := by omega
        go_wp2_with (go_at_call 66; (with_reducible refine (C.out _ HF.out).mono ?_); rintro e w1 ⟨r2, rfl, hr2, hr3, hb1⟩; have HW1 := Lib.hid (HW.out.trans (hb1.mono HW.out.size)); clear hb1 HW)
        · go_ret
          exact ⟨-1, rfl, by omega, fun h => absurd h (by omega), HW1.out⟩
        · go_round
          case rel => exact ⟨k + 1, r2, t + kl, by omega, by go_num, rfl, by omega, by have := hr3 (by omega); omega, by show _ = _; rw [HS.out, HT.out], HW1⟩
          case measure => simp [intOf]; omega
      · obtain rfl : k = ls.length := by omega
        have HT2 : total ls = t := by have := HT.out; rwa [List.take_length] at this
        go_wp2
        go_ret
        exact ⟨r, rfl, by omega, fun _ => by omega, HW.out⟩
theorem toValueSO (A : Option Addr) (g0 o cap : Nat) (vs : List VT) (w : World) (h : Fl w g0 o A (flatV vs)) (hl : vs.length ≤ 1048576) : Calls Try.prog 71 #[.slice A vs.length cap] w fun e w' => ∃ (g2 c2 : Nat), e = .returned (.slice (some ⟨g2, 0, none⟩) vs.length c2) ∧ RowO w' w.heap.size (g2, c2, vs) ∧ Below w.heap.size w w' := by
  obtain ⟨i0, hi, hz0, hz1', hz2⟩ := info_parts infoV
  have HA := Lib.hid h
  clear h
  have hfl := flatV_len vs
  go_enter Try.func71, Try.ntmps71
  go_wp2_with (at_make; refine wpList_make_full w rfl _ _ 53 rfl w.heap.size 73 i0 (.agg #[.int .i64 0, .int .i64 0, .string ⟨#[]⟩]) 3 Try.underlying53 hi hz0 hz1' .i64 .i64 vs.length vs.length vs.length rfl rfl rfl rfl (by rw [hz2]; omega) (by unfold maxLen; omega) (Nat.le_refl _) ?_; intro w0 hown hgr)
  have HB0 : Hid (Below w.heap.size w w0) := Below.grown (Below.refl _ _) hgr (Nat.le_refl _) (by intro k hk; cases hk)
  have HC0 : Hid (Fill w0 w.heap.size (flatV vs) 0) := Fill.made hown hfl
  have hsz0 := (hown.lt w.heap.size rfl).2
  clear hown hgr
  go_wp2
  go_loopw [4] (fun ix wr => ∃ k : Nat, k ≤ vs.length ∧ ix = .int .i64 k ∧ w.heap.size < wr.heap.size ∧ Hid (Below w.heap.size w wr) ∧ Hid (Fill wr w.heap.size (flatV vs) (k * 3))) (fun ix _ => vs.length - (intOf ix).toNat)
  case atStart => exact ⟨0, by omega, rfl, hsz0, HB0, HC0⟩
  case round =>
    obtain ⟨k, hk, rfl, hsz, HB, HF⟩ := hrel
    clear HB0 HC0
    by_cases hlt : k < vs.length
    · obtain ⟨rfl, hg, -, -, -⟩ := HA.out.v k hlt
      obtain ⟨-, hg2, c0, c1, c2⟩ := (HA.out.below HB.out).v k hlt
      obtain ⟨u0, u1, u2⟩ := flatV_get vs k hlt
      obtain ⟨K, hK⟩ : ∃ K, vs[k] = K := ⟨_, rfl⟩
      rw [hK] at c0 c1 c2 u0 u1 u2
      obtain ⟨x, n, s⟩ := K
      simp only at c0 c1 c2 u0 u1 u2
      have U0 := Lib.hid u0
      have U1 := Lib.hid u1
      have U2 := Lib.hid u2
      clear hK u0 u1 u2
      have i0' : (0 : Int) ≤ (k : Int) := by omega
      have i1' : (k : Int) < (vs.length : Int) := by omega
      go_wp2_with (go_at_call 110; (with_reducible refine (toValue _ _ _ _).mono ?_); rintro e w1 ⟨rfl, hb1⟩; have HF1 := Lib.hid (Fill.below HF.out hb1); obtain ⟨⟨v0, hv0⟩, hf0, -⟩ := HF1.out (k * 3) (by omega); obtain ⟨⟨v1, hv1⟩, hf1, -⟩ := HF1.out (k * 3 + 1) (by omega); obtain ⟨⟨v2, hv2⟩, hf2, -⟩ := HF1.out (k * 3 + 2) (by omega); have HB1 := Lib.hid (HB.out.trans (hb1.mono HB.out.size)); have hsz1 : w.heap.size < w1.heap.size := Nat.lt_of_lt_of_le hsz hb1.size; clear hb1 HF HB)
      exact ⟨⟨k + 1, by omega, by go_num, (by simp [World.setCell]; exact hsz1), ((HB1.out.setCell (Nat.le_refl _) _).setCell (Nat.le_refl _) _).setCell (Nat.le_refl _) _, by have := ((HF1.out.set U0.out).set U1.out).set U2.out; rwa [show (k + 1) * 3 = k * 3 + 1 + 1 + 1 by omega]⟩, by simp [intOf]; omega⟩
    · obtain rfl : k = vs.length := by omega
      go_wp2
      go_ret
      rw [← hfl] at HF
      exact ⟨w.heap.size, vs.length, rfl, ⟨HF.out.fl, HF.out.fz, Nat.le_refl _, hsz⟩, HB.out⟩
theorem set_snoc {α β : Type} (f : α → β) (T : List α) (zs : List β) (t : α) (k : Nat) (hk : T.length = k) (hz : k < zs.length) : (T.map f ++ zs.drop k).set k (f t) = (T ++ [t]).map f ++ zs.drop (k + 1) := by
  subst hk
  rw [List.drop_eq_getElem_cons hz, List.set_append_right _ _ (by simp), show T.length - (T.map f).length = 0 by simp, List.set_cons_zero, List.map_append, List.append_assoc]
  rfl
theorem toValueSS (A : Option Addr) (g0 o cap : Nat) (ls : List RT) (w : World) (h : RwsA w g0 o A ls) (hl : ls.length ≤ 1048576) (ht : total ls ≤ 1048576) : Calls Try.prog 27 #[.slice A ls.length cap] w (RetBag ls w) := by
  obtain ⟨i0, hi, hz0, hz1', hz2⟩ := info_parts infoVS
  have HA := Lib.hid h
  clear h
  have HT := Lib.hid ht
  clear ht
  go_enter Try.func27, Try.ntmps27
  go_wp2_with (at_make; refine wpList_make_full w rfl _ _ 28 rfl w.heap.size 53 i0 (.slice none 0 0) 1 Try.underlying28 hi hz0 hz1' .i64 .i64 ls.length ls.length ls.length rfl rfl rfl rfl (by rw [hz2]; omega) (by unfold maxLen; omega) (Nat.le_refl _) ?_; intro w0 hown hgr)
  have HB0 : Hid (Below w.heap.size w w0) := Below.grown (Below.refl _ _) hgr (Nat.le_refl _) (by intro k hk; cases hk)
  obtain ⟨zs, hzs⟩ : ∃ zs, w0.ownsRow w.heap.size 53 1 (.slice (some ⟨w.heap.size, 0, none⟩) ls.length ls.length) ls.length zs := ⟨_, hown⟩
  have HO0 := Lib.hid hzs
  have hzl : zs.length = ls.length := by rw [hzs.1]; omega
  have HZL := Lib.hid hzl
  have hsz0 := (hown.lt w.heap.size rfl).2
  clear hown hgr hzs hzl
  go_wp2
  go_loopw [4] (fun ix wr => ∃ (k : Nat) (T : List TT), k ≤ ls.length ∧ ix = .int .i64 k ∧ Hid (T.length = k) ∧ Hid (T.map (fun t => t.2.2) = ls.take k) ∧ Hid (wr.ownsRow w.heap.size 53 1 (.slice (some ⟨w.heap.size, 0, none⟩) ls.length ls.length) ls.length (T.map hdr ++ zs.drop k)) ∧ Hid (∀ t ∈ T, RowO wr (w.heap.size + 1) t) ∧ Hid ((T.map fun t => t.1).Nodup) ∧ w.heap.size < wr.heap.size ∧ Hid (Below w.heap.size w wr)) (fun ix _ => ls.length - (intOf ix).toNat)
  case atStart => exact ⟨0, [], by omega, rfl, rfl, rfl, HO0, fun t ht => absurd ht (by simp), List.nodup_nil, hsz0, HB0⟩
  case round =>
    obtain ⟨k, T, hk, rfl, HTL, HE, HO, HR, HN, hsz, HB⟩ := hrel
    clear HB0 HO0
    by_cases hlt : k < ls.length
    · obtain ⟨rfl, hg, A', c', g', o', hc, hf⟩ := (HA.out.below HB.out).at k hlt
      have HF := Lib.hid hf
      have hrl : ls[k].length ≤ 1048576 := by have := total_at ls _ (List.getElem_mem hlt); have := HT.out; omega
      have HS := Lib.hid (List.take_succ_eq_append_getElem hlt)
      obtain ⟨K, hK⟩ : ∃ K, ls[k] = K := ⟨_, rfl⟩
      rw [hK] at hc HF hrl HS
      clear hK hf
      have C := Lib.hid (fun W hW => toValueSO A' g' o' c' K W hW hrl)
      obtain ⟨kl, hkl⟩ : ∃ n, K.length = n := ⟨_, rfl⟩
      rw [hkl] at hc C
      have HKL := Lib.hid hkl
      clear hkl hrl
      have i0' : (0 : Int) ≤ (k : Int) := by omega
      have i1' : (k : Int) < (ls.length : Int) := by omega
      go_wp2_with (go_at_call 71; (with_reducible refine (C.out _ HF.out).mono ?_); rintro e w1 ⟨g2, c2, rfl, hr1, hb1⟩; have HR1 := Lib.hid hr1; have HBB := Lib.hid hb1; have HO1 := Lib.hid (own_keep HO.out (hb1.block _ hsz)); obtain ⟨v0, hv0⟩ : ∃ v, w1.cell? ⟨w.heap.size, k, none⟩ = some v := (by rw [HO1.out.cellAt k (by omega), List.getElem?_eq_getElem (by rw [HO1.out.1]; omega)]; exact ⟨_, rfl⟩); have hf0 := HO1.out.frozenAt k; have HB1 := Lib.hid (HB.out.trans (hb1.mono HB.out.size)); have hsz1 : w.heap.size < w1.heap.size := Nat.lt_of_lt_of_le hsz hb1.size; have hlo := hr1.lo; clear hb1 hr1)
      have hst := (HO1.out.stored k (hdr (g2, c2, K)))
      have hkeep : ∀ t : TT, t.1 ≠ w.heap.size → (w1.setCell ⟨w.heap.size, k, none⟩ (hdr (g2, c2, K))).heap[t.1]? = w1.heap[t.1]? := fun t ht => Below.heap_setCell _ _ _ _ ht
      have hn2 : ∀ t ∈ T, t.1 ≠ g2 := fun t ht => by have := (HR.out t ht).hi; omega
      rw [← HKL.out]
      refine ⟨⟨k + 1, T ++ [(g2, c2, K)], by omega, by go_num, by show _ = _; rw [List.length_append, HTL.out]; rfl, ?_, ?_, ?_, ?_, by simp [World.setCell]; exact hsz1, HB1.out.setCell (Nat.le_refl _) _⟩, by simp [intOf]; omega⟩
      · show _ = _
        rw [List.map_append, HE.out, HS.out]; rfl
      · show World.ownsRow _ _ _ _ _ _ _
        have h3 := hst.1
        rw [set_snoc hdr T zs (g2, c2, K) k HTL.out (by have := HZL.out; omega)] at h3
        exact h3
      · intro t ht
        rcases List.mem_append.1 ht with ht | ht
        · have h4 := (HR.out t ht).below HBB.out
          exact h4.keep (by simp [World.setCell]) (hkeep t (by have := h4.lo; omega))
        · obtain rfl := List.mem_singleton.1 ht
          exact (HR1.out.lower (by omega)).keep (by simp [World.setCell]) (hkeep _ (by simp only; omega))
      · show List.Nodup _
        rw [List.map_append, List.nodup_append]
        refine ⟨HN.out, by simp, fun a ha b hb e => ?_⟩
        simp at hb
        obtain ⟨u, hu, rfl⟩ := List.mem_map.1 ha
        exact hn2 u hu (by rw [e, hb])
    · obtain rfl : k = ls.length := by omega
      go_wp2
      go_ret
      refine ⟨w.heap.size, ls.length, T, rfl, ⟨by have := HE.out; rwa [List.take_length] at this, ?_, fun t ht => (HR.out t ht).lower (by omega), HN.out, fun t ht e => by have := (HR.out t ht).lo; omega⟩, HB.out⟩
      have h5 := HO.out
      rwa [List.drop_eq_nil_of_le (by have := HZL.out; omega), List.append_nil] at h5
/-- Two lists of the same rows. -/
theorem eqValueSS (A B : Option Addr) (g g' o o' cA cB : Nat) (ls : List RT) (w : World) (hA : Rws w g o A ls) (hB : Rws w g' o' B ls) (hok : Ok2 ls) :
    Calls Try.prog 19 #[.slice A ls.length cA, .slice B ls.length cB] w fun e w' => e = .returned (.bool true) ∧ Below w.heap.size w w' := by
  have HA := Lib.hid hA
  have HB := Lib.hid hB
  have HK := Lib.hid hok
  have hl := hok.1
  clear hA hB hok
  have e0 : ((ls.length : Int) != ls.length) = false := by simp
  go_enter Try.func19, Try.ntmps19
  go_wp2
  go_loopw [5] (fun ix wr => ∃ (k : Nat), k ≤ ls.length ∧ ix = .int .i64 k ∧ Hid (Below w.heap.size w wr)) (fun ix _ => ls.length - (intOf ix).toNat)
  case atStart => exact ⟨0, by omega, rfl, Below.refl _ _⟩
  case round =>
    obtain ⟨k, hk, rfl, HW⟩ := hrel
    by_cases hlt : k < ls.length
    · obtain ⟨rfl, hg, c1, g1, o1, hc1, hf1⟩ := (HA.out.below HW.out).at k hlt
      obtain ⟨rfl, hg', c2, g2, o2, hc2, hf2⟩ := (HB.out.below HW.out).at k hlt
      have HF1 := Lib.hid hf1
      have HF2 := Lib.hid hf2
      have hlr := (HK.out.at k hlt).1
      obtain ⟨K, hK⟩ : ∃ K, ls[k] = K := ⟨_, rfl⟩
      rw [hK] at hc1 hc2 HF1 HF2 hlr
      clear hK hf1 hf2
      have CE := Lib.hid (fun W hA hB => eqValueS (some ⟨g1, o1, none⟩) (some ⟨g2, o2, none⟩) g1 g2 o1 o2 c1 c2 K W hA hB hlr)
      obtain ⟨kl, hkl⟩ : ∃ n, K.length = n := ⟨_, rfl⟩
      rw [hkl] at hc1 hc2 CE
      clear hkl
      have i0' : (0 : Int) ≤ (k : Int) := by omega
      have i1' : (k : Int) < (ls.length : Int) := by omega
      go_wp2
      go_region_with (go_at_call 38; (with_reducible refine (CE.out _ (by repeat (with_reducible first | exact HF1.out | apply Fl.drew)) (by repeat (with_reducible first | exact HF2.out | apply Fl.drew))).mono ?_); rintro e w1 ⟨rfl, hb1⟩; have HW1 := Lib.hid (HW.out.drew.trans (hb1.mono HW.out.size)); clear hb1 HW)
      all_goals go_wp2
      all_goals exact ⟨⟨k + 1, by omega, by go_num, HW1⟩, by simp [intOf]; omega⟩
    · obtain rfl : k = ls.length := by omega
      go_wp2
      go_ret
      exact ⟨rfl, HW.out⟩
end Go.Proofs.Ytjidkjnlnenmbaa.Val
