/- RowsLess, both sides. -/
import Derived.Test.YtcddkleglmbfgaaROnce
import Derived.Deep.RegionHeldLaw
namespace Go.Proofs.Ytcddkleglmbfgaa.Val
open Go.RowKit
set_option linter.unusedVariables false
set_option maxRecDepth 8000
theorem keepL {W1 : World} {w W : World} {gc g o gB oB g' o' q : Nat} {A B A' : Option Addr} {al bs : List RT} {K : RT} {x : Value} (h : W.cell? ⟨gc, q, none⟩ = some x ∧ Rws W g o A al ∧ Rws W gB oB B bs ∧ Fl W g' o' A' (flatV K) ∧ Below w.heap.size w W ∧ w.heap.size ≤ W.heap.size) (hb : Below W.heap.size W W1) :
    W1.cell? ⟨gc, q, none⟩ = some x ∧ Rws W1 g o A al ∧ Rws W1 gB oB B bs ∧ Fl W1 g' o' A' (flatV K) ∧ Below w.heap.size w W1 ∧ w.heap.size ≤ W1.heap.size :=
  ⟨(hb.cell (p := ⟨gc, q, none⟩) (World.block_lt_of_cell? W ⟨gc, q, none⟩ h.1)).trans h.1, h.2.1.below hb, h.2.2.1.below hb, h.2.2.2.1.below hb, h.2.2.2.2.1.trans (hb.mono h.2.2.2.2.2), Nat.le_trans h.2.2.2.2.2 hb.size⟩
theorem keepLD {w W : World} {gc g o gB oB g' o' q : Nat} {A B A' : Option Addr} {al bs : List RT} {K : RT} {x : Value} (h : W.cell? ⟨gc, q, none⟩ = some x ∧ Rws W g o A al ∧ Rws W gB oB B bs ∧ Fl W g' o' A' (flatV K) ∧ Below w.heap.size w W ∧ w.heap.size ≤ W.heap.size) :
    W.drew.cell? ⟨gc, q, none⟩ = some x ∧ Rws W.drew g o A al ∧ Rws W.drew gB oB B bs ∧ Fl W.drew g' o' A' (flatV K) ∧ Below w.heap.size w W.drew ∧ w.heap.size ≤ W.drew.heap.size := keepL h ((Below.refl _ _).drew)
theorem lA {w W : World} {gc g o gB oB g' o' q : Nat} {A B A' : Option Addr} {al bs : List RT} {K : RT} {x : Value} (h : W.cell? ⟨gc, q, none⟩ = some x ∧ Rws W g o A al ∧ Rws W gB oB B bs ∧ Fl W g' o' A' (flatV K) ∧ Below w.heap.size w W ∧ w.heap.size ≤ W.heap.size) : Rws W g o A al := h.2.1
theorem lB {w W : World} {gc g o gB oB g' o' q : Nat} {A B A' : Option Addr} {al bs : List RT} {K : RT} {x : Value} (h : W.cell? ⟨gc, q, none⟩ = some x ∧ Rws W g o A al ∧ Rws W gB oB B bs ∧ Fl W g' o' A' (flatV K) ∧ Below w.heap.size w W ∧ w.heap.size ≤ W.heap.size) : Rws W gB oB B bs := h.2.2.1
theorem lF {w W : World} {gc g o gB oB g' o' q : Nat} {A B A' : Option Addr} {al bs : List RT} {K : RT} {x : Value} (h : W.cell? ⟨gc, q, none⟩ = some x ∧ Rws W g o A al ∧ Rws W gB oB B bs ∧ Fl W g' o' A' (flatV K) ∧ Below w.heap.size w W ∧ w.heap.size ≤ W.heap.size) : Fl W g' o' A' (flatV K) := h.2.2.2.1
theorem lW {w W : World} {gc g o gB oB g' o' q : Nat} {A B A' : Option Addr} {al bs : List RT} {K : RT} {x : Value} (h : W.cell? ⟨gc, q, none⟩ = some x ∧ Rws W g o A al ∧ Rws W gB oB B bs ∧ Fl W g' o' A' (flatV K) ∧ Below w.heap.size w W ∧ w.heap.size ≤ W.heap.size) : Below w.heap.size w W := h.2.2.2.2.1
theorem lC {w W : World} {gc g o gB oB g' o' q : Nat} {A B A' : Option Addr} {al bs : List RT} {K : RT} {x : Value} (h : W.cell? ⟨gc, q, none⟩ = some x ∧ Rws W g o A al ∧ Rws W gB oB B bs ∧ Fl W g' o' A' (flatV K) ∧ Below w.heap.size w W ∧ w.heap.size ≤ W.heap.size) : W.cell? ⟨gc, q, none⟩ = some x := h.1
/-- The same with what a loop holds beside. -/
theorem take_len {al : List RT} {k : Nat} (h : k ≤ al.length) : (al.take k).length = k := by simp; omega
set_option maxHeartbeats 2000000 in
theorem rowsLessI (A B : Option Addr) (g0 o0 gB oB cap capB : Nat) (al bs : List RT) (w : World) (hA : Rws w g0 o0 A al) (hB : Rws w gB oB B bs) (hok : Ok2 al) (hok2 : Ok2 bs) (hcap : al.length ≤ cap) :
    Calls Try.prog 43 #[.slice A al.length cap, .slice B bs.length capB] w (RetBag (lessI al bs) w) := by
  obtain ⟨i0, hi, iz0, iz1, iz2⟩ := info_parts infoVS
  have HA := Lib.hid hA
  have HB2 := Lib.hid hB
  have HK := Lib.hid hok
  have HK2 := Lib.hid hok2
  have hl := hok.1
  clear hA hB hok hok2
  have BAG0 := Lib.hid (Bag.empty w)
  have HB0 := Lib.hid ((Below.refl w.heap.size w).alloc (Nat.le_refl _) (.cells #[] 30))
  go_enter Try.func43, Try.ntmps43
  go_wp2
  go_loopw [5, 6] (fun ox ix wr => ∃ (k g c : Nat) (T : List TT) (p : List RT), k ≤ al.length ∧ ix = .int .i64 k ∧ ox = .slice (some ⟨g, 0, none⟩) p.length c ∧ p.length ≤ k ∧ Hid (p = lessN al bs k) ∧ Hid (Bag wr w.heap.size g c T p) ∧ Hid (Below w.heap.size w wr)) (fun _ ix _ => al.length - (intOf ix).toNat)
  case atStart => exact ⟨0, w.heap.size, 0, [], [], Nat.zero_le _, rfl, rfl, Nat.le_refl _, rfl, BAG0, HB0⟩
  case round =>
    clear BAG0 HB0
    obtain ⟨k, g, c, T, p, hk, rfl, rfl, hpk, HO, BAG, HB⟩ := hrel
    have hwz := HB.out.size
    by_cases hlt : k < al.length
    · obtain ⟨rfl, hg, c', g', o', hc, hf⟩ := (HA.out.below HB.out).at k hlt
      have hlr := (HK.out.at k hlt).1
      have HS := Lib.hid (lessN_snoc al bs k hlt)
      have OKT := Lib.hid (HK.out.sub (ms := al.take k) (by simp; omega) (fun r hr => List.mem_of_mem_take hr))
      obtain ⟨K, hK⟩ : ∃ K, al[k] = K := ⟨_, rfl⟩
      rw [hK] at hc hf HS hlr
      clear hK
      have CA := Lib.hid (fun W hW hW2 => rowManyI (some ⟨g0, o0, none⟩) (some ⟨g', o', none⟩) g0 o0 g' o' cap c' (al.take k) K W hW hW2 OKT.out hlr)
      rw [take_len hk] at CA
      have CB := Lib.hid (fun W hW hW2 => rowManyI B (some ⟨g', o', none⟩) gB oB g' o' capB c' bs K W hW hW2 HK2.out hlr)
      have CC := Lib.hid (fun W hW => rowCopy g' o' c' K W hW hlr)
      obtain ⟨kl, hkl⟩ : ∃ n, K.length = n := ⟨_, rfl⟩
      rw [hkl] at hc CA CB CC
      have HKL := Lib.hid hkl
      obtain ⟨pl, hpl⟩ : ∃ n, p.length = n := ⟨_, rfl⟩
      have HPL := Lib.hid hpl
      rw [hpl] at hpk ⊢
      clear hkl hpl
      obtain ⟨wL, hwL⟩ : ∃ x, x = wr := ⟨_, rfl⟩
      rw [← hwL] at BAG HB hc hf hg hwz ⊢
      clear hwL
      have HS0 : (fun w' => w'.cell? ⟨g0, o0 + k, none⟩ = some (.slice (some ⟨g', o', none⟩) kl c') ∧ Rws w' g0 o0 (some ⟨g0, o0, none⟩) (al.take k) ∧ Rws w' gB oB B bs ∧ Fl w' g' o' (some ⟨g', o', none⟩) (flatV K) ∧ Below wL.heap.size wL w' ∧ wL.heap.size ≤ w'.heap.size) wL := ⟨hc, (HA.out.below HB.out).take k, HB2.out.below HB.out, hf, Below.refl _ _, Nat.le_refl _⟩
      obtain ⟨m, hm⟩ : ∃ m, (al.take k).count K = m := ⟨_, rfl⟩
      obtain ⟨n, hn⟩ : ∃ n, bs.count K = n := ⟨_, rfl⟩
      rw [hm] at CA HS
      rw [hn] at CB HS
      have i0' : (0 : Int) ≤ (k : Int) := by omega
      have i1' : (k : Int) < (al.length : Int) := by omega
      have i2' : (k : Int) ≤ (cap : Int) := by omega
      clear hm hn hc hf
      by_cases hq : n ≤ m
      · have HN : Hid (p ++ [K] = lessN al bs (k + 1)) := by show _ = _; rw [HS.out, if_pos hq, HO.out]
        have e1 : (n : Int) ≤ (m : Int) := by omega
        clear HS HO hq
        go_wp2_with (fail)
        go_region_held_law (fun w' => w'.cell? ⟨g0, o0 + k, none⟩ = some (.slice (some ⟨g', o', none⟩) kl c') ∧ Rws w' g0 o0 (some ⟨g0, o0, none⟩) (al.take k) ∧ Rws w' gB oB B bs ∧ Fl w' g' o' (some ⟨g', o', none⟩) (flatV K) ∧ Below wL.heap.size wL w' ∧ wL.heap.size ≤ w'.heap.size) (first | exact keepL (by assumption) hbq | exact keepLD (by assumption) | assumption) (first | (go_at_call 28; (with_reducible refine (CA.out _ (lA (by assumption)) (lF (by assumption))).mono ?_); rintro e w1 ⟨rfl, hbq⟩) | (go_at_call 28; (with_reducible refine (CB.out _ (lB (by assumption)) (lF (by assumption))).mono ?_); rintro e w1 ⟨rfl, hbq⟩))
        all_goals (have HXX := Lib.hid (lW (by assumption)); have hcx := lC (by assumption); have HFX := Lib.hid (lF (by assumption)))
        all_goals clear HS0 CA CB
        all_goals (have BAG1 := Lib.hid (BAG.out.below HXX.out); have HB1 := Lib.hid (HB.out.trans (HXX.out.mono hwz)); have hwz1 := HB1.out.size; clear BAG HB HXX hwz)
        all_goals go_wp2_with (first
          | (go_at_call 75; (with_reducible refine (CC.out _ HFX.out).mono ?_); rintro e w2 ⟨g2, c2, rfl, hr2, hb2⟩; have HR2 := Lib.hid hr2; have BAG2 := Lib.hid (BAG1.out.below hb2); have HB2' := Lib.hid (HB1.out.trans (hb2.mono hwz1)); have HBB := Lib.hid hb2; have hwz2 := HB2'.out.size; clear hb2 hr2)
          | (at_builtin; refine wpList_append_block _ rfl (.tmp 29) (.tmp 35) 39 rfl w.heap.size 30 i0 (.slice none 0 0) 1 24 Try.underlying39 hi iz0 iz1 iz2 rfl (by decide) g pl c (T.map hdr) rfl (by have h := BAG2.out.own; rw [HPL.out] at h; exact h.alloc _) _ 1 1 [.slice (some ⟨g2, 0, none⟩) kl c2] rfl rfl (news_new (by first | rfl | simp)) (by simp [Value.oneCell']) (by unfold maxLen; omega) (by omega) (by first | omega | (simp; done) | (simp; omega)) ?_; intro g3 c3 w3 hown hgr hgg; have HNB := Lib.hid (Bag.push2 BAG1.out HR2.out HBB.out (by rw [HPL.out]) (by have h := hown; rw [← HKL.out] at h; exact h) hgr hgg); have HB3 := Lib.hid (Below.grown (HB2'.out.alloc hwz2 _) hgr (by simp; omega) (fun k hk => by obtain rfl := Option.some.inj hk; exact BAG1.out.lo.1)); clear hown hgr hgg))
        all_goals exact ⟨⟨k + 1, g3, c3, _, p ++ [K], by omega, by go_num, by simp [HPL.out], by simp [HPL.out]; omega, HN, HNB, HB3⟩, by simp [intOf]; omega⟩
      · have HN : Hid (p = lessN al bs (k + 1)) := by show _ = _; rw [HS.out, if_neg hq, HO.out]
        have e1 : (m : Int) < (n : Int) := by omega
        clear HS HO hq
        go_wp2_with (fail)
        go_region_held_law (fun w' => w'.cell? ⟨g0, o0 + k, none⟩ = some (.slice (some ⟨g', o', none⟩) kl c') ∧ Rws w' g0 o0 (some ⟨g0, o0, none⟩) (al.take k) ∧ Rws w' gB oB B bs ∧ Fl w' g' o' (some ⟨g', o', none⟩) (flatV K) ∧ Below wL.heap.size wL w' ∧ wL.heap.size ≤ w'.heap.size) (first | exact keepL (by assumption) hbq | exact keepLD (by assumption) | assumption) (first | (go_at_call 28; (with_reducible refine (CA.out _ (lA (by assumption)) (lF (by assumption))).mono ?_); rintro e w1 ⟨rfl, hbq⟩) | (go_at_call 28; (with_reducible refine (CB.out _ (lB (by assumption)) (lF (by assumption))).mono ?_); rintro e w1 ⟨rfl, hbq⟩))
        all_goals (have HXX := Lib.hid (lW (by assumption)))
        all_goals clear HS0
        all_goals (have BAG1 := Lib.hid (BAG.out.below HXX.out); have HB1 := Lib.hid (HB.out.trans (HXX.out.mono hwz)); clear BAG HB HXX hwz)
        all_goals go_wp2
        all_goals exact ⟨⟨k + 1, g, c, T, p, by omega, by go_num, by rw [HPL.out], by rw [HPL.out]; omega, HN, BAG1, HB1⟩, by simp [intOf]; omega⟩
    · obtain rfl : k = al.length := by omega
      have HO2 : Hid (p = lessI al bs) := HO
      obtain rfl := HO2.out
      go_wp2
      go_ret
      exact ⟨g, c, T, rfl, BAG.out, HB.out⟩
/-- Headers of rows that were there at w. -/
def GoneD (w : World) (D : List Value) (ls : List RT) : Prop := D.length = ls.length ∧ ∀ j (h : j < ls.length) (h' : j < D.length), ∃ (c' g' o' : Nat), D[j] = .slice (some ⟨g', o', none⟩) ls[j].length c' ∧ Fl w g' o' (some ⟨g', o', none⟩) (flatV ls[j])
theorem gone_rws {w W : World} {B g cap : Nat} {D : List Value} {ls : List RT} (hd : GoneD w D ls) (ho : W.ownsRow B 30 1 (.slice (some ⟨g, 0, none⟩) ls.length cap) ls.length D) (hb : Below w.heap.size w W) : Rws W g 0 (some ⟨g, 0, none⟩) ls := by
  refine ⟨fun _ => rfl, fun j hj => ?_⟩
  have hj2 : j < D.length := by rw [hd.1]; exact hj
  obtain ⟨c', g', o', h1, h2⟩ := hd.2 j hj hj2
  exact ⟨c', g', o', by rw [Nat.zero_add, ho.cellAt j (by omega), List.getElem?_eq_getElem hj2, h1], h2.below hb⟩
theorem gone_snoc {w : World} {D : List Value} {ls : List RT} {g o c kl : Nat} {K : RT} (hd : GoneD w D ls) (hf : Fl w g o (some ⟨g, o, none⟩) (flatV K)) (hk : K.length = kl) : GoneD w (D ++ [.slice (some ⟨g, o, none⟩) kl c]) (ls ++ [K]) := by
  subst hk
  refine ⟨by rw [List.length_append, List.length_append, hd.1]; rfl, fun j hj hj2 => ?_⟩
  by_cases h : j < ls.length
  · obtain ⟨c', g', o', h1, h2⟩ := hd.2 j h (by rw [hd.1]; exact h)
    exact ⟨c', g', o', by rw [List.getElem_append_left (by rw [hd.1]; exact h), List.getElem_append_left h, h1], by rw [List.getElem_append_left h]; exact h2⟩
  · have e : j = ls.length := by simp at hj; omega
    subst e
    refine ⟨c, g, o, ?_, ?_⟩
    · rw [List.getElem_append_right (by rw [hd.1]; exact Nat.le_refl _), List.getElem_append_right (Nat.le_refl _)]
      simp [hd.1]
    · rw [List.getElem_append_right (Nat.le_refl _)]
      simpa using hf
theorem Bag.grown {w w' : World} {B g cap gg : Nat} {T : List TT} {ls : List RT} (h : Bag w B g cap T ls) (hgr : w.grownBy w' (some gg)) (hg : g ≠ gg) (hT : ∀ t ∈ T, t.1 ≠ gg) : Bag w' B g cap T ls :=
  h.keep hgr.size (hgr.block _ h.lo.2 (fun e => hg (Option.some.inj e))) (fun t ht => hgr.block _ (h.rows t ht).hi (fun e => hT t ht (Option.some.inj e)))
theorem own_far {w w' : World} {gg B size n g cap : Nat} {e : TypeId} {xs : List Value} (h : w.ownsRow B e size (.slice (some ⟨g, 0, none⟩) n cap) n xs) (hgr : w.grownBy w' (some gg)) (hg : g ≠ gg) : w'.ownsRow B e size (.slice (some ⟨g, 0, none⟩) n cap) n xs :=
  own_keep h (hgr.block _ (h.lt g rfl).2 (fun e => hg (Option.some.inj e)))
set_option maxHeartbeats 2000000 in
theorem rowsLessS (A B : Option Addr) (g0 o0 gB oB cap capB : Nat) (al bs : List RT) (w : World) (hA : Rws w g0 o0 A al) (hB : Rws w gB oB B bs) (hok : Ok2 al) (hok2 : Ok2 bs) :
    Calls Try.prog 44 #[.slice A al.length cap, .slice B bs.length capB] w (RetBag (lessI al bs) w) := by
  obtain ⟨i0, hi, iz0, iz1, iz2⟩ := info_parts infoVS
  have HA := Lib.hid hA
  have HB2 := Lib.hid hB
  have HK := Lib.hid hok
  have HK2 := Lib.hid hok2
  have hl := hok.1
  clear hA hB hok hok2
  have BAG0 := Lib.hid ((Bag.empty w).alloc (.cells #[] 30))
  have OG0 := Lib.hid (own_empty3 (w := w.alloc (.cells #[] 30)) (B := w.heap.size) (X := w.heap.size + 1) 30 1 (by simp) (by omega))
  have HB0 := Lib.hid (((Below.refl w.heap.size w).alloc (Nat.le_refl _) (.cells #[] 30)).alloc (by simp) (.cells #[] 30))
  go_enter Try.func44, Try.ntmps44
  go_wp2
  go_loopw [5, 6, 7] (fun ox gx ix wr => ∃ (k g c gg cg : Nat) (T : List TT) (p q : List RT) (D : List Value), k ≤ al.length ∧ ix = .int .i64 k ∧ ox = .slice (some ⟨g, 0, none⟩) p.length c ∧ gx = .slice (some ⟨gg, 0, none⟩) q.length cg ∧ p.length ≤ k ∧ q.length ≤ k ∧ Hid (p = lessN al bs k) ∧ Hid (q = goneN al bs k) ∧ Hid (Bag wr w.heap.size g c T p) ∧ Hid (GoneD w D q) ∧ Hid (wr.ownsRow w.heap.size 30 1 (.slice (some ⟨gg, 0, none⟩) q.length cg) q.length D) ∧ g ≠ gg ∧ Hid (∀ t ∈ T, t.1 ≠ gg) ∧ Hid (Below w.heap.size w wr)) (fun _ _ ix _ => al.length - (intOf ix).toNat)
  case atStart => exact ⟨0, w.heap.size, 0, w.heap.size + 1, 0, [], [], [], [], Nat.zero_le _, rfl, rfl, rfl, Nat.le_refl _, Nat.le_refl _, rfl, rfl, BAG0, ⟨rfl, fun j hj => absurd hj (by simp)⟩, OG0, by omega, fun t ht => absurd ht (by simp), HB0⟩
  case round =>
    clear BAG0 HB0 OG0
    obtain ⟨k, g, c, gg, cg, T, p, q, D, hk, rfl, rfl, rfl, hpk, hqk, HO, HQ, BAG, GD, OG, hgg0, HTG, HB⟩ := hrel
    have hwz := HB.out.size
    by_cases hlt : k < al.length
    · obtain ⟨rfl, hg0, c', g', o', hc0, hf0⟩ := HA.out.at k hlt
      have hc := (HB.out.cell (p := ⟨g0, o0 + k, none⟩) hg0).trans hc0
      have hf := hf0.below HB.out
      have hlr := (HK.out.at k hlt).1
      have HS := Lib.hid (lessN_snoc al bs k hlt)
      have HG := Lib.hid (goneN_snoc al bs k hlt)
      have HGL := gone_less al bs k hlt
      have hmem : ∀ r ∈ goneN al bs k, r ∈ al := fun r hr => by
        have h1 := gone_count al bs k hk r
        have h2 := List.count_pos_iff.2 hr
        exact List.mem_of_mem_take (List.count_pos_iff.1 (show 0 < (al.take k).count r by omega))
      have OKQ := Lib.hid (HK.out.sub (ms := q) (by omega) (fun r hr => hmem r (by rw [← HQ.out]; exact hr)))
      rw [← HQ.out] at HGL
      obtain ⟨K, hK⟩ : ∃ K, al[k] = K := ⟨_, rfl⟩
      rw [hK] at hc hf HS HG HGL hlr hf0
      have HF0 := Lib.hid hf0
      clear hK hc0 hf0 hmem
      have CA := Lib.hid (fun W hW hW2 => rowManyS (some ⟨gg, 0, none⟩) (some ⟨g', o', none⟩) gg 0 g' o' cg c' q K W hW hW2 OKQ.out hlr)
      have CB := Lib.hid (fun W hW hW2 => rowManyS B (some ⟨g', o', none⟩) gB oB g' o' capB c' bs K W hW hW2 HK2.out hlr)
      have CC := Lib.hid (fun W hW => l3Own g' o' c' K W hW hlr)
      obtain ⟨kl, hkl⟩ : ∃ n, K.length = n := ⟨_, rfl⟩
      rw [hkl] at hc CA CB CC
      have HKL := Lib.hid hkl
      obtain ⟨wL, hwL⟩ : ∃ x, x = wr := ⟨_, rfl⟩
      rw [← hwL] at BAG HB hc hf hwz OG ⊢
      clear hwL
      have HS0 : (fun w' => w'.cell? ⟨g0, o0 + k, none⟩ = some (.slice (some ⟨g', o', none⟩) kl c') ∧ Rws w' gg 0 (some ⟨gg, 0, none⟩) q ∧ Rws w' gB oB B bs ∧ Fl w' g' o' (some ⟨g', o', none⟩) (flatV K) ∧ Below wL.heap.size wL w' ∧ wL.heap.size ≤ w'.heap.size) wL := ⟨hc, gone_rws GD.out OG.out HB.out, HB2.out.below HB.out, hf, Below.refl _ _, Nat.le_refl _⟩
      obtain ⟨pl, hpl⟩ : ∃ n, p.length = n := ⟨_, rfl⟩
      have HPL := Lib.hid hpl
      rw [hpl] at hpk ⊢
      obtain ⟨ql, hql⟩ : ∃ n, q.length = n := ⟨_, rfl⟩
      have HQL := Lib.hid hql
      rw [hql] at hqk CA OG ⊢
      obtain ⟨m, hm⟩ : ∃ m, q.count K = m := ⟨_, rfl⟩
      obtain ⟨n, hn⟩ : ∃ n, bs.count K = n := ⟨_, rfl⟩
      rw [hm] at CA HGL
      rw [hn] at CB HGL HS HG
      have i0' : (0 : Int) ≤ (k : Int) := by omega
      have i1' : (k : Int) < (al.length : Int) := by omega
      clear hm hn hc hf hkl hpl hql
      by_cases hq : m < n
      · have hnn := HGL.1 hq
        have HN : Hid (p = lessN al bs (k + 1)) := by show _ = _; rw [HS.out, if_neg hnn, HO.out]
        have HNG : Hid (q ++ [K] = goneN al bs (k + 1)) := by show _ = _; rw [HG.out, if_neg hnn, HQ.out]
        have e1 : (m : Int) < (n : Int) := by omega
        clear HS HO HQ HG HGL hq hnn
        go_wp2_with (fail)
        go_region_held_law (fun w' => w'.cell? ⟨g0, o0 + k, none⟩ = some (.slice (some ⟨g', o', none⟩) kl c') ∧ Rws w' gg 0 (some ⟨gg, 0, none⟩) q ∧ Rws w' gB oB B bs ∧ Fl w' g' o' (some ⟨g', o', none⟩) (flatV K) ∧ Below wL.heap.size wL w' ∧ wL.heap.size ≤ w'.heap.size) (first | exact keepL (by assumption) hbq | exact keepLD (by assumption) | assumption) (first | (go_at_call 29; (with_reducible refine (CA.out _ (lA (by assumption)) (lF (by assumption))).mono ?_); rintro e w1 ⟨rfl, hbq⟩) | (go_at_call 29; (with_reducible refine (CB.out _ (lB (by assumption)) (lF (by assumption))).mono ?_); rintro e w1 ⟨rfl, hbq⟩))
        all_goals (have HXX := Lib.hid (lW (by assumption)); have hcx := lC (by assumption))
        all_goals clear HS0 CA CB
        all_goals (have BAG1 := Lib.hid (BAG.out.below HXX.out); have OG1 := Lib.hid (own_below OG.out HXX.out); have HB1 := Lib.hid (HB.out.trans (HXX.out.mono hwz)); have hwz1 := HB1.out.size; clear BAG HB HXX hwz OG)
        all_goals go_wp2_with (at_builtin; refine wpList_append_block _ rfl (.tmp 29) (.tmp 34) 39 rfl w.heap.size 30 i0 (.slice none 0 0) 1 24 Try.underlying39 hi iz0 iz1 iz2 rfl (by decide) gg ql cg D rfl (OG1.out.alloc _) _ 1 1 [.slice (some ⟨g', o', none⟩) kl c'] rfl rfl (news_new (by first | rfl | simp)) (by simp [Value.oneCell']) (by unfold maxLen; omega) (by omega) (by first | omega | (simp; done) | (simp; omega)) ?_; intro g3 c3 w3 hown hgr hgg; have BAG3 := Lib.hid ((BAG1.out.alloc _).grown hgr hgg0 HTG.out); have OG3 := Lib.hid hown; have hbl := BAG1.out.lo; have hg3 : g ≠ g3 := (by rcases hgg with h | h <;> ((try simp at h); omega)); have HTG3 := Lib.hid (fun t (ht : t ∈ T) => (by have h1 := HTG.out t ht; have h2 := (BAG1.out.rows t ht).hi; rcases hgg with h | h <;> ((try simp at h); omega) : t.1 ≠ g3)); have HB3 := Lib.hid (Below.grown (HB1.out.alloc hwz1 _) hgr (by simp; omega) (fun k hk => by obtain rfl := Option.some.inj hk; exact (OG1.out.lt _ rfl).1)); clear hown hgr hgg)
        all_goals exact ⟨⟨k + 1, g, c, g3, c3, T, p, q ++ [K], _, by omega, by go_num, by rw [HPL.out], by simp [HQL.out], by rw [HPL.out]; omega, by simp [HQL.out]; omega, HN, HNG, BAG3, gone_snoc GD.out HF0.out HKL.out, (by show World.ownsRow _ _ _ _ _ _ _; rw [List.length_append, HQL.out]; exact OG3.out), hg3, HTG3, HB3⟩, by simp [intOf]; omega⟩
      · have hnn : n ≤ (al.take k).count K := (by by_cases h : n ≤ (al.take k).count K; exact h; exact absurd (HGL.2 h) hq)
        have HN : Hid (p ++ [K] = lessN al bs (k + 1)) := by show _ = _; rw [HS.out, if_pos hnn, HO.out]
        have HNG : Hid (q = goneN al bs (k + 1)) := by show _ = _; rw [HG.out, if_pos hnn, HQ.out]
        have e1 : (n : Int) ≤ (m : Int) := by omega
        clear HS HO HQ HG HGL hq hnn
        go_wp2_with (fail)
        go_region_held_law (fun w' => w'.cell? ⟨g0, o0 + k, none⟩ = some (.slice (some ⟨g', o', none⟩) kl c') ∧ Rws w' gg 0 (some ⟨gg, 0, none⟩) q ∧ Rws w' gB oB B bs ∧ Fl w' g' o' (some ⟨g', o', none⟩) (flatV K) ∧ Below wL.heap.size wL w' ∧ wL.heap.size ≤ w'.heap.size) (first | exact keepL (by assumption) hbq | exact keepLD (by assumption) | assumption) (first | (go_at_call 29; (with_reducible refine (CA.out _ (lA (by assumption)) (lF (by assumption))).mono ?_); rintro e w1 ⟨rfl, hbq⟩) | (go_at_call 29; (with_reducible refine (CB.out _ (lB (by assumption)) (lF (by assumption))).mono ?_); rintro e w1 ⟨rfl, hbq⟩))
        all_goals (have HXX := Lib.hid (lW (by assumption)); have hcx := lC (by assumption); have HFX := Lib.hid (lF (by assumption)))
        all_goals clear HS0 CA CB
        all_goals (have BAG1 := Lib.hid (BAG.out.below HXX.out); have OG1 := Lib.hid (own_below OG.out HXX.out); have HB1 := Lib.hid (HB.out.trans (HXX.out.mono hwz)); have hwz1 := HB1.out.size; clear BAG HB HXX hwz OG)
        all_goals go_wp2_with (first
          | (go_at_call 79; (with_reducible refine (CC.out _ HFX.out).mono ?_); rintro e w2 ⟨g2, c2, rfl, hr2, hb2⟩; have HR2 := Lib.hid hr2; have BAG2 := Lib.hid (BAG1.out.below hb2); have OG2 := Lib.hid (own_below OG1.out hb2); have HB2' := Lib.hid (HB1.out.trans (hb2.mono hwz1)); have HBB := Lib.hid hb2; have hwz2 := HB2'.out.size; have hlo2 := hr2.lo; have hz2 := hb2.size; clear hb2 hr2)
          | (at_builtin; refine wpList_append_block _ rfl (.tmp 36) (.tmp 42) 39 rfl w.heap.size 30 i0 (.slice none 0 0) 1 24 Try.underlying39 hi iz0 iz1 iz2 rfl (by decide) g pl c (T.map hdr) rfl (by have h := BAG2.out.own; rw [HPL.out] at h; exact h.alloc _) _ 1 1 [.slice (some ⟨g2, 0, none⟩) kl c2] rfl rfl (news_new (by first | rfl | simp)) (by simp [Value.oneCell']) (by unfold maxLen; omega) (by omega) (by first | omega | (simp; done) | (simp; omega)) ?_; intro g3 c3 w3 hown hgr hgg; have HOWN := Lib.hid hown; have HGR := Lib.hid hgr; have HGG := Lib.hid hgg; clear hown hgr hgg))
        all_goals (have HNB := Lib.hid (Bag.push2 BAG1.out HR2.out HBB.out (by rw [HPL.out]) (by have h := HOWN.out; rw [← HKL.out] at h; exact h) HGR.out HGG.out))
        all_goals (have OG3 := Lib.hid (own_far (OG2.out.alloc _) HGR.out (Ne.symm hgg0)))
        all_goals (have hogl := OG1.out.lt gg rfl; have hgge := HGG.out)
        all_goals (have hg3 : g3 ≠ gg := (by simp at hgge; omega))
        all_goals (have HTG3 : Hid (∀ t ∈ T ++ [(g2, c2, K)], t.1 ≠ gg) := (by intro t ht; rcases List.mem_append.1 ht with ht | ht; exact HTG.out t ht; obtain rfl := List.mem_singleton.1 ht; simp only at hlo2 ⊢; omega))
        all_goals (have HB3 := Lib.hid (Below.grown (HB2'.out.alloc hwz2 _) HGR.out (by simp; omega) (fun k hk => by obtain rfl := Option.some.inj hk; exact BAG1.out.lo.1)))
        all_goals exact ⟨⟨k + 1, g3, c3, gg, cg, _, p ++ [K], q, D, by omega, by go_num, by simp [HPL.out], by rw [HQL.out], by simp [HPL.out]; omega, by rw [HQL.out]; omega, HN, HNG, HNB, GD, (by show World.ownsRow _ _ _ _ _ _ _; rw [HQL.out]; exact OG3.out), hg3, HTG3, HB3⟩, by simp [intOf]; omega⟩
    · obtain rfl : k = al.length := by omega
      have HO2 : Hid (p = lessI al bs) := HO
      obtain rfl := HO2.out
      go_wp2
      go_ret
      exact ⟨g, c, T, rfl, BAG.out, HB.out⟩
end Go.Proofs.Ytcddkleglmbfgaa.Val
