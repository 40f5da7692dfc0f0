/- A row of one's own with the values of another one (rowCopy, l3Own); RowsOnce, both sides. -/
import Derived.Test.YtcgjnilkbdamjaaGreatRMany
namespace Go.Proofs.YtcgjnilkbdamjaaGreat.Val
open Go.RowKit
set_option linter.unusedVariables false
set_option maxRecDepth 8000
def RetBag (ls : List RT) (w : World) (e : Ending) (w' : World) : Prop := ∃ (g c : Nat) (T : List TT), e = .returned (.slice (some ⟨g, 0, none⟩) ls.length c) ∧ Bag w' w.heap.size g c T ls ∧ Below w.heap.size w w'
theorem addNone (b off i : Nat) : (⟨b, off, none⟩ : Addr).add i = ⟨b, off + i, none⟩ := by
  unfold Addr.add; split
  · rename_i h; simp_all
  · rfl
theorem news_flo {W : World} {g o : Nat} {A : Option Addr} {xs : List Value} (h : Fl W g o A xs) : ∀ j u, xs[j]? = some u → W.cell? ((⟨g, o, none⟩ : Addr).add j) = some u := by
  intro j u hj
  obtain ⟨hl, rfl⟩ := List.getElem?_eq_some_iff.1 hj
  rw [addNone]
  exact h.c j hl
theorem one_flatV (vs : List VT) : ∀ u ∈ flatV vs, u.oneCell' = true := by
  induction vs with
  | nil => intro u hu; simp [flatV] at hu
  | cons v vs ih =>
    intro u hu
    rw [flatV_cons] at hu
    simp only [List.mem_cons] at hu
    rcases hu with rfl | rfl | rfl | hu
    · rfl
    · rfl
    · rfl
    · exact ih u hu
theorem infoVc : (Tryz.prog.info? 85).map (fun i => (i.zero, i.size, i.bytes)) = some (some (.agg #[.int .i64 0, .int .i64 0, .string ⟨#[]⟩]), 3, 32) := by kernel_rfl
theorem Bag.push2 {w1 w2 w' : World} {B g cap g' cap' n : Nat} {T : List TT} {ls : List RT} {t : TT} {ob : Obj} (h : Bag w1 B g cap T ls) (ht : RowO w2 w1.heap.size t) (hb : Below w1.heap.size w1 w2) (hnl : n = ls.length + 1)
    (hown : w'.ownsRow B 73 1 (.slice (some ⟨g', 0, none⟩) n cap') n (T.map hdr ++ [hdr t])) (hgr : (w2.alloc ob).grownBy w' (some g)) (hgg : g' = g ∨ (w2.alloc ob).heap.size ≤ g') : Bag w' B g' cap' (T ++ [t]) (ls ++ [t.2.2]) := by
  have hlo := ht.lo
  have hg := h.lo
  refine ((h.below hb).alloc ob).push ((ht.lower (by omega)).alloc ob) (fun u hu => ?_) (by omega) hnl hown hgr hgg
  have := (h.rows u hu).hi
  omega
theorem rowCopy (g o c : Nat) (l : List VT) (w : World) (h : Fl w g o (some ⟨g, o, none⟩) (flatV l)) (hl : l.length ≤ 2000000) :
    Calls Tryz.prog 46 #[.slice (some ⟨g, o, none⟩) l.length c] w fun e w' => ∃ (g2 c2 : Nat), e = .returned (.slice (some ⟨g2, 0, none⟩) l.length c2) ∧ RowO w' w.heap.size (g2, c2, l) ∧ Below w.heap.size w w' := by
  obtain ⟨i0, hi, iz0, iz1, iz2⟩ := info_parts infoVc
  have HA := Lib.hid h
  clear h
  have hfl := Lib.hid (flatV_len l)
  have OWN := Lib.hid (own_empty3 (w := w) (B := w.heap.size) 85 3 rfl (Nat.le_refl _))
  go_enter Tryz.func46, Tryz.ntmps46
  go_wp2_with (at_builtin; refine wpList_append_block _ rfl (.tmp 3) (.tmp 4) 73 rfl w.heap.size 85 i0 (.agg #[.int .i64 0, .int .i64 0, .string ⟨#[]⟩]) 3 32 Tryz.underlying73 hi iz0 iz1 iz2 rfl (by decide) w.heap.size 0 0 [] rfl OWN.out _ _ _ (flatV l) rfl hfl.out (news_flo (HA.out.alloc _)) (one_flatV l) (by unfold maxLen; omega) (by omega) (by first | omega | (simp; done) | (simp; omega)) ?_; intro g2 c2 w2 hown hgr hgg; (try simp only [Nat.zero_add, List.nil_append] at hown); have HO := Lib.hid hown; have HB := Lib.hid (Below.grown ((Below.refl _ _).alloc (Nat.le_refl _) _) hgr (by simp) (fun k hk => by obtain rfl := Option.some.inj hk; exact Nat.le_refl _)); clear hown hgr hgg)
  go_ret
  exact ⟨g2, c2, by simp, RowO.of_own HO.out, HB.out⟩
theorem l3Own (g o c : Nat) (l : List VT) (w : World) (h : Fl w g o (some ⟨g, o, none⟩) (flatV l)) (hl : l.length ≤ 2000000) :
    Calls Tryz.prog 81 #[.slice (some ⟨g, o, none⟩) l.length c] w fun e w' => ∃ (g2 c2 : Nat), e = .returned (.slice (some ⟨g2, 0, none⟩) l.length c2) ∧ RowO w' w.heap.size (g2, c2, l) ∧ Below w.heap.size w w' := by
  obtain ⟨i0, hi, iz0, iz1, iz2⟩ := info_parts infoVc
  have HA := Lib.hid h
  clear h
  have hfl := Lib.hid (flatV_len l)
  have OWN := Lib.hid (own_empty3 (w := w) (B := w.heap.size) 85 3 rfl (Nat.le_refl _))
  go_enter Tryz.func81, Tryz.ntmps81
  go_wp2_with (at_builtin; refine wpList_append_block _ rfl (.tmp 3) (.tmp 4) 73 rfl w.heap.size 85 i0 (.agg #[.int .i64 0, .int .i64 0, .string ⟨#[]⟩]) 3 32 Tryz.underlying73 hi iz0 iz1 iz2 rfl (by decide) w.heap.size 0 0 [] rfl OWN.out _ _ _ (flatV l) rfl hfl.out (news_flo (HA.out.alloc _)) (one_flatV l) (by unfold maxLen; omega) (by omega) (by first | omega | (simp; done) | (simp; omega)) ?_; intro g2 c2 w2 hown hgr hgg; (try simp only [Nat.zero_add, List.nil_append] at hown); have HO := Lib.hid hown; have HB := Lib.hid (Below.grown ((Below.refl _ _).alloc (Nat.le_refl _) _) hgr (by simp) (fun k hk => by obtain rfl := Option.some.inj hk; exact Nat.le_refl _)); clear hown hgr hgg)
  go_ret
  exact ⟨g2, c2, by simp, RowO.of_own HO.out, HB.out⟩
theorem rowsOnceI (A : Option Addr) (g0 o0 cap : Nat) (ls : List RT) (w : World) (hA : Rws w g0 o0 A ls) (hok : Ok2 ls) :
    Calls Tryz.prog 22 #[.slice A ls.length cap] w (RetBag (onceI ls) w) := by
  obtain ⟨i0, hi, iz0, iz1, iz2⟩ := info_parts infoVS
  have HA := Lib.hid hA
  have HK := Lib.hid hok
  have hl := hok.1
  clear hA hok
  have BAG0 := Lib.hid (Bag.empty w)
  have HB0 := Lib.hid ((Below.refl w.heap.size w).alloc (Nat.le_refl _) (.cells #[] 73))
  go_enter Tryz.func22, Tryz.ntmps22
  go_wp2
  go_loopw [3, 4] (fun ox ix wr => ∃ (k g c : Nat) (T : List TT) (o : List RT), k ≤ ls.length ∧ ix = .int .i64 k ∧ ox = .slice (some ⟨g, 0, none⟩) o.length c ∧ o.length ≤ k ∧ Hid (o = onceI (ls.take k)) ∧ Hid (Bag wr w.heap.size g c T o) ∧ Hid (Below w.heap.size w wr)) (fun _ ix _ => ls.length - (intOf ix).toNat)
  case atStart => exact ⟨0, w.heap.size, 0, [], [], Nat.zero_le _, rfl, rfl, Nat.le_refl _, rfl, BAG0, HB0⟩
  case round =>
    clear BAG0 HB0
    obtain ⟨k, g, c, T, o, hk, rfl, rfl, hok, HO, BAG, HB⟩ := hrel
    have hwz := HB.out.size
    by_cases hlt : k < ls.length
    · obtain ⟨rfl, hg, c', g', o', hc, hf⟩ := (HA.out.below HB.out).at k hlt
      have HF := Lib.hid hf
      have hlr := (HK.out.at k hlt).1
      have HS := Lib.hid (onceI_snoc ls k hlt)
      have OK := Lib.hid (HK.out.sub (ms := o) (by omega) (fun r hr => by rw [HO.out] at hr; exact List.mem_of_mem_take ((once_mem _ _).1 hr)))
      obtain ⟨K, hK⟩ : ∃ K, ls[k] = K := ⟨_, rfl⟩
      rw [hK] at hc HF HS hlr
      clear hK hf
      have CM := Lib.hid (fun W hW hW2 => rowManyI (some ⟨g, 0, none⟩) (some ⟨g', o', none⟩) g 0 g' o' c c' o K W hW hW2 OK.out hlr)
      have CC := Lib.hid (fun W hW => rowCopy g' o' c' K W hW hlr)
      obtain ⟨kl, hkl⟩ : ∃ n, K.length = n := ⟨_, rfl⟩
      rw [hkl] at hc CM CC
      obtain ⟨ol, hol⟩ : ∃ n, o.length = n := ⟨_, rfl⟩
      rw [hol] at CM hok
      have HOL := Lib.hid hol
      have HKL := Lib.hid hkl
      have i0' : (0 : Int) ≤ (k : Int) := by omega
      have i1' : (k : Int) < (ls.length : Int) := by omega
      rw [hol]
      clear hkl hol
      by_cases hq : o.count K = 0
      · rw [hq, show (((0 : Nat) : Int)) = 0 from rfl] at CM
        have HN : Hid (o ++ [K] = onceI (ls.take (k + 1))) := by show _ = _; rw [HS.out, ← HO.out, onceF, if_pos hq]
        clear hq HS HO
        go_wp2_with (first
          | (go_at_call 45; (with_reducible refine (CM.out _ BAG.out.rws HF.out).mono ?_); rintro e w1 ⟨rfl, hb1⟩; have hc1 := (hb1.cell (p := ⟨_, _, none⟩) hg).trans hc; have HF1 := Lib.hid (HF.out.below hb1); have BAG1 := Lib.hid (BAG.out.below hb1); have HB1 := Lib.hid (HB.out.trans (hb1.mono hwz)); have hwz1 := HB1.out.size; clear hb1 hc BAG HB HF hwz)
          | (go_at_call 46; (with_reducible refine (CC.out _ HF1.out).mono ?_); rintro e w2 ⟨g2, c2, rfl, hr2, hb2⟩; have HR2 := Lib.hid hr2; have BAG2 := Lib.hid (BAG1.out.below hb2); have HB2 := Lib.hid (HB1.out.trans (hb2.mono hwz1)); have HBB := Lib.hid hb2; have hwz2 := HB2.out.size; clear hb2 hr2)
          | (at_builtin; go_loud (refine wpList_append_block _ rfl (.tmp 19) (.tmp 25) 26 rfl w.heap.size 73 i0 (.slice none 0 0) 1 24 Tryz.underlying26 hi iz0 iz1 iz2 rfl (by decide) g ol c (T.map hdr) rfl (by have h := BAG2.out.own; rw [HOL.out] at h; exact h.alloc _) _ 1 1 [.slice (some ⟨g2, 0, none⟩) kl c2] rfl rfl (news_new (by first | rfl | simp)) (by simp [Value.oneCell']) (by unfold maxLen; omega) (by omega) (by first | omega | (simp; done) | (simp; omega)) ?_); intro g3 c3 w3 hown hgr hgg; have HNB := Lib.hid (Bag.push2 BAG1.out HR2.out HBB.out (by rw [HOL.out]) (by have h := hown; rw [← HKL.out] at h; exact h) hgr hgg); have HB3 := Lib.hid (Below.grown (HB2.out.alloc hwz2 _) hgr (by simp; omega) (fun k hk => by obtain rfl := Option.some.inj hk; exact BAG1.out.lo.1)); clear hown hgr hgg))
        exact ⟨⟨k + 1, g3, c3, _, o ++ [K], by omega, by go_num, by simp [HOL.out], by simp [HOL.out]; omega, HN, HNB, HB3⟩, by simp [intOf]; omega⟩
      · have HN : Hid (o = onceI (ls.take (k + 1))) := by show _ = _; rw [HS.out, ← HO.out, onceF, if_neg hq]
        have hq2 : ¬ ((o.count K : Nat) : Int) = 0 := by omega
        obtain ⟨m, hm⟩ : ∃ m, o.count K = m := ⟨_, rfl⟩
        rw [hm] at CM hq2
        clear hq HS HO hm
        go_wp2_with (go_at_call 45; (with_reducible refine (CM.out _ BAG.out.rws HF.out).mono ?_); rintro e w1 ⟨rfl, hb1⟩; have BAG1 := Lib.hid (BAG.out.below hb1); have HB1 := Lib.hid (HB.out.trans (hb1.mono hwz)); clear hb1 BAG HB HF hwz)
        exact ⟨⟨k + 1, g, c, T, o, by omega, by go_num, by rw [HOL.out], by rw [HOL.out]; omega, HN, BAG1, HB1⟩, by simp [intOf]; omega⟩
    · obtain rfl : k = ls.length := by omega
      have HO2 : Hid (o = onceI ls) := by show _ = _; have := HO.out; rwa [List.take_length] at this
      obtain rfl := HO2.out
      go_wp2
      go_ret
      exact ⟨g, c, T, rfl, BAG.out, HB.out⟩
theorem rowsOnceS (A : Option Addr) (g0 o0 cap : Nat) (ls : List RT) (w : World) (hA : Rws w g0 o0 A ls) (hok : Ok2 ls) :
    Calls Tryz.prog 85 #[.slice A ls.length cap] w (RetBag (onceI ls) w) := by
  obtain ⟨i0, hi, iz0, iz1, iz2⟩ := info_parts infoVS
  have HA := Lib.hid hA
  have HK := Lib.hid hok
  have hl := hok.1
  clear hA hok
  have BAG0 := Lib.hid (Bag.empty w)
  have HB0 := Lib.hid ((Below.refl w.heap.size w).alloc (Nat.le_refl _) (.cells #[] 73))
  go_enter Tryz.func85, Tryz.ntmps85
  go_wp2
  go_loopw [3, 4] (fun ox ix wr => ∃ (k g c : Nat) (T : List TT) (o : List RT), k ≤ ls.length ∧ ix = .int .i64 k ∧ ox = .slice (some ⟨g, 0, none⟩) o.length c ∧ o.length ≤ k ∧ Hid (o = onceI (ls.take k)) ∧ Hid (Bag wr w.heap.size g c T o) ∧ Hid (Below w.heap.size w wr)) (fun _ ix _ => ls.length - (intOf ix).toNat)
  case atStart => exact ⟨0, w.heap.size, 0, [], [], Nat.zero_le _, rfl, rfl, Nat.le_refl _, rfl, BAG0, HB0⟩
  case round =>
    clear BAG0 HB0
    obtain ⟨k, g, c, T, o, hk, rfl, rfl, hok, HO, BAG, HB⟩ := hrel
    have hwz := HB.out.size
    by_cases hlt : k < ls.length
    · obtain ⟨rfl, hg, c', g', o', hc, hf⟩ := (HA.out.below HB.out).at k hlt
      have HF := Lib.hid hf
      have hlr := (HK.out.at k hlt).1
      have HS := Lib.hid (onceI_snoc ls k hlt)
      have OK := Lib.hid (HK.out.sub (ms := o) (by omega) (fun r hr => by rw [HO.out] at hr; exact List.mem_of_mem_take ((once_mem _ _).1 hr)))
      obtain ⟨K, hK⟩ : ∃ K, ls[k] = K := ⟨_, rfl⟩
      rw [hK] at hc HF HS hlr
      clear hK hf
      have CM := Lib.hid (fun W hW hW2 => rowManyS (some ⟨g, 0, none⟩) (some ⟨g', o', none⟩) g 0 g' o' c c' o K W hW hW2 OK.out hlr)
      have CC := Lib.hid (fun W hW => l3Own g' o' c' K W hW hlr)
      obtain ⟨kl, hkl⟩ : ∃ n, K.length = n := ⟨_, rfl⟩
      rw [hkl] at hc CM CC
      obtain ⟨ol, hol⟩ : ∃ n, o.length = n := ⟨_, rfl⟩
      rw [hol] at CM hok
      have HOL := Lib.hid hol
      have HKL := Lib.hid hkl
      have i0' : (0 : Int) ≤ (k : Int) := by omega
      have i1' : (k : Int) < (ls.length : Int) := by omega
      rw [hol]
      clear hkl hol
      by_cases hq : o.count K = 0
      · rw [hq, show (((0 : Nat) : Int)) = 0 from rfl] at CM
        have HN : Hid (o ++ [K] = onceI (ls.take (k + 1))) := by show _ = _; rw [HS.out, ← HO.out, onceF, if_pos hq]
        clear hq HS HO
        go_wp2_with (first
          | (go_at_call 109; (with_reducible refine (CM.out _ BAG.out.rws HF.out).mono ?_); rintro e w1 ⟨rfl, hb1⟩; have hc1 := (hb1.cell (p := ⟨_, _, none⟩) hg).trans hc; have HF1 := Lib.hid (HF.out.below hb1); have BAG1 := Lib.hid (BAG.out.below hb1); have HB1 := Lib.hid (HB.out.trans (hb1.mono hwz)); have hwz1 := HB1.out.size; clear hb1 hc BAG HB HF hwz)
          | (go_at_call 81; (with_reducible refine (CC.out _ HF1.out).mono ?_); rintro e w2 ⟨g2, c2, rfl, hr2, hb2⟩; have HR2 := Lib.hid hr2; have BAG2 := Lib.hid (BAG1.out.below hb2); have HB2 := Lib.hid (HB1.out.trans (hb2.mono hwz1)); have HBB := Lib.hid hb2; have hwz2 := HB2.out.size; clear hb2 hr2)
          | (at_builtin; go_loud (refine wpList_append_block _ rfl (.tmp 19) (.tmp 25) 26 rfl w.heap.size 73 i0 (.slice none 0 0) 1 24 Tryz.underlying26 hi iz0 iz1 iz2 rfl (by decide) g ol c (T.map hdr) rfl (by have h := BAG2.out.own; rw [HOL.out] at h; exact h.alloc _) _ 1 1 [.slice (some ⟨g2, 0, none⟩) kl c2] rfl rfl (news_new (by first | rfl | simp)) (by simp [Value.oneCell']) (by unfold maxLen; omega) (by omega) (by first | omega | (simp; done) | (simp; omega)) ?_); intro g3 c3 w3 hown hgr hgg; have HNB := Lib.hid (Bag.push2 BAG1.out HR2.out HBB.out (by rw [HOL.out]) (by have h := hown; rw [← HKL.out] at h; exact h) hgr hgg); have HB3 := Lib.hid (Below.grown (HB2.out.alloc hwz2 _) hgr (by simp; omega) (fun k hk => by obtain rfl := Option.some.inj hk; exact BAG1.out.lo.1)); clear hown hgr hgg))
        exact ⟨⟨k + 1, g3, c3, _, o ++ [K], by omega, by go_num, by simp [HOL.out], by simp [HOL.out]; omega, HN, HNB, HB3⟩, by simp [intOf]; omega⟩
      · have HN : Hid (o = onceI (ls.take (k + 1))) := by show _ = _; rw [HS.out, ← HO.out, onceF, if_neg hq]
        have hq2 : ¬ ((o.count K : Nat) : Int) = 0 := by omega
        obtain ⟨m, hm⟩ : ∃ m, o.count K = m := ⟨_, rfl⟩
        rw [hm] at CM hq2
        clear hq HS HO hm
        go_wp2_with (go_at_call 109; (with_reducible refine (CM.out _ BAG.out.rws HF.out).mono ?_); rintro e w1 ⟨rfl, hb1⟩; have BAG1 := Lib.hid (BAG.out.below hb1); have HB1 := Lib.hid (HB.out.trans (hb1.mono hwz)); clear hb1 BAG HB HF hwz)
        exact ⟨⟨k + 1, g, c, T, o, by omega, by go_num, by rw [HOL.out], by rw [HOL.out]; omega, HN, BAG1, HB1⟩, by simp [intOf]; omega⟩
    · obtain rfl : k = ls.length := by omega
      have HO2 : Hid (o = onceI ls) := by show _ = _; have := HO.out; rwa [List.take_length] at this
      obtain rfl := HO2.out
      go_wp2
      go_ret
      exact ⟨g, c, T, rfl, BAG.out, HB.out⟩
end Go.Proofs.YtcgjnilkbdamjaaGreat.Val
