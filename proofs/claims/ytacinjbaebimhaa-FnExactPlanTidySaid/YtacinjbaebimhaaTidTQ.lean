/- A tidy plan: the reference's PlanTidy. -/
import Derived.Test.YtacinjbaebimhaaTidKQ
import Derived.Test.YtacinjbaebimhaaPSpecQ
namespace Go.Proofs.Ytacinjbaebimhaa.Val
open Go.RowKit
set_option linter.unusedSimpArgs false
set_option linter.unusedVariables false
set_option maxRecDepth 20000
theorem tidy_at {tb : List TB} {p : List SP} (h : planB tb p = true) (k : Nat) (hk : k < p.length) (hu : (useF p p.length (use0 tb p)).1.getD k false = true) : TidyAt p (useF p p.length (use0 tb p)).1 k p[k] := by
  have hr := (plan_refs h k hk).2
  have hl := ((use_final h).2.2 k hk hk hu).2
  have nat : ∀ n : Int, inB n k = true → ∃ j : Nat, n = (j : Int) ∧ j < k := fun n hn => by
    simp only [inB, Bool.and_eq_true, decide_eq_true_eq] at hn
    exact ⟨n.toNat, by omega, by omega⟩
  have h1 : p[k].1 ≠ 1 → (∃ a : Nat, p[k].2.1 = (a : Int) ∧ a < k ∧ (useF p p.length (use0 tb p)).1.getD a false = true) ∧ ((p[k].1 = 4 ∨ p[k].1 = 5) → ∃ b : Nat, p[k].2.2.1 = (b : Int) ∧ b < k ∧ (useF p p.length (use0 tb p)).1.getD b false = true) := fun hn => by
    obtain ⟨ha, hb⟩ := hr hn
    obtain ⟨ua, ub⟩ := hl hn
    obtain ⟨a, ea, la⟩ := nat _ ha
    obtain ⟨b, eb, lb⟩ := nat _ hb
    rw [ea] at ua
    refine ⟨⟨a, ea, la, by simpa using ua⟩, fun h45 => ⟨b, eb, lb, ?_⟩⟩
    have := ub h45
    rw [eb] at this
    simpa using this
  rcases plan_kinds h k hk with e | e | e | e | e | e
  · exact .inl ⟨e, by rw [e]; decide⟩
  · exact .inr (.inl ⟨by rw [e]; decide, by rw [e]; decide, by rw [e]; decide, by rw [e]; decide, (h1 (by rw [e]; decide)).1⟩)
  · exact .inr (.inl ⟨by rw [e]; decide, by rw [e]; decide, by rw [e]; decide, by rw [e]; decide, (h1 (by rw [e]; decide)).1⟩)
  · obtain ⟨⟨a, ea, la, ua⟩, hb⟩ := h1 (by rw [e]; decide)
    obtain ⟨b, eb, lb, ub⟩ := hb (.inl e)
    exact .inr (.inr ⟨.inl e, by rw [e]; decide, a, b, ea, eb, la, lb, ua, ub⟩)
  · obtain ⟨⟨a, ea, la, ua⟩, hb⟩ := h1 (by rw [e]; decide)
    obtain ⟨b, eb, lb, ub⟩ := hb (.inr e)
    exact .inr (.inr ⟨.inr e, by rw [e]; decide, a, b, ea, eb, la, lb, ua, ub⟩)
  · exact .inr (.inl ⟨by rw [e]; decide, by rw [e]; decide, by rw [e]; decide, by rw [e]; decide, (h1 (by rw [e]; decide)).1⟩)
theorem Only.setAt {r : Nat} {w w' : World} (h : Only r w w') (o : Nat) (u : Value) : Only r w (w'.setCell ⟨r, o, none⟩ u) := h.trans (Only.set w' o u)
theorem nodup_atT {U : List UP} (h : (U.flatMap blkS).Nodup) {k : Nat} (hk : k < U.length) : ∀ j (hj : j < U.length), j < k → ∀ b ∈ blkS U[k], b ∉ blkS U[j] := by
  intro j hj hjk b hb hm
  have hs : U = U.take k ++ U.drop k := (List.take_append_drop k U).symm
  rw [hs, List.flatMap_append] at h
  refine (List.nodup_append.1 h).2.2 b (List.mem_flatMap.2 ⟨U[j], ?_, hm⟩) b (List.mem_flatMap.2 ⟨U[k], ?_, hb⟩) rfl
  · rw [List.mem_take_iff_getElem]
    exact ⟨j, by omega, rfl⟩
  · rw [List.mem_drop_iff_getElem]
    exact ⟨0, by omega, by simp⟩
theorem nodup_selfT {U : List UP} (h : (U.flatMap blkS).Nodup) {k : Nat} (hk : k < U.length) : (blkS U[k]).Nodup := by
  have hs : U = U.take k ++ U.drop k := (List.take_append_drop k U).symm
  rw [hs, List.flatMap_append] at h
  have h2 := (List.nodup_append.1 h).2.1
  rw [List.drop_eq_getElem_cons hk, List.flatMap_cons] at h2
  exact (List.nodup_append.1 h2).1
/-- What a round of the reference's second loop leaves. -/
theorem tidy_next {w wr W w6 : World} {B1 gt gu s3 s5 g g9 c9 c6 g6 c k n : Nat} {U : List Bool} {U9 V : List UP} {p : List SP} {PL T : List Int} {u : UP} {vl : Int} {s' : SP}
    (SV : Stp wr w.heap.size g c V ((leftL p U k).map (plS PL))) (VB : ∀ v ∈ V, ∃ j, ∃ hj : j < U9.length, j < k ∧ blkS v = blkS U9[j]) (hT : T.length = n ∧ ∀ j, j < k → U.getD j false = true → T.getD j 0 = ((leftL p U j).length : Int)) (hvl : vl = ((leftL p U k).length : Int))
    (HU : wr.ownsRow B1 4 1 (.slice (some ⟨gu, 0, none⟩) n n) n (U.map bvB)) (ST9 : Stp wr (s3 + 1) g9 c9 U9 p) (hgg : g = s3 ∨ s5 ≤ g) (HW : Below w.heap.size w wr) (hwq : s5 ≤ wr.heap.size) (OB9 : ∀ b ∈ U9.flatMap blkS, s3 + 1 ≤ b ∧ b < s5) (hg9 : s3 + 1 ≤ g9 ∧ g9 < s5)
    (hgt : w.heap.size ≤ gt ∧ gu < gt ∧ gt < s3 ∧ s3 < s5) (hwz : w.heap.size ≤ wr.heap.size) (hk9 : k < U9.length) (hub : blkS u = blkS U9[k]) (hu : StpO wr (s3 + 1) u) (hkn : k < n)
    (hLL : leftL p U (k + 1) = leftL p U k ++ [s']) (hSP : plS PL s' = spOf u)
    (h1 : Only gt wr W) (h2 : W.grownBy w6 (some g)) (h3 : g6 = g ∨ W.heap.size ≤ g6) (h4 : W.ownsRow B1 3 1 (.slice (some ⟨gt, 0, none⟩) n n) n ((T.set k vl).map iv)) (h5 : w6.ownsRow w.heap.size 32 6 (.slice (some ⟨g6, 0, none⟩) ((leftL p U k).length + 1) c6) ((leftL p U k).length + 1) (V.flatMap hdS ++ hdS u)) :
    Stp w6 w.heap.size g6 c6 (V ++ [u]) ((leftL p U (k + 1)).map (plS PL)) ∧ (∀ v ∈ V ++ [u], ∃ j, ∃ hj : j < U9.length, j < k + 1 ∧ blkS v = blkS U9[j]) ∧ ((T.set k vl).length = n ∧ ∀ j, j < k + 1 → U.getD j false = true → (T.set k vl).getD j 0 = ((leftL p U j).length : Int)) ∧ w6.ownsRow B1 3 1 (.slice (some ⟨gt, 0, none⟩) n n) n ((T.set k vl).map iv) ∧ w6.ownsRow B1 4 1 (.slice (some ⟨gu, 0, none⟩) n n) n (U.map bvB) ∧ Stp w6 (s3 + 1) g9 c9 U9 p ∧ (g6 = s3 ∨ s5 ≤ g6) ∧ Below w.heap.size w w6 ∧ s5 ≤ w6.heap.size := by
  have hlg := SV.lo
  have hW := h1.size
  have hgne : g ≠ gt := by omega
  have hV : ∀ b ∈ V.flatMap blkS, b ∈ U9.flatMap blkS := fun b hb => by
    obtain ⟨v, hv, hb⟩ := List.mem_flatMap.1 hb
    obtain ⟨j, hj, -, e⟩ := VB v hv
    rw [e] at hb
    exact List.mem_flatMap.2 ⟨_, List.getElem_mem _, hb⟩
  have k1 : ∀ b, b < wr.heap.size → b ≠ gt → W.heap[b]? = wr.heap[b]? := fun b hb hne => h1.block b hb hne
  have k2 : ∀ b, b < W.heap.size → b ≠ g → w6.heap[b]? = W.heap[b]? := fun b hb hne => h2.block b hb fun e => hne (Option.some.inj e)
  have k3 : ∀ b, b < wr.heap.size → b ≠ gt → b ≠ g → w6.heap[b]? = wr.heap[b]? := fun b hb h h' => (k2 b (by omega) h').trans (k1 b hb h)
  have SVW : Stp W w.heap.size g c V ((leftL p U k).map (plS PL)) := SV.keep hW (k1 g hlg.2 hgne) fun b hb => k1 b (SV.hi b hb).2 (by have := OB9 b (hV b hb); omega)
  have hbU : ∀ b ∈ blkS u, b ∈ U9.flatMap blkS := fun b hb => List.mem_flatMap.2 ⟨_, List.getElem_mem hk9, by rw [← hub]; exact hb⟩
  refine ⟨?_, fun v hv => ?_, ⟨by rw [List.length_set]; exact hT.1, fun j hj hju => ?_⟩, own_keep h4 (k2 gt (h4.lt gt rfl).2 (Ne.symm hgne)), own_keep HU (k3 gu (HU.lt gu rfl).2 (by omega) (by omega)), ST9.keep (Nat.le_trans hW h2.size) (k3 g9 (by omega) (by omega) (by omega)) (fun b hb => by have := OB9 b hb; exact k3 b (by omega) (by omega) (by omega)), by omega, ?_, Nat.le_trans hwq (Nat.le_trans hW h2.size)⟩
  · rw [hLL, List.map_append, show [s'].map (plS PL) = [spOf u] from by rw [← hSP]; rfl]
    have hnd := nodup_selfT ST9.nd hk9
    rw [← hub] at hnd
    refine Stp.push SVW ((hu.keep hW fun b hb => k1 b (hu.hi b hb).2 (by have := OB9 b (hbU b hb); omega)).lower (by omega)) (by simpa [blkS] using hnd) (fun b hb => ⟨fun hm => ?_, ?_⟩) (by rw [List.length_map]) h5 h2 h3
    · obtain ⟨v, hv, hbv⟩ := List.mem_flatMap.1 hm
      obtain ⟨j, hj, hjk, e⟩ := VB v hv
      rw [e] at hbv
      rw [hub] at hb
      exact nodup_atT ST9.nd hk9 j hj hjk b hb hbv
    · have := OB9 b (hbU b hb); omega
  · rcases List.mem_append.1 hv with hv | hv
    · obtain ⟨j, hj, hjk, e⟩ := VB v hv
      exact ⟨j, hj, by omega, e⟩
    · obtain rfl := List.mem_singleton.1 hv
      exact ⟨k, hk9, by omega, hub⟩
  · rcases Nat.lt_succ_iff_lt_or_eq.1 hj with h | rfl
    · rw [← hT.2 j h hju, List.getD_eq_getElem?_getD, List.getD_eq_getElem?_getD, List.getElem?_set_ne (by omega)]
    · rw [List.getD_eq_getElem?_getD, List.getElem?_set_self (by omega), hvl]; rfl
  · exact Below.grown (HW.trans (h1.below hgt.1 hwz)) h2 (by omega) fun k hk => by obtain rfl := Option.some.inj hk; exact hlg.1
set_option maxHeartbeats 8000000 in
theorem planTidyS (AT AP : Option Addr) (gT oT cT gP oP cP : Nat) (tb : List TB) (p : List SP) (w : World) (hT : Tbs w gT oT AT tb) (hok : OkT tb) (hP : Sps w gP oP AP p) (hps : OkS p) :
    Calls Try.prog 35 #[.slice AT tb.length cT, .slice AP p.length cP] w (RetStp (tidyI tb p) w) := by
  obtain ⟨i0, hi, iz0, iz1, iz2⟩ := info_parts infoB
  obtain ⟨j0, hj, jz0, jz1, jz2⟩ := info_parts infoN
  obtain ⟨s0, hs0, sz0, sz1, sz2⟩ := info_parts infoSQ
  have HT := Lib.hid hT
  have HP := Lib.hid hP
  have HPS := Lib.hid hps
  have hpl2 := hps.1
  have CO := Lib.hid (fun W h1 h2 => planOkS AT AP gT oT cT gP oP cP tb p W h1 hok h2 hps)
  have S0 := True.intro
  cases hpb : planB tb p with
  | false =>
    have hz : tidyI tb p = [] := by rw [tidyI, hpb]; rfl
    rw [hz]
    rw [hpb] at CO
    clear hT hok hP hps
    go_enter Try.func35, Try.ntmps35
    go_wp2_with (go_at_call 13; (with_reducible refine (CO.out _ HT.out HP.out).mono ?_); rintro e w1 ⟨rfl, hb1⟩; have HB1 := Lib.hid hb1)
    go_ret
    exact ⟨w1.heap.size, 0, [], rfl, (Stp.nil rfl (Nat.le_refl _)).lower HB1.out.size, HB1.out.alloc HB1.out.size _⟩
  | true =>
    rw [hpb] at CO
    obtain ⟨-, -, h1, h6⟩ := planB_iff.1 hpb
    have j1' : (0 : Int) ≤ (p.length : Int) - 1 := by omega
    have j2' : (p.length : Int) - 1 < (p.length : Int) := by omega
    go_enter Try.func35, Try.ntmps35
    go_wp2_with (first
      | (go_at_call 13; (with_reducible refine (CO.out _ HT.out HP.out).mono ?_); rintro e w1 ⟨rfl, hb1⟩; have HB1 := Lib.hid hb1; have hz1 := hb1.size; clear hb1)
      | (at_make; go_loud (refine wpList_make_full w1 rfl _ _ 86 rfl w1.heap.size 4 i0 (.bool false) 1 Try.underlying86 hi iz0 iz1 .i64 .i64 p.length p.length p.length rfl rfl rfl rfl (by rw [iz2]; omega) (by unfold maxLen; omega) (Nat.le_refl _) ?_); intro w2 hown hgr; go_loud (rw [show (madeCells (Value.bool false).cells (p.length * 1)).toList = (List.replicate p.length false).map bvB from by rw [Nat.mul_one, show (Value.bool false).cells = #[.bool false] from rfl, toList_madeCells_one, List.map_replicate]; rfl] at hown; have hst := (hown.stored (p.length - 1) (.bool true)).1; rw [show (.bool true : Value) = bvB true from rfl, ← List.map_set] at hst; have HU := Lib.hid hst; obtain ⟨v0, hv0⟩ : ∃ v, w2.cell? ⟨w1.heap.size, p.length - 1, none⟩ = some v := (by rw [hown.cellAt (p.length - 1) (by omega), List.getElem?_eq_getElem (by rw [hown.1]; omega)]; exact ⟨_, rfl⟩); have hf0 := hown.frozenAt (p.length - 1); have HB2 := Lib.hid (Below.grown (Below.refl w1.heap.size w1) hgr (Nat.le_refl _) (by intro k hk; cases hk)); have hz2 := (hown.lt w1.heap.size rfl).2; clear hown hgr hst)))
    have HST : Hid (∀ k (hk : k < p.length), (p[k].1 = 1 → inB p[k].2.2.2.1 tb.length = true) ∧ (p[k].1 ≠ 1 → inB p[k].2.1 k = true ∧ inB p[k].2.2.1 k = true)) := fun k hk => plan_refs hpb k hk
    have HL0 : Hid ((use0 tb p).1.length = p.length) := by show _ = _; simp [use0]
    have HTA : Hid (∀ k (hk : k < p.length), (useF p p.length (use0 tb p)).1.getD k false = true → TidyAt p (useF p p.length (use0 tb p)).1 k p[k]) := Lib.hid (tidy_at hpb)
    have HTI : Hid (tidyI tb p = (leftL p (useF p p.length (use0 tb p)).1 p.length).map (plS (plcL p (useF p p.length (use0 tb p)).1 p.length))) := Lib.hid (by rw [tidyI, if_pos hpb]; rfl)
    have HUL : Hid ((useF p p.length (use0 tb p)).1.length = p.length) := Lib.hid (by rw [(useF_len p p.length (use0 tb p)).1]; exact HL0.out)
    have HU4 : Hid ((w2.setCell ⟨w1.heap.size, p.length - 1, none⟩ (.bool true)).ownsRow w1.heap.size 4 1 (.slice (some ⟨w1.heap.size, 0, none⟩) p.length p.length) p.length ((use0 tb p).1.map bvB)) := HU
    have HB3 : Hid (Below w1.heap.size w1 (w2.setCell ⟨w1.heap.size, p.length - 1, none⟩ (.bool true))) := Lib.hid (HB2.out.setCell (by simp only; omega) _)
    have hz3 : w1.heap.size < (w2.setCell ⟨w1.heap.size, p.length - 1, none⟩ (.bool true)).heap.size := by simp [World.setCell]; omega
    clear HU hpb hT hok hP hps
    go_loopw [6] (fun kx wr => ∃ (m : Nat) (z : Int) (st : List Bool × List Bool), m ≤ p.length ∧ kx = .int .i64 z ∧ z + 1 = (m : Int) ∧ Hid (useF p m st = useF p p.length (use0 tb p)) ∧ Hid (st.1.length = p.length) ∧ Hid (wr.ownsRow w1.heap.size 4 1 (.slice (some ⟨w1.heap.size, 0, none⟩) p.length p.length) p.length (st.1.map bvB)) ∧ Hid (Below w1.heap.size w1 wr) ∧ w1.heap.size < wr.heap.size) (fun kx _ => (intOf kx + 1).toNat)
    case atStart => exact ⟨p.length, _, use0 tb p, Nat.le_refl _, rfl, by omega, rfl, HL0, HU4, HB3, hz3⟩
    case round =>
      clear HU4 HB3 HL0
      obtain ⟨m, z, st, hm, rfl, hzm, HF, HL, HU, HBR, hzr⟩ := hrel
      cases m with
      | zero =>
        obtain rfl : z = -1 := by omega
        obtain ⟨wv, rfl⟩ : ∃ x, x = wr := ⟨_, rfl⟩
        have HF0 : Hid (st = useF p p.length (use0 tb p)) := HF
        have hu1 : (useF p p.length (use0 tb p)).1 = st.1 := by rw [← HF0.out]
        rw [hu1] at HTA HTI HUL
        have HWR := Lib.hid (HB1.out.trans (HBR.out.mono hz1))
        have LOWN := Lib.hid (fun W (hb : Below w.heap.size w W) => l7Own AP gP oP cP p W (HP.out.below hb) HPS.out)
        obtain ⟨U, hU⟩ : ∃ u, st.1 = u := ⟨_, rfl⟩
        rw [hU] at HTA HTI HUL HU
        have HPL := Lib.hid (fun j (hj : j < p.length) => plcL_at p U p.length j hj)
        generalize plcL p U p.length = PL at HTI HPL
        have hwr := HWR.out.size
        clear HF HF0 HL HST hU hu1 HBR
        go_wp2_with (first
          | (at_make; refine wpList_make_full wv rfl _ _ 30 rfl wv.heap.size 3 j0 (.int .i64 0) 1 Try.underlying30 hj jz0 jz1 .i64 .i64 p.length p.length p.length rfl rfl rfl rfl (by rw [jz2]; omega) (by unfold maxLen; omega) (Nat.le_refl _) ?_; intro w3 hown hgr; rw [show (madeCells (Value.int .i64 0).cells (p.length * 1)).toList = (List.replicate p.length (0 : Int)).map iv from (by rw [Nat.mul_one, show (Value.int .i64 0).cells = #[.int .i64 0] from rfl, toList_madeCells_one, List.map_replicate]; rfl)] at hown; have HT0 := Lib.hid hown; have HB3 := Lib.hid (Below.grown (Below.refl wv.heap.size wv) hgr (Nat.le_refl _) (by intro k hk; cases hk)); have hz3 := (hown.lt wv.heap.size rfl).2; clear hown hgr)
          | (go_at_call 65; (with_reducible refine (LOWN.out _ ((HWR.out.trans (HB3.out.mono hwr)).alloc (by omega) _)).mono ?_); rintro e w5 ⟨g9, c9, U9, rfl, hst, hb⟩; have ST9 := Lib.hid hst; have HB5 := Lib.hid hb; clear hst hb))
        have hs4 : (w3.alloc (.cells #[] 32)).heap.size = w3.heap.size + 1 := by simp
        have hz5 := HB5.out.size
        rw [hs4] at hz5
        have ST9b : Hid (Stp w5 (w3.heap.size + 1) g9 c9 U9 p) := Lib.hid (by have h := ST9.out; rw [hs4] at h; exact h)
        have HT5 : Hid (w5.ownsRow w1.heap.size 3 1 (.slice (some ⟨wv.heap.size, 0, none⟩) p.length p.length) p.length ((List.replicate p.length (0 : Int)).map iv)) := Lib.hid (own_lowerP (own_keep (HT0.out.alloc (.cells #[] 32)) (HB5.out.block _ (by rw [hs4]; omega))) (by omega))
        have HU5 : Hid (w5.ownsRow w1.heap.size 4 1 (.slice (some ⟨w1.heap.size, 0, none⟩) p.length p.length) p.length (U.map bvB)) := Lib.hid (own_keep (own_keep HU.out (((HB3.out.alloc HB3.out.size (.cells #[] 32))).block _ hzr)) (HB5.out.block _ (by rw [hs4]; omega)))
        have SO5 : Hid (Stp w5 w.heap.size w3.heap.size 0 [] []) := Lib.hid ((Stp.nil (w := w3) (B := w.heap.size) rfl (by omega)).below HB5.out)
        have HW5 : Hid (Below w.heap.size w w5) := Lib.hid (((HWR.out.trans (HB3.out.mono hwr)).alloc (by omega) (.cells #[] 32)).trans (HB5.out.mono (by rw [hs4]; omega)))
        have OB9 : Hid (∀ b ∈ U9.flatMap blkS, w3.heap.size + 1 ≤ b ∧ b < w5.heap.size) := Lib.hid (fun b hb => ST9b.out.hi b hb)
        have hg9 := ST9b.out.lo
        have hl9 := ST9b.out.len
        clear ST9 HB5 HT0 HU LOWN HB3 HWR hs4
        go_loopw [9, 11] (fun ox kx wr => ∃ (k g c : Nat) (V : List UP) (T : List Int), k ≤ p.length ∧ kx = .int .i64 (k : Int) ∧ ox = .slice (some ⟨g, 0, none⟩) (leftL p U k).length c ∧ Hid (Stp wr w.heap.size g c V ((leftL p U k).map (plS PL))) ∧ Hid (∀ v ∈ V, ∃ j, ∃ hj : j < U9.length, j < k ∧ blkS v = blkS U9[j]) ∧ Hid (T.length = p.length ∧ ∀ j, j < k → U.getD j false = true → T.getD j 0 = ((leftL p U j).length : Int)) ∧ Hid (wr.ownsRow w1.heap.size 3 1 (.slice (some ⟨wv.heap.size, 0, none⟩) p.length p.length) p.length (T.map iv)) ∧ Hid (wr.ownsRow w1.heap.size 4 1 (.slice (some ⟨w1.heap.size, 0, none⟩) p.length p.length) p.length (U.map bvB)) ∧ Hid (Stp wr (w3.heap.size + 1) g9 c9 U9 p) ∧ (g = w3.heap.size ∨ w5.heap.size ≤ g) ∧ Hid (Below w.heap.size w wr) ∧ w5.heap.size ≤ wr.heap.size) (fun _ kx _ => p.length - (intOf kx).toNat)
        case atStart => exact ⟨0, _, 0, [], List.replicate p.length 0, by omega, rfl, rfl, SO5, fun v hv => absurd hv (by simp), ⟨by simp, fun j hj => by omega⟩, HT5, HU5, ST9b, .inl rfl, HW5, Nat.le_refl _⟩
        case round =>
          clear SO5 HT5 HU5 ST9b HW5
          obtain ⟨k, g, c, V, T, hkn, rfl, rfl, SV, VB, HTT, HTo, HUs, ST9, hgg, HW, hwq⟩ := hrel
          have hlg := SV.out.lo
          have hcg := (own_caps SV.out.own)
          have hll := leftL_le p U k
          have hT1 := HTT.out.1
          by_cases hlt : k < p.length
          · have hk9 : k < U9.length := by omega
            have hkU : k < U.length := by have := HUL.out; omega
            obtain ⟨y0, y1, y2, y3, y4, y5⟩ := flatS_get U9 k hk9
            have x0 : wr.cell? ⟨g9, k * 6, none⟩ = _ := (ST9.out.own.cellAt (k * 6) (by omega)).trans y0
            have x1 : wr.cell? ⟨g9, k * 6 + 1, none⟩ = _ := (ST9.out.own.cellAt (k * 6 + 1) (by omega)).trans y1
            have x2 : wr.cell? ⟨g9, k * 6 + 2, none⟩ = _ := (ST9.out.own.cellAt (k * 6 + 2) (by omega)).trans y2
            have x3 : wr.cell? ⟨g9, k * 6 + 3, none⟩ = _ := (ST9.out.own.cellAt (k * 6 + 3) (by omega)).trans y3
            have x4 : wr.cell? ⟨g9, k * 6 + 4, none⟩ = _ := (ST9.out.own.cellAt (k * 6 + 4) (by omega)).trans y4
            have x5 : wr.cell? ⟨g9, k * 6 + 5, none⟩ = _ := (ST9.out.own.cellAt (k * 6 + 5) (by omega)).trans y5
            clear y0 y1 y2 y3 y4 y5
            have hpe : p[k] = spOf U9[k] := by
              have h2 : (U9.map spOf)[k]? = p[k]? := by rw [ST9.out.eq]
              rw [List.getElem?_map, List.getElem?_eq_getElem hk9, List.getElem?_eq_getElem hlt] at h2
              exact (Option.some.inj h2).symm
            have hso := ST9.out.stps U9[k] (List.getElem_mem _)
            have hbo : ∀ b ∈ blkS U9[k], b ∈ U9.flatMap blkS := fun b hb => List.mem_flatMap.2 ⟨_, List.getElem_mem _, hb⟩
            have hta := HTA.out k hlt
            have hHd : Hid (∀ j (hj : j < U9.length), j < k → ∀ b ∈ blkS U9[k], b ∉ blkS U9[j]) := Lib.hid (nodup_atT ST9.out.nd hk9)
            have HUK : Hid (U.getD k false = U[k]) := Lib.hid (getD_lt hkU _)
            have hcU : wr.cell? ⟨w1.heap.size, k, none⟩ = some (bvB U[k]) := by rw [HUs.out.cellAt k (by omega), List.getElem?_map, List.getElem?_eq_getElem hkU]; rfl
            obtain ⟨u, hu⟩ : ∃ u, U9[k] = u := ⟨_, rfl⟩
            rw [hu] at x0 x1 x2 x3 x4 x5 hpe hso hbo
            have HU9 := Lib.hid hu
            rw [hpe] at hta
            obtain ⟨⟨ks, ka, kb, kn⟩, ⟨gE, cE, es⟩, gL, cL, ns⟩ := u
            simp only [hdE, hdL, hdF] at x0 x1 x2 x3 x4 x5
            have HSO := Lib.hid hso
            have HBO := Lib.hid hbo
            have HPE := Lib.hid hpe
            have HTAk := Lib.hid hta
            have i0' : (0 : Int) ≤ (k : Int) := by omega
            have i1' : (k : Int) < (p.length : Int) := by omega
            have hg9q : g9 < wr.heap.size := by omega
            have hguq : w1.heap.size < wr.heap.size := by omega
            have hgtq : wv.heap.size < wr.heap.size := by omega
            have n1 : ¬ (g9 = wv.heap.size) := by omega
            have n2 : ¬ (w1.heap.size = wv.heap.size) := by omega
            have n3 : ¬ (wv.heap.size = wr.heap.size) := by omega
            have n4 : ¬ (wr.heap.size = wv.heap.size) := by omega
            have hlen9 : k < p.length := hlt
            clear hu hpe hso hbo hta
            cases hUk : U[k] with
            | false =>
              have HUF : Hid (U.getD k false = false) := Lib.hid (HUK.out.trans hUk)
              rw [hUk] at hcU
              have hcU2 : wr.cell? ⟨w1.heap.size, k, none⟩ = some (.bool false) := hcU
              clear hcU
              have hLL : leftL p U (k + 1) = leftL p U k := by simp only [leftL, HUF.out]; simp
              have HLL := Lib.hid hLL
              clear hLL hUk
              go_wp2
              exact ⟨⟨k + 1, g, c, V, T, by omega, by go_num, by rw [HLL.out], by show Stp _ _ _ _ _ _; rw [HLL.out]; exact SV.out, fun v hv => by obtain ⟨j, hj, hjk, e⟩ := VB.out v hv; exact ⟨j, hj, by omega, e⟩, ⟨hT1, fun j hj hju => by
                rcases Nat.lt_succ_iff_lt_or_eq.1 hj with h | rfl
                · exact HTT.out.2 j h hju
                · rw [HUF.out] at hju; cases hju⟩, HTo, HUs, ST9, hgg, HW, hwq⟩, by simp [intOf]; omega⟩
            | true =>
              have HUT : Hid (U.getD k false = true) := Lib.hid (HUK.out.trans hUk)
              rw [hUk] at hcU
              have hcU2 : wr.cell? ⟨w1.heap.size, k, none⟩ = some (.bool true) := hcU
              clear hcU hUk
              have hft := HTo.out.frozenAt k
              have hctk : wr.cell? ⟨wv.heap.size, k, none⟩ = some (.int .i64 (T.getD k 0)) := by rw [HTo.out.cellAt k (by omega), List.getElem?_map, List.getElem?_eq_getElem (by omega), getD_lt (by omega)]; rfl
              have hLL : leftL p U (k + 1) = leftL p U k ++ [(ks, ka, kb, kn, es, ns)] := by simp only [leftL, HUT.out]; rw [getD_lt hlt, HPE.out]; rfl
              have HLL := Lib.hid hLL
              clear hLL
              obtain ⟨hk1, hA⟩ | ⟨hk1, hk4, hk5, hA, a, ha, hak, hUa⟩ | ⟨hk45, hA, a, b, ha, hb, hak, hbk, hUa, hUb⟩ := HTAk.out HUT.out
              · obtain rfl : ks = 1 := hk1
                have HAS := Lib.hid (show asksI 1 = 0 from hA)
                have HSP : Hid (plS PL (1, ka, kb, kn, es, ns) = spOf ((1, ka, kb, kn), (gE, cE, es), (gL, cL, ns))) := Lib.hid (by simp [plS, spOf, HAS.out])
                clear hA
                go_wp2_with (at_builtin; refine wpList_append_block _ rfl (.tmp 117) (.tmp 119) 24 rfl w.heap.size 32 s0 (.agg #[.int .i64 0, .int .i64 0, .int .i64 0, .int .i64 0, .slice none 0 0, .slice none 0 0]) 6 80 Try.underlying24 hs0 sz0 sz1 sz2 rfl (by decide) g (leftL p U k).length c (V.flatMap hdS) rfl (own_keep (by have h := SV.out.own; rw [List.length_map] at h; exact h) ((show Only wv.heap.size wr _ from (by repeat (with_reducible first | exact Only.refl _ _ | apply Only.drew | apply Only.alloc | refine Only.setAt ?_ _ _ | refine Only.setNew ?_ (by first | exact Nat.le_refl _ | omega | (simp; done) | (simp; omega)) _))).block g hlg.2 (by omega))) _ 1 1 [.int .i64 1, .int .i64 ka, .int .i64 kb, .int .i64 kn, .slice (some ⟨gE, 0, none⟩) es.length cE, .slice (some ⟨gL, 0, none⟩) ns.length cL] rfl rfl (news_new (by first | rfl | simp)) (by simp [Value.oneCell']) (by unfold maxLen; omega) (by omega) (by first | omega | (simp; done) | (simp; omega)) ?_; intro g6 c6 w6 hown hgr hgx; have OW6 := Lib.hid hown; have HG6 := Lib.hid hgr; have HN6 := Lib.hid hgx; clear hown hgr hgx)
                obtain ⟨W, e1, e2, e3, e4⟩ : ∃ W : World, Only wv.heap.size wr W ∧ W.grownBy w6 (some g) ∧ (g6 = g ∨ W.heap.size ≤ g6) ∧ W.ownsRow w1.heap.size 3 1 (.slice (some ⟨wv.heap.size, 0, none⟩) p.length p.length) p.length ((T.set k ((leftL p U k).length : Int)).map iv) := ⟨_, (by repeat (with_reducible first | exact Only.refl _ _ | apply Only.drew | apply Only.alloc | refine Only.setAt ?_ _ _ | refine Only.setNew ?_ (by first | exact Nat.le_refl _ | omega | (simp; done) | (simp; omega)) _)), HG6.out, HN6.out, (by rw [List.map_set]; exact ((World.ownsRow.stored HTo.out k _).1.alloc _).alloc _)⟩
                obtain ⟨r1, r2, r3, r4, r5, r6, r7, r8, r9⟩ := tidy_next (u := ((1, ka, kb, kn), (gE, cE, es), (gL, cL, ns))) (s3 := w3.heap.size) (s5 := w5.heap.size) (gt := wv.heap.size) SV.out VB.out HTT.out rfl HUs.out ST9.out hgg HW.out hwq OB9.out ⟨hg9.1, hg9.2⟩ ⟨by omega, by omega, by omega, by omega⟩ HW.out.size hk9 (by first | (rw [HU9.out]; done) | (rw [HU9.out]; rfl)) ⟨HSO.out.e, HSO.out.l⟩ hlt HLL.out HSP.out e1 e2 e3 e4 OW6.out
                exact ⟨⟨k + 1, g6, c6, V ++ [((1, ka, kb, kn), (gE, cE, es), (gL, cL, ns))], T.set k ((leftL p U k).length : Int), by omega, by go_num, by rw [HLL.out, List.length_append, List.length_singleton], r1, r2, r3, r4, r5, r6, r7, r8, r9⟩, by simp [intOf]; omega⟩
              · obtain rfl : ka = (a : Int) := ha
                replace hk1 : ¬ ks = 1 := hk1
                replace hk4 : ¬ ks = 4 := hk4
                replace hk5 : ¬ ks = 5 := hk5
                have d1 : (ks == 1) = false := by simp [hk1]
                have d4 : (ks == 4) = false := by simp [hk4]
                have d5 : (ks == 5) = false := by simp [hk5]
                have a0 : (0 : Int) ≤ (a : Int) := by omega
                have a1 : (a : Int) < (p.length : Int) := by omega
                have hca : wr.cell? ⟨wv.heap.size, a, none⟩ = some (.int .i64 ((leftL p U a).length : Int)) := by rw [HTo.out.cellAt a (by omega), List.getElem?_map, List.getElem?_eq_getElem (by omega), ← HTT.out.2 a hak hUa, getD_lt (by omega)]; rfl
                have hPa := HPL.out a (by omega)
                obtain ⟨va, hva⟩ : ∃ v, ((leftL p U a).length : Int) = v := ⟨_, rfl⟩
                rw [hva] at hca hPa
                have HPa := Lib.hid hPa
                have HAS := Lib.hid (show asksI ks = 1 from hA)
                have HSP : Hid (plS PL (ks, (a : Int), kb, kn, es, ns) = spOf ((ks, va, kb, kn), (gE, cE, es), (gL, cL, ns))) := Lib.hid (by simp [plS, spOf, HAS.out, (show PL[a]?.getD 0 = va from by rw [← List.getD_eq_getElem?_getD]; exact HPa.out)])
                clear hA
                go_wp2_with (at_builtin; refine wpList_append_block _ rfl (.tmp 117) (.tmp 119) 24 rfl w.heap.size 32 s0 (.agg #[.int .i64 0, .int .i64 0, .int .i64 0, .int .i64 0, .slice none 0 0, .slice none 0 0]) 6 80 Try.underlying24 hs0 sz0 sz1 sz2 rfl (by decide) g (leftL p U k).length c (V.flatMap hdS) rfl (own_keep (by have h := SV.out.own; rw [List.length_map] at h; exact h) ((show Only wv.heap.size wr _ from (by repeat (with_reducible first | exact Only.refl _ _ | apply Only.drew | apply Only.alloc | refine Only.setAt ?_ _ _ | refine Only.setNew ?_ (by first | exact Nat.le_refl _ | omega | (simp; done) | (simp; omega)) _))).block g hlg.2 (by omega))) _ 1 1 [.int .i64 ks, .int .i64 va, .int .i64 kb, .int .i64 kn, .slice (some ⟨gE, 0, none⟩) es.length cE, .slice (some ⟨gL, 0, none⟩) ns.length cL] rfl rfl (news_new (by first | rfl | simp)) (by simp [Value.oneCell']) (by unfold maxLen; omega) (by omega) (by first | omega | (simp; done) | (simp; omega)) ?_; intro g6 c6 w6 hown hgr hgx; have OW6 := Lib.hid hown; have HG6 := Lib.hid hgr; have HN6 := Lib.hid hgx; clear hown hgr hgx)
                obtain ⟨W, e1, e2, e3, e4⟩ : ∃ W : World, Only wv.heap.size wr W ∧ W.grownBy w6 (some g) ∧ (g6 = g ∨ W.heap.size ≤ g6) ∧ W.ownsRow w1.heap.size 3 1 (.slice (some ⟨wv.heap.size, 0, none⟩) p.length p.length) p.length ((T.set k ((leftL p U k).length : Int)).map iv) := ⟨_, (by repeat (with_reducible first | exact Only.refl _ _ | apply Only.drew | apply Only.alloc | refine Only.setAt ?_ _ _ | refine Only.setNew ?_ (by first | exact Nat.le_refl _ | omega | (simp; done) | (simp; omega)) _)), HG6.out, HN6.out, (by rw [List.map_set]; exact ((World.ownsRow.stored HTo.out k _).1.alloc _).alloc _)⟩
                obtain ⟨r1, r2, r3, r4, r5, r6, r7, r8, r9⟩ := tidy_next (u := ((ks, va, kb, kn), (gE, cE, es), (gL, cL, ns))) (s3 := w3.heap.size) (s5 := w5.heap.size) (gt := wv.heap.size) SV.out VB.out HTT.out rfl HUs.out ST9.out hgg HW.out hwq OB9.out ⟨hg9.1, hg9.2⟩ ⟨by omega, by omega, by omega, by omega⟩ HW.out.size hk9 (by first | (rw [HU9.out]; done) | (rw [HU9.out]; rfl)) ⟨HSO.out.e, HSO.out.l⟩ hlt HLL.out HSP.out e1 e2 e3 e4 OW6.out
                exact ⟨⟨k + 1, g6, c6, V ++ [((ks, va, kb, kn), (gE, cE, es), (gL, cL, ns))], T.set k ((leftL p U k).length : Int), by omega, by go_num, by rw [HLL.out, List.length_append, List.length_singleton], r1, r2, r3, r4, r5, r6, r7, r8, r9⟩, by simp [intOf]; omega⟩
              · obtain rfl : ka = (a : Int) := ha
                obtain rfl : kb = (b : Int) := hb
                replace hk45 : ks = 4 ∨ ks = 5 := hk45
                have a0 : (0 : Int) ≤ (a : Int) := by omega
                have a1 : (a : Int) < (p.length : Int) := by omega
                have hca : wr.cell? ⟨wv.heap.size, a, none⟩ = some (.int .i64 ((leftL p U a).length : Int)) := by rw [HTo.out.cellAt a (by omega), List.getElem?_map, List.getElem?_eq_getElem (by omega), ← HTT.out.2 a hak hUa, getD_lt (by omega)]; rfl
                have hPa := HPL.out a (by omega)
                obtain ⟨va, hva⟩ : ∃ v, ((leftL p U a).length : Int) = v := ⟨_, rfl⟩
                rw [hva] at hca hPa
                have HPa := Lib.hid hPa
                have b0 : (0 : Int) ≤ (b : Int) := by omega
                have b1 : (b : Int) < (p.length : Int) := by omega
                have hcb : wr.cell? ⟨wv.heap.size, b, none⟩ = some (.int .i64 ((leftL p U b).length : Int)) := by rw [HTo.out.cellAt b (by omega), List.getElem?_map, List.getElem?_eq_getElem (by omega), ← HTT.out.2 b hbk hUb, getD_lt (by omega)]; rfl
                have hPb := HPL.out b (by omega)
                obtain ⟨vb, hvb⟩ : ∃ v, ((leftL p U b).length : Int) = v := ⟨_, rfl⟩
                rw [hvb] at hcb hPb
                have HPb := Lib.hid hPb
                have HAS := Lib.hid (show asksI ks = 2 from hA)
                have HSP : Hid (plS PL (ks, (a : Int), (b : Int), kn, es, ns) = spOf ((ks, va, vb, kn), (gE, cE, es), (gL, cL, ns))) := Lib.hid (by simp [plS, spOf, HAS.out, (show PL[a]?.getD 0 = va from by rw [← List.getD_eq_getElem?_getD]; exact HPa.out), (show PL[b]?.getD 0 = vb from by rw [← List.getD_eq_getElem?_getD]; exact HPb.out)])
                clear hA
                rcases hk45 with hk4 | hk5
                · subst hk4
                  go_wp2_with (at_builtin; refine wpList_append_block _ rfl (.tmp 117) (.tmp 119) 24 rfl w.heap.size 32 s0 (.agg #[.int .i64 0, .int .i64 0, .int .i64 0, .int .i64 0, .slice none 0 0, .slice none 0 0]) 6 80 Try.underlying24 hs0 sz0 sz1 sz2 rfl (by decide) g (leftL p U k).length c (V.flatMap hdS) rfl (own_keep (by have h := SV.out.own; rw [List.length_map] at h; exact h) ((show Only wv.heap.size wr _ from (by repeat (with_reducible first | exact Only.refl _ _ | apply Only.drew | apply Only.alloc | refine Only.setAt ?_ _ _ | refine Only.setNew ?_ (by first | exact Nat.le_refl _ | omega | (simp; done) | (simp; omega)) _))).block g hlg.2 (by omega))) _ 1 1 [.int .i64 4, .int .i64 va, .int .i64 vb, .int .i64 kn, .slice (some ⟨gE, 0, none⟩) es.length cE, .slice (some ⟨gL, 0, none⟩) ns.length cL] rfl rfl (news_new (by first | rfl | simp)) (by simp [Value.oneCell']) (by unfold maxLen; omega) (by omega) (by first | omega | (simp; done) | (simp; omega)) ?_; intro g6 c6 w6 hown hgr hgx; have OW6 := Lib.hid hown; have HG6 := Lib.hid hgr; have HN6 := Lib.hid hgx; clear hown hgr hgx)
                  obtain ⟨W, e1, e2, e3, e4⟩ : ∃ W : World, Only wv.heap.size wr W ∧ W.grownBy w6 (some g) ∧ (g6 = g ∨ W.heap.size ≤ g6) ∧ W.ownsRow w1.heap.size 3 1 (.slice (some ⟨wv.heap.size, 0, none⟩) p.length p.length) p.length ((T.set k ((leftL p U k).length : Int)).map iv) := ⟨_, (by repeat (with_reducible first | exact Only.refl _ _ | apply Only.drew | apply Only.alloc | refine Only.setAt ?_ _ _ | refine Only.setNew ?_ (by first | exact Nat.le_refl _ | omega | (simp; done) | (simp; omega)) _)), HG6.out, HN6.out, (by rw [List.map_set]; exact ((World.ownsRow.stored HTo.out k _).1.alloc _).alloc _)⟩
                  obtain ⟨r1, r2, r3, r4, r5, r6, r7, r8, r9⟩ := tidy_next (u := ((4, va, vb, kn), (gE, cE, es), (gL, cL, ns))) (s3 := w3.heap.size) (s5 := w5.heap.size) (gt := wv.heap.size) SV.out VB.out HTT.out rfl HUs.out ST9.out hgg HW.out hwq OB9.out ⟨hg9.1, hg9.2⟩ ⟨by omega, by omega, by omega, by omega⟩ HW.out.size hk9 (by first | (rw [HU9.out]; done) | (rw [HU9.out]; rfl)) ⟨HSO.out.e, HSO.out.l⟩ hlt HLL.out HSP.out e1 e2 e3 e4 OW6.out
                  exact ⟨⟨k + 1, g6, c6, V ++ [((4, va, vb, kn), (gE, cE, es), (gL, cL, ns))], T.set k ((leftL p U k).length : Int), by omega, by go_num, by rw [HLL.out, List.length_append, List.length_singleton], r1, r2, r3, r4, r5, r6, r7, r8, r9⟩, by simp [intOf]; omega⟩
                · subst hk5
                  go_wp2_with (at_builtin; refine wpList_append_block _ rfl (.tmp 117) (.tmp 119) 24 rfl w.heap.size 32 s0 (.agg #[.int .i64 0, .int .i64 0, .int .i64 0, .int .i64 0, .slice none 0 0, .slice none 0 0]) 6 80 Try.underlying24 hs0 sz0 sz1 sz2 rfl (by decide) g (leftL p U k).length c (V.flatMap hdS) rfl (own_keep (by have h := SV.out.own; rw [List.length_map] at h; exact h) ((show Only wv.heap.size wr _ from (by repeat (with_reducible first | exact Only.refl _ _ | apply Only.drew | apply Only.alloc | refine Only.setAt ?_ _ _ | refine Only.setNew ?_ (by first | exact Nat.le_refl _ | omega | (simp; done) | (simp; omega)) _))).block g hlg.2 (by omega))) _ 1 1 [.int .i64 5, .int .i64 va, .int .i64 vb, .int .i64 kn, .slice (some ⟨gE, 0, none⟩) es.length cE, .slice (some ⟨gL, 0, none⟩) ns.length cL] rfl rfl (news_new (by first | rfl | simp)) (by simp [Value.oneCell']) (by unfold maxLen; omega) (by omega) (by first | omega | (simp; done) | (simp; omega)) ?_; intro g6 c6 w6 hown hgr hgx; have OW6 := Lib.hid hown; have HG6 := Lib.hid hgr; have HN6 := Lib.hid hgx; clear hown hgr hgx)
                  obtain ⟨W, e1, e2, e3, e4⟩ : ∃ W : World, Only wv.heap.size wr W ∧ W.grownBy w6 (some g) ∧ (g6 = g ∨ W.heap.size ≤ g6) ∧ W.ownsRow w1.heap.size 3 1 (.slice (some ⟨wv.heap.size, 0, none⟩) p.length p.length) p.length ((T.set k ((leftL p U k).length : Int)).map iv) := ⟨_, (by repeat (with_reducible first | exact Only.refl _ _ | apply Only.drew | apply Only.alloc | refine Only.setAt ?_ _ _ | refine Only.setNew ?_ (by first | exact Nat.le_refl _ | omega | (simp; done) | (simp; omega)) _)), HG6.out, HN6.out, (by rw [List.map_set]; exact ((World.ownsRow.stored HTo.out k _).1.alloc _).alloc _)⟩
                  obtain ⟨r1, r2, r3, r4, r5, r6, r7, r8, r9⟩ := tidy_next (u := ((5, va, vb, kn), (gE, cE, es), (gL, cL, ns))) (s3 := w3.heap.size) (s5 := w5.heap.size) (gt := wv.heap.size) SV.out VB.out HTT.out rfl HUs.out ST9.out hgg HW.out hwq OB9.out ⟨hg9.1, hg9.2⟩ ⟨by omega, by omega, by omega, by omega⟩ HW.out.size hk9 (by first | (rw [HU9.out]; done) | (rw [HU9.out]; rfl)) ⟨HSO.out.e, HSO.out.l⟩ hlt HLL.out HSP.out e1 e2 e3 e4 OW6.out
                  exact ⟨⟨k + 1, g6, c6, V ++ [((5, va, vb, kn), (gE, cE, es), (gL, cL, ns))], T.set k ((leftL p U k).length : Int), by omega, by go_num, by rw [HLL.out, List.length_append, List.length_singleton], r1, r2, r3, r4, r5, r6, r7, r8, r9⟩, by simp [intOf]; omega⟩
          · obtain rfl : k = p.length := by omega
            go_wp2
            go_ret
            have h := SV.out
            rw [← HTI.out] at h
            have e9 : (tidyI tb p).length = (leftL p U p.length).length := by rw [HTI.out, List.length_map]
            exact ⟨g, c, V, by rw [e9]; rfl, h, HW.out⟩
      | succ k =>
        obtain rfl : z = (k : Int) := by omega
        have hl1 := HL.out
        have hku : k < st.1.length := by omega
        have HW := Lib.hid (HB1.out.trans (HBR.out.mono (by omega)))
        obtain ⟨rfl, hgP, A1, c1, g1, o1, A2, c2, g2, o2, x0, x1, x2, x3, x4, x5, -, -, -⟩ := (HP.out.below HW.out).at k (by omega)
        have HRF := Lib.hid (HST.out k (by omega))
        have HGD : Hid (p.getD k nilS = p[k]) := getD_lt (by omega) _
        obtain ⟨S, hS⟩ : ∃ S, p[k] = S := ⟨_, rfl⟩
        rw [hS] at x0 x1 x2 x3 x4 x5 HRF HGD
        clear hS
        have hcU : wr.cell? ⟨w1.heap.size, k, none⟩ = some (bvB st.1[k]) := by rw [HU.out.cellAt k (by omega), List.getElem?_map, List.getElem?_eq_getElem hku]; rfl
        have HGK : Hid (st.1.getD k false = st.1[k]) := getD_lt hku _
        have HF2 : Hid (useF p k (useOne S k st) = useF p p.length (use0 tb p)) := by show _ = _; rw [← HGD.out]; exact HF.out
        obtain ⟨uk, huk⟩ : ∃ u, st.1[k] = u := ⟨_, rfl⟩
        rw [huk] at hcU HGK
        obtain ⟨s1, s2, s3, s4, es, ns⟩ := S
        simp only at x0 x1 x2 x3 x4 x5 HRF
        have i0' : (0 : Int) ≤ (k : Int) := by omega
        have i1' : (k : Int) < (p.length : Int) := by omega
        have hgU : w1.heap.size < wr.heap.size := (HU.out.lt w1.heap.size rfl).2
        obtain ⟨el, hel⟩ : ∃ m, es.length = m := ⟨_, rfl⟩
        rw [hel] at x4
        obtain ⟨nl, hnl⟩ : ∃ m, ns.length = m := ⟨_, rfl⟩
        rw [hnl] at x5
        have hub : bvB uk = .bool uk := rfl
        rw [hub] at hcU
        have hP2 : gP < wr.heap.size := hgP
        clear huk hel hnl hub
        cases uk with
        | false =>
          have HSTE : Hid (useOne (s1, s2, s3, s4, es, ns) k st = st) := by show _ = _; rw [useOne, if_pos HGK.out]
          rw [HSTE.out] at HF2
          go_wp2
          exact ⟨⟨k, _, st, by omega, rfl, by omega, HF2, HL, HU.out.alloc _, HBR.out.alloc HBR.out.size _, by first | (simp; done) | (simp; omega)⟩, by first | (simp [intOf]; done) | (simp [intOf]; omega)⟩
        | true =>
          by_cases k1 : s1 = 1
          · subst k1
            obtain ⟨n, rfl, hn⟩ := inB_nat (HRF.out.1 (by first | rfl | trivial))
            have HSTE : Hid (useOne (1, s2, s3, (n : Int), es, ns) k st = (st.1, st.2.set n true)) := by show _ = _; rw [useOne, HGK.out]; simp
            rw [HSTE.out] at HF2
            go_wp2
            exact ⟨⟨k, _, (st.1, st.2.set n true), by omega, rfl, by omega, HF2, HL, HU.out.alloc _, HBR.out.alloc HBR.out.size _, by first | (simp; done) | (simp; omega)⟩, by first | (simp [intOf]; done) | (simp [intOf]; omega)⟩
          · obtain ⟨ha, hb⟩ := HRF.out.2 k1
            obtain ⟨a, rfl, hak⟩ := inB_nat ha
            obtain ⟨b, rfl, hbk⟩ := inB_nat hb
            have HSTE : Hid (useOne (s1, (a : Int), (b : Int), s4, es, ns) k st = ((st.1.set a true).set b ((st.1.set a true).getD b false || (decide (s1 = 4) || decide (s1 = 5))), st.2)) := by show _ = _; rw [useOne, HGK.out]; simp [k1]
            rw [HSTE.out] at HF2
            have hca := own_cellB HU.out (show a < st.1.length by omega)
            have hfa := HU.out.frozenAt a
            have hfb := HU.out.frozenAt b
            have j0' : (0 : Int) ≤ (a : Int) := by omega
            have j1' : (a : Int) < (p.length : Int) := by omega
            have l0' : (0 : Int) ≤ (b : Int) := by omega
            have l1' : (b : Int) < (p.length : Int) := by omega
            have hcb := own_cellB (own_setB (j := a) (b := true) HU.out) (show b < (st.1.set a true).length by rw [List.length_set]; omega)
            obtain ⟨ub, hub2⟩ : ∃ u, (st.1.set a true).getD b false = u := ⟨_, rfl⟩
            rw [hub2] at hcb HF2
            have HFX : Hid (∀ v, (ub || (decide (s1 = 4) || decide (s1 = 5))) = v → useF p k ((st.1.set a true).set b v, st.2) = useF p p.length (use0 tb p)) := fun v h => by rw [← h]; exact HF2.out
            cases ub with
            | true =>
              have HF3 := Lib.hid (HFX.out true (by simp))
              go_wp2_with (fail)
              go_region
              all_goals go_wp2
              all_goals exact ⟨⟨k, _, ((st.1.set a true).set b true, st.2), by omega, rfl, by omega, HF3, (by show _ = _; rw [List.length_set, List.length_set]; exact hl1), (show World.ownsRow _ _ _ _ _ _ _ from by repeat (with_reducible first | exact HU.out | apply own_setB | apply World.ownsRow.alloc | apply own_drew | apply own_drewN)), (show Below _ _ _ from by repeat (with_reducible first | exact HBR.out | refine Below.setCell ?_ (by first | exact Nat.le_refl _ | omega | (simp; done) | (simp; omega)) _ | refine Below.alloc ?_ (by have := HBR.out.size; first | omega | (simp [World.setCell]; done) | (simp [World.setCell]; omega)) _ | apply Below.drew | refine below_drewN ?_ _)), (by first | omega | (simp [World.setCell]; done) | (simp [World.setCell]; omega))⟩, by first | (simp [intOf]; done) | (simp [intOf]; omega)⟩
            | false =>
              by_cases k4 : s1 = 4
              · subst k4
                have HF3 := Lib.hid (HFX.out true (by simp))
                go_wp2_with (fail)
                go_region
                all_goals go_wp2
                all_goals exact ⟨⟨k, _, ((st.1.set a true).set b true, st.2), by omega, rfl, by omega, HF3, (by show _ = _; rw [List.length_set, List.length_set]; exact hl1), (show World.ownsRow _ _ _ _ _ _ _ from by repeat (with_reducible first | exact HU.out | apply own_setB | apply World.ownsRow.alloc | apply own_drew | apply own_drewN)), (show Below _ _ _ from by repeat (with_reducible first | exact HBR.out | refine Below.setCell ?_ (by first | exact Nat.le_refl _ | omega | (simp; done) | (simp; omega)) _ | refine Below.alloc ?_ (by have := HBR.out.size; first | omega | (simp [World.setCell]; done) | (simp [World.setCell]; omega)) _ | apply Below.drew | refine below_drewN ?_ _)), (by first | omega | (simp [World.setCell]; done) | (simp [World.setCell]; omega))⟩, by first | (simp [intOf]; done) | (simp [intOf]; omega)⟩
              · by_cases k5 : s1 = 5
                · subst k5
                  have HF3 := Lib.hid (HFX.out true (by simp))
                  go_wp2_with (fail)
                  go_region
                  all_goals go_wp2
                  all_goals exact ⟨⟨k, _, ((st.1.set a true).set b true, st.2), by omega, rfl, by omega, HF3, (by show _ = _; rw [List.length_set, List.length_set]; exact hl1), (show World.ownsRow _ _ _ _ _ _ _ from by repeat (with_reducible first | exact HU.out | apply own_setB | apply World.ownsRow.alloc | apply own_drew | apply own_drewN)), (show Below _ _ _ from by repeat (with_reducible first | exact HBR.out | refine Below.setCell ?_ (by first | exact Nat.le_refl _ | omega | (simp; done) | (simp; omega)) _ | refine Below.alloc ?_ (by have := HBR.out.size; first | omega | (simp [World.setCell]; done) | (simp [World.setCell]; omega)) _ | apply Below.drew | refine below_drewN ?_ _)), (by first | omega | (simp [World.setCell]; done) | (simp [World.setCell]; omega))⟩, by first | (simp [intOf]; done) | (simp [intOf]; omega)⟩
                · have d4 : (s1 == 4) = false := by simp [k4]
                  have d5 : (s1 == 5) = false := by simp [k5]
                  have HF3 := Lib.hid (HFX.out false (by simp [k4, k5]))
                  go_wp2_with (fail)
                  go_region
                  all_goals go_wp2
                  all_goals exact ⟨⟨k, _, ((st.1.set a true).set b false, st.2), by omega, rfl, by omega, HF3, (by show _ = _; rw [List.length_set, List.length_set]; exact hl1), (show World.ownsRow _ _ _ _ _ _ _ from by repeat (with_reducible first | exact HU.out | apply own_setB | apply World.ownsRow.alloc | apply own_drew | apply own_drewN)), (show Below _ _ _ from by repeat (with_reducible first | exact HBR.out | refine Below.setCell ?_ (by first | exact Nat.le_refl _ | omega | (simp; done) | (simp; omega)) _ | refine Below.alloc ?_ (by have := HBR.out.size; first | omega | (simp [World.setCell]; done) | (simp [World.setCell]; omega)) _ | apply Below.drew | refine below_drewN ?_ _)), (by first | omega | (simp [World.setCell]; done) | (simp [World.setCell]; omega))⟩, by first | (simp [intOf]; done) | (simp [intOf]; omega)⟩
end Go.Proofs.Ytacinjbaebimhaa.Val
