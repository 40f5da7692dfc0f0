/- A plan without the steps on which its last one does not hang: the program's planTidied, PlanTidy. -/
import Derived.Test.YtacinjbaebimhaaTidPQ
import Derived.Test.YtacinjbaebimhaaCellXQ
namespace Go.Proofs.Ytacinjbaebimhaa.Val
open Go.RowKit
set_option linter.unusedSimpArgs false
set_option linter.unusedVariables false
set_option maxRecDepth 8000
/-- The first k steps, only those that are used. -/
def leftL (p : List SP) (U : List Bool) : Nat → List SP
  | 0 => []
  | k + 1 => leftL p U k ++ (if U.getD k false = true then [p.getD k nilS] else [])
/-- The new places of the first k steps. -/
def plcL (p : List SP) (U : List Bool) : Nat → List Int
  | 0 => []
  | k + 1 => plcL p U k ++ [((leftL p U k).length : Int)]
theorem plcL_len (p : List SP) (U : List Bool) (k : Nat) : (plcL p U k).length = k := by
  induction k with
  | zero => rfl
  | succ k ih => simp [plcL, ih]
theorem leftL_le (p : List SP) (U : List Bool) (k : Nat) : (leftL p U k).length ≤ k := by
  induction k with
  | zero => exact Nat.le_refl _
  | succ k ih => simp only [leftL, List.length_append]; split <;> simp <;> omega
theorem leftL_mem {p : List SP} {U : List Bool} {k : Nat} (hk : k ≤ p.length) {s : SP} (h : s ∈ leftL p U k) : ∃ j, ∃ hj : j < p.length, j < k ∧ s = p[j] := by
  induction k with
  | zero => simp [leftL] at h
  | succ k ih =>
    rw [leftL] at h
    rcases List.mem_append.1 h with h | h
    · obtain ⟨j, hj, hjk, e⟩ := ih (by omega) h
      exact ⟨j, hj, by omega, e⟩
    · split at h
      · obtain rfl := List.mem_singleton.1 h
        exact ⟨k, hk, by omega, getD_lt hk _⟩
      · simp at h
/-- A plan without the steps on which its last one does not hang. -/
def tidyL (tb : List TB) (p : List SP) : List SP := (leftL p (useF p p.length (use0 tb p)).1 p.length).map (plS (plcL p (useF p p.length (use0 tb p)).1 p.length))
def tidyI (tb : List TB) (p : List SP) : List SP := if planB tb p = true then tidyL tb p else []
theorem asks_not1 {k : Int} (h : 0 < asksI k) : k ≠ 1 := by
  rintro rfl
  exact absurd h (by decide)
theorem left_refs {tb : List TB} {p : List SP} {U : List Bool} (h : planB tb p = true) : ∀ s ∈ leftL p U p.length, (0 < asksI s.1 → inB s.2.1 (plcL p U p.length).length = true) ∧ (1 < asksI s.1 → inB s.2.2.1 (plcL p U p.length).length = true) := by
  intro s hs
  obtain ⟨j, hj, -, rfl⟩ := leftL_mem (Nat.le_refl _) hs
  have hr := (plan_refs h j hj).2
  have up : ∀ n : Int, inB n j = true → inB n (plcL p U p.length).length = true := fun n hn => by
    rw [plcL_len]
    simp only [inB, Bool.and_eq_true, decide_eq_true_eq] at hn ⊢
    omega
  exact ⟨fun ha => up _ (hr (asks_not1 ha)).1, fun ha => up _ (hr (asks_not1 (by omega))).2⟩
theorem okS_left {p : List SP} (h : OkS p) (U : List Bool) : OkS (leftL p U p.length) := ⟨Nat.le_trans (leftL_le p U _) h.1, fun s hs => by
  obtain ⟨j, hj, -, rfl⟩ := leftL_mem (Nat.le_refl _) hs
  exact h.2 _ (List.getElem_mem _)⟩
theorem cellsX_at {W : World} {s : SP} {A1 A2 : Option Addr} {c1 g1 o1 c2 g2 o2 : Nat} (f1 : Fl W g1 o1 A1 (flatP s.2.2.2.2.1)) (f2 : Fl W g2 o2 A2 (s.2.2.2.2.2.map iv)) (l1 : s.2.2.2.2.1.length ≤ c1) (l2 : s.2.2.2.2.2.length ≤ c2) (n1 : Nice A1 c1 g1 o1) (n2 : Nice A2 c2 g2 o2) : CellsX W s [.int .i64 s.1, .int .i64 s.2.1, .int .i64 s.2.2.1, .int .i64 s.2.2.2.1, .slice A1 s.2.2.2.2.1.length c1, .slice A2 s.2.2.2.2.2.length c2] :=
  ⟨A1, c1, g1, o1, A2, c2, g2, o2, rfl, f1, f2, l1, l2, n1, n2⟩
set_option maxHeartbeats 4000000 in
theorem planTidied (AP : Option Addr) (gP oP cP : Nat) (tb : List TB) (p : List SP) (w : World) (hP : Sps w gP oP AP p) (hps : OkS p) (hpb : planB tb p = true) :
    Calls Try.prog 68 #[.slice AP p.length cP] w (RetStp (tidyL tb p) w) := by
  obtain ⟨i0, hi, iz0, iz1, iz2⟩ := info_parts infoSQ
  obtain ⟨j0, hj0, jz0, jz1, jz2⟩ := info_parts infoN
  obtain ⟨-, -, h1, h6⟩ := planB_iff.1 hpb
  have HP := Lib.hid hP
  have HS := Lib.hid hps
  have SN := Lib.hid (stepsNeeded AP gP oP cP tb p w hP h6 hpb)
  have LR := Lib.hid (left_refs (U := (useF p p.length (use0 tb p)).1) hpb)
  have HTD : Hid (tidyL tb p = (leftL p (useF p p.length (use0 tb p)).1 p.length).map (plS (plcL p (useF p p.length (use0 tb p)).1 p.length))) := Lib.hid rfl
  have hUl : (useF p p.length (use0 tb p)).1.length = p.length := by rw [(useF_len p p.length (use0 tb p)).1]; simp [use0]
  generalize (useF p p.length (use0 tb p)).1 = U at SN LR HTD hUl
  generalize tidyL tb p = TD at HTD ⊢
  clear hP hps hpb
  go_enter Try.func68, Try.ntmps68
  go_wp2_with (go_at_call 55; (with_reducible refine SN.out.mono ?_); rintro e w1 ⟨gn, cn, ⟨rfl, hown⟩, hb⟩; have HB1 := Lib.hid hb; have ON := Lib.hid hown; have hz1 := hb.size; have hgn := hown.lt gn rfl; clear hb hown)
  go_loopw [4, 5, 6] (fun lx qx ix wr => ∃ (k g c gq cq : Nat) (D : List (SP × List Value)), k ≤ p.length ∧ ix = .int .i64 (k : Int) ∧ lx = .slice (some ⟨g, 0, none⟩) (leftL p U k).length c ∧ qx = .slice (some ⟨gq, 0, none⟩) k cq ∧ Hid (D.map (fun q => q.1) = leftL p U k) ∧ Hid (∀ q ∈ D, CellsX w q.1 q.2) ∧ Hid (wr.ownsRow w1.heap.size 32 6 (.slice (some ⟨g, 0, none⟩) (leftL p U k).length c) (leftL p U k).length (D.flatMap fun q => q.2)) ∧ Hid (wr.ownsRow w1.heap.size 3 1 (.slice (some ⟨gq, 0, none⟩) k cq) k ((plcL p U k).map iv)) ∧ g ≠ gq ∧ Hid (Below w1.heap.size w1 wr)) (fun _ _ ix _ => p.length - (intOf ix).toNat)
  case atStart => exact ⟨0, _, _, _, _, [], by omega, rfl, rfl, rfl, rfl, fun q hq => absurd hq (by simp), (own_empty3 32 6 rfl (Nat.le_refl _)).alloc _, own_empty3 3 1 (by simp) (by omega), by omega, ((Below.refl _ _).alloc (Nat.le_refl _) _).alloc (by simp) _⟩
  case round =>
    obtain ⟨k, g, c, gq, cq, D, hkn, rfl, rfl, rfl, HD, CD, OL, OQ, hgne, HB⟩ := hrel
    have hzb := HB.out.size
    have hlg := OL.out.lt g rfl
    have hlq := OQ.out.lt gq rfl
    have hll := leftL_le p U k
    by_cases hlt : k < p.length
    · have hkU : k < U.length := by omega
      obtain ⟨rfl, hgw, A1, c1, g1, o1, A2, c2, g2, o2, x0, x1, x2, x3, x4, x5, hf1, hf2, l1, l2, n1, n2⟩ := HP.out.at k hlt
      obtain ⟨s, hs⟩ : ∃ s, p[k] = s := ⟨_, rfl⟩
      rw [hs] at x0 x1 x2 x3 x4 x5 hf1 hf2 l1 l2
      have F1 := Lib.hid hf1
      have F2 := Lib.hid hf2
      have N1 := Lib.hid n1
      have N2 := Lib.hid n2
      clear hf1 hf2 n1 n2
      have i0' : (0 : Int) ≤ (k : Int) := by omega
      have i1' : (k : Int) < (p.length : Int) := by omega
      have i2' : (k : Int) < (U.length : Int) := by omega
      cases hu : U[k] with
      | true =>
        have HU := Lib.hid hu
        have en : w1.cell? ⟨gn, k, none⟩ = some (.bool true) := by rw [ON.out.cellAt k (by omega), List.getElem?_map, List.getElem?_eq_getElem hkU, hu]; rfl
        have hL1 : leftL p U (k + 1) = leftL p U k ++ [s] := by simp [leftL, List.getElem?_eq_getElem hkU, hu, List.getElem?_eq_getElem hlt, hs]
        have HL1 := Lib.hid hL1
        clear hL1 hu hs
        go_wp2_with (first
          | (at_builtin; refine wpList_append_block _ rfl (.tmp 17) (.tmp 20) 30 rfl w1.heap.size 3 j0 (.int .i64 0) 1 8 Try.underlying30 hj0 jz0 jz1 jz2 rfl (by decide) gq k cq ((plcL p U k).map iv) rfl (OQ.out.alloc _) _ 1 1 [.int .i64 ((leftL p U k).length : Int)] rfl rfl (news_new (by first | rfl | simp)) (by simp [Value.oneCell']) (by unfold maxLen; omega) (by omega) (by first | omega | (simp; done) | (simp; omega)) ?_; intro gq2 cq2 w2 hown hgr hgg; have OQ2 := Lib.hid hown; have HB2 := Lib.hid (Below.grown (HB.out.alloc HB.out.size _) hgr (by first | omega | (simp; done) | (simp; omega)) (fun k hk => by obtain rfl := Option.some.inj hk; exact hlq.1)); have OL2 := Lib.hid (own_keep (OL.out.alloc _) (hgr.block g (by first | omega | (simp; done) | (simp; omega)) (fun e => hgne (Option.some.inj e)))); have hne2 : g ≠ gq2 := (by rcases hgg with rfl | h; exact hgne; (try simp at h); omega); have en2 := (HB2.out.cell (p := ⟨gn, k, none⟩) hgn.2).trans en; have hz2 := HB2.out.size; have hgl2 := OL2.out.lt g rfl; have HBw2 := Lib.hid (HB1.out.trans (HB2.out.mono hz1)); have y0 := (HBw2.out.cell (p := ⟨gP, oP + k * 6, none⟩) hgw).trans x0; have y1 := (HBw2.out.cell (p := ⟨gP, oP + k * 6 + 1, none⟩) hgw).trans x1; have y2 := (HBw2.out.cell (p := ⟨gP, oP + k * 6 + 2, none⟩) hgw).trans x2; have y3 := (HBw2.out.cell (p := ⟨gP, oP + k * 6 + 3, none⟩) hgw).trans x3; have y4 := (HBw2.out.cell (p := ⟨gP, oP + k * 6 + 4, none⟩) hgw).trans x4; have y5 := (HBw2.out.cell (p := ⟨gP, oP + k * 6 + 5, none⟩) hgw).trans x5; clear hown hgr hgg)
          | (at_builtin; refine wpList_append_block _ rfl (.tmp 26) (.tmp 31) 24 rfl w1.heap.size 32 i0 (.agg #[.int .i64 0, .int .i64 0, .int .i64 0, .int .i64 0, .slice none 0 0, .slice none 0 0]) 6 80 Try.underlying24 hi iz0 iz1 iz2 rfl (by decide) g (leftL p U k).length c (D.flatMap fun q => q.2) rfl (OL2.out.alloc _) _ 1 1 [.int .i64 s.1, .int .i64 s.2.1, .int .i64 s.2.2.1, .int .i64 s.2.2.2.1, .slice A1 s.2.2.2.2.1.length c1, .slice A2 s.2.2.2.2.2.length c2] rfl rfl (news_new (by first | rfl | simp)) (by simp [Value.oneCell']) (by unfold maxLen; omega) (by omega) (by first | omega | (simp; done) | (simp; omega)) ?_; intro g3 c3 w3 hown hgr hgg; have OL3 := Lib.hid hown; have HB3 := Lib.hid (Below.grown (HB2.out.alloc HB2.out.size _) hgr (by first | omega | (simp; done) | (simp; omega)) (fun k hk => by obtain rfl := Option.some.inj hk; exact hlg.1)); have OQ3 := Lib.hid (own_keep (OQ2.out.alloc _) (hgr.block gq2 (by have := (OQ2.out.lt gq2 rfl).2; first | omega | (simp; omega)) (fun e => hne2 (Option.some.inj e).symm))); have hne3 : g3 ≠ gq2 := (by rcases hgg with rfl | h; exact hne2; (try simp at h); have := (OQ2.out.lt gq2 rfl).2; omega); clear hown hgr hgg))
        exact ⟨⟨k + 1, g3, c3, gq2, cq2, D ++ [(s, [.int .i64 s.1, .int .i64 s.2.1, .int .i64 s.2.2.1, .int .i64 s.2.2.2.1, .slice A1 s.2.2.2.2.1.length c1, .slice A2 s.2.2.2.2.2.length c2])], by omega, by go_num, by rw [HL1.out, List.length_append, List.length_singleton], rfl, by show _ = _; rw [List.map_append, HD.out, HL1.out]; rfl, fun q hq => by
          rcases List.mem_append.1 hq with hq | hq
          · exact CD.out q hq
          · obtain rfl := List.mem_singleton.1 hq
            exact cellsX_at F1.out F2.out l1 l2 N1.out N2.out, by show World.ownsRow _ _ _ _ _ _ _; rw [HL1.out, List.length_append, List.length_singleton, List.flatMap_append]; simpa using OL3.out, by show World.ownsRow _ _ _ _ _ _ _; rw [plcL, List.map_append]; exact OQ3.out, hne3, HB3⟩, by simp [intOf]; omega⟩
      | false =>
        have HU := Lib.hid hu
        have en : w1.cell? ⟨gn, k, none⟩ = some (.bool false) := by rw [ON.out.cellAt k (by omega), List.getElem?_map, List.getElem?_eq_getElem hkU, hu]; rfl
        have hL1 : leftL p U (k + 1) = leftL p U k ++ [] := by simp [leftL, List.getElem?_eq_getElem hkU, hu]
        rw [List.append_nil] at hL1
        have HL1 := Lib.hid hL1
        clear hL1 hu hs
        go_wp2_with (at_builtin; refine wpList_append_block _ rfl (.tmp 17) (.tmp 20) 30 rfl w1.heap.size 3 j0 (.int .i64 0) 1 8 Try.underlying30 hj0 jz0 jz1 jz2 rfl (by decide) gq k cq ((plcL p U k).map iv) rfl (OQ.out.alloc _) _ 1 1 [.int .i64 ((leftL p U k).length : Int)] rfl rfl (news_new (by first | rfl | simp)) (by simp [Value.oneCell']) (by unfold maxLen; omega) (by omega) (by first | omega | (simp; done) | (simp; omega)) ?_; intro gq2 cq2 w2 hown hgr hgg; have OQ2 := Lib.hid hown; have HB2 := Lib.hid (Below.grown (HB.out.alloc HB.out.size _) hgr (by first | omega | (simp; done) | (simp; omega)) (fun k hk => by obtain rfl := Option.some.inj hk; exact hlq.1)); have OL2 := Lib.hid (own_keep (OL.out.alloc _) (hgr.block g (by first | omega | (simp; done) | (simp; omega)) (fun e => hgne (Option.some.inj e)))); have hne2 : g ≠ gq2 := (by rcases hgg with rfl | h; exact hgne; (try simp at h); omega); have en2 := (HB2.out.cell (p := ⟨gn, k, none⟩) hgn.2).trans en; have hz2 := HB2.out.size; have hgl2 := OL2.out.lt g rfl; clear hown hgr hgg)
        exact ⟨⟨k + 1, g, c, gq2, cq2, D, by omega, by go_num, by rw [HL1.out], rfl, by show _ = _; rw [HD.out, HL1.out], CD, by show World.ownsRow _ _ _ _ _ _ _; rw [HL1.out]; exact OL2.out, by show World.ownsRow _ _ _ _ _ _ _; rw [plcL, List.map_append]; exact OQ2.out, hne2, HB2⟩, by simp [intOf]; omega⟩
    · obtain rfl : k = p.length := by omega
      have SPL := Lib.hid (sps_own (fun q hq => (CD.out q hq).below (HB1.out.trans (HB.out.mono hz1))) HD.out OL.out)
      have FLQ := Lib.hid (FlO.of_own OQ.out).fl
      have HPL := Lib.hid (plcL_len p U p.length)
      have HSL := Lib.hid (okS_left HS.out U)
      have SPC := Lib.hid (by have h := stepsPlaced (some ⟨g, 0, none⟩) g 0 c (leftL p U p.length) gq 0 cq (plcL p U p.length) wr SPL.out HSL.out FLQ.out LR.out; rw [HPL.out, ← HTD.out] at h; exact h)
      go_wp2_with (go_at_call 105; (with_reducible refine SPC.out.mono ?_); rintro e w9 ⟨g9, c9, U9, rfl, hst, hb⟩; have ST9 := Lib.hid hst; have HB9 := Lib.hid hb; clear hst hb)
      go_ret
      exact ⟨g9, c9, U9, rfl, ST9.out.lower (by omega), HB1.out.trans (((HB.out.trans (HB9.out.mono hzb))).mono hz1)⟩
end Go.Proofs.Ytacinjbaebimhaa.Val
