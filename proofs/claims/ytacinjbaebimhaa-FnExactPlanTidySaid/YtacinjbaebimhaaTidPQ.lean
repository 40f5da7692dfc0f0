/- Steps that name the new places of those that they named: the program's stepsPlaced. -/
import Derived.Test.YtacinjbaebimhaaTidIQ
namespace Go.Proofs.Ytacinjbaebimhaa.Val
open Go.RowKit
set_option linter.unusedSimpArgs false
set_option linter.unusedVariables false
set_option maxRecDepth 8000
theorem Stp.push {w w' : World} {B g cap g' cap' n : Nat} {U : List UP} {ps : List SP} {u : UP} (h : Stp w B g cap U ps) (hu : StpO w B u) (hne : u.2.1.1 ≠ u.2.2.1) (hsep : ∀ b ∈ blkS u, b ∉ U.flatMap blkS ∧ b ≠ g) (hnl : n = ps.length + 1)
    (ho : w'.ownsRow B 32 6 (.slice (some ⟨g', 0, none⟩) n cap') n (U.flatMap hdS ++ hdS u)) (hgr : w.grownBy w' (some g)) (hg : g' = g ∨ w.heap.size ≤ g') : Stp w' B g' cap' (U ++ [u]) (ps ++ [spOf u]) := by
  have hlo := h.lo
  refine ⟨by rw [List.map_append, h.eq]; rfl, by rw [List.length_append, List.length_singleton, ← hnl, List.flatMap_append]; simpa using ho, fun v hv => ?_, ?_, fun v hv hm => ?_⟩
  · rcases List.mem_append.1 hv with hv | hv
    · exact (h.stps v hv).keep hgr.size fun b hb => hgr.block b ((h.stps v hv).hi b hb).2 fun e => h.ng v hv (by obtain rfl := Option.some.inj e; exact hb)
    · obtain rfl := List.mem_singleton.1 hv
      exact hu.keep hgr.size fun b hb => hgr.block b (hu.hi b hb).2 fun e => (hsep b hb).2 (Option.some.inj e)
  · rw [List.flatMap_append]
    refine List.nodup_append.2 ⟨h.nd, ?_, fun a ha b hb e => ?_⟩
    · simp only [List.flatMap_cons, List.flatMap_nil, List.append_nil, blkS]
      simpa using hne
    · subst e
      simp only [List.flatMap_cons, List.flatMap_nil, List.append_nil] at hb
      exact (hsep a hb).1 ha
  · rcases List.mem_append.1 hv with hv | hv
    · rcases hg with rfl | hg
      · exact h.ng v hv hm
      · have := ((h.stps v hv).hi _ hm).2; omega
    · obtain rfl := List.mem_singleton.1 hv
      rcases hg with rfl | hg
      · exact (hsep _ hm).2 rfl
      · have := (hu.hi _ hm).2; omega
theorem own_lowerP {w : World} {B B' n size : Nat} {e : TypeId} {v : Value} {xs : List Value} (h : w.ownsRow B e size v n xs) (hB : B' ≤ B) : w.ownsRow B' e size v n xs := by
  refine ⟨h.1, ?_⟩
  rcases h.2 with h0 | ⟨g2, cap2, cur, h1, h2, h3⟩
  · exact .inl h0
  · exact .inr ⟨g2, cap2, cur, h1, Nat.le_trans hB h2, h3⟩
theorem Stp.lower {w : World} {B B' g cap : Nat} {U : List UP} {ps : List SP} (h : Stp w B g cap U ps) (hB : B' ≤ B) : Stp w B' g cap U ps := ⟨h.eq, own_lowerP h.own hB, fun u hu => (h.stps u hu).lower hB, h.nd, h.ng⟩
theorem Stp.nil {w : World} {B X : Nat} (hX : w.heap.size = X) (hB : B ≤ X) : Stp (w.alloc (.cells #[] 32)) B X 0 [] [] :=
  ⟨rfl, own_empty3 32 6 hX hB, fun u hu => absurd hu (by simp), by simp, fun u hu => absurd hu (by simp)⟩
/-- A step at its new places. -/
def plS (pl : List Int) (s : SP) : SP := (s.1, if 0 < asksI s.1 then pl.getD s.2.1.toNat 0 else s.2.1, if 1 < asksI s.1 then pl.getD s.2.2.1.toNat 0 else s.2.2.1, s.2.2.2.1, s.2.2.2.2.1, s.2.2.2.2.2)
theorem infoSQ : (Try.prog.info? 32).map (fun i => (i.zero, i.size, i.bytes)) = some (some (.agg #[.int .i64 0, .int .i64 0, .int .i64 0, .int .i64 0, .slice none 0 0, .slice none 0 0]), 6, 80) := by kernel_rfl
set_option maxHeartbeats 4000000 in
theorem stepsPlaced (AP : Option Addr) (gP oP cP : Nat) (p : List SP) (gq oq cq : Nat) (pl : List Int) (w : World) (hP : Sps w gP oP AP p) (hps : OkS p) (hF : Fl w gq oq (some ⟨gq, oq, none⟩) (pl.map iv)) (hr : ∀ s ∈ p, (0 < asksI s.1 → inB s.2.1 pl.length = true) ∧ (1 < asksI s.1 → inB s.2.2.1 pl.length = true)) :
    Calls Try.prog 105 #[.slice AP p.length cP, .slice (some ⟨gq, oq, none⟩) pl.length cq] w (RetStp (p.map (plS pl)) w) := by
  obtain ⟨i0, hi, iz0, iz1, iz2⟩ := info_parts infoSQ
  have HP := Lib.hid hP
  have HF := Lib.hid hF
  have HS := Lib.hid hps
  have HR := Lib.hid hr
  have hpl := hps.1
  clear hP hF hps hr
  go_enter Try.func105, Try.ntmps105
  go_wp2
  go_loopw [5, 6] (fun lx ix wr => ∃ (k g c : Nat) (U : List UP), k ≤ p.length ∧ ix = .int .i64 (k : Int) ∧ lx = .slice (some ⟨g, 0, none⟩) k c ∧ Hid (Stp wr w.heap.size g c U ((p.take k).map (plS pl))) ∧ Hid (Below w.heap.size w wr)) (fun _ ix _ => p.length - (intOf ix).toNat)
  case atStart => exact ⟨0, _, _, [], by omega, rfl, rfl, Stp.nil rfl (Nat.le_refl _), (Below.refl _ _).alloc (Nat.le_refl _) _⟩
  case round =>
    obtain ⟨k, g, c, U, hkn, rfl, rfl, ST, HB⟩ := hrel
    have hzb := HB.out.size
    have hlg := ST.out.lo
    have hkl : ((p.take k).map (plS pl)).length = k := by simp; omega
    have hOW := ST.out.own
    rw [hkl] at hOW
    have OW := Lib.hid hOW
    have HKL := Lib.hid hkl
    clear hOW hkl
    by_cases hlt : k < p.length
    · obtain ⟨rfl, hg, A1, c1, g1, o1, A2, c2, g2, o2, x0, x1, x2, x3, x4, x5, hf1, hf2, l1, l2, n1, n2⟩ := (HP.out.below HB.out).at k hlt
      have hok := HS.out.at k hlt
      have hrs := HR.out p[k] (List.getElem_mem _)
      have HTK : Hid (∀ s, p[k] = s → (p.take (k + 1)).map (plS pl) = (p.take k).map (plS pl) ++ [plS pl s]) := Lib.hid fun s hs => by rw [List.take_add_one, List.getElem?_eq_getElem hlt, List.map_append, hs]; rfl
      obtain ⟨s, hs⟩ : ∃ s, p[k] = s := ⟨_, rfl⟩
      rw [hs] at x0 x1 x2 x3 x4 x5 hf1 hf2 l1 l2 hok hrs
      have htk := HTK.out s hs
      clear HTK hs
      obtain ⟨ks, ka, kb, kn, es, ns⟩ := s
      have HT := Lib.hid htk
      clear htk
      simp only at x0 x1 x2 x3 x4 x5 hf1 hf2 l1 l2 hok hrs
      have hrA := Lib.hid hrs.1
      have hrB := Lib.hid hrs.2
      have SC := Lib.hid (fun W (hb : Below wr.heap.size wr W) => stepCopy ks ka kb kn es ns A1 A2 c1 g1 o1 c2 g2 o2 W (hf1.below hb) (hf2.below hb) n1 n2 l1 l2 hok.1 hok.2.2)
      have SA := Lib.hid (fun W => stepAsks ks W)
      clear hf1 hf2 l1 l2 hok hrs n1 n2
      have i0' : (0 : Int) ≤ (k : Int) := by omega
      have i1' : (k : Int) < (p.length : Int) := by omega
      obtain ⟨aq, has⟩ : ∃ a, asksI ks = a := ⟨_, rfl⟩
      have HA := Lib.hid has
      rw [has] at SA
      have hq := asks_three ks
      rw [has] at hq
      clear has
      obtain hc | hc | hc := hq
      · subst hc
        go_wp2_with (first
          | (go_at_call 133; (with_reducible refine (SC.out _ (Below.refl _ _)).mono ?_); rintro e w1 ⟨gE, cE, gL, cL, rfl, hfe, hfl, hne, hb⟩; have FE := Lib.hid hfe; have FL := Lib.hid hfl; have HB1 := Lib.hid hb; have hz1 := hb.size; have hEb := hfe.hi; have hLb := hfl.hi; have hEl := hfe.lo; have hLl := hfl.lo; clear hfe hfl hb)
          | (go_at_call 93; (with_reducible refine (SA.out _).mono ?_); rintro e wx ⟨rfl, rfl⟩)
          | (at_builtin; refine wpList_append_block _ rfl (.tmp 40) (.tmp 42) 24 rfl w.heap.size 32 i0 (.agg #[.int .i64 0, .int .i64 0, .int .i64 0, .int .i64 0, .slice none 0 0, .slice none 0 0]) 6 80 Try.underlying24 hi iz0 iz1 iz2 rfl (by decide) g k c (U.flatMap hdS) rfl (own_keep OW.out ((show Below wr.heap.size wr _ from (by repeat (with_reducible first | exact HB1.out | apply Below.drew | refine Below.alloc ?_ (by first | omega | (simp; done) | (simp; omega)) _ | refine Below.setCell ?_ (by first | omega | (simp; done) | (simp; omega)) _))).block _ hlg.2)) _ 1 1 [.int .i64 ks, .int .i64 ka, .int .i64 kb, .int .i64 kn, .slice (some ⟨gE, 0, none⟩) es.length cE, .slice (some ⟨gL, 0, none⟩) ns.length cL] rfl rfl (news_new (by first | rfl | simp)) (by simp [Value.oneCell']) (by unfold maxLen; omega) (by omega) (by first | omega | (simp; done) | (simp; omega)) ?_; intro g6 c6 w6 hown hgr hgg; have OW6 := Lib.hid hown; have HG6 := Lib.hid hgr; have HN6 := Lib.hid hgg; clear hown hgr hgg))
        have hpS : plS pl (ks, ka, kb, kn, es, ns) = spOf ((ks, ka, kb, kn), (gE, cE, es), (gL, cL, ns)) := by simp [plS, HA.out, spOf]
        have hHI := ST.out.hi
        refine ⟨⟨k + 1, g6, c6, U ++ [((ks, ka, kb, kn), (gE, cE, es), (gL, cL, ns))], by omega, by go_num, rfl, ?_, ?_⟩, by simp [intOf]; omega⟩
        · show Stp _ _ _ _ _ _
          rw [HT.out, hpS]
          exact Stp.push (ST.out.below (by repeat (with_reducible first | exact HB1.out | apply Below.drew | refine Below.alloc ?_ (by first | omega | (simp; done) | (simp; omega)) _ | refine Below.setCell ?_ (by first | omega | (simp; done) | (simp; omega)) _))) ⟨(FE.out.below (by repeat (with_reducible first | exact Below.refl _ _ | apply Below.drew | refine Below.alloc ?_ (by first | omega | (simp; done) | (simp; omega)) _ | refine Below.setCell ?_ (by first | omega | (simp; done) | (simp; omega)) _))).lower hzb, (FL.out.below (by repeat (with_reducible first | exact Below.refl _ _ | apply Below.drew | refine Below.alloc ?_ (by first | omega | (simp; done) | (simp; omega)) _ | refine Below.setCell ?_ (by first | omega | (simp; done) | (simp; omega)) _))).lower hzb⟩ hne (fun b hb => by
            simp only [blkS, List.mem_cons, List.not_mem_nil, or_false] at hb
            exact ⟨fun hm => by have := (hHI b hm).2; omega, by omega⟩) (by rw [HKL.out]) OW6.out HG6.out HN6.out
        · exact Below.grown (HB.out.trans (Below.mono (by repeat (with_reducible first | exact HB1.out | apply Below.drew | refine Below.alloc ?_ (by first | omega | (simp; done) | (simp; omega)) _ | refine Below.setCell ?_ (by first | omega | (simp; done) | (simp; omega)) _)) hzb)) HG6.out (by first | omega | (simp; done) | (simp; omega)) (fun k hk => by obtain rfl := Option.some.inj hk; exact hlg.1)
      · subst hc
        obtain ⟨a0, a1⟩ : (0 : Int) ≤ ka ∧ ka < (pl.length : Int) := by have := hrA.out (by rw [HA.out]; decide); simpa [inB] using this
        obtain ⟨ja, rfl⟩ : ∃ j : Nat, ka = (j : Int) := ⟨ka.toNat, by omega⟩
        have hja : ja < pl.length := by omega
        have ca := (HF.out.below HB.out).c ja (by simpa using hja)
        rw [List.getElem_map] at ca
        have hgq : gq < wr.heap.size := World.block_lt_of_cell? _ _ ca
        obtain ⟨va, hva⟩ : ∃ v, pl[ja] = v := ⟨_, rfl⟩
        rw [hva] at ca
        simp only [iv] at ca
        go_wp2_with (first
          | (go_at_call 133; (with_reducible refine (SC.out _ (Below.refl _ _)).mono ?_); rintro e w1 ⟨gE, cE, gL, cL, rfl, hfe, hfl, hne, hb⟩; have FE := Lib.hid hfe; have FL := Lib.hid hfl; have HB1 := Lib.hid hb; have hz1 := hb.size; have hEb := hfe.hi; have hLb := hfl.hi; have hEl := hfe.lo; have hLl := hfl.lo; have hgq1 : gq < w1.heap.size := (by omega); have hgq2 : ¬ (gq = w1.heap.size) := (by omega); have hgq3 : ¬ (w1.heap.size = gq) := (by omega); have ca1 := (HB1.out.cell (p := ⟨gq, oq + ja, none⟩) hgq).trans ca; clear hfe hfl hb)
          | (go_at_call 93; (with_reducible refine (SA.out _).mono ?_); rintro e wx ⟨rfl, rfl⟩)
          | (at_builtin; refine wpList_append_block _ rfl (.tmp 40) (.tmp 42) 24 rfl w.heap.size 32 i0 (.agg #[.int .i64 0, .int .i64 0, .int .i64 0, .int .i64 0, .slice none 0 0, .slice none 0 0]) 6 80 Try.underlying24 hi iz0 iz1 iz2 rfl (by decide) g k c (U.flatMap hdS) rfl (own_keep OW.out ((show Below wr.heap.size wr _ from (by repeat (with_reducible first | exact HB1.out | apply Below.drew | refine Below.alloc ?_ (by first | omega | (simp; done) | (simp; omega)) _ | refine Below.setCell ?_ (by first | omega | (simp; done) | (simp; omega)) _))).block _ hlg.2)) _ 1 1 [.int .i64 ks, .int .i64 va, .int .i64 kb, .int .i64 kn, .slice (some ⟨gE, 0, none⟩) es.length cE, .slice (some ⟨gL, 0, none⟩) ns.length cL] rfl rfl (news_new (by first | rfl | simp)) (by simp [Value.oneCell']) (by unfold maxLen; omega) (by omega) (by first | omega | (simp; done) | (simp; omega)) ?_; intro g6 c6 w6 hown hgr hgg; have OW6 := Lib.hid hown; have HG6 := Lib.hid hgr; have HN6 := Lib.hid hgg; clear hown hgr hgg))
        have hpS : plS pl (ks, (ja : Int), kb, kn, es, ns) = spOf ((ks, va, kb, kn), (gE, cE, es), (gL, cL, ns)) := by simp [plS, HA.out, spOf, List.getElem?_eq_getElem hja, hva]
        have hHI := ST.out.hi
        refine ⟨⟨k + 1, g6, c6, U ++ [((ks, va, kb, kn), (gE, cE, es), (gL, cL, ns))], by omega, by go_num, rfl, ?_, ?_⟩, by simp [intOf]; omega⟩
        · show Stp _ _ _ _ _ _
          rw [HT.out, hpS]
          exact Stp.push (ST.out.below (by repeat (with_reducible first | exact HB1.out | apply Below.drew | refine Below.alloc ?_ (by first | omega | (simp; done) | (simp; omega)) _ | refine Below.setCell ?_ (by first | omega | (simp; done) | (simp; omega)) _))) ⟨(FE.out.below (by repeat (with_reducible first | exact Below.refl _ _ | apply Below.drew | refine Below.alloc ?_ (by first | omega | (simp; done) | (simp; omega)) _ | refine Below.setCell ?_ (by first | omega | (simp; done) | (simp; omega)) _))).lower hzb, (FL.out.below (by repeat (with_reducible first | exact Below.refl _ _ | apply Below.drew | refine Below.alloc ?_ (by first | omega | (simp; done) | (simp; omega)) _ | refine Below.setCell ?_ (by first | omega | (simp; done) | (simp; omega)) _))).lower hzb⟩ hne (fun b hb => by
            simp only [blkS, List.mem_cons, List.not_mem_nil, or_false] at hb
            exact ⟨fun hm => by have := (hHI b hm).2; omega, by omega⟩) (by rw [HKL.out]) OW6.out HG6.out HN6.out
        · exact Below.grown (HB.out.trans (Below.mono (by repeat (with_reducible first | exact HB1.out | apply Below.drew | refine Below.alloc ?_ (by first | omega | (simp; done) | (simp; omega)) _ | refine Below.setCell ?_ (by first | omega | (simp; done) | (simp; omega)) _)) hzb)) HG6.out (by first | omega | (simp; done) | (simp; omega)) (fun k hk => by obtain rfl := Option.some.inj hk; exact hlg.1)
      · subst hc
        obtain ⟨a0, a1⟩ : (0 : Int) ≤ ka ∧ ka < (pl.length : Int) := by have := hrA.out (by rw [HA.out]; decide); simpa [inB] using this
        obtain ⟨ja, rfl⟩ : ∃ j : Nat, ka = (j : Int) := ⟨ka.toNat, by omega⟩
        have hja : ja < pl.length := by omega
        have ca := (HF.out.below HB.out).c ja (by simpa using hja)
        rw [List.getElem_map] at ca
        have hgq : gq < wr.heap.size := World.block_lt_of_cell? _ _ ca
        obtain ⟨va, hva⟩ : ∃ v, pl[ja] = v := ⟨_, rfl⟩
        rw [hva] at ca
        simp only [iv] at ca
        obtain ⟨b0, b1⟩ : (0 : Int) ≤ kb ∧ kb < (pl.length : Int) := by have := hrB.out (by rw [HA.out]; decide); simpa [inB] using this
        obtain ⟨jb, rfl⟩ : ∃ j : Nat, kb = (j : Int) := ⟨kb.toNat, by omega⟩
        have hjb : jb < pl.length := by omega
        have cb := (HF.out.below HB.out).c jb (by simpa using hjb)
        rw [List.getElem_map] at cb
        obtain ⟨vb, hvb⟩ : ∃ v, pl[jb] = v := ⟨_, rfl⟩
        rw [hvb] at cb
        simp only [iv] at cb
        go_wp2_with (first
          | (go_at_call 133; (with_reducible refine (SC.out _ (Below.refl _ _)).mono ?_); rintro e w1 ⟨gE, cE, gL, cL, rfl, hfe, hfl, hne, hb⟩; have FE := Lib.hid hfe; have FL := Lib.hid hfl; have HB1 := Lib.hid hb; have hz1 := hb.size; have hEb := hfe.hi; have hLb := hfl.hi; have hEl := hfe.lo; have hLl := hfl.lo; have hgq1 : gq < w1.heap.size := (by omega); have hgq2 : ¬ (gq = w1.heap.size) := (by omega); have hgq3 : ¬ (w1.heap.size = gq) := (by omega); have ca1 := (HB1.out.cell (p := ⟨gq, oq + ja, none⟩) hgq).trans ca; have cb1 := (HB1.out.cell (p := ⟨gq, oq + jb, none⟩) hgq).trans cb; clear hfe hfl hb)
          | (go_at_call 93; (with_reducible refine (SA.out _).mono ?_); rintro e wx ⟨rfl, rfl⟩)
          | (at_builtin; refine wpList_append_block _ rfl (.tmp 40) (.tmp 42) 24 rfl w.heap.size 32 i0 (.agg #[.int .i64 0, .int .i64 0, .int .i64 0, .int .i64 0, .slice none 0 0, .slice none 0 0]) 6 80 Try.underlying24 hi iz0 iz1 iz2 rfl (by decide) g k c (U.flatMap hdS) rfl (own_keep OW.out ((show Below wr.heap.size wr _ from (by repeat (with_reducible first | exact HB1.out | apply Below.drew | refine Below.alloc ?_ (by first | omega | (simp; done) | (simp; omega)) _ | refine Below.setCell ?_ (by first | omega | (simp; done) | (simp; omega)) _))).block _ hlg.2)) _ 1 1 [.int .i64 ks, .int .i64 va, .int .i64 vb, .int .i64 kn, .slice (some ⟨gE, 0, none⟩) es.length cE, .slice (some ⟨gL, 0, none⟩) ns.length cL] rfl rfl (news_new (by first | rfl | simp)) (by simp [Value.oneCell']) (by unfold maxLen; omega) (by omega) (by first | omega | (simp; done) | (simp; omega)) ?_; intro g6 c6 w6 hown hgr hgg; have OW6 := Lib.hid hown; have HG6 := Lib.hid hgr; have HN6 := Lib.hid hgg; clear hown hgr hgg))
        have hpS : plS pl (ks, (ja : Int), (jb : Int), kn, es, ns) = spOf ((ks, va, vb, kn), (gE, cE, es), (gL, cL, ns)) := by simp [plS, HA.out, spOf, List.getElem?_eq_getElem hja, hva, List.getElem?_eq_getElem hjb, hvb]
        have hHI := ST.out.hi
        refine ⟨⟨k + 1, g6, c6, U ++ [((ks, va, vb, kn), (gE, cE, es), (gL, cL, ns))], by omega, by go_num, rfl, ?_, ?_⟩, by simp [intOf]; omega⟩
        · show Stp _ _ _ _ _ _
          rw [HT.out, hpS]
          exact Stp.push (ST.out.below (by repeat (with_reducible first | exact HB1.out | apply Below.drew | refine Below.alloc ?_ (by first | omega | (simp; done) | (simp; omega)) _ | refine Below.setCell ?_ (by first | omega | (simp; done) | (simp; omega)) _))) ⟨(FE.out.below (by repeat (with_reducible first | exact Below.refl _ _ | apply Below.drew | refine Below.alloc ?_ (by first | omega | (simp; done) | (simp; omega)) _ | refine Below.setCell ?_ (by first | omega | (simp; done) | (simp; omega)) _))).lower hzb, (FL.out.below (by repeat (with_reducible first | exact Below.refl _ _ | apply Below.drew | refine Below.alloc ?_ (by first | omega | (simp; done) | (simp; omega)) _ | refine Below.setCell ?_ (by first | omega | (simp; done) | (simp; omega)) _))).lower hzb⟩ hne (fun b hb => by
            simp only [blkS, List.mem_cons, List.not_mem_nil, or_false] at hb
            exact ⟨fun hm => by have := (hHI b hm).2; omega, by omega⟩) (by rw [HKL.out]) OW6.out HG6.out HN6.out
        · exact Below.grown (HB.out.trans (Below.mono (by repeat (with_reducible first | exact HB1.out | apply Below.drew | refine Below.alloc ?_ (by first | omega | (simp; done) | (simp; omega)) _ | refine Below.setCell ?_ (by first | omega | (simp; done) | (simp; omega)) _)) hzb)) HG6.out (by first | omega | (simp; done) | (simp; omega)) (fun k hk => by obtain rfl := Option.some.inj hk; exact hlg.1)
    · obtain rfl : k = p.length := by omega
      go_wp2
      go_ret
      have h := ST.out
      rw [List.take_length] at h
      exact ⟨g, c, U, by simp, h, HB.out⟩
end Go.Proofs.Ytacinjbaebimhaa.Val
