/- A copy of a plan: the reference's l7Own. -/
import Derived.Test.YtacinjbaebimhaaTidRQ
namespace Go.Proofs.Ytacinjbaebimhaa.Val
open Go.RowKit
set_option linter.unusedSimpArgs false
set_option linter.unusedVariables false
set_option maxRecDepth 8000
theorem BoxS.put4 {w : World} {B b : Nat} {v0 v1 v2 v3 v4 v5 : Value} (h : BoxS w B b [v0, v1, v2, v3, v4, v5]) (u : Value) : BoxS (w.setCell ⟨b, 4, none⟩ u) B b [v0, v1, v2, v3, u, v5] := (World.ownsRow.stored h 4 u).1
theorem BoxS.put5 {w : World} {B b : Nat} {v0 v1 v2 v3 v4 v5 : Value} (h : BoxS w B b [v0, v1, v2, v3, v4, v5]) (u : Value) : BoxS (w.setCell ⟨b, 5, none⟩ u) B b [v0, v1, v2, v3, v4, u] := (World.ownsRow.stored h 5 u).1
set_option maxHeartbeats 4000000 in
theorem l7Own (AP : Option Addr) (gP oP cP : Nat) (p : List SP) (w : World) (hP : Sps w gP oP AP p) (hps : OkS p) :
    Calls Try.prog 65 #[.slice AP p.length cP] w (RetStp p w) := by
  obtain ⟨i0, hi, iz0, iz1, iz2⟩ := info_parts infoSQ
  obtain ⟨p0, hp0, pz0, pz1, pz2⟩ := info_parts infoP
  obtain ⟨j0, hj0, jz0, jz1, jz2⟩ := info_parts infoN
  have HP := Lib.hid hP
  have HS := Lib.hid hps
  have hpl := hps.1
  clear hP hps
  go_enter Try.func65, Try.ntmps65
  go_wp2
  go_loopw [3, 4] (fun lx ix wr => ∃ (k g c : Nat) (U : List UP), k ≤ p.length ∧ ix = .int .i64 (k : Int) ∧ lx = .slice (some ⟨g, 0, none⟩) k c ∧ Hid (Stp wr w.heap.size g c U (p.take k)) ∧ Hid (Below w.heap.size w wr)) (fun _ ix _ => p.length - (intOf ix).toNat)
  case atStart => exact ⟨0, _, _, [], by omega, rfl, rfl, Stp.nil rfl (Nat.le_refl _), (Below.refl _ _).alloc (Nat.le_refl _) _⟩
  case round =>
    obtain ⟨k, g, c, U, hkn, rfl, rfl, ST, HB⟩ := hrel
    have hzb := HB.out.size
    have hlg := ST.out.lo
    have hkl : (p.take k).length = k := by simp; omega
    have hOW := ST.out.own
    rw [hkl] at hOW
    have OW := Lib.hid hOW
    have HKL := Lib.hid hkl
    clear hOW hkl
    by_cases hlt : k < p.length
    · obtain ⟨rfl, hg, A1, c1, g1, o1, A2, c2, g2, o2, x0, x1, x2, x3, x4, x5, hf1, hf2, l1, l2, n1, n2⟩ := (HP.out.below HB.out).at k hlt
      have hok := HS.out.at k hlt
      have HTK : Hid (∀ s, p[k] = s → p.take (k + 1) = p.take k ++ [s]) := Lib.hid fun s hs => by rw [List.take_add_one, List.getElem?_eq_getElem hlt, hs]; rfl
      obtain ⟨s, hs⟩ : ∃ s, p[k] = s := ⟨_, rfl⟩
      rw [hs] at x0 x1 x2 x3 x4 x5 hf1 hf2 l1 l2 hok
      have htk := HTK.out s hs
      clear HTK hs
      obtain ⟨ks, ka, kb, kn, es, ns⟩ := s
      have HT := Lib.hid htk
      clear htk
      simp only at x0 x1 x2 x3 x4 x5 hf1 hf2 l1 l2 hok
      have hel : es.length ≤ 2000000 := hok.1
      have hnl : ns.length ≤ 2000000 := hok.2.2
      have F1 := Lib.hid hf1
      have F2 := Lib.hid hf2
      have N1 := Lib.hid n1
      have N2 := Lib.hid n2
      have LP := Lib.hid (flatP_len es)
      have i0' : (0 : Int) ≤ (k : Int) := by omega
      have i1' : (k : Int) < (p.length : Int) := by omega
      clear hf1 hf2 n1 n2 hok
      go_upto_region 7 with (at_builtin; refine wpList_append_nice _ rfl (.tmp 17) (.tmp 19) 29 rfl (wr.heap.size + 1) 93 p0 (.agg #[.int .i64 0, .int .i64 0, .int .i64 0, .int .i64 0, .string ⟨#[]⟩]) 5 48 Try.underlying29 hp0 pz0 pz1 pz2 rfl (by decide) (wr.heap.size + 1) 0 0 [] rfl (own_empty3 93 5 (by simp) (Nat.le_refl _)) A1 es.length c1 g1 o1 N1.out l1 (flatP es) rfl LP.out (F1.out.below (((Below.refl _ _).alloc (Nat.le_refl _) _).alloc (by simp) _)) (one_flatP es) (by unfold maxLen; omega) (by omega) (by simp) ?_; intro gE cE wE hown hgr hgg; (try simp only [Nat.zero_add, List.nil_append] at hown ⊢); have OE := Lib.hid hown; have HE := Lib.hid (Below.grown (show Below (wr.heap.size + 1) (wr.alloc (.cells #[.int .i64 ks, .int .i64 ka, .int .i64 kb, .int .i64 kn, .slice A1 es.length c1, .slice A2 ns.length c2] 32)) _ from (Below.refl _ _).alloc (by simp) _) hgr (by simp) (fun k hk => by obtain rfl := Option.some.inj hk; exact Nat.le_refl _)); have BX1 := Lib.hid ((BoxS.new (w := wr) (B := wr.heap.size) rfl (Nat.le_refl _) (.int .i64 ks) (.int .i64 ka) (.int .i64 kb) (.int .i64 kn) (.slice A1 es.length c1) (.slice A2 ns.length c2)).below (by simpa using HE.out)); obtain ⟨⟨b0, b1, b2, b3, b4, b5⟩, f0, f1, f2, f3, f4, f5⟩ := BX1.out.facts; have hzE := HE.out.size; (try simp only [World.size_alloc] at hzE); have hEl := (hown.lt gE rfl); clear hown hgr hgg)
      have hXE : wr.heap.size < wE.heap.size := by omega
      have C1 : Hid (Below wr.heap.size wr (wE.setCell ⟨wr.heap.size, 4, none⟩ (.slice (some ⟨gE, 0, none⟩) es.length cE))) := Lib.hid ((((Below.refl _ _).alloc (Nat.le_refl _) (.cells #[.int .i64 ks, .int .i64 ka, .int .i64 kb, .int .i64 kn, .slice A1 es.length c1, .slice A2 ns.length c2] 32)).trans (HE.out.mono (Nat.le_succ _))).setCell (by simp only; omega) _)
      have BX2 := Lib.hid (BX1.out.put4 (.slice (some ⟨gE, 0, none⟩) es.length cE))
      have FE := Lib.hid ((FlO.of_own OE.out).keep (by simp) (Below.heap_setCell wE ⟨wr.heap.size, 4, none⟩ (.slice (some ⟨gE, 0, none⟩) es.length cE) gE (by simp only; omega)))
      have hzV : Hid ((wE.setCell ⟨wr.heap.size, 4, none⟩ (.slice (some ⟨gE, 0, none⟩) es.length cE)).heap.size = wE.heap.size) := Lib.hid (by simp)
      clear b0 b1 b2 b3 b4 b5 f0 f1 f2 f3 f4 f5 BX1 HE OE
      generalize wE.setCell ⟨wr.heap.size, 4, none⟩ (.slice (some ⟨gE, 0, none⟩) es.length cE) = V at C1 BX2 FE hzV ⊢
      obtain ⟨⟨b0, b1, b2, b3, b4, b5⟩, f0, f1, f2, f3, f4, f5⟩ := BX2.out.facts
      have hXV : wr.heap.size < V.heap.size := by have := hzV.out; omega
      go_upto_region 8 with (at_builtin; refine wpList_append_nice _ rfl (.tmp 22) (.tmp 24) 30 rfl V.heap.size 3 j0 (.int .i64 0) 1 8 Try.underlying30 hj0 jz0 jz1 jz2 rfl (by decide) V.heap.size 0 0 [] rfl (own_empty3 3 1 rfl (Nat.le_refl _)) A2 ns.length c2 g2 o2 N2.out l2 (ns.map iv) rfl (by simp) (F2.out.below (C1.out.alloc (by omega) _)) (one_iv ns) (by unfold maxLen; omega) (by omega) (by simp) ?_; intro gL cL wL hown hgr hgg; (try simp only [Nat.zero_add, List.nil_append] at hown ⊢); have OL := Lib.hid hown; have HL := Lib.hid (Below.grown (show Below V.heap.size V _ from (Below.refl _ _).alloc (Nat.le_refl _) _) hgr (by simp) (fun k hk => by obtain rfl := Option.some.inj hk; exact Nat.le_refl _)); have hzL := HL.out.size; have hLl := (hown.lt gL rfl); clear b0 b1 b2 b3 b4 b5 f0 f1 f2 f3 f4 f5; obtain ⟨⟨b0, b1, b2, b3, b4, b5⟩, f0, f1, f2, f3, f4, f5⟩ := (BX2.out.below HL.out).facts; clear hown hgr hgg)
      have hEV := FE.out.hi
      have C2 : Hid (Below wr.heap.size wr (wL.setCell ⟨wr.heap.size, 5, none⟩ (.slice (some ⟨gL, 0, none⟩) ns.length cL))) := Lib.hid ((C1.out.trans (HL.out.mono (by omega))).setCell (by simp only; omega) _)
      have BX3 := Lib.hid ((BX2.out.below HL.out).put5 (.slice (some ⟨gL, 0, none⟩) ns.length cL))
      have FE2 := Lib.hid ((FE.out.below HL.out).keep (by simp) (Below.heap_setCell wL ⟨wr.heap.size, 5, none⟩ (.slice (some ⟨gL, 0, none⟩) ns.length cL) gE (by simp only; omega)))
      have FL2 := Lib.hid ((FlO.of_own OL.out).keep (by simp) (Below.heap_setCell wL ⟨wr.heap.size, 5, none⟩ (.slice (some ⟨gL, 0, none⟩) ns.length cL) gL (by simp only; omega)))
      have hzV2 : Hid ((wL.setCell ⟨wr.heap.size, 5, none⟩ (.slice (some ⟨gL, 0, none⟩) ns.length cL)).heap.size = wL.heap.size) := Lib.hid (by simp)
      have hne : gE ≠ gL := by omega
      clear b0 b1 b2 b3 b4 b5 f0 f1 f2 f3 f4 f5 BX2 HL OL FE C1
      generalize wL.setCell ⟨wr.heap.size, 5, none⟩ (.slice (some ⟨gL, 0, none⟩) ns.length cL) = V2 at C2 BX3 FE2 FL2 hzV2 ⊢
      obtain ⟨⟨b0, b1, b2, b3, b4, b5⟩, -⟩ := BX3.out.facts
      have hX2 : wr.heap.size < V2.heap.size := by have := hzV2.out; omega
      go_wp2_with (at_builtin; refine wpList_append_block _ rfl (.tmp 27) (.tmp 29) 24 rfl w.heap.size 32 i0 (.agg #[.int .i64 0, .int .i64 0, .int .i64 0, .int .i64 0, .slice none 0 0, .slice none 0 0]) 6 80 Try.underlying24 hi iz0 iz1 iz2 rfl (by decide) g k c (U.flatMap hdS) rfl (World.ownsRow.alloc (own_keep OW.out (C2.out.block _ hlg.2)) _) _ 1 1 [.int .i64 ks, .int .i64 ka, .int .i64 kb, .int .i64 kn, .slice (some ⟨gE, 0, none⟩) es.length cE, .slice (some ⟨gL, 0, none⟩) ns.length cL] rfl rfl (news_new (by first | rfl | simp)) (by simp [Value.oneCell']) (by unfold maxLen; omega) (by omega) (by first | omega | (simp; done) | (simp; omega)) ?_; intro g6 c6 w6 hown hgr hgg; have OW6 := Lib.hid hown; have HG6 := Lib.hid hgr; have HN6 := Lib.hid hgg; clear hown hgr hgg)
      have hHI := ST.out.hi
      have hEl2 := FE2.out.lo
      have hLl2 := FL2.out.lo
      refine ⟨⟨k + 1, g6, c6, U ++ [((ks, ka, kb, kn), (gE, cE, es), (gL, cL, ns))], by omega, by go_num, rfl, ?_, ?_⟩, by simp [intOf]; omega⟩
      · show Stp _ _ _ _ _ _
        rw [HT.out]
        exact Stp.push (u := ((ks, ka, kb, kn), (gE, cE, es), (gL, cL, ns))) ((ST.out.below C2.out).alloc _) ⟨(FE2.out.alloc _).lower (by omega), (FL2.out.alloc _).lower (by omega)⟩ hne (fun b hb => by
          simp only [blkS, List.mem_cons, List.not_mem_nil, or_false] at hb
          exact ⟨fun hm => by have := (hHI b hm).2; omega, by omega⟩) (by rw [HKL.out]) OW6.out HG6.out HN6.out
      · exact Below.grown (HB.out.trans (Below.mono (C2.out.alloc (by omega) _) hzb)) HG6.out (by first | omega | (simp; done) | (simp; omega)) (fun k hk => by obtain rfl := Option.some.inj hk; exact hlg.1)
    · obtain rfl : k = p.length := by omega
      go_wp2
      go_ret
      have h := ST.out
      rw [List.take_length] at h
      exact ⟨g, c, U, rfl, h, HB.out⟩
end Go.Proofs.Ytacinjbaebimhaa.Val
