/- The walk of the law FnWholeThree. -/
import Derived.Test.YtacinjbaebimhaaStpNQ
import Derived.Test.YtacinjbaebimhaaDrawShQ
import Derived.Test.YtacinjbaebimhaaLSmQ
import Derived.Test.YtacinjbaebimhaaPMath3Q
import Derived.Test.YtacinjbaebimhaaAliveQ
import Derived.Test.YtacinjbaebimhaaWPartNQ
namespace Go.Proofs.Ytacinjbaebimhaa.Val
open Go.RowKit
set_option linter.unusedSimpArgs false
set_option linter.unusedVariables false
set_option maxRecDepth 20000
theorem twoS_len (p : List SP) (a b : List PT) : (twoS p a b).length = p.length + 2 := by simp [twoS]
theorem oneS_len (p : List SP) (a : List PT) : (oneS p a).length = p.length + 1 := by simp [oneS]
theorem fits_one {ps : List SP} {a : List PT} (h : ∀ s ∈ ps, StepFit s) (la : a.length ≤ 7) (ta : TextsP a) : ∀ t ∈ oneS ps a, StepFit t := fits_app h ⟨la, ta, Nat.zero_le _⟩
theorem fits_two {ps : List SP} {a b : List PT} (h : ∀ s ∈ ps, StepFit s) (la : a.length ≤ 7) (lb : b.length ≤ 7) (ta : TextsP a) (tb : TextsP b) : ∀ t ∈ twoS ps a b, StepFit t := fits_app (fits_app h ⟨la, ta, Nat.zero_le _⟩) ⟨lb, tb, Nat.zero_le _⟩
def sum3 (A B C : List RT) : Nat → List RT
  | 0 => []
  | 1 => [] ++ A
  | 2 => [] ++ A ++ B
  | _ => [] ++ A ++ B ++ C
theorem BagN.nice {w : World} {B g c : Nat} {A : Option Addr} {T : List TT} {ls : List RT} (h : BagN w B A g c T ls) : Nice A c g 0 := by
  rcases h with ⟨rfl, -⟩ | ⟨rfl, rfl, -, -⟩
  · exact .inl rfl
  · exact .inr ⟨rfl, rfl⟩
theorem BagN.caps {w : World} {B g c : Nat} {A : Option Addr} {T : List TT} {ls : List RT} (h : BagN w B A g c T ls) : ls.length ≤ c ∧ c ≤ maxLen := by
  rcases h with ⟨-, h⟩ | ⟨-, rfl, rfl, -⟩
  · exact h.caps
  · exact ⟨Nat.le_refl _, Nat.zero_le _⟩
theorem sum3_len (A B C : List RT) (i : Nat) (hA : A.length ≤ 300) (hB : B.length ≤ 300) (hC : C.length ≤ 300) : (sum3 A B C i).length ≤ 900 := by
  unfold sum3
  split <;> simp <;> omega
set_option maxHeartbeats 8000000 in
theorem walk_FnWholeThree (a : Option Addr) (len cap : Nat) (zs : List Int) (w : World) (h : IsRow .u8 w a len cap zs) :
    Calls Try.prog 7 #[.slice a len cap] w fun e w' => e = .returned (.bool true) ∧ Below w.heap.size w w' := by
  by_cases hl : 1048576 < len
  · clear h
    go_enter Try.func7, Try.ntmps7
    go_wp2
    go_ret
    exact ⟨rfl, Below.refl _ _⟩
  · have HI := Lib.hid h
    clear h
    obtain ⟨i0, hi, iz0, iz1, iz2⟩ := info_parts infoST
    go_enter Try.func7, Try.ntmps7
    go_wp2_with (go_at_call 27; (with_reducible refine (drawTested _ _ _ zs _ HI.out).mono ?_); rintro e wd ⟨gt, ct, gp, cp, ga, ka, gb, kb, ts, ps, ea, eb, rfl, htb, hts, htf, hct, hsp, hpl, hsf, hcp, ⟨fa, la, ta, ra, ca⟩, ⟨fb, lb, tb2, rb, cb⟩, hbd⟩; have TBW := Lib.hid htb; have OKT := Lib.hid (htf.ok hts.2); have SPW := Lib.hid hsp; have SF := Lib.hid hsf; have HB := Lib.hid hbd; have FA := Lib.hid fa; have FB := Lib.hid fb; have TA := Lib.hid ta; have TX := Lib.hid tb2; have RA := Lib.hid ra; have TFT := Lib.hid htf; clear htb hsp hsf hbd htf fa fb ta tb2 ra rb)
    have OKS := Lib.hid (okS_fit (by omega) SF.out)
    obtain ⟨L, hL1, hL2, hL3⟩ := SPW.out.cells
    have LL : L.length = ps.length := by rw [← hL1, List.length_map]
    have CEL := Lib.hid (fun W (hb : Below wd.heap.size wd W) (k j : Nat) (u : Value) (hj : ((L.take k).flatMap fun p => p.2)[j]? = some u) => (by
      have h1 : (L.flatMap fun p => p.2)[j]? = some u := by
        conv => lhs; rw [← List.take_append_drop k L, List.flatMap_append]
        rw [List.getElem?_append_left (List.getElem?_eq_some_iff.1 hj).1]
        exact hj
      rw [addNone, Nat.zero_add]
      have h2 := hL3 j u h1
      rw [Nat.zero_add] at h2
      exact (hb.cell (p := ⟨gp, j, none⟩) (World.block_lt_of_cell? wd ⟨gp, j, none⟩ h2)).trans h2 : W.cell? ((⟨gp, 0, none⟩ : Addr).add j) = some u))
    have LX := Lib.hid (fun W (hb : Below wd.heap.size wd W) (k : Nat) p (hp : p ∈ L.take k) => (hL2 p (List.mem_of_mem_take hp)).below hb)
    have LM := Lib.hid (fun (k : Nat) => (by rw [List.map_take, hL1] : (L.take k).map (fun p => p.1) = ps.take k))
    have LC := Lib.hid (fun (k : Nat) (hk : k ≤ ps.length) => (by rw [stepsX_len (W := wd) (L := L.take k) (fun p hp => hL2 p (List.mem_of_mem_take hp)), List.length_take, LL, Nat.min_eq_left hk] : ((L.take k).flatMap fun p => p.2).length = k * 6))
    have LO := Lib.hid (fun (k : Nat) => stepsX_one (W := wd) (L := L.take k) (fun p hp => hL2 p (List.mem_of_mem_take hp)))
    clear hL1 hL2 hL3 LL
    have PI := Lib.hid (fun W h1 h2 => planOkI (some ⟨gt, 0, none⟩) (some ⟨gp, 0, none⟩) gt 0 ct gp 0 cp ts ps W h1 OKT.out h2 OKS.out)
    have PS := Lib.hid (fun W h1 h2 => planOkS (some ⟨gt, 0, none⟩) (some ⟨gp, 0, none⟩) gt 0 ct gp 0 cp ts ps W h1 OKT.out h2 OKS.out)
    have PRE := Lib.hid (fun (E : List PT) (hl : E.length ≤ 7) (ht : TextsP E) W X cX h1 h2 => (by have h3 := (planRowsI (some ⟨gt, 0, none⟩) (some ⟨X, 0, none⟩) gt 0 ct X 0 cX ts (oneS ps E) W h1 OKT.out h2 (okS_fit (by rw [oneS_len]; omega) (fits_one SF.out hl ht))).mono fun e w' h => retBagN h; rw [oneS_len] at h3; exact h3 : Calls _ _ _ _ _))
    have PRP := Lib.hid (fun W h1 h2 => (planRowsI (some ⟨gt, 0, none⟩) (some ⟨gp, 0, none⟩) gt 0 ct gp 0 cp ts ps W h1 OKT.out h2 OKS.out).mono fun e w' h => retBagN h)
    have hga := FA.out.lt (by rw [flatP_len]; omega)
    have WP7 := Lib.hid (fun W h1 h2 => withPartsN ga ka ea 7 W (by omega) h1 h2 (by omega))
    have WP8 := Lib.hid (fun W h1 h2 => withPartsN ga ka ea 8 W (by omega) h1 h2 (by omega))
    have PERM := Lib.hid (whole_three (tb := ts) hpl.1 (by omega) RA.out (by omega))
    obtain ⟨-, -, OX⟩ := prows_small ts ps
    have hA3 := (prows_small ts (oneS ps ea)).1
    have hB3 := (prows_small ts (oneS ps (ea ++ [(7, 0, nilV)]))).1
    have hC3 := (prows_small ts (oneS ps (ea ++ [(8, 0, nilV)]))).1
    obtain ⟨sm, hsm⟩ : ∃ f, sum3 (prowsI ts (oneS ps ea)) (prowsI ts (oneS ps (ea ++ [(7, 0, nilV)]))) (prowsI ts (oneS ps (ea ++ [(8, 0, nilV)]))) = f := ⟨_, rfl⟩
    have SM0 : sm 0 = [] := by rw [← hsm]; rfl
    have SM1 : sm 1 = sm 0 ++ prowsI ts (oneS ps ea) := by rw [← hsm]; rfl
    have SM2 : sm 2 = sm 1 ++ prowsI ts (oneS ps (ea ++ [(7, 0, nilV)])) := by rw [← hsm]; rfl
    have SM3 : sm 3 = sm 2 ++ prowsI ts (oneS ps (ea ++ [(8, 0, nilV)])) := by rw [← hsm]; rfl
    have SML := Lib.hid (fun i => (by rw [← hsm]; exact sum3_len _ _ _ i hA3 hB3 hC3 : (sm i).length ≤ 900))
    have PM3 : List.Perm (sm 3) (prowsI ts ps) := by rw [SM3, SM2, SM1, SM0, List.nil_append]; exact PERM.out
    have SMH := Lib.hid SM0
    have SMA := Lib.hid SM1
    have SMB := Lib.hid SM2
    have SMC := Lib.hid SM3
    obtain ⟨rs, hrs⟩ : ∃ b, prowsI ts ps = b := ⟨_, rfl⟩
    rw [hrs] at OX PRP PM3
    have OXH := Lib.hid OX
    have OKS3 := Lib.hid (OX.sub (by have := SML.out 3; omega) (fun r hr => PM3.mem_iff.1 hr) : Ok2 (sm 3))
    have BG3 := Lib.hid ((bagB_iff _ _).2 PM3)
    have hl7 : (ea ++ [((7 : Int), (0 : Int), nilV)]).length = ea.length + 1 := by simp
    have hl8 : (ea ++ [((8 : Int), (0 : Int), nilV)]).length = ea.length + 1 := by simp
    have T7 := Lib.hid (TA.out.app (texts_nil (k := 7) (n := 0)))
    have T8 := Lib.hid (TA.out.app (texts_nil (k := 8) (n := 0)))
    obtain ⟨e7, he7⟩ : ∃ x, ea ++ [((7 : Int), (0 : Int), nilV)] = x := ⟨_, rfl⟩
    obtain ⟨e8, he8⟩ : ∃ x, ea ++ [((8 : Int), (0 : Int), nilV)] = x := ⟨_, rfl⟩
    rw [he7] at WP7 SMB hl7 T7
    rw [he8] at WP8 SMC hl8 T8
    have HL7 := Lib.hid hl7
    have HL8 := Lib.hid hl8
    clear hl7 hl8 OX PERM hsm hrs PM3 SM0 SM1 SM2 SM3 hA3 hB3 hC3 he7 he8
    obtain ⟨ok, hok⟩ : ∃ b, planB ts ps = b := ⟨_, rfl⟩
    rw [hok] at PI PS
    obtain ⟨n, hn⟩ : ∃ n, ps.length = n := ⟨_, rfl⟩
    have HN := Lib.hid hn
    rw [hn] at hpl hcp PI PS LC PRP PRE ⊢
    clear hn
    have HBD := Lib.hid (Below.refl wd.heap.size wd)
    have hnc : (n : Int) ≤ (cp : Int) := by omega
    have hb0 : ¬ ((eb.length : Int) = 0) := by omega
    cases ok
    case false =>
      go_wp2_with (first
              | (go_at_call 12; (with_reducible refine (PI.out _ (TBW.out.below HBD.out) (SPW.out.below HBD.out)).mono ?_); rintro e w1 ⟨rfl, hb⟩; have HBn := Lib.hid (Below.trans (show Below wd.heap.size wd _ from (by repeat (with_reducible first | exact HBD.out | apply Below.drew | refine Below.alloc ?_ (by have := HBD.out.size; first | omega | (simp; done) | (simp; omega)) _))) (hb.mono (by have := HBD.out.size; first | omega | (simp; done) | (simp; omega)))); clear HBD hb; have HBD := HBn; clear HBn)
              | (go_at_call 13; (with_reducible refine (PS.out _ (TBW.out.below HBD.out) (SPW.out.below HBD.out)).mono ?_); rintro e w1 ⟨rfl, hb⟩; have HBn := Lib.hid (Below.trans (show Below wd.heap.size wd _ from (by repeat (with_reducible first | exact HBD.out | apply Below.drew | refine Below.alloc ?_ (by have := HBD.out.size; first | omega | (simp; done) | (simp; omega)) _))) (hb.mono (by have := HBD.out.size; first | omega | (simp; done) | (simp; omega)))); clear HBD hb; have HBD := HBn; clear HBn)
              | (go_at_call 20; (with_reducible refine (PRP.out _ (TBW.out.below HBD.out) (SPW.out.below HBD.out)).mono ?_); rintro e w2 ⟨Ay, gy, cy, Ty, rfl, hc, hb⟩; have VY := Lib.hid hc.rws; clear hc; have HBn := Lib.hid (Below.trans (show Below wd.heap.size wd _ from (by repeat (with_reducible first | exact HBD.out | apply Below.drew | refine Below.alloc ?_ (by have := HBD.out.size; first | omega | (simp; done) | (simp; omega)) _))) (hb.mono (by have := HBD.out.size; first | omega | (simp; done) | (simp; omega)))); clear HBD hb; have HBD := HBn; clear HBn)
              | (go_at_call 28; (with_reducible refine (WP7.out _ (FA.out.below (show Below wd.heap.size wd _ from (by repeat (with_reducible first | exact HBD.out | apply Below.drew | refine Below.alloc ?_ (by have := HBD.out.size; first | omega | (simp; done) | (simp; omega)) _)))) (by have := HBD.out.size; first | omega | (simp; omega))).mono ?_); rintro e w3 ⟨g7, c7, rfl, hown7, hb⟩; have F7 := Lib.hid (fl_sliceP hown7); have hc7 := own_caps hown7; clear hown7; have VYn := Lib.hid (VY.out.below (Below.trans (show Below _ _ _ from (by repeat (with_reducible first | exact Below.refl _ _ | apply Below.drew | refine Below.alloc ?_ (by first | omega | (simp; done) | (simp; omega)) _))) (hb.mono (by first | omega | (simp; done) | (simp; omega))))); clear VY; have VY := VYn; clear VYn; have HBn := Lib.hid (Below.trans (show Below wd.heap.size wd _ from (by repeat (with_reducible first | exact HBD.out | apply Below.drew | refine Below.alloc ?_ (by have := HBD.out.size; first | omega | (simp; done) | (simp; omega)) _))) (hb.mono (by have := HBD.out.size; first | omega | (simp; done) | (simp; omega)))); clear HBD hb; have HBD := HBn; clear HBn)
              | (go_at_call 28; (with_reducible refine (WP8.out _ (FA.out.below (show Below wd.heap.size wd _ from (by repeat (with_reducible first | exact HBD.out | apply Below.drew | refine Below.alloc ?_ (by have := HBD.out.size; first | omega | (simp; done) | (simp; omega)) _)))) (by have := HBD.out.size; first | omega | (simp; omega))).mono ?_); rintro e w4 ⟨g8, c8, rfl, hown8, hb⟩; have F7n := Lib.hid (F7.out.below hb); clear F7; have F7 := F7n; clear F7n; have F8 := Lib.hid (fl_sliceP hown8); have hc8 := own_caps hown8; clear hown8; have VYn := Lib.hid (VY.out.below (Below.trans (show Below _ _ _ from (by repeat (with_reducible first | exact Below.refl _ _ | apply Below.drew | refine Below.alloc ?_ (by first | omega | (simp; done) | (simp; omega)) _))) (hb.mono (by first | omega | (simp; done) | (simp; omega))))); clear VY; have VY := VYn; clear VYn; have HBn := Lib.hid (Below.trans (show Below wd.heap.size wd _ from (by repeat (with_reducible first | exact HBD.out | apply Below.drew | refine Below.alloc ?_ (by have := HBD.out.size; first | omega | (simp; done) | (simp; omega)) _))) (hb.mono (by have := HBD.out.size; first | omega | (simp; done) | (simp; omega)))); clear HBD hb; have HBD := HBn; clear HBn))
      go_loopw [9, 43] (fun sx ix wr => ∃ (i gs cs : Nat), i ≤ 3 ∧ sx = .slice (some ⟨gs, 0, none⟩) (sm i).length cs ∧ ix = .int .i64 (i : Int) ∧ (sm i).length ≤ cs ∧ Hid (Rws wr gs 0 (some ⟨gs, 0, none⟩) (sm i)) ∧ Hid (Below wd.heap.size wd wr) ∧ Hid (Fl wr w4.heap.size 0 (some ⟨w4.heap.size, 0, none⟩) [.slice (some ⟨ga, 0, none⟩) ea.length ka, .slice (some ⟨g7, 0, none⟩) e7.length c7, .slice (some ⟨g8, 0, none⟩) e8.length c8]) ∧ Hid (Fl wr g7 0 (some ⟨g7, 0, none⟩) (flatP e7)) ∧ Hid (Fl wr g8 0 (some ⟨g8, 0, none⟩) (flatP e8)) ∧ Hid (Rws wr gy 0 Ay rs)) (fun _ ix _ => 3 - (intOf ix).toNat)
      case atStart => exact ⟨0, _, _, by omega, by rw [SMH.out]; rfl, rfl, by rw [SMH.out]; exact Nat.zero_le _, by rw [SMH.out]; exact ⟨fun h => absurd h (by simp), fun j hj => absurd hj (by simp)⟩, HBD.out.alloc HBD.out.size _, fl_lit rfl, F7.out.alloc _, F8.out.alloc _, VY.out.below ((Below.refl _ _).alloc (Nat.le_refl _) _)⟩
      case round =>
        clear HBD F7 F8 VY PI PS
        obtain ⟨i, gs, cs, hi3, rfl, rfl, hcs, SR, HBD, FLL, F7, F8, VY⟩ := hrel
        by_cases hilt : i < 3
        · have i0' : (0 : Int) ≤ (i : Int) := by omega
          have i1' : (i : Int) < 3 := by omega
          have FAn := Lib.hid (FA.out.below HBD.out)
          obtain ⟨E, ge, ce, hsum, hcell, hfe, hEl, hEt, hEc⟩ : ∃ (E : List PT) (ge ce : Nat), sm (i + 1) = sm i ++ prowsI ts (oneS ps E) ∧ wr.cell? ⟨w4.heap.size, i, none⟩ = some (.slice (some ⟨ge, 0, none⟩) E.length ce) ∧ Fl wr ge 0 (some ⟨ge, 0, none⟩) (flatP E) ∧ E.length ≤ 4 ∧ TextsP E ∧ E.length ≤ ce := by
            obtain rfl | rfl | rfl : i = 0 ∨ i = 1 ∨ i = 2 := by omega
            · exact ⟨ea, ga, ka, SMA.out, FLL.out.c 0 (by simp), FAn.out, by omega, TA.out, ca.1⟩
            · exact ⟨e7, g7, c7, SMB.out, FLL.out.c 1 (by simp), F7.out, by have := HL7.out; omega, T7.out, hc7.1⟩
            · exact ⟨e8, g8, c8, SMC.out, FLL.out.c 2 (by simp), F8.out, by have := HL8.out; omega, T8.out, hc8.1⟩
          have FE := Lib.hid hfe
          have ET := Lib.hid hEt
          have HSUM := Lib.hid hsum
          have hE12 : ¬ ((12 : Int) < (E.length : Int)) := by omega
          clear hfe hEt hsum FAn
          have hsl := SML.out i
          have NGS : Hid (Nice (some ⟨gs, 0, none⟩) cs gs 0) := Lib.hid (Or.inl rfl)
          obtain ⟨-, -, -⟩ := prows_small ts (oneS ps E)
          have hpl3 := (prows_small ts (oneS ps E)).1
          have PRX := Lib.hid (PRE.out E (by omega) ET.out)
          obtain ⟨rx, hrx⟩ : ∃ b, prowsI ts (oneS ps E) = b := ⟨_, rfl⟩
          rw [hrx] at HSUM hpl3 PRX
          clear hrx
          have HBD0 := Lib.hid HBD.out
          have HZ := HBD.out.size
          have CELn := Lib.hid (fun W (hb : Below wr.heap.size wr W) (k j : Nat) (u : Value) (hj : ((L.take k).flatMap fun p => p.2)[j]? = some u) => CEL.out W (HBD.out.trans (hb.mono HBD.out.size)) k j u hj)
          have LXn := Lib.hid (fun W (hb : Below wr.heap.size wr W) (k : Nat) p (hp : p ∈ L.take k) => LX.out W (HBD.out.trans (hb.mono HBD.out.size)) k p hp)
          have TBn := Lib.hid (TBW.out.below HBD.out)
          have SPn := Lib.hid (SPW.out.below HBD.out)
          have HBw := Lib.hid (HB.out.trans (HBD.out.mono HB.out.size))
          clear CEL LX TBW SPW HB HBD HZ
          have CEL := CELn
          have LX := LXn
          have TBW := TBn
          have SPW := SPn
          have HB := HBw
          clear CELn LXn TBn SPn HBw
          have HBD := Lib.hid (Below.refl wr.heap.size wr)
          go_wp2_with (first
              | (at_builtin; refine wpList_append_block _ rfl (.tmp 58) (.tmp 59) 24 rfl wr.heap.size 32 i0 (.agg #[.int .i64 0, .int .i64 0, .int .i64 0, .int .i64 0, .slice none 0 0, .slice none 0 0]) 6 80 Try.underlying24 hi iz0 iz1 iz2 rfl (by decide) wr.heap.size 0 0 [] rfl (own_empty3 32 6 rfl (Nat.le_refl _)) ⟨gp, 0, none⟩ n cp ((L.take n).flatMap fun p => p.2) rfl (LC.out n (Nat.le_refl _)) (CEL.out _ (HBD.out.alloc HBD.out.size _) n) (LO.out n) (by unfold maxLen; omega) (by omega) (by simp) ?_; intro g3 c3 w3 hown hgr hgg; (try simp only [Nat.zero_add, List.nil_append] at hown ⊢); have HB3 := Lib.hid (Below.grown (HBD.out.alloc HBD.out.size (.cells #[] 32)) hgr (by have := HBD.out.size; first | omega | (simp; done) | (simp; omega)) (fun k hk => by obtain rfl := Option.some.inj hk; exact HBD.out.size)); have OW3 := Lib.hid hown; have hlo3 := (hown.lt g3 rfl).1; clear hown hgr hgg)
              | (at_builtin; refine wpList_append_block _ rfl (.tmp 60) (.tmp 64) 24 rfl wr.heap.size 32 i0 (.agg #[.int .i64 0, .int .i64 0, .int .i64 0, .int .i64 0, .slice none 0 0, .slice none 0 0]) 6 80 Try.underlying24 hi iz0 iz1 iz2 rfl (by decide) g3 n c3 ((L.take n).flatMap fun p => p.2) rfl (OW3.out.alloc _) _ 1 1 [.int .i64 2, .int .i64 ((n : Int) - 1), .int .i64 0, .int .i64 0, .slice (some ⟨ge, 0, none⟩) E.length ce, .slice none 0 0] rfl rfl (news_new (by first | rfl | simp)) (by simp [Value.oneCell']) (by unfold maxLen; omega) (by omega) (by have := (OW3.out.lt g3 rfl).2; first | omega | (simp; omega)) ?_; intro gX cX w4x hown hgr hgg; have HB4 := Lib.hid (Below.grown (HB3.out.alloc HB3.out.size (.cells #[.int .i64 2, .int .i64 ((n : Int) - 1), .int .i64 0, .int .i64 0, .slice (some ⟨ge, 0, none⟩) E.length ce, .slice none 0 0] 32)) hgr (by have := HB3.out.size; simp; omega) (fun k hk => by obtain rfl := Option.some.inj hk; have := HBD.out.size; omega)); have SPX := Lib.hid (sps_own (L := L.take n ++ [((2, ((n : Int) - 1), 0, 0, E, []), [.int .i64 2, .int .i64 ((n : Int) - 1), .int .i64 0, .int .i64 0, .slice (some ⟨ge, 0, none⟩) E.length ce, .slice none 0 0])]) (ps := oneS ps E) (fun p hp => by
                  rcases List.mem_append.1 hp with hp | hp
                  · exact LX.out _ HB4.out n p hp
                  · simp only [List.mem_cons, List.not_mem_nil, or_false] at hp
                    rcases hp with rfl
                    · exact cellsX_expr _ _ _ _ (FE.out.below HB4.out) rfl hEc (.inl rfl)) (by rw [List.map_append, LM.out, ← HN.out, List.take_length]; simp only [oneS, whereS, List.map_cons, List.map_nil, List.append_assoc, List.cons_append, List.nil_append]; rw [show ((ps.length - 1 : Nat) : Int) = (ps.length : Int) - 1 by have := HN.out; omega]) (by rw [List.flatMap_append]; exact hown)); clear hown hgr hgg HBD OW3; have HBD := HB4; clear HB4 HB3)
              | (go_at_call 20; (with_reducible refine (PRX.out _ gX cX (TBW.out.below HBD.out) (SPX.out.below (Below.refl _ _))).mono ?_); rintro e w7 ⟨Ax, gx, cx, Tx, rfl, hc, hb⟩; have VX := Lib.hid hc; have hcx := hc.caps; clear hc; have HBn := Lib.hid (Below.trans (show Below wr.heap.size wr _ from (by repeat (with_reducible first | exact HBD.out | apply Below.drew | refine Below.alloc ?_ (by have := HBD.out.size; first | omega | (simp; done) | (simp; omega)) _))) (hb.mono (by have := HBD.out.size; first | omega | (simp; done) | (simp; omega)))); clear HBD hb; have HBD := HBn; clear HBn)
              | (go_at_call 29; (with_reducible refine (joinedL (some ⟨gs, 0, none⟩) Ax gs gx 0 0 cs cx (sm i) rx _ (SR.out.below HBD.out) VX.out.rws NGS.out VX.out.nice hcs hcx.1 (by omega) (by omega)).mono ?_); rintro e w8 ⟨g9, c9, rfl, hjr, hjl, hjc, hb⟩; have SR9 := Lib.hid hjr; clear hjr; have HBn := Lib.hid (Below.trans (show Below wr.heap.size wr _ from (by repeat (with_reducible first | exact HBD.out | apply Below.drew | refine Below.alloc ?_ (by have := HBD.out.size; first | omega | (simp; done) | (simp; omega)) _))) (hb.mono (by have := HBD.out.size; first | omega | (simp; done) | (simp; omega)))); clear HBD hb; have HBD := HBn; clear HBn))
          exact ⟨⟨i + 1, g9, c9, by omega, by rw [HSUM.out, List.length_append], by go_num, by rw [HSUM.out]; exact hjl, by rw [HSUM.out]; exact SR9, HBD0.out.trans (HBD.out.mono HBD0.out.size), FLL.out.below HBD.out, F7.out.below HBD.out, F8.out.below HBD.out, VY.out.below HBD.out⟩, by simp [intOf]; omega⟩
        · obtain rfl : i = 3 := by omega
          go_wp2_with (first
                | (go_at_call 30; (with_reducible refine (sameBagI (some ⟨gs, 0, none⟩) Ay gs 0 gy 0 cs cy (sm 3) rs _ (SR.out) (VY.out) OKS3.out OXH.out).mono ?_); rintro e w9 ⟨rfl, hb⟩; rw [BG3.out]; have HBn := Lib.hid (Below.trans (show Below wd.heap.size wd _ from (by repeat (with_reducible first | exact HBD.out | apply Below.drew | refine Below.alloc ?_ (by have := HBD.out.size; first | omega | (simp; done) | (simp; omega)) _))) (hb.mono (by have := HBD.out.size; first | omega | (simp; done) | (simp; omega)))); clear HBD hb; have HBD := HBn; clear HBn)
                | (go_at_call 14; (with_reducible refine (alive _).mono ?_); rintro e w10 ⟨rfl, hb⟩; have HBn := Lib.hid (Below.trans (show Below wd.heap.size wd _ from (by repeat (with_reducible first | exact HBD.out | apply Below.drew | refine Below.alloc ?_ (by have := HBD.out.size; first | omega | (simp; done) | (simp; omega)) _))) (hb.mono (by have := HBD.out.size; first | omega | (simp; done) | (simp; omega)))); clear HBD hb; have HBD := HBn; clear HBn))
          all_goals go_ret
          all_goals exact ⟨rfl, HB.out.trans (HBD.out.mono HB.out.size)⟩
    case true =>
      go_wp2_with (first
              | (go_at_call 12; (with_reducible refine (PI.out _ (TBW.out.below HBD.out) (SPW.out.below HBD.out)).mono ?_); rintro e w1 ⟨rfl, hb⟩; have HBn := Lib.hid (Below.trans (show Below wd.heap.size wd _ from (by repeat (with_reducible first | exact HBD.out | apply Below.drew | refine Below.alloc ?_ (by have := HBD.out.size; first | omega | (simp; done) | (simp; omega)) _))) (hb.mono (by have := HBD.out.size; first | omega | (simp; done) | (simp; omega)))); clear HBD hb; have HBD := HBn; clear HBn)
              | (go_at_call 13; (with_reducible refine (PS.out _ (TBW.out.below HBD.out) (SPW.out.below HBD.out)).mono ?_); rintro e w1 ⟨rfl, hb⟩; have HBn := Lib.hid (Below.trans (show Below wd.heap.size wd _ from (by repeat (with_reducible first | exact HBD.out | apply Below.drew | refine Below.alloc ?_ (by have := HBD.out.size; first | omega | (simp; done) | (simp; omega)) _))) (hb.mono (by have := HBD.out.size; first | omega | (simp; done) | (simp; omega)))); clear HBD hb; have HBD := HBn; clear HBn)
              | (go_at_call 20; (with_reducible refine (PRP.out _ (TBW.out.below HBD.out) (SPW.out.below HBD.out)).mono ?_); rintro e w2 ⟨Ay, gy, cy, Ty, rfl, hc, hb⟩; have VY := Lib.hid hc.rws; clear hc; have HBn := Lib.hid (Below.trans (show Below wd.heap.size wd _ from (by repeat (with_reducible first | exact HBD.out | apply Below.drew | refine Below.alloc ?_ (by have := HBD.out.size; first | omega | (simp; done) | (simp; omega)) _))) (hb.mono (by have := HBD.out.size; first | omega | (simp; done) | (simp; omega)))); clear HBD hb; have HBD := HBn; clear HBn)
              | (go_at_call 28; (with_reducible refine (WP7.out _ (FA.out.below (show Below wd.heap.size wd _ from (by repeat (with_reducible first | exact HBD.out | apply Below.drew | refine Below.alloc ?_ (by have := HBD.out.size; first | omega | (simp; done) | (simp; omega)) _)))) (by have := HBD.out.size; first | omega | (simp; omega))).mono ?_); rintro e w3 ⟨g7, c7, rfl, hown7, hb⟩; have F7 := Lib.hid (fl_sliceP hown7); have hc7 := own_caps hown7; clear hown7; have VYn := Lib.hid (VY.out.below (Below.trans (show Below _ _ _ from (by repeat (with_reducible first | exact Below.refl _ _ | apply Below.drew | refine Below.alloc ?_ (by first | omega | (simp; done) | (simp; omega)) _))) (hb.mono (by first | omega | (simp; done) | (simp; omega))))); clear VY; have VY := VYn; clear VYn; have HBn := Lib.hid (Below.trans (show Below wd.heap.size wd _ from (by repeat (with_reducible first | exact HBD.out | apply Below.drew | refine Below.alloc ?_ (by have := HBD.out.size; first | omega | (simp; done) | (simp; omega)) _))) (hb.mono (by have := HBD.out.size; first | omega | (simp; done) | (simp; omega)))); clear HBD hb; have HBD := HBn; clear HBn)
              | (go_at_call 28; (with_reducible refine (WP8.out _ (FA.out.below (show Below wd.heap.size wd _ from (by repeat (with_reducible first | exact HBD.out | apply Below.drew | refine Below.alloc ?_ (by have := HBD.out.size; first | omega | (simp; done) | (simp; omega)) _)))) (by have := HBD.out.size; first | omega | (simp; omega))).mono ?_); rintro e w4 ⟨g8, c8, rfl, hown8, hb⟩; have F7n := Lib.hid (F7.out.below hb); clear F7; have F7 := F7n; clear F7n; have F8 := Lib.hid (fl_sliceP hown8); have hc8 := own_caps hown8; clear hown8; have VYn := Lib.hid (VY.out.below (Below.trans (show Below _ _ _ from (by repeat (with_reducible first | exact Below.refl _ _ | apply Below.drew | refine Below.alloc ?_ (by first | omega | (simp; done) | (simp; omega)) _))) (hb.mono (by first | omega | (simp; done) | (simp; omega))))); clear VY; have VY := VYn; clear VYn; have HBn := Lib.hid (Below.trans (show Below wd.heap.size wd _ from (by repeat (with_reducible first | exact HBD.out | apply Below.drew | refine Below.alloc ?_ (by have := HBD.out.size; first | omega | (simp; done) | (simp; omega)) _))) (hb.mono (by have := HBD.out.size; first | omega | (simp; done) | (simp; omega)))); clear HBD hb; have HBD := HBn; clear HBn))
      go_loopw [9, 43] (fun sx ix wr => ∃ (i gs cs : Nat), i ≤ 3 ∧ sx = .slice (some ⟨gs, 0, none⟩) (sm i).length cs ∧ ix = .int .i64 (i : Int) ∧ (sm i).length ≤ cs ∧ Hid (Rws wr gs 0 (some ⟨gs, 0, none⟩) (sm i)) ∧ Hid (Below wd.heap.size wd wr) ∧ Hid (Fl wr w4.heap.size 0 (some ⟨w4.heap.size, 0, none⟩) [.slice (some ⟨ga, 0, none⟩) ea.length ka, .slice (some ⟨g7, 0, none⟩) e7.length c7, .slice (some ⟨g8, 0, none⟩) e8.length c8]) ∧ Hid (Fl wr g7 0 (some ⟨g7, 0, none⟩) (flatP e7)) ∧ Hid (Fl wr g8 0 (some ⟨g8, 0, none⟩) (flatP e8)) ∧ Hid (Rws wr gy 0 Ay rs)) (fun _ ix _ => 3 - (intOf ix).toNat)
      case atStart => exact ⟨0, _, _, by omega, by rw [SMH.out]; rfl, rfl, by rw [SMH.out]; exact Nat.zero_le _, by rw [SMH.out]; exact ⟨fun h => absurd h (by simp), fun j hj => absurd hj (by simp)⟩, HBD.out.alloc HBD.out.size _, fl_lit rfl, F7.out.alloc _, F8.out.alloc _, VY.out.below ((Below.refl _ _).alloc (Nat.le_refl _) _)⟩
      case round =>
        clear HBD F7 F8 VY PI PS
        obtain ⟨i, gs, cs, hi3, rfl, rfl, hcs, SR, HBD, FLL, F7, F8, VY⟩ := hrel
        by_cases hilt : i < 3
        · have i0' : (0 : Int) ≤ (i : Int) := by omega
          have i1' : (i : Int) < 3 := by omega
          have FAn := Lib.hid (FA.out.below HBD.out)
          obtain ⟨E, ge, ce, hsum, hcell, hfe, hEl, hEt, hEc⟩ : ∃ (E : List PT) (ge ce : Nat), sm (i + 1) = sm i ++ prowsI ts (oneS ps E) ∧ wr.cell? ⟨w4.heap.size, i, none⟩ = some (.slice (some ⟨ge, 0, none⟩) E.length ce) ∧ Fl wr ge 0 (some ⟨ge, 0, none⟩) (flatP E) ∧ E.length ≤ 4 ∧ TextsP E ∧ E.length ≤ ce := by
            obtain rfl | rfl | rfl : i = 0 ∨ i = 1 ∨ i = 2 := by omega
            · exact ⟨ea, ga, ka, SMA.out, FLL.out.c 0 (by simp), FAn.out, by omega, TA.out, ca.1⟩
            · exact ⟨e7, g7, c7, SMB.out, FLL.out.c 1 (by simp), F7.out, by have := HL7.out; omega, T7.out, hc7.1⟩
            · exact ⟨e8, g8, c8, SMC.out, FLL.out.c 2 (by simp), F8.out, by have := HL8.out; omega, T8.out, hc8.1⟩
          have FE := Lib.hid hfe
          have ET := Lib.hid hEt
          have HSUM := Lib.hid hsum
          have hE12 : ¬ ((12 : Int) < (E.length : Int)) := by omega
          clear hfe hEt hsum FAn
          have hsl := SML.out i
          have NGS : Hid (Nice (some ⟨gs, 0, none⟩) cs gs 0) := Lib.hid (Or.inl rfl)
          obtain ⟨-, -, -⟩ := prows_small ts (oneS ps E)
          have hpl3 := (prows_small ts (oneS ps E)).1
          have PRX := Lib.hid (PRE.out E (by omega) ET.out)
          obtain ⟨rx, hrx⟩ : ∃ b, prowsI ts (oneS ps E) = b := ⟨_, rfl⟩
          rw [hrx] at HSUM hpl3 PRX
          clear hrx
          have HBD0 := Lib.hid HBD.out
          have HZ := HBD.out.size
          have CELn := Lib.hid (fun W (hb : Below wr.heap.size wr W) (k j : Nat) (u : Value) (hj : ((L.take k).flatMap fun p => p.2)[j]? = some u) => CEL.out W (HBD.out.trans (hb.mono HBD.out.size)) k j u hj)
          have LXn := Lib.hid (fun W (hb : Below wr.heap.size wr W) (k : Nat) p (hp : p ∈ L.take k) => LX.out W (HBD.out.trans (hb.mono HBD.out.size)) k p hp)
          have TBn := Lib.hid (TBW.out.below HBD.out)
          have SPn := Lib.hid (SPW.out.below HBD.out)
          have HBw := Lib.hid (HB.out.trans (HBD.out.mono HB.out.size))
          clear CEL LX TBW SPW HB HBD HZ
          have CEL := CELn
          have LX := LXn
          have TBW := TBn
          have SPW := SPn
          have HB := HBw
          clear CELn LXn TBn SPn HBw
          have HBD := Lib.hid (Below.refl wr.heap.size wr)
          go_wp2_with (first
              | (at_builtin; refine wpList_append_block _ rfl (.tmp 58) (.tmp 59) 24 rfl wr.heap.size 32 i0 (.agg #[.int .i64 0, .int .i64 0, .int .i64 0, .int .i64 0, .slice none 0 0, .slice none 0 0]) 6 80 Try.underlying24 hi iz0 iz1 iz2 rfl (by decide) wr.heap.size 0 0 [] rfl (own_empty3 32 6 rfl (Nat.le_refl _)) ⟨gp, 0, none⟩ n cp ((L.take n).flatMap fun p => p.2) rfl (LC.out n (Nat.le_refl _)) (CEL.out _ (HBD.out.alloc HBD.out.size _) n) (LO.out n) (by unfold maxLen; omega) (by omega) (by simp) ?_; intro g3 c3 w3 hown hgr hgg; (try simp only [Nat.zero_add, List.nil_append] at hown ⊢); have HB3 := Lib.hid (Below.grown (HBD.out.alloc HBD.out.size (.cells #[] 32)) hgr (by have := HBD.out.size; first | omega | (simp; done) | (simp; omega)) (fun k hk => by obtain rfl := Option.some.inj hk; exact HBD.out.size)); have OW3 := Lib.hid hown; have hlo3 := (hown.lt g3 rfl).1; clear hown hgr hgg)
              | (at_builtin; refine wpList_append_block _ rfl (.tmp 60) (.tmp 64) 24 rfl wr.heap.size 32 i0 (.agg #[.int .i64 0, .int .i64 0, .int .i64 0, .int .i64 0, .slice none 0 0, .slice none 0 0]) 6 80 Try.underlying24 hi iz0 iz1 iz2 rfl (by decide) g3 n c3 ((L.take n).flatMap fun p => p.2) rfl (OW3.out.alloc _) _ 1 1 [.int .i64 2, .int .i64 ((n : Int) - 1), .int .i64 0, .int .i64 0, .slice (some ⟨ge, 0, none⟩) E.length ce, .slice none 0 0] rfl rfl (news_new (by first | rfl | simp)) (by simp [Value.oneCell']) (by unfold maxLen; omega) (by omega) (by have := (OW3.out.lt g3 rfl).2; first | omega | (simp; omega)) ?_; intro gX cX w4x hown hgr hgg; have HB4 := Lib.hid (Below.grown (HB3.out.alloc HB3.out.size (.cells #[.int .i64 2, .int .i64 ((n : Int) - 1), .int .i64 0, .int .i64 0, .slice (some ⟨ge, 0, none⟩) E.length ce, .slice none 0 0] 32)) hgr (by have := HB3.out.size; simp; omega) (fun k hk => by obtain rfl := Option.some.inj hk; have := HBD.out.size; omega)); have SPX := Lib.hid (sps_own (L := L.take n ++ [((2, ((n : Int) - 1), 0, 0, E, []), [.int .i64 2, .int .i64 ((n : Int) - 1), .int .i64 0, .int .i64 0, .slice (some ⟨ge, 0, none⟩) E.length ce, .slice none 0 0])]) (ps := oneS ps E) (fun p hp => by
                  rcases List.mem_append.1 hp with hp | hp
                  · exact LX.out _ HB4.out n p hp
                  · simp only [List.mem_cons, List.not_mem_nil, or_false] at hp
                    rcases hp with rfl
                    · exact cellsX_expr _ _ _ _ (FE.out.below HB4.out) rfl hEc (.inl rfl)) (by rw [List.map_append, LM.out, ← HN.out, List.take_length]; simp only [oneS, whereS, List.map_cons, List.map_nil, List.append_assoc, List.cons_append, List.nil_append]; rw [show ((ps.length - 1 : Nat) : Int) = (ps.length : Int) - 1 by have := HN.out; omega]) (by rw [List.flatMap_append]; exact hown)); clear hown hgr hgg HBD OW3; have HBD := HB4; clear HB4 HB3)
              | (go_at_call 20; (with_reducible refine (PRX.out _ gX cX (TBW.out.below HBD.out) (SPX.out.below (Below.refl _ _))).mono ?_); rintro e w7 ⟨Ax, gx, cx, Tx, rfl, hc, hb⟩; have VX := Lib.hid hc; have hcx := hc.caps; clear hc; have HBn := Lib.hid (Below.trans (show Below wr.heap.size wr _ from (by repeat (with_reducible first | exact HBD.out | apply Below.drew | refine Below.alloc ?_ (by have := HBD.out.size; first | omega | (simp; done) | (simp; omega)) _))) (hb.mono (by have := HBD.out.size; first | omega | (simp; done) | (simp; omega)))); clear HBD hb; have HBD := HBn; clear HBn)
              | (go_at_call 29; (with_reducible refine (joinedL (some ⟨gs, 0, none⟩) Ax gs gx 0 0 cs cx (sm i) rx _ (SR.out.below HBD.out) VX.out.rws NGS.out VX.out.nice hcs hcx.1 (by omega) (by omega)).mono ?_); rintro e w8 ⟨g9, c9, rfl, hjr, hjl, hjc, hb⟩; have SR9 := Lib.hid hjr; clear hjr; have HBn := Lib.hid (Below.trans (show Below wr.heap.size wr _ from (by repeat (with_reducible first | exact HBD.out | apply Below.drew | refine Below.alloc ?_ (by have := HBD.out.size; first | omega | (simp; done) | (simp; omega)) _))) (hb.mono (by have := HBD.out.size; first | omega | (simp; done) | (simp; omega)))); clear HBD hb; have HBD := HBn; clear HBn))
          exact ⟨⟨i + 1, g9, c9, by omega, by rw [HSUM.out, List.length_append], by go_num, by rw [HSUM.out]; exact hjl, by rw [HSUM.out]; exact SR9, HBD0.out.trans (HBD.out.mono HBD0.out.size), FLL.out.below HBD.out, F7.out.below HBD.out, F8.out.below HBD.out, VY.out.below HBD.out⟩, by simp [intOf]; omega⟩
        · obtain rfl : i = 3 := by omega
          go_wp2_with (first
                | (go_at_call 30; (with_reducible refine (sameBagI (some ⟨gs, 0, none⟩) Ay gs 0 gy 0 cs cy (sm 3) rs _ (SR.out) (VY.out) OKS3.out OXH.out).mono ?_); rintro e w9 ⟨rfl, hb⟩; rw [BG3.out]; have HBn := Lib.hid (Below.trans (show Below wd.heap.size wd _ from (by repeat (with_reducible first | exact HBD.out | apply Below.drew | refine Below.alloc ?_ (by have := HBD.out.size; first | omega | (simp; done) | (simp; omega)) _))) (hb.mono (by have := HBD.out.size; first | omega | (simp; done) | (simp; omega)))); clear HBD hb; have HBD := HBn; clear HBn)
                | (go_at_call 14; (with_reducible refine (alive _).mono ?_); rintro e w10 ⟨rfl, hb⟩; have HBn := Lib.hid (Below.trans (show Below wd.heap.size wd _ from (by repeat (with_reducible first | exact HBD.out | apply Below.drew | refine Below.alloc ?_ (by have := HBD.out.size; first | omega | (simp; done) | (simp; omega)) _))) (hb.mono (by have := HBD.out.size; first | omega | (simp; done) | (simp; omega)))); clear HBD hb; have HBD := HBn; clear HBn))
          all_goals go_ret
          all_goals exact ⟨rfl, HB.out.trans (HBD.out.mono HB.out.size)⟩
end Go.Proofs.Ytacinjbaebimhaa.Val
