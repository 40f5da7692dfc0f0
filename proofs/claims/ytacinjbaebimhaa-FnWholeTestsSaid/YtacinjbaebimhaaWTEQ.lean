/- The walk of the law FnWholeTests. -/
import Derived.Test.YtacinjbaebimhaaStpNQ
import Derived.Test.YtacinjbaebimhaaDrawShQ
import Derived.Test.YtacinjbaebimhaaLSmQ
import Derived.Test.YtacinjbaebimhaaPMath3Q
import Derived.Test.YtacinjbaebimhaaAliveQ
namespace Go.Proofs.Ytacinjbaebimhaa.Val
open Go.RowKit
set_option linter.unusedSimpArgs false
set_option linter.unusedVariables false
set_option maxRecDepth 20000
theorem twoS_len (p : List SP) (a b : List PT) : (twoS p a b).length = p.length + 2 := by simp [twoS]
theorem oneS_len (p : List SP) (a : List PT) : (oneS p a).length = p.length + 1 := by simp [oneS]
theorem fits_one {ps : List SP} {a : List PT} (h : ∀ s ∈ ps, StepFit s) (la : a.length ≤ 7) (ta : TextsP a) : ∀ t ∈ oneS ps a, StepFit t := fits_app h ⟨la, ta, Nat.zero_le _⟩
theorem fits_two {ps : List SP} {a b : List PT} (h : ∀ s ∈ ps, StepFit s) (la : a.length ≤ 7) (lb : b.length ≤ 7) (ta : TextsP a) (tb : TextsP b) : ∀ t ∈ twoS ps a b, StepFit t := fits_app (fits_app h ⟨la, ta, Nat.zero_le _⟩) ⟨lb, tb, Nat.zero_le _⟩
set_option maxHeartbeats 8000000 in
theorem walk_FnWholeTests (a : Option Addr) (len cap : Nat) (zs : List Int) (w : World) (h : IsRow .u8 w a len cap zs) :
    Calls Try.prog 6 #[.slice a len cap] w fun e w' => e = .returned (.bool true) ∧ Below w.heap.size w w' := by
  by_cases hl : 1048576 < len
  · clear h
    go_enter Try.func6, Try.ntmps6
    go_wp2
    go_ret
    exact ⟨rfl, Below.refl _ _⟩
  · have HI := Lib.hid h
    clear h
    obtain ⟨i0, hi, iz0, iz1, iz2⟩ := info_parts infoST
    go_enter Try.func6, Try.ntmps6
    go_wp2_with (go_at_call 27; (with_reducible refine (drawTested _ _ _ zs _ HI.out).mono ?_); rintro e wd ⟨gt, ct, gp, cp, ga, ka, gb, kb, ts, ps, ea, eb, rfl, htb, hts, htf, hct, hsp, hpl, hsf, hcp, ⟨fa, la, ta, ra, ca⟩, ⟨fb, lb, tb2, rb, cb⟩, hbd⟩; have TBW := Lib.hid htb; have OKT := Lib.hid (htf.ok hts.2); have SPW := Lib.hid hsp; have SF := Lib.hid hsf; have HB := Lib.hid hbd; have FA := Lib.hid fa; have FB := Lib.hid fb; have TA := Lib.hid ta; have TX := Lib.hid tb2; have RA := Lib.hid ra; have TFT := Lib.hid htf; clear htb hsp hsf hbd htf fa fb ta tb2 ra rb)
    have OKS := Lib.hid (okS_fit (by omega) SF.out)
    obtain ⟨L, hL1, hL2, hL3⟩ := SPW.out.cells
    have LL : L.length = ps.length := by rw [← hL1, List.length_map]
    have CEL := Lib.hid (fun W (hb : Below wd.heap.size wd W) (k j : Nat) (u : Value) (hj : ((L.take k).flatMap fun p => p.2)[j]? = some u) => (by
      have h1 : (L.flatMap fun p => p.2)[j]? = some u := by
        conv => lhs; rw [← List.take_append_drop k L, List.flatMap_append]
        rw [List.getElem?_append_left (List.getElem?_eq_some_iff.1 hj).1]
        exact hj
      rw [addNone, Nat.zero_add]
      have h2 := hL3 j u h1
      rw [Nat.zero_add] at h2
      exact (hb.cell (p := ⟨gp, j, none⟩) (World.block_lt_of_cell? wd ⟨gp, j, none⟩ h2)).trans h2 : W.cell? ((⟨gp, 0, none⟩ : Addr).add j) = some u))
    have LX := Lib.hid (fun W (hb : Below wd.heap.size wd W) (k : Nat) p (hp : p ∈ L.take k) => (hL2 p (List.mem_of_mem_take hp)).below hb)
    have LM := Lib.hid (fun (k : Nat) => (by rw [List.map_take, hL1] : (L.take k).map (fun p => p.1) = ps.take k))
    have LC := Lib.hid (fun (k : Nat) (hk : k ≤ ps.length) => (by rw [stepsX_len (W := wd) (L := L.take k) (fun p hp => hL2 p (List.mem_of_mem_take hp)), List.length_take, LL, Nat.min_eq_left hk] : ((L.take k).flatMap fun p => p.2).length = k * 6))
    have LO := Lib.hid (fun (k : Nat) => stepsX_one (W := wd) (L := L.take k) (fun p hp => hL2 p (List.mem_of_mem_take hp)))
    clear hL1 hL2 hL3 LL
    have PI := Lib.hid (fun W h1 h2 => planOkI (some ⟨gt, 0, none⟩) (some ⟨gp, 0, none⟩) gt 0 ct gp 0 cp ts ps W h1 OKT.out h2 OKS.out)
    have PS := Lib.hid (fun W h1 h2 => planOkS (some ⟨gt, 0, none⟩) (some ⟨gp, 0, none⟩) gt 0 ct gp 0 cp ts ps W h1 OKT.out h2 OKS.out)
    have OKX : Hid (OkS (twoS ps ea eb)) := Lib.hid (okS_fit (by rw [twoS_len]; omega) (fits_two SF.out (by omega) (by omega) TA.out TX.out))
    have POX := Lib.hid (fun W X cX h1 h2 => (by have h3 := planOkI (some ⟨gt, 0, none⟩) (some ⟨X, 0, none⟩) gt 0 ct X 0 cX ts (twoS ps ea eb) W h1 OKT.out h2 OKX.out; rw [twoS_len] at h3; exact h3 : Calls _ _ _ _ _))
    have PRX := Lib.hid (fun W X cX h1 h2 => (by have h3 := (planRowsI (some ⟨gt, 0, none⟩) (some ⟨X, 0, none⟩) gt 0 ct X 0 cX ts (twoS ps ea eb) W h1 OKT.out h2 OKX.out).mono fun e w' h => retBagN h; rw [twoS_len] at h3; exact h3 : Calls _ _ _ _ _))
    have OKY : Hid (OkS (twoS ps eb ea)) := Lib.hid (okS_fit (by rw [twoS_len]; omega) (fits_two SF.out (by omega) (by omega) TX.out TA.out))
    have POY := Lib.hid (fun W X cX h1 h2 => (by have h3 := planOkI (some ⟨gt, 0, none⟩) (some ⟨X, 0, none⟩) gt 0 ct X 0 cX ts (twoS ps eb ea) W h1 OKT.out h2 OKY.out; rw [twoS_len] at h3; exact h3 : Calls _ _ _ _ _))
    have PRY := Lib.hid (fun W X cX h1 h2 => (by have h3 := (planRowsI (some ⟨gt, 0, none⟩) (some ⟨X, 0, none⟩) gt 0 ct X 0 cX ts (twoS ps eb ea) W h1 OKT.out h2 OKY.out).mono fun e w' h => retBagN h; rw [twoS_len] at h3; exact h3 : Calls _ _ _ _ _))
    have hto := planB_two (tb := ts) hpl.1 ea eb
    have htr := tests_same (tb := ts) hpl.1 ea eb
    obtain ⟨-, -, OX⟩ := prows_small ts (twoS ps ea eb)
    obtain ⟨ob, hob⟩ : ∃ b, planB ts (twoS ps ea eb) = b := ⟨_, rfl⟩
    obtain ⟨rs, hrs⟩ : ∃ b, prowsI ts (twoS ps ea eb) = b := ⟨_, rfl⟩
    rw [hob] at hto
    rw [hrs] at htr OX
    rw [hob] at POX
    rw [← hto] at POY
    rw [hrs] at PRX
    rw [← htr] at PRY
    have OXH := Lib.hid OX
    clear OX hto htr hob hrs
    obtain ⟨ok, hok⟩ : ∃ b, planB ts ps = b := ⟨_, rfl⟩
    rw [hok] at PI PS
    obtain ⟨n, hn⟩ : ∃ n, ps.length = n := ⟨_, rfl⟩
    have HN := Lib.hid hn
    rw [hn] at hpl hcp PI PS LC POX POY PRX PRY ⊢
    clear hn
    have HBD := Lib.hid (Below.refl wd.heap.size wd)
    have hnc : (n : Int) ≤ (cp : Int) := by omega
    cases ok
    case false =>
      go_upto_region 7 with (first
              | (go_at_call 12; (with_reducible refine (PI.out _ (TBW.out.below HBD.out) (SPW.out.below HBD.out)).mono ?_); rintro e w1 ⟨rfl, hb⟩; have HBn := Lib.hid (Below.trans (show Below wd.heap.size wd _ from (by repeat (with_reducible first | exact HBD.out | apply Below.drew | refine Below.alloc ?_ (by have := HBD.out.size; first | omega | (simp; done) | (simp; omega)) _))) (hb.mono (by have := HBD.out.size; first | omega | (simp; done) | (simp; omega)))); clear HBD hb; have HBD := HBn; clear HBn)
              | (go_at_call 13; (with_reducible refine (PS.out _ (TBW.out.below HBD.out) (SPW.out.below HBD.out)).mono ?_); rintro e w1 ⟨rfl, hb⟩; have HBn := Lib.hid (Below.trans (show Below wd.heap.size wd _ from (by repeat (with_reducible first | exact HBD.out | apply Below.drew | refine Below.alloc ?_ (by have := HBD.out.size; first | omega | (simp; done) | (simp; omega)) _))) (hb.mono (by have := HBD.out.size; first | omega | (simp; done) | (simp; omega)))); clear HBD hb; have HBD := HBn; clear HBn))
      go_upto_region 8 with (first
              | (at_builtin; refine wpList_append_block _ rfl (.tmp 30) (.tmp 31) 24 rfl w1.heap.size 32 i0 (.agg #[.int .i64 0, .int .i64 0, .int .i64 0, .int .i64 0, .slice none 0 0, .slice none 0 0]) 6 80 Try.underlying24 hi iz0 iz1 iz2 rfl (by decide) w1.heap.size 0 0 [] rfl (own_empty3 32 6 rfl (Nat.le_refl _)) ⟨gp, 0, none⟩ n cp ((L.take n).flatMap fun p => p.2) rfl (LC.out n (Nat.le_refl _)) (CEL.out _ (HBD.out.alloc HBD.out.size _) n) (LO.out n) (by unfold maxLen; omega) (by omega) (by simp) ?_; intro g3 c3 w3 hown hgr hgg; (try simp only [Nat.zero_add, List.nil_append] at hown ⊢); have HB3 := Lib.hid (Below.grown (HBD.out.alloc HBD.out.size (.cells #[] 32)) hgr (by have := HBD.out.size; first | omega | (simp; done) | (simp; omega)) (fun k hk => by obtain rfl := Option.some.inj hk; exact HBD.out.size)); have OW3 := Lib.hid hown; have hlo3 := (hown.lt g3 rfl).1; clear hown hgr hgg)
              | (at_builtin; refine wpList_append_block _ rfl (.tmp 32) (.tmp 40) 24 rfl w1.heap.size 32 i0 (.agg #[.int .i64 0, .int .i64 0, .int .i64 0, .int .i64 0, .slice none 0 0, .slice none 0 0]) 6 80 Try.underlying24 hi iz0 iz1 iz2 rfl (by decide) g3 n c3 ((L.take n).flatMap fun p => p.2) rfl (OW3.out.alloc _) _ 2 2 [.int .i64 2, .int .i64 ((n : Int) - 1), .int .i64 0, .int .i64 0, .slice (some ⟨ga, 0, none⟩) ea.length ka, .slice none 0 0, .int .i64 2, .int .i64 (n : Int), .int .i64 0, .int .i64 0, .slice (some ⟨gb, 0, none⟩) eb.length kb, .slice none 0 0] rfl rfl (news_new (by first | rfl | simp)) (by simp [Value.oneCell']) (by unfold maxLen; omega) (by omega) (by have := (OW3.out.lt g3 rfl).2; simp; omega) ?_; intro gX cX w4 hown hgr hgg; have HB4 := Lib.hid (Below.grown (HB3.out.alloc HB3.out.size (.cells #[.int .i64 2, .int .i64 ((n : Int) - 1), .int .i64 0, .int .i64 0, .slice (some ⟨ga, 0, none⟩) ea.length ka, .slice none 0 0, .int .i64 2, .int .i64 (n : Int), .int .i64 0, .int .i64 0, .slice (some ⟨gb, 0, none⟩) eb.length kb, .slice none 0 0] 32)) hgr (by have := HB3.out.size; simp; omega) (fun k hk => by obtain rfl := Option.some.inj hk; have := HBD.out.size; omega)); have SPX := Lib.hid (sps_own (L := L.take n ++ [((2, ((n : Int) - 1), 0, 0, ea, []), [.int .i64 2, .int .i64 ((n : Int) - 1), .int .i64 0, .int .i64 0, .slice (some ⟨ga, 0, none⟩) ea.length ka, .slice none 0 0]), ((2, (n : Int), 0, 0, eb, []), [.int .i64 2, .int .i64 (n : Int), .int .i64 0, .int .i64 0, .slice (some ⟨gb, 0, none⟩) eb.length kb, .slice none 0 0])]) (ps := twoS ps ea eb) (fun p hp => by
                  rcases List.mem_append.1 hp with hp | hp
                  · exact LX.out _ HB4.out n p hp
                  · simp only [List.mem_cons, List.not_mem_nil, or_false] at hp
                    rcases hp with rfl | rfl
                    · exact cellsX_expr _ _ _ _ (FA.out.below HB4.out) rfl ca.1 (.inl rfl)
                    · exact cellsX_expr _ _ _ _ (FB.out.below HB4.out) rfl cb.1 (.inl rfl)) (by rw [List.map_append, LM.out, ← HN.out, List.take_length]; simp only [twoS, whereS, List.map_cons, List.map_nil, List.append_assoc, List.cons_append, List.nil_append]; rw [show ((ps.length - 1 : Nat) : Int) = (ps.length : Int) - 1 by have := HN.out; omega]) (by rw [List.flatMap_append]; exact hown)); clear hown hgr hgg HBD OW3; have HBD := HB4; clear HB4 HB3))
      have HZ := HBD.out.size
      have CELn := Lib.hid (fun W (hb : Below w4.heap.size w4 W) (k j : Nat) (u : Value) (hj : ((L.take k).flatMap fun p => p.2)[j]? = some u) => CEL.out W (HBD.out.trans (hb.mono HBD.out.size)) k j u hj)
      have LXn := Lib.hid (fun W (hb : Below w4.heap.size w4 W) (k : Nat) p (hp : p ∈ L.take k) => LX.out W (HBD.out.trans (hb.mono HBD.out.size)) k p hp)
      have TBn := Lib.hid (TBW.out.below HBD.out)
      have SPn := Lib.hid (SPW.out.below HBD.out)
      have FAn := Lib.hid (FA.out.below HBD.out)
      have FBn := Lib.hid (FB.out.below HBD.out)
      have HBw := Lib.hid (HB.out.trans (HBD.out.mono HB.out.size))
      clear CEL LX TBW SPW FA FB HB HBD HZ
      have CEL := CELn
      have LX := LXn
      have TBW := TBn
      have SPW := SPn
      have FA := FAn
      have FB := FBn
      have HB := HBw
      clear CELn LXn TBn SPn FAn FBn HBw
      have HBD := Lib.hid (Below.refl w4.heap.size w4)
      clear PI PS
      obtain ⟨wd, rfl⟩ : ∃ x, x = w4 := ⟨_, rfl⟩
      go_upto_region 9 with (first
              | (at_builtin; refine wpList_append_block _ rfl (.tmp 42) (.tmp 43) 24 rfl wd.heap.size 32 i0 (.agg #[.int .i64 0, .int .i64 0, .int .i64 0, .int .i64 0, .slice none 0 0, .slice none 0 0]) 6 80 Try.underlying24 hi iz0 iz1 iz2 rfl (by decide) wd.heap.size 0 0 [] rfl (own_empty3 32 6 rfl (Nat.le_refl _)) ⟨gp, 0, none⟩ n cp ((L.take n).flatMap fun p => p.2) rfl (LC.out n (Nat.le_refl _)) (CEL.out _ (HBD.out.alloc HBD.out.size _) n) (LO.out n) (by unfold maxLen; omega) (by omega) (by simp) ?_; intro g3 c3 w3 hown hgr hgg; (try simp only [Nat.zero_add, List.nil_append] at hown ⊢); have HB3 := Lib.hid (Below.grown (HBD.out.alloc HBD.out.size (.cells #[] 32)) hgr (by have := HBD.out.size; first | omega | (simp; done) | (simp; omega)) (fun k hk => by obtain rfl := Option.some.inj hk; exact HBD.out.size)); have OW3 := Lib.hid hown; have hlo3 := (hown.lt g3 rfl).1; clear hown hgr hgg)
              | (at_builtin; refine wpList_append_block _ rfl (.tmp 44) (.tmp 52) 24 rfl wd.heap.size 32 i0 (.agg #[.int .i64 0, .int .i64 0, .int .i64 0, .int .i64 0, .slice none 0 0, .slice none 0 0]) 6 80 Try.underlying24 hi iz0 iz1 iz2 rfl (by decide) g3 n c3 ((L.take n).flatMap fun p => p.2) rfl (OW3.out.alloc _) _ 2 2 [.int .i64 2, .int .i64 ((n : Int) - 1), .int .i64 0, .int .i64 0, .slice (some ⟨gb, 0, none⟩) eb.length kb, .slice none 0 0, .int .i64 2, .int .i64 (n : Int), .int .i64 0, .int .i64 0, .slice (some ⟨ga, 0, none⟩) ea.length ka, .slice none 0 0] rfl rfl (news_new (by first | rfl | simp)) (by simp [Value.oneCell']) (by unfold maxLen; omega) (by omega) (by have := (OW3.out.lt g3 rfl).2; simp; omega) ?_; intro gY cY w5 hown hgr hgg; have HB4 := Lib.hid (Below.grown (HB3.out.alloc HB3.out.size (.cells #[.int .i64 2, .int .i64 ((n : Int) - 1), .int .i64 0, .int .i64 0, .slice (some ⟨gb, 0, none⟩) eb.length kb, .slice none 0 0, .int .i64 2, .int .i64 (n : Int), .int .i64 0, .int .i64 0, .slice (some ⟨ga, 0, none⟩) ea.length ka, .slice none 0 0] 32)) hgr (by have := HB3.out.size; simp; omega) (fun k hk => by obtain rfl := Option.some.inj hk; have := HBD.out.size; omega)); have SPY := Lib.hid (sps_own (L := L.take n ++ [((2, ((n : Int) - 1), 0, 0, eb, []), [.int .i64 2, .int .i64 ((n : Int) - 1), .int .i64 0, .int .i64 0, .slice (some ⟨gb, 0, none⟩) eb.length kb, .slice none 0 0]), ((2, (n : Int), 0, 0, ea, []), [.int .i64 2, .int .i64 (n : Int), .int .i64 0, .int .i64 0, .slice (some ⟨ga, 0, none⟩) ea.length ka, .slice none 0 0])]) (ps := twoS ps eb ea) (fun p hp => by
                  rcases List.mem_append.1 hp with hp | hp
                  · exact LX.out _ HB4.out n p hp
                  · simp only [List.mem_cons, List.not_mem_nil, or_false] at hp
                    rcases hp with rfl | rfl
                    · exact cellsX_expr _ _ _ _ (FB.out.below HB4.out) rfl cb.1 (.inl rfl)
                    · exact cellsX_expr _ _ _ _ (FA.out.below HB4.out) rfl ca.1 (.inl rfl)) (by rw [List.map_append, LM.out, ← HN.out, List.take_length]; simp only [twoS, whereS, List.map_cons, List.map_nil, List.append_assoc, List.cons_append, List.nil_append]; rw [show ((ps.length - 1 : Nat) : Int) = (ps.length : Int) - 1 by have := HN.out; omega]) (by rw [List.flatMap_append]; exact hown)); clear hown hgr hgg HBD OW3; have HBD := HB4; clear HB4 HB3))
      have SPX1 := Lib.hid (SPX.out.below HBD.out)
      clear SPX CEL LX LM LC LO FA FB SPW
      have SPX := SPX1
      clear SPX1
      have TBn := Lib.hid (TBW.out.below HBD.out)
      have HBw := Lib.hid (HB.out.trans (HBD.out.mono HB.out.size))
      clear TBW HB HBD
      have TBW := TBn
      have HB := HBw
      clear TBn HBw
      obtain ⟨wd, rfl⟩ : ∃ x, x = w5 := ⟨_, rfl⟩
      have HBD := Lib.hid (Below.refl wd.heap.size wd)
      cases ob
      all_goals go_wp2_with (first
              | (go_at_call 12; (with_reducible refine (POX.out _ gX cX (TBW.out.below HBD.out) (SPX.out.below HBD.out)).mono ?_); rintro e w6 ⟨rfl, hb⟩; have HBn := Lib.hid (Below.trans (show Below wd.heap.size wd _ from (by repeat (with_reducible first | exact HBD.out | apply Below.drew | refine Below.alloc ?_ (by have := HBD.out.size; first | omega | (simp; done) | (simp; omega)) _))) (hb.mono (by have := HBD.out.size; first | omega | (simp; done) | (simp; omega)))); clear HBD hb; have HBD := HBn; clear HBn)
              | (go_at_call 12; (with_reducible refine (POY.out _ gY cY (TBW.out.below HBD.out) (SPY.out.below HBD.out)).mono ?_); rintro e w6 ⟨rfl, hb⟩; have HBn := Lib.hid (Below.trans (show Below wd.heap.size wd _ from (by repeat (with_reducible first | exact HBD.out | apply Below.drew | refine Below.alloc ?_ (by have := HBD.out.size; first | omega | (simp; done) | (simp; omega)) _))) (hb.mono (by have := HBD.out.size; first | omega | (simp; done) | (simp; omega)))); clear HBD hb; have HBD := HBn; clear HBn)
              | (go_at_call 20; (with_reducible refine (PRX.out _ gX cX (TBW.out.below HBD.out) (SPX.out.below HBD.out)).mono ?_); rintro e w7 ⟨Ax, gx, cx, Tx, rfl, hc, hb⟩; have VX := Lib.hid hc.rws; clear hc; have HBn := Lib.hid (Below.trans (show Below wd.heap.size wd _ from (by repeat (with_reducible first | exact HBD.out | apply Below.drew | refine Below.alloc ?_ (by have := HBD.out.size; first | omega | (simp; done) | (simp; omega)) _))) (hb.mono (by have := HBD.out.size; first | omega | (simp; done) | (simp; omega)))); clear HBD hb; have HBD := HBn; clear HBn)
              | (go_at_call 20; (with_reducible refine (PRY.out _ gY cY (TBW.out.below HBD.out) (SPY.out.below HBD.out)).mono ?_); rintro e w8 ⟨Ay, gy, cy, Ty, rfl, hc, hb⟩; have VXn := Lib.hid (VX.out.below hb); clear VX; have VX := VXn; clear VXn; have VY := Lib.hid hc.rws; clear hc; have HBn := Lib.hid (Below.trans (show Below wd.heap.size wd _ from (by repeat (with_reducible first | exact HBD.out | apply Below.drew | refine Below.alloc ?_ (by have := HBD.out.size; first | omega | (simp; done) | (simp; omega)) _))) (hb.mono (by have := HBD.out.size; first | omega | (simp; done) | (simp; omega)))); clear HBD hb; have HBD := HBn; clear HBn)
              | (go_at_call 26; (with_reducible refine (sameRowsL Ax Ay gx gy 0 0 cx cy rs rs _ VX.out VY.out OXH.out OXH.out).mono ?_); rintro e w9 ⟨rfl, hb⟩; rw [decide_eq_true (rfl : rs = rs)]; have HBn := Lib.hid (Below.trans (show Below wd.heap.size wd _ from (by repeat (with_reducible first | exact HBD.out | apply Below.drew | refine Below.alloc ?_ (by have := HBD.out.size; first | omega | (simp; done) | (simp; omega)) _))) (hb.mono (by have := HBD.out.size; first | omega | (simp; done) | (simp; omega)))); clear HBD hb; have HBD := HBn; clear HBn)
              | (go_at_call 14; (with_reducible refine (alive _).mono ?_); rintro e w10 ⟨rfl, hb⟩; have HBn := Lib.hid (Below.trans (show Below wd.heap.size wd _ from (by repeat (with_reducible first | exact HBD.out | apply Below.drew | refine Below.alloc ?_ (by have := HBD.out.size; first | omega | (simp; done) | (simp; omega)) _))) (hb.mono (by have := HBD.out.size; first | omega | (simp; done) | (simp; omega)))); clear HBD hb; have HBD := HBn; clear HBn))
      all_goals go_ret
      all_goals exact ⟨rfl, HB.out.trans (HBD.out.mono HB.out.size)⟩
    case true =>
      go_upto_region 7 with (first
              | (go_at_call 12; (with_reducible refine (PI.out _ (TBW.out.below HBD.out) (SPW.out.below HBD.out)).mono ?_); rintro e w1 ⟨rfl, hb⟩; have HBn := Lib.hid (Below.trans (show Below wd.heap.size wd _ from (by repeat (with_reducible first | exact HBD.out | apply Below.drew | refine Below.alloc ?_ (by have := HBD.out.size; first | omega | (simp; done) | (simp; omega)) _))) (hb.mono (by have := HBD.out.size; first | omega | (simp; done) | (simp; omega)))); clear HBD hb; have HBD := HBn; clear HBn)
              | (go_at_call 13; (with_reducible refine (PS.out _ (TBW.out.below HBD.out) (SPW.out.below HBD.out)).mono ?_); rintro e w1 ⟨rfl, hb⟩; have HBn := Lib.hid (Below.trans (show Below wd.heap.size wd _ from (by repeat (with_reducible first | exact HBD.out | apply Below.drew | refine Below.alloc ?_ (by have := HBD.out.size; first | omega | (simp; done) | (simp; omega)) _))) (hb.mono (by have := HBD.out.size; first | omega | (simp; done) | (simp; omega)))); clear HBD hb; have HBD := HBn; clear HBn))
      go_upto_region 8 with (first
              | (at_builtin; refine wpList_append_block _ rfl (.tmp 30) (.tmp 31) 24 rfl w1.heap.size 32 i0 (.agg #[.int .i64 0, .int .i64 0, .int .i64 0, .int .i64 0, .slice none 0 0, .slice none 0 0]) 6 80 Try.underlying24 hi iz0 iz1 iz2 rfl (by decide) w1.heap.size 0 0 [] rfl (own_empty3 32 6 rfl (Nat.le_refl _)) ⟨gp, 0, none⟩ n cp ((L.take n).flatMap fun p => p.2) rfl (LC.out n (Nat.le_refl _)) (CEL.out _ (HBD.out.alloc HBD.out.size _) n) (LO.out n) (by unfold maxLen; omega) (by omega) (by simp) ?_; intro g3 c3 w3 hown hgr hgg; (try simp only [Nat.zero_add, List.nil_append] at hown ⊢); have HB3 := Lib.hid (Below.grown (HBD.out.alloc HBD.out.size (.cells #[] 32)) hgr (by have := HBD.out.size; first | omega | (simp; done) | (simp; omega)) (fun k hk => by obtain rfl := Option.some.inj hk; exact HBD.out.size)); have OW3 := Lib.hid hown; have hlo3 := (hown.lt g3 rfl).1; clear hown hgr hgg)
              | (at_builtin; refine wpList_append_block _ rfl (.tmp 32) (.tmp 40) 24 rfl w1.heap.size 32 i0 (.agg #[.int .i64 0, .int .i64 0, .int .i64 0, .int .i64 0, .slice none 0 0, .slice none 0 0]) 6 80 Try.underlying24 hi iz0 iz1 iz2 rfl (by decide) g3 n c3 ((L.take n).flatMap fun p => p.2) rfl (OW3.out.alloc _) _ 2 2 [.int .i64 2, .int .i64 ((n : Int) - 1), .int .i64 0, .int .i64 0, .slice (some ⟨ga, 0, none⟩) ea.length ka, .slice none 0 0, .int .i64 2, .int .i64 (n : Int), .int .i64 0, .int .i64 0, .slice (some ⟨gb, 0, none⟩) eb.length kb, .slice none 0 0] rfl rfl (news_new (by first | rfl | simp)) (by simp [Value.oneCell']) (by unfold maxLen; omega) (by omega) (by have := (OW3.out.lt g3 rfl).2; simp; omega) ?_; intro gX cX w4 hown hgr hgg; have HB4 := Lib.hid (Below.grown (HB3.out.alloc HB3.out.size (.cells #[.int .i64 2, .int .i64 ((n : Int) - 1), .int .i64 0, .int .i64 0, .slice (some ⟨ga, 0, none⟩) ea.length ka, .slice none 0 0, .int .i64 2, .int .i64 (n : Int), .int .i64 0, .int .i64 0, .slice (some ⟨gb, 0, none⟩) eb.length kb, .slice none 0 0] 32)) hgr (by have := HB3.out.size; simp; omega) (fun k hk => by obtain rfl := Option.some.inj hk; have := HBD.out.size; omega)); have SPX := Lib.hid (sps_own (L := L.take n ++ [((2, ((n : Int) - 1), 0, 0, ea, []), [.int .i64 2, .int .i64 ((n : Int) - 1), .int .i64 0, .int .i64 0, .slice (some ⟨ga, 0, none⟩) ea.length ka, .slice none 0 0]), ((2, (n : Int), 0, 0, eb, []), [.int .i64 2, .int .i64 (n : Int), .int .i64 0, .int .i64 0, .slice (some ⟨gb, 0, none⟩) eb.length kb, .slice none 0 0])]) (ps := twoS ps ea eb) (fun p hp => by
                  rcases List.mem_append.1 hp with hp | hp
                  · exact LX.out _ HB4.out n p hp
                  · simp only [List.mem_cons, List.not_mem_nil, or_false] at hp
                    rcases hp with rfl | rfl
                    · exact cellsX_expr _ _ _ _ (FA.out.below HB4.out) rfl ca.1 (.inl rfl)
                    · exact cellsX_expr _ _ _ _ (FB.out.below HB4.out) rfl cb.1 (.inl rfl)) (by rw [List.map_append, LM.out, ← HN.out, List.take_length]; simp only [twoS, whereS, List.map_cons, List.map_nil, List.append_assoc, List.cons_append, List.nil_append]; rw [show ((ps.length - 1 : Nat) : Int) = (ps.length : Int) - 1 by have := HN.out; omega]) (by rw [List.flatMap_append]; exact hown)); clear hown hgr hgg HBD OW3; have HBD := HB4; clear HB4 HB3))
      have HZ := HBD.out.size
      have CELn := Lib.hid (fun W (hb : Below w4.heap.size w4 W) (k j : Nat) (u : Value) (hj : ((L.take k).flatMap fun p => p.2)[j]? = some u) => CEL.out W (HBD.out.trans (hb.mono HBD.out.size)) k j u hj)
      have LXn := Lib.hid (fun W (hb : Below w4.heap.size w4 W) (k : Nat) p (hp : p ∈ L.take k) => LX.out W (HBD.out.trans (hb.mono HBD.out.size)) k p hp)
      have TBn := Lib.hid (TBW.out.below HBD.out)
      have SPn := Lib.hid (SPW.out.below HBD.out)
      have FAn := Lib.hid (FA.out.below HBD.out)
      have FBn := Lib.hid (FB.out.below HBD.out)
      have HBw := Lib.hid (HB.out.trans (HBD.out.mono HB.out.size))
      clear CEL LX TBW SPW FA FB HB HBD HZ
      have CEL := CELn
      have LX := LXn
      have TBW := TBn
      have SPW := SPn
      have FA := FAn
      have FB := FBn
      have HB := HBw
      clear CELn LXn TBn SPn FAn FBn HBw
      have HBD := Lib.hid (Below.refl w4.heap.size w4)
      clear PI PS
      obtain ⟨wd, rfl⟩ : ∃ x, x = w4 := ⟨_, rfl⟩
      go_upto_region 9 with (first
              | (at_builtin; refine wpList_append_block _ rfl (.tmp 42) (.tmp 43) 24 rfl wd.heap.size 32 i0 (.agg #[.int .i64 0, .int .i64 0, .int .i64 0, .int .i64 0, .slice none 0 0, .slice none 0 0]) 6 80 Try.underlying24 hi iz0 iz1 iz2 rfl (by decide) wd.heap.size 0 0 [] rfl (own_empty3 32 6 rfl (Nat.le_refl _)) ⟨gp, 0, none⟩ n cp ((L.take n).flatMap fun p => p.2) rfl (LC.out n (Nat.le_refl _)) (CEL.out _ (HBD.out.alloc HBD.out.size _) n) (LO.out n) (by unfold maxLen; omega) (by omega) (by simp) ?_; intro g3 c3 w3 hown hgr hgg; (try simp only [Nat.zero_add, List.nil_append] at hown ⊢); have HB3 := Lib.hid (Below.grown (HBD.out.alloc HBD.out.size (.cells #[] 32)) hgr (by have := HBD.out.size; first | omega | (simp; done) | (simp; omega)) (fun k hk => by obtain rfl := Option.some.inj hk; exact HBD.out.size)); have OW3 := Lib.hid hown; have hlo3 := (hown.lt g3 rfl).1; clear hown hgr hgg)
              | (at_builtin; refine wpList_append_block _ rfl (.tmp 44) (.tmp 52) 24 rfl wd.heap.size 32 i0 (.agg #[.int .i64 0, .int .i64 0, .int .i64 0, .int .i64 0, .slice none 0 0, .slice none 0 0]) 6 80 Try.underlying24 hi iz0 iz1 iz2 rfl (by decide) g3 n c3 ((L.take n).flatMap fun p => p.2) rfl (OW3.out.alloc _) _ 2 2 [.int .i64 2, .int .i64 ((n : Int) - 1), .int .i64 0, .int .i64 0, .slice (some ⟨gb, 0, none⟩) eb.length kb, .slice none 0 0, .int .i64 2, .int .i64 (n : Int), .int .i64 0, .int .i64 0, .slice (some ⟨ga, 0, none⟩) ea.length ka, .slice none 0 0] rfl rfl (news_new (by first | rfl | simp)) (by simp [Value.oneCell']) (by unfold maxLen; omega) (by omega) (by have := (OW3.out.lt g3 rfl).2; simp; omega) ?_; intro gY cY w5 hown hgr hgg; have HB4 := Lib.hid (Below.grown (HB3.out.alloc HB3.out.size (.cells #[.int .i64 2, .int .i64 ((n : Int) - 1), .int .i64 0, .int .i64 0, .slice (some ⟨gb, 0, none⟩) eb.length kb, .slice none 0 0, .int .i64 2, .int .i64 (n : Int), .int .i64 0, .int .i64 0, .slice (some ⟨ga, 0, none⟩) ea.length ka, .slice none 0 0] 32)) hgr (by have := HB3.out.size; simp; omega) (fun k hk => by obtain rfl := Option.some.inj hk; have := HBD.out.size; omega)); have SPY := Lib.hid (sps_own (L := L.take n ++ [((2, ((n : Int) - 1), 0, 0, eb, []), [.int .i64 2, .int .i64 ((n : Int) - 1), .int .i64 0, .int .i64 0, .slice (some ⟨gb, 0, none⟩) eb.length kb, .slice none 0 0]), ((2, (n : Int), 0, 0, ea, []), [.int .i64 2, .int .i64 (n : Int), .int .i64 0, .int .i64 0, .slice (some ⟨ga, 0, none⟩) ea.length ka, .slice none 0 0])]) (ps := twoS ps eb ea) (fun p hp => by
                  rcases List.mem_append.1 hp with hp | hp
                  · exact LX.out _ HB4.out n p hp
                  · simp only [List.mem_cons, List.not_mem_nil, or_false] at hp
                    rcases hp with rfl | rfl
                    · exact cellsX_expr _ _ _ _ (FB.out.below HB4.out) rfl cb.1 (.inl rfl)
                    · exact cellsX_expr _ _ _ _ (FA.out.below HB4.out) rfl ca.1 (.inl rfl)) (by rw [List.map_append, LM.out, ← HN.out, List.take_length]; simp only [twoS, whereS, List.map_cons, List.map_nil, List.append_assoc, List.cons_append, List.nil_append]; rw [show ((ps.length - 1 : Nat) : Int) = (ps.length : Int) - 1 by have := HN.out; omega]) (by rw [List.flatMap_append]; exact hown)); clear hown hgr hgg HBD OW3; have HBD := HB4; clear HB4 HB3))
      have SPX1 := Lib.hid (SPX.out.below HBD.out)
      clear SPX CEL LX LM LC LO FA FB SPW
      have SPX := SPX1
      clear SPX1
      have TBn := Lib.hid (TBW.out.below HBD.out)
      have HBw := Lib.hid (HB.out.trans (HBD.out.mono HB.out.size))
      clear TBW HB HBD
      have TBW := TBn
      have HB := HBw
      clear TBn HBw
      obtain ⟨wd, rfl⟩ : ∃ x, x = w5 := ⟨_, rfl⟩
      have HBD := Lib.hid (Below.refl wd.heap.size wd)
      cases ob
      all_goals go_wp2_with (first
              | (go_at_call 12; (with_reducible refine (POX.out _ gX cX (TBW.out.below HBD.out) (SPX.out.below HBD.out)).mono ?_); rintro e w6 ⟨rfl, hb⟩; have HBn := Lib.hid (Below.trans (show Below wd.heap.size wd _ from (by repeat (with_reducible first | exact HBD.out | apply Below.drew | refine Below.alloc ?_ (by have := HBD.out.size; first | omega | (simp; done) | (simp; omega)) _))) (hb.mono (by have := HBD.out.size; first | omega | (simp; done) | (simp; omega)))); clear HBD hb; have HBD := HBn; clear HBn)
              | (go_at_call 12; (with_reducible refine (POY.out _ gY cY (TBW.out.below HBD.out) (SPY.out.below HBD.out)).mono ?_); rintro e w6 ⟨rfl, hb⟩; have HBn := Lib.hid (Below.trans (show Below wd.heap.size wd _ from (by repeat (with_reducible first | exact HBD.out | apply Below.drew | refine Below.alloc ?_ (by have := HBD.out.size; first | omega | (simp; done) | (simp; omega)) _))) (hb.mono (by have := HBD.out.size; first | omega | (simp; done) | (simp; omega)))); clear HBD hb; have HBD := HBn; clear HBn)
              | (go_at_call 20; (with_reducible refine (PRX.out _ gX cX (TBW.out.below HBD.out) (SPX.out.below HBD.out)).mono ?_); rintro e w7 ⟨Ax, gx, cx, Tx, rfl, hc, hb⟩; have VX := Lib.hid hc.rws; clear hc; have HBn := Lib.hid (Below.trans (show Below wd.heap.size wd _ from (by repeat (with_reducible first | exact HBD.out | apply Below.drew | refine Below.alloc ?_ (by have := HBD.out.size; first | omega | (simp; done) | (simp; omega)) _))) (hb.mono (by have := HBD.out.size; first | omega | (simp; done) | (simp; omega)))); clear HBD hb; have HBD := HBn; clear HBn)
              | (go_at_call 20; (with_reducible refine (PRY.out _ gY cY (TBW.out.below HBD.out) (SPY.out.below HBD.out)).mono ?_); rintro e w8 ⟨Ay, gy, cy, Ty, rfl, hc, hb⟩; have VXn := Lib.hid (VX.out.below hb); clear VX; have VX := VXn; clear VXn; have VY := Lib.hid hc.rws; clear hc; have HBn := Lib.hid (Below.trans (show Below wd.heap.size wd _ from (by repeat (with_reducible first | exact HBD.out | apply Below.drew | refine Below.alloc ?_ (by have := HBD.out.size; first | omega | (simp; done) | (simp; omega)) _))) (hb.mono (by have := HBD.out.size; first | omega | (simp; done) | (simp; omega)))); clear HBD hb; have HBD := HBn; clear HBn)
              | (go_at_call 26; (with_reducible refine (sameRowsL Ax Ay gx gy 0 0 cx cy rs rs _ VX.out VY.out OXH.out OXH.out).mono ?_); rintro e w9 ⟨rfl, hb⟩; rw [decide_eq_true (rfl : rs = rs)]; have HBn := Lib.hid (Below.trans (show Below wd.heap.size wd _ from (by repeat (with_reducible first | exact HBD.out | apply Below.drew | refine Below.alloc ?_ (by have := HBD.out.size; first | omega | (simp; done) | (simp; omega)) _))) (hb.mono (by have := HBD.out.size; first | omega | (simp; done) | (simp; omega)))); clear HBD hb; have HBD := HBn; clear HBn)
              | (go_at_call 14; (with_reducible refine (alive _).mono ?_); rintro e w10 ⟨rfl, hb⟩; have HBn := Lib.hid (Below.trans (show Below wd.heap.size wd _ from (by repeat (with_reducible first | exact HBD.out | apply Below.drew | refine Below.alloc ?_ (by have := HBD.out.size; first | omega | (simp; done) | (simp; omega)) _))) (hb.mono (by have := HBD.out.size; first | omega | (simp; done) | (simp; omega)))); clear HBD hb; have HBD := HBn; clear HBn))
      all_goals go_ret
      all_goals exact ⟨rfl, HB.out.trans (HBD.out.mono HB.out.size)⟩
end Go.Proofs.Ytacinjbaebimhaa.Val
