/- The walk of the law FnWholeTwice. -/
import Derived.Test.YtacinjbaebimhaaStpNQ
import Derived.Test.YtacinjbaebimhaaDrawShQ
import Derived.Test.YtacinjbaebimhaaLSmQ
import Derived.Test.YtacinjbaebimhaaPMath3Q
import Derived.Test.YtacinjbaebimhaaAliveQ
namespace Go.Proofs.Ytacinjbaebimhaa.Val
open Go.RowKit
set_option linter.unusedSimpArgs false
set_option linter.unusedVariables false
set_option maxRecDepth 20000
theorem twoS_len (p : List SP) (a b : List PT) : (twoS p a b).length = p.length + 2 := by simp [twoS]
theorem oneS_len (p : List SP) (a : List PT) : (oneS p a).length = p.length + 1 := by simp [oneS]
theorem fits_one {ps : List SP} {a : List PT} (h : ∀ s ∈ ps, StepFit s) (la : a.length ≤ 7) (ta : TextsP a) : ∀ t ∈ oneS ps a, StepFit t := fits_app h ⟨la, ta, Nat.zero_le _⟩
theorem fits_two {ps : List SP} {a b : List PT} (h : ∀ s ∈ ps, StepFit s) (la : a.length ≤ 7) (lb : b.length ≤ 7) (ta : TextsP a) (tb : TextsP b) : ∀ t ∈ twoS ps a b, StepFit t := fits_app (fits_app h ⟨la, ta, Nat.zero_le _⟩) ⟨lb, tb, Nat.zero_le _⟩
def twiceS (p : List SP) : List SP := (p ++ [bothS p]) ++ [onceS (p ++ [bothS p])]
theorem twiceS_len (p : List SP) : (twiceS p).length = p.length + 2 := by simp [twiceS]
theorem once_at (p : List SP) (s : SP) : onceS (p ++ [s]) = (6, (p.length : Int), 0, 0, [], []) := by
  unfold onceS
  rw [show ((p ++ [s]).length : Int) - 1 = (p.length : Int) by simp]
theorem fits_twice {ps : List SP} (h : ∀ s ∈ ps, StepFit s) : ∀ t ∈ twiceS ps, StepFit t := fits_app (fits_app h (stepFit_bare _ _ _ _)) (stepFit_bare _ _ _ _)
theorem twice_rows {tb : List TB} {ps : List SP} (h1 : 1 ≤ ps.length) (h : planB tb (twiceS ps) = true) : prowsI tb (twiceS ps) = onceI (prowsI tb ps) := by
  have hp : planB tb ps = true := by
    have := planB_take h ps.length h1 (by rw [twiceS_len]; omega)
    rwa [twiceS, List.append_assoc, List.take_left' rfl] at this
  exact prows_twice hp h
set_option maxHeartbeats 8000000 in
theorem walk_FnWholeTwice (a : Option Addr) (len cap : Nat) (zs : List Int) (w : World) (h : IsRow .u8 w a len cap zs) :
    Calls Try.prog 8 #[.slice a len cap] w fun e w' => e = .returned (.bool true) ∧ Below w.heap.size w w' := by
  by_cases hl : 1048576 < len
  · clear h
    go_enter Try.func8, Try.ntmps8
    go_wp2
    go_ret
    exact ⟨rfl, Below.refl _ _⟩
  · have HI := Lib.hid h
    clear h
    obtain ⟨i0, hi, iz0, iz1, iz2⟩ := info_parts infoST
    go_enter Try.func8, Try.ntmps8
    go_wp2_with (go_at_call 27; (with_reducible refine (drawTested _ _ _ zs _ HI.out).mono ?_); rintro e wd ⟨gt, ct, gp, cp, ga, ka, gb, kb, ts, ps, ea, eb, rfl, htb, hts, htf, hct, hsp, hpl, hsf, hcp, ⟨fa, la, ta, ra, ca⟩, ⟨fb, lb, tb2, rb, cb⟩, hbd⟩; have TBW := Lib.hid htb; have OKT := Lib.hid (htf.ok hts.2); have SPW := Lib.hid hsp; have SF := Lib.hid hsf; have HB := Lib.hid hbd; have FA := Lib.hid fa; have FB := Lib.hid fb; have TA := Lib.hid ta; have TX := Lib.hid tb2; have RA := Lib.hid ra; have TFT := Lib.hid htf; clear htb hsp hsf hbd htf fa fb ta tb2 ra rb)
    have OKS := Lib.hid (okS_fit (by omega) SF.out)
    obtain ⟨L, hL1, hL2, hL3⟩ := SPW.out.cells
    have LL : L.length = ps.length := by rw [← hL1, List.length_map]
    have CEL := Lib.hid (fun W (hb : Below wd.heap.size wd W) (k j : Nat) (u : Value) (hj : ((L.take k).flatMap fun p => p.2)[j]? = some u) => (by
      have h1 : (L.flatMap fun p => p.2)[j]? = some u := by
        conv => lhs; rw [← List.take_append_drop k L, List.flatMap_append]
        rw [List.getElem?_append_left (List.getElem?_eq_some_iff.1 hj).1]
        exact hj
      rw [addNone, Nat.zero_add]
      have h2 := hL3 j u h1
      rw [Nat.zero_add] at h2
      exact (hb.cell (p := ⟨gp, j, none⟩) (World.block_lt_of_cell? wd ⟨gp, j, none⟩ h2)).trans h2 : W.cell? ((⟨gp, 0, none⟩ : Addr).add j) = some u))
    have LX := Lib.hid (fun W (hb : Below wd.heap.size wd W) (k : Nat) p (hp : p ∈ L.take k) => (hL2 p (List.mem_of_mem_take hp)).below hb)
    have LM := Lib.hid (fun (k : Nat) => (by rw [List.map_take, hL1] : (L.take k).map (fun p => p.1) = ps.take k))
    have LC := Lib.hid (fun (k : Nat) (hk : k ≤ ps.length) => (by rw [stepsX_len (W := wd) (L := L.take k) (fun p hp => hL2 p (List.mem_of_mem_take hp)), List.length_take, LL, Nat.min_eq_left hk] : ((L.take k).flatMap fun p => p.2).length = k * 6))
    have LO := Lib.hid (fun (k : Nat) => stepsX_one (W := wd) (L := L.take k) (fun p hp => hL2 p (List.mem_of_mem_take hp)))
    clear hL1 hL2 hL3 LL
    have PI := Lib.hid (fun W h1 h2 => planOkI (some ⟨gt, 0, none⟩) (some ⟨gp, 0, none⟩) gt 0 ct gp 0 cp ts ps W h1 OKT.out h2 OKS.out)
    have PS := Lib.hid (fun W h1 h2 => planOkS (some ⟨gt, 0, none⟩) (some ⟨gp, 0, none⟩) gt 0 ct gp 0 cp ts ps W h1 OKT.out h2 OKS.out)
    have OKX : Hid (OkS (twiceS ps)) := Lib.hid (okS_fit (by rw [twiceS_len]; omega) (fits_twice SF.out))
    have POX := Lib.hid (fun W X cX h1 h2 => (by have h3 := planOkI (some ⟨gt, 0, none⟩) (some ⟨X, 0, none⟩) gt 0 ct X 0 cX ts (twiceS ps) W h1 OKT.out h2 OKX.out; rw [twiceS_len] at h3; exact h3 : Calls _ _ _ _ _))
    have PRX := Lib.hid (fun W X cX h1 h2 => (by have h3 := (planRowsI (some ⟨gt, 0, none⟩) (some ⟨X, 0, none⟩) gt 0 ct X 0 cX ts (twiceS ps) W h1 OKT.out h2 OKX.out).mono fun e w' h => retBagN h; rw [twiceS_len] at h3; exact h3 : Calls _ _ _ _ _))
    have PRP := Lib.hid (fun W h1 h2 => (planRowsI (some ⟨gt, 0, none⟩) (some ⟨gp, 0, none⟩) gt 0 ct gp 0 cp ts ps W h1 OKT.out h2 OKS.out).mono fun e w' h => retBagN h)
    have hrx := twice_rows (tb := ts) hpl.1
    obtain ⟨-, -, OX⟩ := prows_small ts ps
    obtain ⟨ob, hob⟩ : ∃ b, planB ts (twiceS ps) = b := ⟨_, rfl⟩
    obtain ⟨rs, hrs⟩ : ∃ b, prowsI ts ps = b := ⟨_, rfl⟩
    obtain ⟨rx, hrs2⟩ : ∃ b, prowsI ts (twiceS ps) = b := ⟨_, rfl⟩
    rw [hob, hrs, hrs2] at hrx
    rw [hrs] at OX PRP
    rw [hob] at POX
    rw [hrs2] at PRX
    have OXH := Lib.hid OX
    have OXO := Lib.hid (OX.sub (by have := once_len rs; have := OX.1; omega) (fun r hr => (once_mem rs r).1 hr))
    clear OX hob hrs hrs2
    obtain ⟨ok, hok⟩ : ∃ b, planB ts ps = b := ⟨_, rfl⟩
    rw [hok] at PI PS
    obtain ⟨n, hn⟩ : ∃ n, ps.length = n := ⟨_, rfl⟩
    have HN := Lib.hid hn
    rw [hn] at hpl hcp PI PS LC POX PRX PRP ⊢
    clear hn
    have HBD := Lib.hid (Below.refl wd.heap.size wd)
    have hnc : (n : Int) ≤ (cp : Int) := by omega
    have ha0 : ¬ ((ea.length : Int) = 0) := by omega
    have hb0 : ¬ ((eb.length : Int) = 0) := by omega
    cases ok
    case false =>
      go_upto_region 7 with (first
              | (go_at_call 12; (with_reducible refine (PI.out _ (TBW.out.below HBD.out) (SPW.out.below HBD.out)).mono ?_); rintro e w1 ⟨rfl, hb⟩; have HBn := Lib.hid (Below.trans (show Below wd.heap.size wd _ from (by repeat (with_reducible first | exact HBD.out | apply Below.drew | refine Below.alloc ?_ (by have := HBD.out.size; first | omega | (simp; done) | (simp; omega)) _))) (hb.mono (by have := HBD.out.size; first | omega | (simp; done) | (simp; omega)))); clear HBD hb; have HBD := HBn; clear HBn)
              | (go_at_call 13; (with_reducible refine (PS.out _ (TBW.out.below HBD.out) (SPW.out.below HBD.out)).mono ?_); rintro e w1 ⟨rfl, hb⟩; have HBn := Lib.hid (Below.trans (show Below wd.heap.size wd _ from (by repeat (with_reducible first | exact HBD.out | apply Below.drew | refine Below.alloc ?_ (by have := HBD.out.size; first | omega | (simp; done) | (simp; omega)) _))) (hb.mono (by have := HBD.out.size; first | omega | (simp; done) | (simp; omega)))); clear HBD hb; have HBD := HBn; clear HBn))
      go_upto_region 8 with (first
              | (at_builtin; refine wpList_append_block _ rfl (.tmp 29) (.tmp 30) 24 rfl w1.heap.size 32 i0 (.agg #[.int .i64 0, .int .i64 0, .int .i64 0, .int .i64 0, .slice none 0 0, .slice none 0 0]) 6 80 Try.underlying24 hi iz0 iz1 iz2 rfl (by decide) w1.heap.size 0 0 [] rfl (own_empty3 32 6 rfl (Nat.le_refl _)) ⟨gp, 0, none⟩ n cp ((L.take n).flatMap fun p => p.2) rfl (LC.out n (Nat.le_refl _)) (CEL.out _ (HBD.out.alloc HBD.out.size _) n) (LO.out n) (by unfold maxLen; omega) (by omega) (by simp) ?_; intro g3 c3 w3 hown hgr hgg; (try simp only [Nat.zero_add, List.nil_append] at hown ⊢); have HB3 := Lib.hid (Below.grown (HBD.out.alloc HBD.out.size (.cells #[] 32)) hgr (by have := HBD.out.size; first | omega | (simp; done) | (simp; omega)) (fun k hk => by obtain rfl := Option.some.inj hk; exact HBD.out.size)); have OW3 := Lib.hid hown; have hlo3 := (hown.lt g3 rfl).1; clear hown hgr hgg)
              | (at_builtin; refine wpList_append_block _ rfl (.tmp 31) (.tmp 38) 24 rfl w1.heap.size 32 i0 (.agg #[.int .i64 0, .int .i64 0, .int .i64 0, .int .i64 0, .slice none 0 0, .slice none 0 0]) 6 80 Try.underlying24 hi iz0 iz1 iz2 rfl (by decide) g3 n c3 ((L.take n).flatMap fun p => p.2) rfl (OW3.out.alloc _) _ 2 2 [.int .i64 5, .int .i64 ((n : Int) - 1), .int .i64 ((n : Int) - 1), .int .i64 0, .slice none 0 0, .slice none 0 0, .int .i64 6, .int .i64 (n : Int), .int .i64 0, .int .i64 0, .slice none 0 0, .slice none 0 0] rfl rfl (news_new (by first | rfl | simp)) (by simp [Value.oneCell']) (by unfold maxLen; omega) (by omega) (by have := (OW3.out.lt g3 rfl).2; simp; omega) ?_; intro gX cX w4 hown hgr hgg; have HB4 := Lib.hid (Below.grown (HB3.out.alloc HB3.out.size (.cells #[.int .i64 5, .int .i64 ((n : Int) - 1), .int .i64 ((n : Int) - 1), .int .i64 0, .slice none 0 0, .slice none 0 0, .int .i64 6, .int .i64 (n : Int), .int .i64 0, .int .i64 0, .slice none 0 0, .slice none 0 0] 32)) hgr (by have := HB3.out.size; simp; omega) (fun k hk => by obtain rfl := Option.some.inj hk; have := HBD.out.size; omega)); have SPX := Lib.hid (sps_own (L := L.take n ++ [((5, ((n : Int) - 1), ((n : Int) - 1), 0, [], []), [.int .i64 5, .int .i64 ((n : Int) - 1), .int .i64 ((n : Int) - 1), .int .i64 0, .slice none 0 0, .slice none 0 0]), ((6, (n : Int), 0, 0, [], []), [.int .i64 6, .int .i64 (n : Int), .int .i64 0, .int .i64 0, .slice none 0 0, .slice none 0 0])]) (ps := twiceS ps) (fun p hp => by
                  rcases List.mem_append.1 hp with hp | hp
                  · exact LX.out _ HB4.out n p hp
                  · simp only [List.mem_cons, List.not_mem_nil, or_false] at hp
                    rcases hp with rfl | rfl
                    · exact cellsX_bare _ _ _ _
                    · exact cellsX_bare _ _ _ _) (by rw [List.map_append, LM.out, ← HN.out, List.take_length]; simp only [twiceS, bothS, once_at, List.map_cons, List.map_nil, List.append_assoc, List.cons_append, List.nil_append]) (by rw [List.flatMap_append]; exact hown)); clear hown hgr hgg HBD OW3; have HBD := HB4; clear HB4 HB3))
      have SPW1 := Lib.hid (SPW.out.below HBD.out)
      clear CEL LX LM LC LO FA FB SPW
      have SPW := SPW1
      clear SPW1
      have TBn := Lib.hid (TBW.out.below HBD.out)
      have HBw := Lib.hid (HB.out.trans (HBD.out.mono HB.out.size))
      clear TBW HB HBD
      have TBW := TBn
      have HB := HBw
      clear TBn HBw
      obtain ⟨wd, rfl⟩ : ∃ x, x = w4 := ⟨_, rfl⟩
      have HBD := Lib.hid (Below.refl wd.heap.size wd)
      cases ob
      case false =>
        go_wp2_with (first
              | (go_at_call 12; (with_reducible refine (POX.out _ gX cX (TBW.out.below HBD.out) (SPX.out.below HBD.out)).mono ?_); rintro e w6 ⟨rfl, hb⟩; have HBn := Lib.hid (Below.trans (show Below wd.heap.size wd _ from (by repeat (with_reducible first | exact HBD.out | apply Below.drew | refine Below.alloc ?_ (by have := HBD.out.size; first | omega | (simp; done) | (simp; omega)) _))) (hb.mono (by have := HBD.out.size; first | omega | (simp; done) | (simp; omega)))); clear HBD hb; have HBD := HBn; clear HBn)
              | (go_at_call 14; (with_reducible refine (alive _).mono ?_); rintro e w10 ⟨rfl, hb⟩; have HBn := Lib.hid (Below.trans (show Below wd.heap.size wd _ from (by repeat (with_reducible first | exact HBD.out | apply Below.drew | refine Below.alloc ?_ (by have := HBD.out.size; first | omega | (simp; done) | (simp; omega)) _))) (hb.mono (by have := HBD.out.size; first | omega | (simp; done) | (simp; omega)))); clear HBD hb; have HBD := HBn; clear HBn))
        all_goals go_ret
        all_goals exact ⟨rfl, HB.out.trans (HBD.out.mono HB.out.size)⟩
      case true =>
        have hrx1 := hrx rfl
        subst hrx1
        go_wp2_with (first
              | (go_at_call 12; (with_reducible refine (POX.out _ gX cX (TBW.out.below HBD.out) (SPX.out.below HBD.out)).mono ?_); rintro e w6 ⟨rfl, hb⟩; have HBn := Lib.hid (Below.trans (show Below wd.heap.size wd _ from (by repeat (with_reducible first | exact HBD.out | apply Below.drew | refine Below.alloc ?_ (by have := HBD.out.size; first | omega | (simp; done) | (simp; omega)) _))) (hb.mono (by have := HBD.out.size; first | omega | (simp; done) | (simp; omega)))); clear HBD hb; have HBD := HBn; clear HBn)
              | (go_at_call 20; (with_reducible refine (PRX.out _ gX cX (TBW.out.below HBD.out) (SPX.out.below HBD.out)).mono ?_); rintro e w7 ⟨Ax, gx, cx, Tx, rfl, hc, hb⟩; have VX := Lib.hid hc.rws; clear hc; have HBn := Lib.hid (Below.trans (show Below wd.heap.size wd _ from (by repeat (with_reducible first | exact HBD.out | apply Below.drew | refine Below.alloc ?_ (by have := HBD.out.size; first | omega | (simp; done) | (simp; omega)) _))) (hb.mono (by have := HBD.out.size; first | omega | (simp; done) | (simp; omega)))); clear HBD hb; have HBD := HBn; clear HBn)
              | (go_at_call 20; (with_reducible refine (PRP.out _ (TBW.out.below HBD.out) (SPW.out.below HBD.out)).mono ?_); rintro e w8 ⟨Ay, gy, cy, Ty, rfl, hc, hb⟩; have VXn := Lib.hid (VX.out.below hb); clear VX; have VX := VXn; clear VXn; have VY := Lib.hid hc.rws; clear hc; have HBn := Lib.hid (Below.trans (show Below wd.heap.size wd _ from (by repeat (with_reducible first | exact HBD.out | apply Below.drew | refine Below.alloc ?_ (by have := HBD.out.size; first | omega | (simp; done) | (simp; omega)) _))) (hb.mono (by have := HBD.out.size; first | omega | (simp; done) | (simp; omega)))); clear HBD hb; have HBD := HBn; clear HBn)
              | (go_at_call 31; (with_reducible refine (rowsOnceI Ay gy 0 cy rs _ VY.out OXH.out).mono ?_); rintro e w8 ⟨gz, cz, Tz, rfl, hc, hb⟩; have VXn := Lib.hid (VX.out.below hb); clear VX; have VX := VXn; clear VXn; have VZ := Lib.hid hc.rws; clear hc; have HBn := Lib.hid (Below.trans (show Below wd.heap.size wd _ from (by repeat (with_reducible first | exact HBD.out | apply Below.drew | refine Below.alloc ?_ (by have := HBD.out.size; first | omega | (simp; done) | (simp; omega)) _))) (hb.mono (by have := HBD.out.size; first | omega | (simp; done) | (simp; omega)))); clear HBD hb; have HBD := HBn; clear HBn)
              | (go_at_call 26; (with_reducible refine (sameRowsL Ax (some ⟨gz, 0, none⟩) gx gz 0 0 cx cz (onceI rs) (onceI rs) _ VX.out VZ.out OXO.out OXO.out).mono ?_); rintro e w9 ⟨rfl, hb⟩; rw [decide_eq_true (rfl : onceI rs = onceI rs)]; have HBn := Lib.hid (Below.trans (show Below wd.heap.size wd _ from (by repeat (with_reducible first | exact HBD.out | apply Below.drew | refine Below.alloc ?_ (by have := HBD.out.size; first | omega | (simp; done) | (simp; omega)) _))) (hb.mono (by have := HBD.out.size; first | omega | (simp; done) | (simp; omega)))); clear HBD hb; have HBD := HBn; clear HBn)
              | (go_at_call 14; (with_reducible refine (alive _).mono ?_); rintro e w10 ⟨rfl, hb⟩; have HBn := Lib.hid (Below.trans (show Below wd.heap.size wd _ from (by repeat (with_reducible first | exact HBD.out | apply Below.drew | refine Below.alloc ?_ (by have := HBD.out.size; first | omega | (simp; done) | (simp; omega)) _))) (hb.mono (by have := HBD.out.size; first | omega | (simp; done) | (simp; omega)))); clear HBD hb; have HBD := HBn; clear HBn))
        all_goals go_ret
        all_goals exact ⟨rfl, HB.out.trans (HBD.out.mono HB.out.size)⟩
    case true =>
      go_upto_region 7 with (first
              | (go_at_call 12; (with_reducible refine (PI.out _ (TBW.out.below HBD.out) (SPW.out.below HBD.out)).mono ?_); rintro e w1 ⟨rfl, hb⟩; have HBn := Lib.hid (Below.trans (show Below wd.heap.size wd _ from (by repeat (with_reducible first | exact HBD.out | apply Below.drew | refine Below.alloc ?_ (by have := HBD.out.size; first | omega | (simp; done) | (simp; omega)) _))) (hb.mono (by have := HBD.out.size; first | omega | (simp; done) | (simp; omega)))); clear HBD hb; have HBD := HBn; clear HBn)
              | (go_at_call 13; (with_reducible refine (PS.out _ (TBW.out.below HBD.out) (SPW.out.below HBD.out)).mono ?_); rintro e w1 ⟨rfl, hb⟩; have HBn := Lib.hid (Below.trans (show Below wd.heap.size wd _ from (by repeat (with_reducible first | exact HBD.out | apply Below.drew | refine Below.alloc ?_ (by have := HBD.out.size; first | omega | (simp; done) | (simp; omega)) _))) (hb.mono (by have := HBD.out.size; first | omega | (simp; done) | (simp; omega)))); clear HBD hb; have HBD := HBn; clear HBn))
      go_upto_region 8 with (first
              | (at_builtin; refine wpList_append_block _ rfl (.tmp 29) (.tmp 30) 24 rfl w1.heap.size 32 i0 (.agg #[.int .i64 0, .int .i64 0, .int .i64 0, .int .i64 0, .slice none 0 0, .slice none 0 0]) 6 80 Try.underlying24 hi iz0 iz1 iz2 rfl (by decide) w1.heap.size 0 0 [] rfl (own_empty3 32 6 rfl (Nat.le_refl _)) ⟨gp, 0, none⟩ n cp ((L.take n).flatMap fun p => p.2) rfl (LC.out n (Nat.le_refl _)) (CEL.out _ (HBD.out.alloc HBD.out.size _) n) (LO.out n) (by unfold maxLen; omega) (by omega) (by simp) ?_; intro g3 c3 w3 hown hgr hgg; (try simp only [Nat.zero_add, List.nil_append] at hown ⊢); have HB3 := Lib.hid (Below.grown (HBD.out.alloc HBD.out.size (.cells #[] 32)) hgr (by have := HBD.out.size; first | omega | (simp; done) | (simp; omega)) (fun k hk => by obtain rfl := Option.some.inj hk; exact HBD.out.size)); have OW3 := Lib.hid hown; have hlo3 := (hown.lt g3 rfl).1; clear hown hgr hgg)
              | (at_builtin; refine wpList_append_block _ rfl (.tmp 31) (.tmp 38) 24 rfl w1.heap.size 32 i0 (.agg #[.int .i64 0, .int .i64 0, .int .i64 0, .int .i64 0, .slice none 0 0, .slice none 0 0]) 6 80 Try.underlying24 hi iz0 iz1 iz2 rfl (by decide) g3 n c3 ((L.take n).flatMap fun p => p.2) rfl (OW3.out.alloc _) _ 2 2 [.int .i64 5, .int .i64 ((n : Int) - 1), .int .i64 ((n : Int) - 1), .int .i64 0, .slice none 0 0, .slice none 0 0, .int .i64 6, .int .i64 (n : Int), .int .i64 0, .int .i64 0, .slice none 0 0, .slice none 0 0] rfl rfl (news_new (by first | rfl | simp)) (by simp [Value.oneCell']) (by unfold maxLen; omega) (by omega) (by have := (OW3.out.lt g3 rfl).2; simp; omega) ?_; intro gX cX w4 hown hgr hgg; have HB4 := Lib.hid (Below.grown (HB3.out.alloc HB3.out.size (.cells #[.int .i64 5, .int .i64 ((n : Int) - 1), .int .i64 ((n : Int) - 1), .int .i64 0, .slice none 0 0, .slice none 0 0, .int .i64 6, .int .i64 (n : Int), .int .i64 0, .int .i64 0, .slice none 0 0, .slice none 0 0] 32)) hgr (by have := HB3.out.size; simp; omega) (fun k hk => by obtain rfl := Option.some.inj hk; have := HBD.out.size; omega)); have SPX := Lib.hid (sps_own (L := L.take n ++ [((5, ((n : Int) - 1), ((n : Int) - 1), 0, [], []), [.int .i64 5, .int .i64 ((n : Int) - 1), .int .i64 ((n : Int) - 1), .int .i64 0, .slice none 0 0, .slice none 0 0]), ((6, (n : Int), 0, 0, [], []), [.int .i64 6, .int .i64 (n : Int), .int .i64 0, .int .i64 0, .slice none 0 0, .slice none 0 0])]) (ps := twiceS ps) (fun p hp => by
                  rcases List.mem_append.1 hp with hp | hp
                  · exact LX.out _ HB4.out n p hp
                  · simp only [List.mem_cons, List.not_mem_nil, or_false] at hp
                    rcases hp with rfl | rfl
                    · exact cellsX_bare _ _ _ _
                    · exact cellsX_bare _ _ _ _) (by rw [List.map_append, LM.out, ← HN.out, List.take_length]; simp only [twiceS, bothS, once_at, List.map_cons, List.map_nil, List.append_assoc, List.cons_append, List.nil_append]) (by rw [List.flatMap_append]; exact hown)); clear hown hgr hgg HBD OW3; have HBD := HB4; clear HB4 HB3))
      have SPW1 := Lib.hid (SPW.out.below HBD.out)
      clear CEL LX LM LC LO FA FB SPW
      have SPW := SPW1
      clear SPW1
      have TBn := Lib.hid (TBW.out.below HBD.out)
      have HBw := Lib.hid (HB.out.trans (HBD.out.mono HB.out.size))
      clear TBW HB HBD
      have TBW := TBn
      have HB := HBw
      clear TBn HBw
      obtain ⟨wd, rfl⟩ : ∃ x, x = w4 := ⟨_, rfl⟩
      have HBD := Lib.hid (Below.refl wd.heap.size wd)
      cases ob
      case false =>
        go_wp2_with (first
              | (go_at_call 12; (with_reducible refine (POX.out _ gX cX (TBW.out.below HBD.out) (SPX.out.below HBD.out)).mono ?_); rintro e w6 ⟨rfl, hb⟩; have HBn := Lib.hid (Below.trans (show Below wd.heap.size wd _ from (by repeat (with_reducible first | exact HBD.out | apply Below.drew | refine Below.alloc ?_ (by have := HBD.out.size; first | omega | (simp; done) | (simp; omega)) _))) (hb.mono (by have := HBD.out.size; first | omega | (simp; done) | (simp; omega)))); clear HBD hb; have HBD := HBn; clear HBn)
              | (go_at_call 14; (with_reducible refine (alive _).mono ?_); rintro e w10 ⟨rfl, hb⟩; have HBn := Lib.hid (Below.trans (show Below wd.heap.size wd _ from (by repeat (with_reducible first | exact HBD.out | apply Below.drew | refine Below.alloc ?_ (by have := HBD.out.size; first | omega | (simp; done) | (simp; omega)) _))) (hb.mono (by have := HBD.out.size; first | omega | (simp; done) | (simp; omega)))); clear HBD hb; have HBD := HBn; clear HBn))
        all_goals go_ret
        all_goals exact ⟨rfl, HB.out.trans (HBD.out.mono HB.out.size)⟩
      case true =>
        have hrx1 := hrx rfl
        subst hrx1
        go_wp2_with (first
              | (go_at_call 12; (with_reducible refine (POX.out _ gX cX (TBW.out.below HBD.out) (SPX.out.below HBD.out)).mono ?_); rintro e w6 ⟨rfl, hb⟩; have HBn := Lib.hid (Below.trans (show Below wd.heap.size wd _ from (by repeat (with_reducible first | exact HBD.out | apply Below.drew | refine Below.alloc ?_ (by have := HBD.out.size; first | omega | (simp; done) | (simp; omega)) _))) (hb.mono (by have := HBD.out.size; first | omega | (simp; done) | (simp; omega)))); clear HBD hb; have HBD := HBn; clear HBn)
              | (go_at_call 20; (with_reducible refine (PRX.out _ gX cX (TBW.out.below HBD.out) (SPX.out.below HBD.out)).mono ?_); rintro e w7 ⟨Ax, gx, cx, Tx, rfl, hc, hb⟩; have VX := Lib.hid hc.rws; clear hc; have HBn := Lib.hid (Below.trans (show Below wd.heap.size wd _ from (by repeat (with_reducible first | exact HBD.out | apply Below.drew | refine Below.alloc ?_ (by have := HBD.out.size; first | omega | (simp; done) | (simp; omega)) _))) (hb.mono (by have := HBD.out.size; first | omega | (simp; done) | (simp; omega)))); clear HBD hb; have HBD := HBn; clear HBn)
              | (go_at_call 20; (with_reducible refine (PRP.out _ (TBW.out.below HBD.out) (SPW.out.below HBD.out)).mono ?_); rintro e w8 ⟨Ay, gy, cy, Ty, rfl, hc, hb⟩; have VXn := Lib.hid (VX.out.below hb); clear VX; have VX := VXn; clear VXn; have VY := Lib.hid hc.rws; clear hc; have HBn := Lib.hid (Below.trans (show Below wd.heap.size wd _ from (by repeat (with_reducible first | exact HBD.out | apply Below.drew | refine Below.alloc ?_ (by have := HBD.out.size; first | omega | (simp; done) | (simp; omega)) _))) (hb.mono (by have := HBD.out.size; first | omega | (simp; done) | (simp; omega)))); clear HBD hb; have HBD := HBn; clear HBn)
              | (go_at_call 31; (with_reducible refine (rowsOnceI Ay gy 0 cy rs _ VY.out OXH.out).mono ?_); rintro e w8 ⟨gz, cz, Tz, rfl, hc, hb⟩; have VXn := Lib.hid (VX.out.below hb); clear VX; have VX := VXn; clear VXn; have VZ := Lib.hid hc.rws; clear hc; have HBn := Lib.hid (Below.trans (show Below wd.heap.size wd _ from (by repeat (with_reducible first | exact HBD.out | apply Below.drew | refine Below.alloc ?_ (by have := HBD.out.size; first | omega | (simp; done) | (simp; omega)) _))) (hb.mono (by have := HBD.out.size; first | omega | (simp; done) | (simp; omega)))); clear HBD hb; have HBD := HBn; clear HBn)
              | (go_at_call 26; (with_reducible refine (sameRowsL Ax (some ⟨gz, 0, none⟩) gx gz 0 0 cx cz (onceI rs) (onceI rs) _ VX.out VZ.out OXO.out OXO.out).mono ?_); rintro e w9 ⟨rfl, hb⟩; rw [decide_eq_true (rfl : onceI rs = onceI rs)]; have HBn := Lib.hid (Below.trans (show Below wd.heap.size wd _ from (by repeat (with_reducible first | exact HBD.out | apply Below.drew | refine Below.alloc ?_ (by have := HBD.out.size; first | omega | (simp; done) | (simp; omega)) _))) (hb.mono (by have := HBD.out.size; first | omega | (simp; done) | (simp; omega)))); clear HBD hb; have HBD := HBn; clear HBn)
              | (go_at_call 14; (with_reducible refine (alive _).mono ?_); rintro e w10 ⟨rfl, hb⟩; have HBn := Lib.hid (Below.trans (show Below wd.heap.size wd _ from (by repeat (with_reducible first | exact HBD.out | apply Below.drew | refine Below.alloc ?_ (by have := HBD.out.size; first | omega | (simp; done) | (simp; omega)) _))) (hb.mono (by have := HBD.out.size; first | omega | (simp; done) | (simp; omega)))); clear HBD hb; have HBD := HBn; clear HBn))
        all_goals go_ret
        all_goals exact ⟨rfl, HB.out.trans (HBD.out.mono HB.out.size)⟩
end Go.Proofs.Ytacinjbaebimhaa.Val
