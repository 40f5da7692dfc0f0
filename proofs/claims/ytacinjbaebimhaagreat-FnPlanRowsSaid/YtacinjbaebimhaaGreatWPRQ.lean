/- The walk of the law FnPlanRows. -/
import Derived.Test.YtacinjbaebimhaaGreatStpNQ
import Derived.Test.YtacinjbaebimhaaGreatDrawAsQ
import Derived.Test.YtacinjbaebimhaaGreatLSmQ
import Derived.Test.YtacinjbaebimhaaGreatAliveQ
namespace Go.Proofs.YtacinjbaebimhaaGreat.Val
open Go.RowKit
set_option linter.unusedSimpArgs false
set_option linter.unusedVariables false
set_option maxRecDepth 20000
theorem BagN.nice {w : World} {B g c : Nat} {A : Option Addr} {T : List TT} {ls : List RT} (h : BagN w B A g c T ls) : Nice A c g 0 := by
  rcases h with ⟨rfl, -⟩ | ⟨rfl, rfl, -, -⟩
  · exact .inl rfl
  · exact .inr ⟨rfl, rfl⟩
theorem BagN.caps {w : World} {B g c : Nat} {A : Option Addr} {T : List TT} {ls : List RT} (h : BagN w B A g c T ls) : ls.length ≤ c ∧ c ≤ maxLen := by
  rcases h with ⟨-, h⟩ | ⟨-, rfl, rfl, -⟩
  · exact h.caps
  · exact ⟨Nat.le_refl _, Nat.zero_le _⟩
set_option maxHeartbeats 8000000 in
theorem walk_FnPlanRows (a : Option Addr) (len cap : Nat) (zs : List Int) (w : World) (h : IsRow .u8 w a len cap zs) :
    Calls Tryz.prog 3 #[.slice a len cap] w fun e w' => e = .returned (.bool true) ∧ Below w.heap.size w w' := by
  by_cases hl : 1048576 < len
  · clear h
    go_enter Tryz.func3, Tryz.ntmps3
    go_wp2
    go_ret
    exact ⟨rfl, Below.refl _ _⟩
  · have HI := Lib.hid h
    clear h
    obtain ⟨i0, hi, iz0, iz1, iz2⟩ := info_parts infoST
    go_enter Tryz.func3, Tryz.ntmps3
    go_wp2_with (go_at_call 4; (with_reducible refine (drawPlanRows _ _ _ zs _ HI.out).mono ?_); rintro e wd ⟨gt, ct, gp, cp, ts, ps, rfl, htb, hok, hts, hct, hsp, hsf, hpl, hcp, hbd⟩; have TBW := Lib.hid htb; have OKT := Lib.hid hok; have SPW := Lib.hid hsp; have SF := Lib.hid hsf; have HB := Lib.hid hbd; clear htb hok hsp hsf hbd)
    have OKS := Lib.hid (okS_fit (by omega) SF.out)
    obtain ⟨L, hL1, hL2, hL3⟩ := SPW.out.cells
    have LL : L.length = ps.length := by rw [← hL1, List.length_map]
    have CEL := Lib.hid (fun W (hb : Below wd.heap.size wd W) (k j : Nat) (u : Value) (hj : ((L.take k).flatMap fun p => p.2)[j]? = some u) => (by
      have h1 : (L.flatMap fun p => p.2)[j]? = some u := by
        conv => lhs; rw [← List.take_append_drop k L, List.flatMap_append]
        rw [List.getElem?_append_left (List.getElem?_eq_some_iff.1 hj).1]
        exact hj
      rw [addNone, Nat.zero_add]
      have h2 := hL3 j u h1
      rw [Nat.zero_add] at h2
      exact (hb.cell (p := ⟨gp, j, none⟩) (World.block_lt_of_cell? wd ⟨gp, j, none⟩ h2)).trans h2 : W.cell? ((⟨gp, 0, none⟩ : Addr).add j) = some u))
    have LX := Lib.hid (fun W (hb : Below wd.heap.size wd W) (k : Nat) p (hp : p ∈ L.take k) => (hL2 p (List.mem_of_mem_take hp)).below hb)
    have LM := Lib.hid (fun (k : Nat) => (by rw [List.map_take, hL1] : (L.take k).map (fun p => p.1) = ps.take k))
    have LC := Lib.hid (fun (k : Nat) (hk : k ≤ ps.length) => (by rw [stepsX_len (W := wd) (L := L.take k) (fun p hp => hL2 p (List.mem_of_mem_take hp)), List.length_take, LL, Nat.min_eq_left hk] : ((L.take k).flatMap fun p => p.2).length = k * 6))
    have LO := Lib.hid (fun (k : Nat) => stepsX_one (W := wd) (L := L.take k) (fun p hp => hL2 p (List.mem_of_mem_take hp)))
    clear hL1 hL2 hL3 LL
    have PI := Lib.hid (fun W h1 h2 => planOkI (some ⟨gt, 0, none⟩) (some ⟨gp, 0, none⟩) gt 0 ct gp 0 cp ts ps W h1 OKT.out h2 OKS.out)
    have OKO := Lib.hid (okS_fit (by rw [List.length_append, List.length_singleton]; omega) (fits_app SF.out (stepFit_bare _ _ _ _)) : OkS (ps ++ [onceS ps]))
    have OKB := Lib.hid (okS_fit (by rw [List.length_append, List.length_singleton]; omega) (fits_app SF.out (stepFit_bare _ _ _ _)) : OkS (ps ++ [bothS ps]))
    have PRP := Lib.hid (fun W h1 h2 => (planRowsI (some ⟨gt, 0, none⟩) (some ⟨gp, 0, none⟩) gt 0 ct gp 0 cp ts ps W h1 OKT.out h2 OKS.out).mono fun e w' h => retBagN h)
    have PRS := Lib.hid (fun W h1 h2 => planRowsS (some ⟨gt, 0, none⟩) (some ⟨gp, 0, none⟩) gt 0 ct gp 0 cp ts ps W h1 OKT.out h2 OKS.out)
    have PRO := Lib.hid (fun W X cX h1 h2 => (by have h3 := (planRowsI (some ⟨gt, 0, none⟩) (some ⟨X, 0, none⟩) gt 0 ct X 0 cX ts (ps ++ [onceS ps]) W h1 OKT.out h2 OKO.out).mono fun e w' h => retBagN h; rw [List.length_append, List.length_singleton] at h3; exact h3 : Calls _ _ _ _ _))
    have PRB := Lib.hid (fun W X cX h1 h2 => (by have h3 := (planRowsI (some ⟨gt, 0, none⟩) (some ⟨X, 0, none⟩) gt 0 ct X 0 cX ts (ps ++ [bothS ps]) W h1 OKT.out h2 OKB.out).mono fun e w' h => retBagN h; rw [List.length_append, List.length_singleton] at h3; exact h3 : Calls _ _ _ _ _))
    have POB := Lib.hid (fun W X cX h1 h2 => (by have h3 := planOkI (some ⟨gt, 0, none⟩) (some ⟨X, 0, none⟩) gt 0 ct X 0 cX ts (ps ++ [bothS ps]) W h1 OKT.out h2 OKB.out; rw [List.length_append, List.length_singleton] at h3; exact h3 : Calls _ _ _ _ _))
    obtain ⟨hr300, -, OX⟩ := prows_small ts ps
    have hro : planB ts ps = true → ps.length < 6 → prowsI ts (ps ++ [onceS ps]) = onceI (prowsI ts ps) := fun h h6 => prows_once h (planB_once h h6)
    have hrb : planB ts ps = true → planB ts (ps ++ [bothS ps]) = true → prowsI ts (ps ++ [bothS ps]) = prowsI ts ps ++ prowsI ts ps := fun h hb => prows_both h hb
    have hp1 : planB ts ps = true → 1 ≤ ps.length ∧ ps.length ≤ 6 := fun h => (planB_iff.1 h).2.2
    generalize prowsI ts (ps ++ [onceS ps]) = ro at hro PRO
    generalize prowsI ts (ps ++ [bothS ps]) = rb at hrb PRB
    generalize prowsI ts ps = rs at hro hrb PRP PRS OX hr300
    have OXH := Lib.hid OX
    have OXO := Lib.hid (OX.sub (by have := once_len rs; have := OX.1; omega) (fun r hr => (once_mem rs r).1 hr))
    have OXB : Hid (Ok2 (rs ++ rs)) := Lib.hid ⟨by rw [List.length_append]; omega, fun r hr => by rcases List.mem_append.1 hr with hr | hr <;> exact OX.2 r hr⟩
    obtain ⟨ob, hob⟩ : ∃ b, planB ts (ps ++ [bothS ps]) = b := ⟨_, rfl⟩
    rw [hob] at POB hrb
    clear OX hob
    obtain ⟨ok, hok⟩ : ∃ b, planB ts ps = b := ⟨_, rfl⟩
    rw [hok] at PI hro hrb hp1
    obtain ⟨n, hn⟩ : ∃ n, ps.length = n := ⟨_, rfl⟩
    have HN := Lib.hid hn
    rw [hn] at hpl hcp PI LC PRP PRS PRO PRB POB hro hp1 ⊢
    clear hn hok
    have HBD := Lib.hid (Below.refl wd.heap.size wd)
    have hnc : (n : Int) ≤ (cp : Int) := by omega
    cases ok with
    | false =>
      go_wp2_with (first
        | (go_at_call 5; (with_reducible refine (PRP.out _ (TBW.out.below HBD.out) (SPW.out.below HBD.out)).mono ?_); rintro e w2 ⟨Ay, gy, cy, Ty, rfl, hc, hb⟩; have VY := Lib.hid hc; clear hc; have HBn := Lib.hid (Below.trans (show Below wd.heap.size wd _ from (by repeat (with_reducible first | exact HBD.out | apply Below.drew | refine Below.alloc ?_ (by have := HBD.out.size; first | omega | (simp; done) | (simp; omega)) _))) (hb.mono (by have := HBD.out.size; first | omega | (simp; done) | (simp; omega)))); clear HBD hb; have HBD := HBn; clear HBn)
        | (go_at_call 7; (with_reducible refine (PRS.out _ (TBW.out.below HBD.out) (SPW.out.below HBD.out)).mono ?_); rintro e w3 ⟨gs, cs, Ts, rfl, hc, hb⟩; have VYn := Lib.hid (VY.out.below hb); clear VY; have VY := VYn; clear VYn; have VS := Lib.hid hc.rws; clear hc; have HBn := Lib.hid (Below.trans (show Below wd.heap.size wd _ from (by repeat (with_reducible first | exact HBD.out | apply Below.drew | refine Below.alloc ?_ (by have := HBD.out.size; first | omega | (simp; done) | (simp; omega)) _))) (hb.mono (by have := HBD.out.size; first | omega | (simp; done) | (simp; omega)))); clear HBD hb; have HBD := HBn; clear HBn)
        | (go_at_call 6; (with_reducible refine (sameRowsL Ay (some ⟨gs, 0, none⟩) gy gs 0 0 cy cs rs rs _ VY.out.rws VS.out OXH.out OXH.out).mono ?_); rintro e w4 ⟨rfl, hb⟩; rw [decide_eq_true (rfl : rs = rs)]; have VYn := Lib.hid (VY.out.below hb); clear VY VS; have VY := VYn; clear VYn; have HBn := Lib.hid (Below.trans (show Below wd.heap.size wd _ from (by repeat (with_reducible first | exact HBD.out | apply Below.drew | refine Below.alloc ?_ (by have := HBD.out.size; first | omega | (simp; done) | (simp; omega)) _))) (hb.mono (by have := HBD.out.size; first | omega | (simp; done) | (simp; omega)))); clear HBD hb; have HBD := HBn; clear HBn)
        | (go_at_call 8; (with_reducible refine (PI.out _ (TBW.out.below HBD.out) (SPW.out.below HBD.out)).mono ?_); rintro e w5 ⟨rfl, hb⟩; have VYn := Lib.hid (VY.out.below hb); clear VY; have VY := VYn; clear VYn; have HBn := Lib.hid (Below.trans (show Below wd.heap.size wd _ from (by repeat (with_reducible first | exact HBD.out | apply Below.drew | refine Below.alloc ?_ (by have := HBD.out.size; first | omega | (simp; done) | (simp; omega)) _))) (hb.mono (by have := HBD.out.size; first | omega | (simp; done) | (simp; omega)))); clear HBD hb; have HBD := HBn; clear HBn)
        | (go_at_call 9; (with_reducible refine (alive _).mono ?_); rintro e w10 ⟨rfl, hb⟩; have HBn := Lib.hid (Below.trans (show Below wd.heap.size wd _ from (by repeat (with_reducible first | exact HBD.out | apply Below.drew | refine Below.alloc ?_ (by have := HBD.out.size; first | omega | (simp; done) | (simp; omega)) _))) (hb.mono (by have := HBD.out.size; first | omega | (simp; done) | (simp; omega)))); clear HBD hb; have HBD := HBn; clear HBn))
      all_goals go_ret
      all_goals exact ⟨rfl, HB.out.trans (HBD.out.mono HB.out.size)⟩
    | true =>
      have hn16 := hp1 rfl
      have HRB := Lib.hid (hrb rfl)
      have HRO := Lib.hid (fun h => hro rfl h)
      clear hrb hro hp1
      by_cases hn6 : n = 6
      · subst hn6
        go_wp2_with (first
        | (go_at_call 5; (with_reducible refine (PRP.out _ (TBW.out.below HBD.out) (SPW.out.below HBD.out)).mono ?_); rintro e w2 ⟨Ay, gy, cy, Ty, rfl, hc, hb⟩; have VY := Lib.hid hc; clear hc; have HBn := Lib.hid (Below.trans (show Below wd.heap.size wd _ from (by repeat (with_reducible first | exact HBD.out | apply Below.drew | refine Below.alloc ?_ (by have := HBD.out.size; first | omega | (simp; done) | (simp; omega)) _))) (hb.mono (by have := HBD.out.size; first | omega | (simp; done) | (simp; omega)))); clear HBD hb; have HBD := HBn; clear HBn)
        | (go_at_call 7; (with_reducible refine (PRS.out _ (TBW.out.below HBD.out) (SPW.out.below HBD.out)).mono ?_); rintro e w3 ⟨gs, cs, Ts, rfl, hc, hb⟩; have VYn := Lib.hid (VY.out.below hb); clear VY; have VY := VYn; clear VYn; have VS := Lib.hid hc.rws; clear hc; have HBn := Lib.hid (Below.trans (show Below wd.heap.size wd _ from (by repeat (with_reducible first | exact HBD.out | apply Below.drew | refine Below.alloc ?_ (by have := HBD.out.size; first | omega | (simp; done) | (simp; omega)) _))) (hb.mono (by have := HBD.out.size; first | omega | (simp; done) | (simp; omega)))); clear HBD hb; have HBD := HBn; clear HBn)
        | (go_at_call 6; (with_reducible refine (sameRowsL Ay (some ⟨gs, 0, none⟩) gy gs 0 0 cy cs rs rs _ VY.out.rws VS.out OXH.out OXH.out).mono ?_); rintro e w4 ⟨rfl, hb⟩; rw [decide_eq_true (rfl : rs = rs)]; have VYn := Lib.hid (VY.out.below hb); clear VY VS; have VY := VYn; clear VYn; have HBn := Lib.hid (Below.trans (show Below wd.heap.size wd _ from (by repeat (with_reducible first | exact HBD.out | apply Below.drew | refine Below.alloc ?_ (by have := HBD.out.size; first | omega | (simp; done) | (simp; omega)) _))) (hb.mono (by have := HBD.out.size; first | omega | (simp; done) | (simp; omega)))); clear HBD hb; have HBD := HBn; clear HBn)
        | (go_at_call 8; (with_reducible refine (PI.out _ (TBW.out.below HBD.out) (SPW.out.below HBD.out)).mono ?_); rintro e w5 ⟨rfl, hb⟩; have VYn := Lib.hid (VY.out.below hb); clear VY; have VY := VYn; clear VYn; have HBn := Lib.hid (Below.trans (show Below wd.heap.size wd _ from (by repeat (with_reducible first | exact HBD.out | apply Below.drew | refine Below.alloc ?_ (by have := HBD.out.size; first | omega | (simp; done) | (simp; omega)) _))) (hb.mono (by have := HBD.out.size; first | omega | (simp; done) | (simp; omega)))); clear HBD hb; have HBD := HBn; clear HBn)
        | (go_at_call 9; (with_reducible refine (alive _).mono ?_); rintro e w10 ⟨rfl, hb⟩; have HBn := Lib.hid (Below.trans (show Below wd.heap.size wd _ from (by repeat (with_reducible first | exact HBD.out | apply Below.drew | refine Below.alloc ?_ (by have := HBD.out.size; first | omega | (simp; done) | (simp; omega)) _))) (hb.mono (by have := HBD.out.size; first | omega | (simp; done) | (simp; omega)))); clear HBD hb; have HBD := HBn; clear HBn))
        all_goals go_ret
        all_goals exact ⟨rfl, HB.out.trans (HBD.out.mono HB.out.size)⟩
      · have hn6i : ¬ ((n : Int) = 6) := by omega
        have hro1 := HRO.out (by omega)
        subst hro1
        go_upto_region 10 with (first
        | (go_at_call 5; (with_reducible refine (PRP.out _ (TBW.out.below HBD.out) (SPW.out.below HBD.out)).mono ?_); rintro e w2 ⟨Ay, gy, cy, Ty, rfl, hc, hb⟩; have VY := Lib.hid hc; clear hc; have HBn := Lib.hid (Below.trans (show Below wd.heap.size wd _ from (by repeat (with_reducible first | exact HBD.out | apply Below.drew | refine Below.alloc ?_ (by have := HBD.out.size; first | omega | (simp; done) | (simp; omega)) _))) (hb.mono (by have := HBD.out.size; first | omega | (simp; done) | (simp; omega)))); clear HBD hb; have HBD := HBn; clear HBn)
        | (go_at_call 7; (with_reducible refine (PRS.out _ (TBW.out.below HBD.out) (SPW.out.below HBD.out)).mono ?_); rintro e w3 ⟨gs, cs, Ts, rfl, hc, hb⟩; have VYn := Lib.hid (VY.out.below hb); clear VY; have VY := VYn; clear VYn; have VS := Lib.hid hc.rws; clear hc; have HBn := Lib.hid (Below.trans (show Below wd.heap.size wd _ from (by repeat (with_reducible first | exact HBD.out | apply Below.drew | refine Below.alloc ?_ (by have := HBD.out.size; first | omega | (simp; done) | (simp; omega)) _))) (hb.mono (by have := HBD.out.size; first | omega | (simp; done) | (simp; omega)))); clear HBD hb; have HBD := HBn; clear HBn)
        | (go_at_call 6; (with_reducible refine (sameRowsL Ay (some ⟨gs, 0, none⟩) gy gs 0 0 cy cs rs rs _ VY.out.rws VS.out OXH.out OXH.out).mono ?_); rintro e w4 ⟨rfl, hb⟩; rw [decide_eq_true (rfl : rs = rs)]; have VYn := Lib.hid (VY.out.below hb); clear VY VS; have VY := VYn; clear VYn; have HBn := Lib.hid (Below.trans (show Below wd.heap.size wd _ from (by repeat (with_reducible first | exact HBD.out | apply Below.drew | refine Below.alloc ?_ (by have := HBD.out.size; first | omega | (simp; done) | (simp; omega)) _))) (hb.mono (by have := HBD.out.size; first | omega | (simp; done) | (simp; omega)))); clear HBD hb; have HBD := HBn; clear HBn)
        | (go_at_call 8; (with_reducible refine (PI.out _ (TBW.out.below HBD.out) (SPW.out.below HBD.out)).mono ?_); rintro e w5 ⟨rfl, hb⟩; have VYn := Lib.hid (VY.out.below hb); clear VY; have VY := VYn; clear VYn; have HBn := Lib.hid (Below.trans (show Below wd.heap.size wd _ from (by repeat (with_reducible first | exact HBD.out | apply Below.drew | refine Below.alloc ?_ (by have := HBD.out.size; first | omega | (simp; done) | (simp; omega)) _))) (hb.mono (by have := HBD.out.size; first | omega | (simp; done) | (simp; omega)))); clear HBD hb; have HBD := HBn; clear HBn))
        have HZ := HBD.out.size
        have CELn := Lib.hid (fun W (hb : Below w5.heap.size w5 W) (k j : Nat) (u : Value) (hj : ((L.take k).flatMap fun p => p.2)[j]? = some u) => CEL.out W (HBD.out.trans (hb.mono HBD.out.size)) k j u hj)
        have LXn := Lib.hid (fun W (hb : Below w5.heap.size w5 W) (k : Nat) p (hp : p ∈ L.take k) => LX.out W (HBD.out.trans (hb.mono HBD.out.size)) k p hp)
        have TBn := Lib.hid (TBW.out.below HBD.out)
        have SPn := Lib.hid (SPW.out.below HBD.out)
        have HBw := Lib.hid (HB.out.trans (HBD.out.mono HB.out.size))
        clear CEL LX TBW SPW HB HBD HZ
        have CEL := CELn
        have LX := LXn
        have TBW := TBn
        have SPW := SPn
        have HB := HBw
        clear CELn LXn TBn SPn HBw
        have HBD := Lib.hid (Below.refl w5.heap.size w5)
        obtain ⟨wd, rfl⟩ : ∃ x, x = w5 := ⟨_, rfl⟩
        go_upto_region 11 with (first
        | (at_builtin; refine wpList_append_block _ rfl (.tmp 39) (.tmp 40) 24 rfl wd.heap.size 35 i0 (.agg #[.int .i64 0, .int .i64 0, .int .i64 0, .int .i64 0, .slice none 0 0, .slice none 0 0]) 6 80 Tryz.underlying24 hi iz0 iz1 iz2 rfl (by decide) wd.heap.size 0 0 [] rfl (own_empty3 35 6 rfl (Nat.le_refl _)) ⟨gp, 0, none⟩ n cp ((L.take n).flatMap fun p => p.2) rfl (LC.out n (Nat.le_refl _)) (CEL.out _ (HBD.out.alloc HBD.out.size _) n) (LO.out n) (by unfold maxLen; omega) (by omega) (by simp) ?_; intro g3 c3 w3 hown hgr hgg; (try simp only [Nat.zero_add, List.nil_append] at hown ⊢); have HB3 := Lib.hid (Below.grown (HBD.out.alloc HBD.out.size (.cells #[] 35)) hgr (by have := HBD.out.size; first | omega | (simp; done) | (simp; omega)) (fun k hk => by obtain rfl := Option.some.inj hk; exact HBD.out.size)); have OW3 := Lib.hid hown; have hlo3 := (hown.lt g3 rfl).1; clear hown hgr hgg)
        | (at_builtin; refine wpList_append_block _ rfl (.tmp 41) (.tmp 44) 24 rfl wd.heap.size 35 i0 (.agg #[.int .i64 0, .int .i64 0, .int .i64 0, .int .i64 0, .slice none 0 0, .slice none 0 0]) 6 80 Tryz.underlying24 hi iz0 iz1 iz2 rfl (by decide) g3 n c3 ((L.take n).flatMap fun p => p.2) rfl (OW3.out.alloc _) _ 1 1 [.int .i64 6, .int .i64 ((n : Int) - 1), .int .i64 0, .int .i64 0, .slice none 0 0, .slice none 0 0] rfl rfl (news_new (by first | rfl | simp)) (by simp [Value.oneCell']) (by unfold maxLen; omega) (by omega) (by have := (OW3.out.lt g3 rfl).2; first | omega | (simp; omega)) ?_; intro gO cO wO hown hgr hgg; have HB4 := Lib.hid (Below.grown (HB3.out.alloc HB3.out.size (.cells #[.int .i64 6, .int .i64 ((n : Int) - 1), .int .i64 0, .int .i64 0, .slice none 0 0, .slice none 0 0] 35)) hgr (by have := HB3.out.size; simp; omega) (fun k hk => by obtain rfl := Option.some.inj hk; have := HBD.out.size; omega)); have SPO := Lib.hid (sps_own (L := L.take n ++ [((6, ((n : Int) - 1), 0, 0, [], []), [.int .i64 6, .int .i64 ((n : Int) - 1), .int .i64 0, .int .i64 0, .slice none 0 0, .slice none 0 0])]) (ps := ps ++ [onceS ps]) (fun p hp => by
            rcases List.mem_append.1 hp with hp | hp
            · exact LX.out _ HB4.out n p hp
            · simp only [List.mem_cons, List.not_mem_nil, or_false] at hp
              rcases hp with rfl
              · exact cellsX_bare _ _ _ _) (by rw [List.map_append, LM.out, ← HN.out, List.take_length]; rfl) (by rw [List.flatMap_append]; exact hown)); clear hown hgr hgg HBD OW3; have HBD := HB4; clear HB4 HB3))
        have VYn := Lib.hid (VY.out.below HBD.out)
        clear VY
        have VY := VYn
        clear VYn
        have HZ := HBD.out.size
        have CELn := Lib.hid (fun W (hb : Below wO.heap.size wO W) (k j : Nat) (u : Value) (hj : ((L.take k).flatMap fun p => p.2)[j]? = some u) => CEL.out W (HBD.out.trans (hb.mono HBD.out.size)) k j u hj)
        have LXn := Lib.hid (fun W (hb : Below wO.heap.size wO W) (k : Nat) p (hp : p ∈ L.take k) => LX.out W (HBD.out.trans (hb.mono HBD.out.size)) k p hp)
        have TBn := Lib.hid (TBW.out.below HBD.out)
        have SPn := Lib.hid (SPW.out.below HBD.out)
        have HBw := Lib.hid (HB.out.trans (HBD.out.mono HB.out.size))
        clear CEL LX TBW SPW HB HBD HZ
        have CEL := CELn
        have LX := LXn
        have TBW := TBn
        have SPW := SPn
        have HB := HBw
        clear CELn LXn TBn SPn HBw
        have HBD := Lib.hid (Below.refl wO.heap.size wO)
        obtain ⟨wd, rfl⟩ : ∃ x, x = wO := ⟨_, rfl⟩
        go_upto_region 12 with (first
        | (at_builtin; refine wpList_append_block _ rfl (.tmp 46) (.tmp 47) 24 rfl wd.heap.size 35 i0 (.agg #[.int .i64 0, .int .i64 0, .int .i64 0, .int .i64 0, .slice none 0 0, .slice none 0 0]) 6 80 Tryz.underlying24 hi iz0 iz1 iz2 rfl (by decide) wd.heap.size 0 0 [] rfl (own_empty3 35 6 rfl (Nat.le_refl _)) ⟨gp, 0, none⟩ n cp ((L.take n).flatMap fun p => p.2) rfl (LC.out n (Nat.le_refl _)) (CEL.out _ (HBD.out.alloc HBD.out.size _) n) (LO.out n) (by unfold maxLen; omega) (by omega) (by simp) ?_; intro g3 c3 w3 hown hgr hgg; (try simp only [Nat.zero_add, List.nil_append] at hown ⊢); have HB3 := Lib.hid (Below.grown (HBD.out.alloc HBD.out.size (.cells #[] 35)) hgr (by have := HBD.out.size; first | omega | (simp; done) | (simp; omega)) (fun k hk => by obtain rfl := Option.some.inj hk; exact HBD.out.size)); have OW3 := Lib.hid hown; have hlo3 := (hown.lt g3 rfl).1; clear hown hgr hgg)
        | (at_builtin; refine wpList_append_block _ rfl (.tmp 48) (.tmp 52) 24 rfl wd.heap.size 35 i0 (.agg #[.int .i64 0, .int .i64 0, .int .i64 0, .int .i64 0, .slice none 0 0, .slice none 0 0]) 6 80 Tryz.underlying24 hi iz0 iz1 iz2 rfl (by decide) g3 n c3 ((L.take n).flatMap fun p => p.2) rfl (OW3.out.alloc _) _ 1 1 [.int .i64 5, .int .i64 ((n : Int) - 1), .int .i64 ((n : Int) - 1), .int .i64 0, .slice none 0 0, .slice none 0 0] rfl rfl (news_new (by first | rfl | simp)) (by simp [Value.oneCell']) (by unfold maxLen; omega) (by omega) (by have := (OW3.out.lt g3 rfl).2; first | omega | (simp; omega)) ?_; intro gB cB wB hown hgr hgg; have HB4 := Lib.hid (Below.grown (HB3.out.alloc HB3.out.size (.cells #[.int .i64 5, .int .i64 ((n : Int) - 1), .int .i64 ((n : Int) - 1), .int .i64 0, .slice none 0 0, .slice none 0 0] 35)) hgr (by have := HB3.out.size; simp; omega) (fun k hk => by obtain rfl := Option.some.inj hk; have := HBD.out.size; omega)); have SPB := Lib.hid (sps_own (L := L.take n ++ [((5, ((n : Int) - 1), ((n : Int) - 1), 0, [], []), [.int .i64 5, .int .i64 ((n : Int) - 1), .int .i64 ((n : Int) - 1), .int .i64 0, .slice none 0 0, .slice none 0 0])]) (ps := ps ++ [bothS ps]) (fun p hp => by
            rcases List.mem_append.1 hp with hp | hp
            · exact LX.out _ HB4.out n p hp
            · simp only [List.mem_cons, List.not_mem_nil, or_false] at hp
              rcases hp with rfl
              · exact cellsX_bare _ _ _ _) (by rw [List.map_append, LM.out, ← HN.out, List.take_length]; rfl) (by rw [List.flatMap_append]; exact hown)); clear hown hgr hgg HBD OW3; have HBD := HB4; clear HB4 HB3))
        have VYn := Lib.hid (VY.out.below HBD.out)
        have SPOn := Lib.hid (SPO.out.below HBD.out)
        clear VY SPO CEL LX LM LC LO SPW
        have VY := VYn
        have SPO := SPOn
        clear VYn SPOn
        have TBn := Lib.hid (TBW.out.below HBD.out)
        have HBw := Lib.hid (HB.out.trans (HBD.out.mono HB.out.size))
        clear TBW HB HBD
        have TBW := TBn
        have HB := HBw
        clear TBn HBw
        obtain ⟨wd, rfl⟩ : ∃ x, x = wB := ⟨_, rfl⟩
        have HBD := Lib.hid (Below.refl wd.heap.size wd)
        have NY := Lib.hid VY.out.nice
        have hcy := VY.out.caps.1
        cases ob with
        | false =>
          go_wp2_with (first
        | (go_at_call 5; (with_reducible refine (PRO.out _ gO cO (TBW.out.below HBD.out) (SPO.out.below HBD.out)).mono ?_); rintro e w6 ⟨Ax, gx, cx, Tx, rfl, hc, hb⟩; have VX := Lib.hid hc.rws; clear hc; have VYn := Lib.hid (VY.out.below hb); clear VY; have VY := VYn; clear VYn; have HBn := Lib.hid (Below.trans (show Below wd.heap.size wd _ from (by repeat (with_reducible first | exact HBD.out | apply Below.drew | refine Below.alloc ?_ (by have := HBD.out.size; first | omega | (simp; done) | (simp; omega)) _))) (hb.mono (by have := HBD.out.size; first | omega | (simp; done) | (simp; omega)))); clear HBD hb; have HBD := HBn; clear HBn)
        | (go_at_call 10; (with_reducible refine (rowsOnceI Ay gy 0 cy rs _ VY.out.rws OXH.out).mono ?_); rintro e w7 ⟨gz, cz, Tz, rfl, hc, hb⟩; have VXn := Lib.hid (VX.out.below hb); clear VX; have VX := VXn; clear VXn; have VYn := Lib.hid (VY.out.below hb); clear VY; have VY := VYn; clear VYn; have VZ := Lib.hid hc.rws; clear hc; have HBn := Lib.hid (Below.trans (show Below wd.heap.size wd _ from (by repeat (with_reducible first | exact HBD.out | apply Below.drew | refine Below.alloc ?_ (by have := HBD.out.size; first | omega | (simp; done) | (simp; omega)) _))) (hb.mono (by have := HBD.out.size; first | omega | (simp; done) | (simp; omega)))); clear HBD hb; have HBD := HBn; clear HBn)
        | (go_at_call 6; (with_reducible refine (sameRowsL Ax (some ⟨gz, 0, none⟩) gx gz 0 0 cx cz (onceI rs) (onceI rs) _ VX.out VZ.out OXO.out OXO.out).mono ?_); rintro e w8 ⟨rfl, hb⟩; rw [decide_eq_true (rfl : onceI rs = onceI rs)]; have VYn := Lib.hid (VY.out.below hb); clear VY; have VY := VYn; clear VYn; clear VX VZ; have HBn := Lib.hid (Below.trans (show Below wd.heap.size wd _ from (by repeat (with_reducible first | exact HBD.out | apply Below.drew | refine Below.alloc ?_ (by have := HBD.out.size; first | omega | (simp; done) | (simp; omega)) _))) (hb.mono (by have := HBD.out.size; first | omega | (simp; done) | (simp; omega)))); clear HBD hb; have HBD := HBn; clear HBn)
        | (go_at_call 8; (with_reducible refine (POB.out _ gB cB (TBW.out.below HBD.out) (SPB.out.below HBD.out)).mono ?_); rintro e w9 ⟨rfl, hb⟩; have VYn := Lib.hid (VY.out.below hb); clear VY; have VY := VYn; clear VYn; have HBn := Lib.hid (Below.trans (show Below wd.heap.size wd _ from (by repeat (with_reducible first | exact HBD.out | apply Below.drew | refine Below.alloc ?_ (by have := HBD.out.size; first | omega | (simp; done) | (simp; omega)) _))) (hb.mono (by have := HBD.out.size; first | omega | (simp; done) | (simp; omega)))); clear HBD hb; have HBD := HBn; clear HBn)
        | (go_at_call 9; (with_reducible refine (alive _).mono ?_); rintro e w10 ⟨rfl, hb⟩; have HBn := Lib.hid (Below.trans (show Below wd.heap.size wd _ from (by repeat (with_reducible first | exact HBD.out | apply Below.drew | refine Below.alloc ?_ (by have := HBD.out.size; first | omega | (simp; done) | (simp; omega)) _))) (hb.mono (by have := HBD.out.size; first | omega | (simp; done) | (simp; omega)))); clear HBD hb; have HBD := HBn; clear HBn))
          all_goals go_ret
          all_goals exact ⟨rfl, HB.out.trans (HBD.out.mono HB.out.size)⟩
        | true =>
          have hrb1 : rb = rs ++ rs := by first | exact HRB.out rfl | exact HRB.out trivial
          subst hrb1
          have SRR := Lib.hid (fun W A B g gz c cz h1 h2 => (by have h := sameRowsL A B g gz 0 0 c cz (rs ++ rs) (rs ++ rs) W h1 h2 OXB.out OXB.out; rw [List.length_append, decide_eq_true (rfl : rs ++ rs = rs ++ rs)] at h; exact h : Calls _ _ _ _ _))
          go_wp2_with (first
        | (go_at_call 5; (with_reducible refine (PRO.out _ gO cO (TBW.out.below HBD.out) (SPO.out.below HBD.out)).mono ?_); rintro e w6 ⟨Ax, gx, cx, Tx, rfl, hc, hb⟩; have VX := Lib.hid hc.rws; clear hc; have VYn := Lib.hid (VY.out.below hb); clear VY; have VY := VYn; clear VYn; have HBn := Lib.hid (Below.trans (show Below wd.heap.size wd _ from (by repeat (with_reducible first | exact HBD.out | apply Below.drew | refine Below.alloc ?_ (by have := HBD.out.size; first | omega | (simp; done) | (simp; omega)) _))) (hb.mono (by have := HBD.out.size; first | omega | (simp; done) | (simp; omega)))); clear HBD hb; have HBD := HBn; clear HBn)
        | (go_at_call 10; (with_reducible refine (rowsOnceI Ay gy 0 cy rs _ VY.out.rws OXH.out).mono ?_); rintro e w7 ⟨gz, cz, Tz, rfl, hc, hb⟩; have VXn := Lib.hid (VX.out.below hb); clear VX; have VX := VXn; clear VXn; have VYn := Lib.hid (VY.out.below hb); clear VY; have VY := VYn; clear VYn; have VZ := Lib.hid hc.rws; clear hc; have HBn := Lib.hid (Below.trans (show Below wd.heap.size wd _ from (by repeat (with_reducible first | exact HBD.out | apply Below.drew | refine Below.alloc ?_ (by have := HBD.out.size; first | omega | (simp; done) | (simp; omega)) _))) (hb.mono (by have := HBD.out.size; first | omega | (simp; done) | (simp; omega)))); clear HBD hb; have HBD := HBn; clear HBn)
        | (go_at_call 6; (with_reducible refine (sameRowsL Ax (some ⟨gz, 0, none⟩) gx gz 0 0 cx cz (onceI rs) (onceI rs) _ VX.out VZ.out OXO.out OXO.out).mono ?_); rintro e w8 ⟨rfl, hb⟩; rw [decide_eq_true (rfl : onceI rs = onceI rs)]; have VYn := Lib.hid (VY.out.below hb); clear VY; have VY := VYn; clear VYn; clear VX VZ; have HBn := Lib.hid (Below.trans (show Below wd.heap.size wd _ from (by repeat (with_reducible first | exact HBD.out | apply Below.drew | refine Below.alloc ?_ (by have := HBD.out.size; first | omega | (simp; done) | (simp; omega)) _))) (hb.mono (by have := HBD.out.size; first | omega | (simp; done) | (simp; omega)))); clear HBD hb; have HBD := HBn; clear HBn)
        | (go_at_call 8; (with_reducible refine (POB.out _ gB cB (TBW.out.below HBD.out) (SPB.out.below HBD.out)).mono ?_); rintro e w9 ⟨rfl, hb⟩; have VYn := Lib.hid (VY.out.below hb); clear VY; have VY := VYn; clear VYn; have HBn := Lib.hid (Below.trans (show Below wd.heap.size wd _ from (by repeat (with_reducible first | exact HBD.out | apply Below.drew | refine Below.alloc ?_ (by have := HBD.out.size; first | omega | (simp; done) | (simp; omega)) _))) (hb.mono (by have := HBD.out.size; first | omega | (simp; done) | (simp; omega)))); clear HBD hb; have HBD := HBn; clear HBn)
        | (go_at_call 5; (with_reducible refine (PRB.out _ gB cB (TBW.out.below HBD.out) (SPB.out.below HBD.out)).mono ?_); rintro e wa ⟨Av, gv, cv, Tv, rfl, hc, hb⟩; have VV := Lib.hid hc.rws; clear hc; have VYn := Lib.hid (VY.out.below hb); clear VY; have VY := VYn; clear VYn; have HBn := Lib.hid (Below.trans (show Below wd.heap.size wd _ from (by repeat (with_reducible first | exact HBD.out | apply Below.drew | refine Below.alloc ?_ (by have := HBD.out.size; first | omega | (simp; done) | (simp; omega)) _))) (hb.mono (by have := HBD.out.size; first | omega | (simp; done) | (simp; omega)))); clear HBD hb; have HBD := HBn; clear HBn)
        | (go_at_call 11; (with_reducible refine (joinedL Ay Ay gy gy 0 0 cy cy rs rs _ VY.out.rws VY.out.rws NY.out NY.out hcy hcy (by omega) (by omega)).mono ?_); rintro e wb ⟨g9, c9, rfl, hjr, hjl, hjc, hb⟩; have VVn := Lib.hid (VV.out.below hb); clear VV; have VV := VVn; clear VVn; have VJ := Lib.hid hjr; clear hjr hjl hjc; have HBn := Lib.hid (Below.trans (show Below wd.heap.size wd _ from (by repeat (with_reducible first | exact HBD.out | apply Below.drew | refine Below.alloc ?_ (by have := HBD.out.size; first | omega | (simp; done) | (simp; omega)) _))) (hb.mono (by have := HBD.out.size; first | omega | (simp; done) | (simp; omega)))); clear HBD hb; have HBD := HBn; clear HBn)
        | (go_at_call 6; (with_reducible refine (SRR.out _ Av (some ⟨g9, 0, none⟩) gv g9 cv c9 VV.out VJ.out).mono ?_); rintro e wc ⟨rfl, hb⟩; have HBn := Lib.hid (Below.trans (show Below wd.heap.size wd _ from (by repeat (with_reducible first | exact HBD.out | apply Below.drew | refine Below.alloc ?_ (by have := HBD.out.size; first | omega | (simp; done) | (simp; omega)) _))) (hb.mono (by have := HBD.out.size; first | omega | (simp; done) | (simp; omega)))); clear HBD hb; have HBD := HBn; clear HBn)
        | (go_at_call 9; (with_reducible refine (alive _).mono ?_); rintro e w10 ⟨rfl, hb⟩; have HBn := Lib.hid (Below.trans (show Below wd.heap.size wd _ from (by repeat (with_reducible first | exact HBD.out | apply Below.drew | refine Below.alloc ?_ (by have := HBD.out.size; first | omega | (simp; done) | (simp; omega)) _))) (hb.mono (by have := HBD.out.size; first | omega | (simp; done) | (simp; omega)))); clear HBD hb; have HBD := HBn; clear HBn))
          all_goals go_ret
          all_goals exact ⟨rfl, HB.out.trans (HBD.out.mono HB.out.size)⟩
end Go.Proofs.YtacinjbaebimhaaGreat.Val
