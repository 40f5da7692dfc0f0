/- The walk of the law FnPlanOk. -/
import Derived.Test.YtacinjbaebimhaaStpNQ
import Derived.Test.YtacinjbaebimhaaDrawAsQ
import Derived.Test.YtacinjbaebimhaaAliveQ
namespace Go.Proofs.Ytacinjbaebimhaa.Val
open Go.RowKit
set_option linter.unusedSimpArgs false
set_option linter.unusedVariables false
set_option maxRecDepth 20000
set_option maxHeartbeats 8000000 in
theorem walk_FnPlanOk (a : Option Addr) (len cap : Nat) (zs : List Int) (w : World) (h : IsRow .u8 w a len cap zs) :
    Calls Try.prog 3 #[.slice a len cap] w fun e w' => e = .returned (.bool true) ∧ Below w.heap.size w w' := by
  by_cases hl : 1048576 < len
  · clear h
    go_enter Try.func3, Try.ntmps3
    go_wp2
    go_ret
    exact ⟨rfl, Below.refl _ _⟩
  · have HI := Lib.hid h
    clear h
    obtain ⟨i0, hi, iz0, iz1, iz2⟩ := info_parts infoST
    go_enter Try.func3, Try.ntmps3
    go_wp2_with (go_at_call 11; (with_reducible refine (drawPlanOk _ _ _ zs _ HI.out).mono ?_); rintro e wd ⟨gt, ct, gp, cp, ts, ps, rfl, htb, hok, hts, hct, hsp, hsf, hpl, hcp, hbd⟩; have TBW := Lib.hid htb; have OKT := Lib.hid hok; have SPW := Lib.hid hsp; have SF := Lib.hid hsf; have HB := Lib.hid hbd; clear htb hok hsp hsf hbd)
    have OKS := Lib.hid (okS_fit (by omega) SF.out)
    obtain ⟨L, hL1, hL2, hL3⟩ := SPW.out.cells
    have LL : L.length = ps.length := by rw [← hL1, List.length_map]
    have CEL := Lib.hid (fun W (hb : Below wd.heap.size wd W) (k j : Nat) (u : Value) (hj : ((L.take k).flatMap fun p => p.2)[j]? = some u) => (by
      have h1 : (L.flatMap fun p => p.2)[j]? = some u := by
        conv => lhs; rw [← List.take_append_drop k L, List.flatMap_append]
        rw [List.getElem?_append_left (List.getElem?_eq_some_iff.1 hj).1]
        exact hj
      rw [addNone, Nat.zero_add]
      have h2 := hL3 j u h1
      rw [Nat.zero_add] at h2
      exact (hb.cell (p := ⟨gp, j, none⟩) (World.block_lt_of_cell? wd ⟨gp, j, none⟩ h2)).trans h2 : W.cell? ((⟨gp, 0, none⟩ : Addr).add j) = some u))
    have LX := Lib.hid (fun W (hb : Below wd.heap.size wd W) (k : Nat) p (hp : p ∈ L.take k) => (hL2 p (List.mem_of_mem_take hp)).below hb)
    have LM := Lib.hid (fun (k : Nat) => (by rw [List.map_take, hL1] : (L.take k).map (fun p => p.1) = ps.take k))
    have LC := Lib.hid (fun (k : Nat) (hk : k ≤ ps.length) => (by rw [stepsX_len (W := wd) (L := L.take k) (fun p hp => hL2 p (List.mem_of_mem_take hp)), List.length_take, LL, Nat.min_eq_left hk] : ((L.take k).flatMap fun p => p.2).length = k * 6))
    have LO := Lib.hid (fun (k : Nat) => stepsX_one (W := wd) (L := L.take k) (fun p hp => hL2 p (List.mem_of_mem_take hp)))
    have LT : L.take ps.length = L := List.take_of_length_le (by rw [LL]; exact Nat.le_refl _)
    have LTH := Lib.hid LT
    clear hL1 hL2 hL3 LL LT
    have PI := Lib.hid (fun W h1 h2 => planOkI (some ⟨gt, 0, none⟩) (some ⟨gp, 0, none⟩) gt 0 ct gp 0 cp ts ps W h1 OKT.out h2 OKS.out)
    have PS := Lib.hid (fun W h1 h2 => planOkS (some ⟨gt, 0, none⟩) (some ⟨gp, 0, none⟩) gt 0 ct gp 0 cp ts ps W h1 OKT.out h2 OKS.out)
    have PK := Lib.hid (fun W X cX k (hk : k ≤ ps.length) h1 h2 => (by have h3 := planOkI (some ⟨gt, 0, none⟩) (some ⟨X, 0, none⟩) gt 0 ct X 0 cX ts (ps.take k) W h1 OKT.out h2 (OKS.out.take k); rw [List.length_take, Nat.min_eq_left hk] at h3; exact h3 : Calls _ _ _ _ _))
    have OKO : OkS (ps ++ [onceS ps]) := okS_fit (by rw [List.length_append, List.length_singleton]; omega) (fits_app SF.out (stepFit_bare _ _ _ _))
    have PO := Lib.hid (fun W X cX h1 h2 => (by have h3 := planOkI (some ⟨gt, 0, none⟩) (some ⟨X, 0, none⟩) gt 0 ct X 0 cX ts (ps ++ [onceS ps]) W h1 OKT.out h2 OKO; rw [List.length_append, List.length_singleton] at h3; exact h3 : Calls _ _ _ _ _))
    have MT := Lib.hid (fun (h : planB ts ps = true) (k : Nat) (h1 : 1 ≤ k) (hk : k ≤ ps.length) => planB_take h k h1 hk)
    have MO := Lib.hid (fun (h : planB ts ps = true) (h6 : ps.length < 6) => planB_once h h6)
    have M1 := Lib.hid (fun (h : planB ts ps = true) => (planB_iff.1 h).2.2.1)
    clear OKO
    obtain ⟨ok, hok⟩ : ∃ b, planB ts ps = b := ⟨_, rfl⟩
    rw [hok] at PI PS
    obtain ⟨n, hn⟩ : ∃ n, ps.length = n := ⟨_, rfl⟩
    have HN := Lib.hid hn
    rw [hn] at hpl hcp PI PS PK PO LC MT MO M1 LTH ⊢
    clear hn
    have HBD := Lib.hid (Below.refl wd.heap.size wd)
    cases ok with
    | false =>
      go_wp2_with (first
        | (go_at_call 12; (with_reducible refine (PI.out _ (TBW.out.below HBD.out) (SPW.out.below HBD.out)).mono ?_); rintro e w1 ⟨rfl, hb⟩; have HBn := Lib.hid (Below.trans (show Below wd.heap.size wd _ from (by repeat (with_reducible first | exact HBD.out | apply Below.drew | refine Below.alloc ?_ (by have := HBD.out.size; first | omega | (simp; done) | (simp; omega)) _))) (hb.mono (by have := HBD.out.size; first | omega | (simp; done) | (simp; omega)))); clear HBD hb; have HBD := HBn; clear HBn)
        | (go_at_call 13; (with_reducible refine (PS.out _ (TBW.out.below HBD.out) (SPW.out.below HBD.out)).mono ?_); rintro e w1 ⟨rfl, hb⟩; have HBn := Lib.hid (Below.trans (show Below wd.heap.size wd _ from (by repeat (with_reducible first | exact HBD.out | apply Below.drew | refine Below.alloc ?_ (by have := HBD.out.size; first | omega | (simp; done) | (simp; omega)) _))) (hb.mono (by have := HBD.out.size; first | omega | (simp; done) | (simp; omega)))); clear HBD hb; have HBD := HBn; clear HBn)
        | (go_at_call 14; (with_reducible refine (alive _).mono ?_); rintro e w1 ⟨rfl, hb⟩; have HBn := Lib.hid (Below.trans (show Below wd.heap.size wd _ from (by repeat (with_reducible first | exact HBD.out | apply Below.drew | refine Below.alloc ?_ (by have := HBD.out.size; first | omega | (simp; done) | (simp; omega)) _))) (hb.mono (by have := HBD.out.size; first | omega | (simp; done) | (simp; omega)))); clear HBD hb; have HBD := HBn; clear HBn))
      go_ret
      exact ⟨rfl, HB.out.trans (HBD.out.mono HB.out.size)⟩
    | true =>
      have hn1 := M1.out hok
      go_wp2_with (first
        | (go_at_call 12; (with_reducible refine (PI.out _ (TBW.out.below HBD.out) (SPW.out.below HBD.out)).mono ?_); rintro e w1 ⟨rfl, hb⟩; have HBn := Lib.hid (Below.trans (show Below wd.heap.size wd _ from (by repeat (with_reducible first | exact HBD.out | apply Below.drew | refine Below.alloc ?_ (by have := HBD.out.size; first | omega | (simp; done) | (simp; omega)) _))) (hb.mono (by have := HBD.out.size; first | omega | (simp; done) | (simp; omega)))); clear HBD hb; have HBD := HBn; clear HBn)
        | (go_at_call 13; (with_reducible refine (PS.out _ (TBW.out.below HBD.out) (SPW.out.below HBD.out)).mono ?_); rintro e w1 ⟨rfl, hb⟩; have HBn := Lib.hid (Below.trans (show Below wd.heap.size wd _ from (by repeat (with_reducible first | exact HBD.out | apply Below.drew | refine Below.alloc ?_ (by have := HBD.out.size; first | omega | (simp; done) | (simp; omega)) _))) (hb.mono (by have := HBD.out.size; first | omega | (simp; done) | (simp; omega)))); clear HBD hb; have HBD := HBn; clear HBn))
      go_loopw [6] (fun kx wr => ∃ (k : Nat), 1 ≤ k ∧ k ≤ n ∧ kx = .int .i64 (k : Int) ∧ Hid (Below wd.heap.size wd wr)) (fun kx _ => n - (intOf kx).toNat)
      case atStart => exact ⟨1, by omega, by omega, rfl, HBD⟩
      case round =>
        clear HBD PI PS
        obtain ⟨k, hk1n, hkn, rfl, HBD⟩ := hrel
        have hzd := HBD.out.size
        by_cases hk : k < n
        · have tp := MT.out hok k hk1n hkn
          have hk0 : (0 : Int) ≤ (k : Int) := by omega
          have hk1 : (k : Int) < (n : Int) := by omega
          have hk2 : (k : Int) ≤ (cp : Int) := by omega
          go_wp2_with (first
            | (at_builtin; refine wpList_append_block _ rfl (.tmp 34) (.tmp 37) 24 rfl wr.heap.size 32 i0 (.agg #[.int .i64 0, .int .i64 0, .int .i64 0, .int .i64 0, .slice none 0 0, .slice none 0 0]) 6 80 Try.underlying24 hi iz0 iz1 iz2 rfl (by decide) wr.heap.size 0 0 [] rfl (own_empty3 32 6 rfl (Nat.le_refl _)) ⟨gp, 0, none⟩ k cp ((L.take k).flatMap fun p => p.2) rfl (LC.out k hkn) (CEL.out _ (HBD.out.alloc hzd _) k) (LO.out k) (by unfold maxLen; omega) (by omega) (by simp) ?_; intro g3 c3 w3 hown hgr hgg; (try simp only [Nat.zero_add, List.nil_append] at hown ⊢); have HB3 := Lib.hid (Below.grown (HBD.out.alloc hzd (.cells #[] 32)) hgr (by have := HBD.out.size; first | omega | (simp; done) | (simp; omega)) (fun k hk => by obtain rfl := Option.some.inj hk; omega)); have SP3 := Lib.hid (sps_own (LX.out _ HB3.out k) (LM.out k) hown); clear hown hgr hgg)
            | (go_at_call 12; (with_reducible refine (PK.out _ g3 c3 k hkn (TBW.out.below HB3.out) SP3.out).mono ?_); rintro e w4 ⟨rfl, hb⟩; rw [tp]; have HB4 := Lib.hid (HB3.out.trans (hb.mono HB3.out.size)); clear hb))
          exact ⟨⟨k + 1, by omega, by omega, by go_num, HB4⟩, by simp [intOf]; omega⟩
        · have hnc : (n : Int) ≤ (cp : Int) := by omega
          go_wp2_with (first
            | (at_builtin; refine wpList_append_block _ rfl (.tmp 41) (.tmp 42) 24 rfl wr.heap.size 32 i0 (.agg #[.int .i64 0, .int .i64 0, .int .i64 0, .int .i64 0, .slice none 0 0, .slice none 0 0]) 6 80 Try.underlying24 hi iz0 iz1 iz2 rfl (by decide) wr.heap.size 0 0 [] rfl (own_empty3 32 6 rfl (Nat.le_refl _)) ⟨gp, 0, none⟩ n cp ((L.take n).flatMap fun p => p.2) rfl (LC.out n (Nat.le_refl _)) (CEL.out _ (HBD.out.alloc hzd _) n) (LO.out n) (by unfold maxLen; omega) (by omega) (by simp) ?_; intro g3 c3 w3 hown hgr hgg; (try simp only [Nat.zero_add, List.nil_append] at hown ⊢); have HB3 := Lib.hid (Below.grown (HBD.out.alloc hzd (.cells #[] 32)) hgr (by have := HBD.out.size; first | omega | (simp; done) | (simp; omega)) (fun k hk => by obtain rfl := Option.some.inj hk; omega)); have OW3 := Lib.hid hown; have hlo3 := (hown.lt g3 rfl).1; clear hown hgr hgg)
            | (at_builtin; refine wpList_append_block _ rfl (.tmp 43) (.tmp 48) 24 rfl wr.heap.size 32 i0 (.agg #[.int .i64 0, .int .i64 0, .int .i64 0, .int .i64 0, .slice none 0 0, .slice none 0 0]) 6 80 Try.underlying24 hi iz0 iz1 iz2 rfl (by decide) g3 n c3 ((L.take n).flatMap fun p => p.2) rfl (OW3.out.alloc _) _ 1 1 [.int .i64 6, .int .i64 ((n : Int) - 1), .int .i64 0, .int .i64 0, .slice none 0 0, .slice none 0 0] rfl rfl (news_new (by first | rfl | simp)) (by simp [Value.oneCell']) (by unfold maxLen; omega) (by omega) (by have := HB3.out.size; have := OW3.out.lt g3 rfl; simp; omega) ?_; intro g4 c4 w4 hown hgr hgg; have HB4 := Lib.hid (Below.grown (HB3.out.alloc HB3.out.size (.cells #[.int .i64 6, .int .i64 ((n : Int) - 1), .int .i64 0, .int .i64 0, .slice none 0 0, .slice none 0 0] 32)) hgr (by have := HB3.out.size; simp; omega) (fun k hk => by obtain rfl := Option.some.inj hk; omega)); have SP4 := Lib.hid (sps_own (L := L.take n ++ [((6, (n : Int) - 1, 0, 0, [], []), [.int .i64 6, .int .i64 ((n : Int) - 1), .int .i64 0, .int .i64 0, .slice none 0 0, .slice none 0 0])]) (ps := ps ++ [onceS ps]) (fun p hp => by rcases List.mem_append.1 hp with hp | hp; exact LX.out _ HB4.out n p hp; obtain rfl := List.mem_singleton.1 hp; exact cellsX_bare _ _ _ _) (by rw [List.map_append, LM.out, ← HN.out, List.take_length]; rfl) (by rw [List.flatMap_append]; exact hown)); clear hown hgr hgg)
            | (go_at_call 12; (with_reducible refine (PO.out _ g4 c4 (TBW.out.below HB4.out) SP4.out).mono ?_); rintro e w5 ⟨rfl, hb⟩; rw [MO.out hok (by omega)]; have HB5 := Lib.hid (HB4.out.trans (hb.mono HB4.out.size)); clear hb))
          · go_ret
            exact ⟨rfl, HB.out.trans (HB4.out.mono HB.out.size)⟩
          · go_ret
            exact ⟨rfl, HB.out.trans (HB5.out.mono HB.out.size)⟩
end Go.Proofs.Ytacinjbaebimhaa.Val
