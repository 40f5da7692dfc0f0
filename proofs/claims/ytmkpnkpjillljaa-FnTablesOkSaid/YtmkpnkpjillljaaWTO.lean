/- The walk of the law FnTablesOk. -/
import Derived.Test.YtmkpnkpjillljaaStpN
import Derived.Test.YtmkpnkpjillljaaAlive
namespace Go.Proofs.Ytmkpnkpjillljaa.Val
open Go.RowKit
set_option linter.unusedSimpArgs false
set_option linter.unusedVariables false
set_option maxRecDepth 20000
theorem drawTablesOk (a : Option Addr) (len cap : Nat) (zs : List Int) (w : World) (h : IsRow .u8 w a len cap zs) : Calls Try.prog 16 #[.slice a len cap] w fun e w' => ∃ (g c : Nat) (ts : List TB), e = .returned (.slice (some ⟨g, 0, none⟩) ts.length c) ∧ Tbs w' g 0 (some ⟨g, 0, none⟩) ts ∧ OkT ts ∧ 1 ≤ ts.length ∧ ts.length ≤ 6 ∧ (ts.length ≤ c ∧ c ≤ maxLen) ∧ Below w.heap.size w w' := by
  have HI := Lib.hid h
  clear h
  go_enter Try.func16, Try.ntmps16
  go_wp2_with (go_at_call 44; (with_reducible refine (l20Open _ _ _ zs _ HI.out).mono ?_); rintro e wo ⟨r, rfl, hr, hb⟩; have HBo := Lib.hid hb; have HR := Lib.hid hr; have hrge := hr.ge; have hrlt := hr.lt; have HO := Lib.hid (Only.refl r wo); clear hb hr)
  have hzo := HBo.out.size
  go_wp2_with (go_at_call 45; (with_reducible refine (l20TablesA 3 (by decide) (by decide) w.heap.size r 0 _ HR.out (by omega)).mono ?_); rintro e w1 ⟨g, c, ts, q, rfl, htb, hok, h1, h6, hcap, hq, ho, hr, -⟩; have TBW := Lib.hid htb; have OKT := Lib.hid hok; have HBB := Lib.hid (HBo.out.trans (ho.below hrge hzo)); clear htb hok ho hr)
  go_ret
  exact ⟨g, c, ts, rfl, TBW.out, OKT.out, h1, h6, hcap, HBB.out⟩
set_option maxHeartbeats 8000000 in
theorem walk_FnTablesOk (a : Option Addr) (len cap : Nat) (zs : List Int) (w : World) (h : IsRow .u8 w a len cap zs) :
    Calls Try.prog 4 #[.slice a len cap] w fun e w' => e = .returned (.bool true) ∧ Below w.heap.size w w' := by
  by_cases hl : 1048576 < len
  · clear h
    go_enter Try.func4, Try.ntmps4
    go_wp2
    go_ret
    exact ⟨rfl, Below.refl _ _⟩
  · have HI := Lib.hid h
    clear h
    obtain ⟨i0, hi, iz0, iz1, iz2⟩ := info_parts infoTW
    go_enter Try.func4, Try.ntmps4
    go_wp2_with (go_at_call 16; (with_reducible refine (drawTablesOk _ _ _ zs _ HI.out).mono ?_); rintro e wd ⟨g, c, ts, rfl, htb, hok, h1, h6, hcap, hbd⟩; have TBW := Lib.hid htb; have HB := Lib.hid hbd; have OKT := Lib.hid hok; clear hbd htb hok)
    have S0 := True.intro
    obtain ⟨L, hL1, hL2, hL3⟩ := TBW.out.cells
    have hgw : g < wd.heap.size := by
      obtain ⟨-, hx, -⟩ := TBW.out.at 0 (by omega)
      exact hx
    have CEL := Lib.hid (fun W (hb : Below wd.heap.size wd W) (k j : Nat) (u : Value) (hj : ((L.take k).flatMap fun p => p.2)[j]? = some u) => (by
      have h1 : (L.flatMap fun p => p.2)[j]? = some u := by
        conv => lhs; rw [← List.take_append_drop k L, List.flatMap_append]
        rw [List.getElem?_append_left (List.getElem?_eq_some_iff.1 hj).1]
        exact hj
      rw [addNone, Nat.zero_add]
      have h2 := hL3 j u h1
      rw [Nat.zero_add] at h2
      exact (hb.cell (p := ⟨g, j, none⟩) hgw).trans h2 : W.cell? ((⟨g, 0, none⟩ : Addr).add j) = some u))
    have LX := Lib.hid (fun W (hb : Below wd.heap.size wd W) (k : Nat) p (hp : p ∈ L.take k) => (hL2 p (List.mem_of_mem_take hp)).below hb)
    have LM := Lib.hid (fun (k : Nat) => (by rw [List.map_take, hL1] : (L.take k).map (fun p => p.1) = ts.take k))
    have LL : L.length = ts.length := by rw [← hL1, List.length_map]
    have LC := Lib.hid (fun (k : Nat) (hk : k ≤ ts.length) => (by rw [tabsX_len (W := wd) (L := L.take k) (fun p hp => hL2 p (List.mem_of_mem_take hp)), List.length_take, LL, Nat.min_eq_left hk] : ((L.take k).flatMap fun p => p.2).length = k * 2))
    have LO := Lib.hid (fun (k : Nat) => tabsX_one (W := wd) (L := L.take k) (fun p hp => hL2 p (List.mem_of_mem_take hp)))
    clear hL1 hL2 hL3 LL
    have TI := Lib.hid (fun W h => tablesOkI (some ⟨g, 0, none⟩) g 0 c ts W h OKT.out)
    have TS := Lib.hid (fun W h => tablesOkS (some ⟨g, 0, none⟩) g 0 c ts W h OKT.out)
    have TK := Lib.hid (fun W X cX k (hk : k ≤ ts.length) h => (by have h2 := tablesOkI (some ⟨X, 0, none⟩) X 0 cX (ts.take k) W h (OKT.out.take k); rw [List.length_take, Nat.min_eq_left hk] at h2; exact h2 : Calls _ _ _ _ _))
    have T0 := Lib.hid (fun W X => tablesOkI (some ⟨X, 0, none⟩) X 0 0 [] W ⟨fun h => absurd h (by simp), fun j hj => absurd hj (by simp)⟩ ⟨by simp, fun t ht => absurd ht (by simp)⟩)
    rw [show tablesB [] = true from rfl, show ([] : List TB).length = 0 from rfl] at T0
    have TP := Lib.hid (fun (k : Nat) (h : tablesB ts = true) => (by
      obtain ⟨h3, ha⟩ := tablesB_iff.1 h
      exact tablesB_iff.2 ⟨by rw [List.length_take]; omega, fun t ht => ha t (List.mem_of_mem_take ht)⟩ : tablesB (ts.take k) = true))
    obtain ⟨ok, hok⟩ : ∃ b, tablesB ts = b := ⟨_, rfl⟩
    rw [hok] at TI TS
    obtain ⟨n, hn⟩ : ∃ n, ts.length = n := ⟨_, rfl⟩
    rw [hn] at h1 h6 hcap TI TS TK LC ⊢
    clear hn
    have HBD := Lib.hid (Below.refl wd.heap.size wd)
    go_wp2_with (first
      | (go_at_call 17; (with_reducible refine (TI.out _ (TBW.out.below HBD.out)).mono ?_); rintro e w1 ⟨rfl, hb⟩; have HBn := Lib.hid (Below.trans (show Below wd.heap.size wd _ from (by repeat (with_reducible first | exact HBD.out | apply Below.drew | refine Below.alloc ?_ (by have := HBD.out.size; first | omega | (simp; omega)) _))) (hb.mono (by have := HBD.out.size; first | omega | (simp; omega)))); clear HBD hb; have HBD := HBn; clear HBn)
      | (go_at_call 18; (with_reducible refine (TS.out _ (TBW.out.below HBD.out)).mono ?_); rintro e w1 ⟨rfl, hb⟩; have HBn := Lib.hid (Below.trans (show Below wd.heap.size wd _ from (by repeat (with_reducible first | exact HBD.out | apply Below.drew | refine Below.alloc ?_ (by have := HBD.out.size; first | omega | (simp; omega)) _))) (hb.mono (by have := HBD.out.size; first | omega | (simp; omega)))); clear HBD hb; have HBD := HBn; clear HBn))
    go_loopw [5] (fun kx wr => ∃ (k : Nat), k ≤ n ∧ kx = .int .i64 (k : Int) ∧ Hid (Below wd.heap.size wd wr)) (fun kx _ => n - (intOf kx).toNat)
    case atStart => exact ⟨0, by omega, rfl, HBD⟩
    case round =>
      clear HBD TI TS
      obtain ⟨k, hkn, rfl, HBD⟩ := hrel
      have hzd := HBD.out.size
      by_cases hk : k < n
      · cases ok with
        | true =>
          have tp := TP.out k hok
          have hk0 : (0 : Int) ≤ (k : Int) := by omega
          have hk1 : (k : Int) < (n : Int) := by omega
          have hk2 : (k : Int) ≤ (c : Int) := by omega
          go_wp2_with (first
            | (at_builtin; refine wpList_append_block _ rfl (.tmp 26) (.tmp 29) 23 rfl wr.heap.size 34 i0 (.agg #[.slice none 0 0, .slice none 0 0]) 2 48 Try.underlying23 hi iz0 iz1 iz2 rfl (by decide) wr.heap.size 0 0 [] rfl (own_empty3 34 2 rfl (Nat.le_refl _)) ⟨g, 0, none⟩ k c ((L.take k).flatMap fun p => p.2) rfl (LC.out k hkn) (CEL.out _ (HBD.out.alloc hzd _) k) (LO.out k) (by unfold maxLen; omega) (by omega) (by simp) ?_; intro g3 c3 w3 hown hgr hgg; (try simp only [Nat.zero_add, List.nil_append] at hown ⊢); have HB3 := Lib.hid (Below.grown (HBD.out.alloc hzd (.cells #[] 34)) hgr (by first | omega | (simp; done) | (simp; omega)) (fun k hk => by obtain rfl := Option.some.inj hk; omega)); have TB3 := Lib.hid (tbs_own (LX.out _ HB3.out k) (LM.out k) hown); clear hown hgr hgg)
            | (go_at_call 17; (with_reducible refine (TK.out _ g3 c3 k hkn TB3.out).mono ?_); rintro e w4 ⟨rfl, hb⟩; rw [tp]; have HB4 := Lib.hid (HB3.out.trans (hb.mono HB3.out.size)); clear hb))
          exact ⟨⟨k + 1, by omega, by go_num, HB4⟩, by simp [intOf]; omega⟩
        | false =>
        go_wp2_with (first
          | (go_at_call 17; (with_reducible refine (T0.out _ _).mono ?_); rintro e w1 ⟨rfl, hb⟩; have HBn := Lib.hid (Below.trans (show Below wd.heap.size wd _ from (by repeat (with_reducible first | exact HBD.out | apply Below.drew | refine Below.alloc ?_ (by have := HBD.out.size; first | omega | (simp; omega)) _))) (hb.mono (by have := HBD.out.size; first | omega | (simp; omega)))); clear HBD hb; have HBD := HBn; clear HBn)
          | (go_at_call 15; (with_reducible refine (alive _).mono ?_); rintro e w1 ⟨rfl, hb⟩; have HBn := Lib.hid (Below.trans (show Below wd.heap.size wd _ from (by repeat (with_reducible first | exact HBD.out | apply Below.drew | refine Below.alloc ?_ (by have := HBD.out.size; first | omega | (simp; omega)) _))) (hb.mono (by have := HBD.out.size; first | omega | (simp; omega)))); clear HBD hb; have HBD := HBn; clear HBn))
        go_ret
        exact ⟨rfl, HB.out.trans (HBD.out.mono HB.out.size)⟩
      · cases ok with
        | true =>
        go_wp2_with (first
          | (go_at_call 17; (with_reducible refine (T0.out _ _).mono ?_); rintro e w1 ⟨rfl, hb⟩; have HBn := Lib.hid (Below.trans (show Below wd.heap.size wd _ from (by repeat (with_reducible first | exact HBD.out | apply Below.drew | refine Below.alloc ?_ (by have := HBD.out.size; first | omega | (simp; omega)) _))) (hb.mono (by have := HBD.out.size; first | omega | (simp; omega)))); clear HBD hb; have HBD := HBn; clear HBn)
          | (go_at_call 15; (with_reducible refine (alive _).mono ?_); rintro e w1 ⟨rfl, hb⟩; have HBn := Lib.hid (Below.trans (show Below wd.heap.size wd _ from (by repeat (with_reducible first | exact HBD.out | apply Below.drew | refine Below.alloc ?_ (by have := HBD.out.size; first | omega | (simp; omega)) _))) (hb.mono (by have := HBD.out.size; first | omega | (simp; omega)))); clear HBD hb; have HBD := HBn; clear HBn))
        go_ret
        exact ⟨rfl, HB.out.trans (HBD.out.mono HB.out.size)⟩
        | false =>
        go_wp2_with (first
          | (go_at_call 17; (with_reducible refine (T0.out _ _).mono ?_); rintro e w1 ⟨rfl, hb⟩; have HBn := Lib.hid (Below.trans (show Below wd.heap.size wd _ from (by repeat (with_reducible first | exact HBD.out | apply Below.drew | refine Below.alloc ?_ (by have := HBD.out.size; first | omega | (simp; omega)) _))) (hb.mono (by have := HBD.out.size; first | omega | (simp; omega)))); clear HBD hb; have HBD := HBn; clear HBn)
          | (go_at_call 15; (with_reducible refine (alive _).mono ?_); rintro e w1 ⟨rfl, hb⟩; have HBn := Lib.hid (Below.trans (show Below wd.heap.size wd _ from (by repeat (with_reducible first | exact HBD.out | apply Below.drew | refine Below.alloc ?_ (by have := HBD.out.size; first | omega | (simp; omega)) _))) (hb.mono (by have := HBD.out.size; first | omega | (simp; omega)))); clear HBD hb; have HBD := HBn; clear HBn))
        go_ret
        exact ⟨rfl, HB.out.trans (HBD.out.mono HB.out.size)⟩
end Go.Proofs.Ytmkpnkpjillljaa.Val
