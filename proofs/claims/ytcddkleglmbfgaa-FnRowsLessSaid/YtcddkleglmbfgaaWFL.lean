/- The walk of the law FnRowsLess. -/
import Derived.Test.YtcddkleglmbfgaaLSame
import Derived.Test.YtcddkleglmbfgaaDrawBg
import Derived.Test.YtcddkleglmbfgaaRSame
import Derived.Test.YtcddkleglmbfgaaAlive
import Derived.Deep.RegionHeldLaw
namespace Go.Proofs.Ytcddkleglmbfgaa.Val
open Go.RowKit
set_option linter.unusedVariables false
set_option maxRecDepth 8000
theorem keepT {W1 : World} {w W : World} {gc gO oO gA oA gB oB g' o' q : Nat} {O A B A' : Option Addr} {os al bs : List RT} {K : RT} {x : Value} (h : W.cell? ⟨gc, q, none⟩ = some x ∧ Rws W gO oO O os ∧ Rws W gA oA A al ∧ Rws W gB oB B bs ∧ Fl W g' o' A' (flatV K) ∧ Below w.heap.size w W ∧ w.heap.size ≤ W.heap.size) (hb : Below W.heap.size W W1) : W1.cell? ⟨gc, q, none⟩ = some x ∧ Rws W1 gO oO O os ∧ Rws W1 gA oA A al ∧ Rws W1 gB oB B bs ∧ Fl W1 g' o' A' (flatV K) ∧ Below w.heap.size w W1 ∧ w.heap.size ≤ W1.heap.size :=
  ⟨(hb.cell (p := ⟨gc, q, none⟩) (World.block_lt_of_cell? W ⟨gc, q, none⟩ h.1)).trans h.1, h.2.1.below hb, h.2.2.1.below hb, h.2.2.2.1.below hb, h.2.2.2.2.1.below hb, h.2.2.2.2.2.1.trans (hb.mono h.2.2.2.2.2.2), Nat.le_trans h.2.2.2.2.2.2 hb.size⟩
theorem keepTD {w W : World} {gc gO oO gA oA gB oB g' o' q : Nat} {O A B A' : Option Addr} {os al bs : List RT} {K : RT} {x : Value} (h : W.cell? ⟨gc, q, none⟩ = some x ∧ Rws W gO oO O os ∧ Rws W gA oA A al ∧ Rws W gB oB B bs ∧ Fl W g' o' A' (flatV K) ∧ Below w.heap.size w W ∧ w.heap.size ≤ W.heap.size) : W.drew.cell? ⟨gc, q, none⟩ = some x ∧ Rws W.drew gO oO O os ∧ Rws W.drew gA oA A al ∧ Rws W.drew gB oB B bs ∧ Fl W.drew g' o' A' (flatV K) ∧ Below w.heap.size w W.drew ∧ w.heap.size ≤ W.drew.heap.size := keepT h ((Below.refl _ _).drew)
theorem zrO {w W : World} {gc gO oO gA oA gB oB g' o' q : Nat} {O A B A' : Option Addr} {os al bs : List RT} {K : RT} {x : Value} (h : W.cell? ⟨gc, q, none⟩ = some x ∧ Rws W gO oO O os ∧ Rws W gA oA A al ∧ Rws W gB oB B bs ∧ Fl W g' o' A' (flatV K) ∧ Below w.heap.size w W ∧ w.heap.size ≤ W.heap.size) : Rws W gO oO O os := h.2.1
theorem zrA {w W : World} {gc gO oO gA oA gB oB g' o' q : Nat} {O A B A' : Option Addr} {os al bs : List RT} {K : RT} {x : Value} (h : W.cell? ⟨gc, q, none⟩ = some x ∧ Rws W gO oO O os ∧ Rws W gA oA A al ∧ Rws W gB oB B bs ∧ Fl W g' o' A' (flatV K) ∧ Below w.heap.size w W ∧ w.heap.size ≤ W.heap.size) : Rws W gA oA A al := h.2.2.1
theorem zrB {w W : World} {gc gO oO gA oA gB oB g' o' q : Nat} {O A B A' : Option Addr} {os al bs : List RT} {K : RT} {x : Value} (h : W.cell? ⟨gc, q, none⟩ = some x ∧ Rws W gO oO O os ∧ Rws W gA oA A al ∧ Rws W gB oB B bs ∧ Fl W g' o' A' (flatV K) ∧ Below w.heap.size w W ∧ w.heap.size ≤ W.heap.size) : Rws W gB oB B bs := h.2.2.2.1
theorem zrF {w W : World} {gc gO oO gA oA gB oB g' o' q : Nat} {O A B A' : Option Addr} {os al bs : List RT} {K : RT} {x : Value} (h : W.cell? ⟨gc, q, none⟩ = some x ∧ Rws W gO oO O os ∧ Rws W gA oA A al ∧ Rws W gB oB B bs ∧ Fl W g' o' A' (flatV K) ∧ Below w.heap.size w W ∧ w.heap.size ≤ W.heap.size) : Fl W g' o' A' (flatV K) := h.2.2.2.2.1
theorem zrW {w W : World} {gc gO oO gA oA gB oB g' o' q : Nat} {O A B A' : Option Addr} {os al bs : List RT} {K : RT} {x : Value} (h : W.cell? ⟨gc, q, none⟩ = some x ∧ Rws W gO oO O os ∧ Rws W gA oA A al ∧ Rws W gB oB B bs ∧ Fl W g' o' A' (flatV K) ∧ Below w.heap.size w W ∧ w.heap.size ≤ W.heap.size) : Below w.heap.size w W := h.2.2.2.2.2.1
set_option maxHeartbeats 8000000 in
theorem walk_FnRowsLess (a : Option Addr) (len cap : Nat) (zs : List Int) (w : World) (h : IsRow .u8 w a len cap zs) :
    Calls Try.prog 9 #[.slice a len cap] w fun e w' => e = .returned (.bool true) ∧ Below w.heap.size w w' := by
  by_cases hl : 1048576 < len
  · clear h
    go_enter Try.func9, Try.ntmps9
    go_wp2
    go_ret
    exact ⟨rfl, Below.refl _ _⟩
  · have HI := Lib.hid h
    clear h
    go_enter Try.func9, Try.ntmps9
    go_wp2_with (go_at_call 42; (with_reducible refine (drawRowsLess _ _ _ zs _ HI.out).mono ?_); rintro e wd ⟨g, c, g2, c2, al, bs, rfl, hva, hvb, hbd⟩; have VA := Lib.hid hva.1; have VB := Lib.hid hvb.1; have SA := Lib.hid hva.2.1; have SB := Lib.hid hvb.2.1; have hca := hva.2.2.1; have HB := Lib.hid hbd; clear hva hvb hbd)
    have S0 := True.intro
    have OKA := Lib.hid SA.out.ok
    have OKB := Lib.hid SB.out.ok
    have ha6 := SA.out.1
    have hb6 := SB.out.1
    have hzl := lessI_len al bs
    have OKZ : Hid (Ok2 (lessI al bs)) := OKA.out.sub (by omega) (fun r hr => less_mem al bs al.length (Nat.le_refl _) r hr)
    have HJL : Hid ((al ++ bs).length ≤ 12) := by show _ ≤ _; rw [List.length_append]; omega
    have OKJ : Hid (Ok2 (al ++ bs)) := ⟨by have := HJL.out; omega, fun r hr => by rcases List.mem_append.1 hr with hr | hr; exact OKA.out.2 r hr; exact OKB.out.2 r hr⟩
    have hyl := lessI_len (al ++ bs) bs
    have OKY : Hid (Ok2 (lessI (al ++ bs) bs)) := OKJ.out.sub (by have := HJL.out; omega) (fun r hr => less_mem (al ++ bs) bs (al ++ bs).length (Nat.le_refl _) r hr)
    have HCT := Lib.hid (fun x => less_count al bs x)
    have CI := Lib.hid (fun W g g' A B c c' hA hB hc => rowsLessI A B g 0 g' 0 c c' al bs W hA hB OKA.out OKB.out hc)
    have CS := Lib.hid (fun W g g' A B c c' hA hB => rowsLessS A B g 0 g' 0 c c' al bs W hA hB OKA.out OKB.out)
    have CJ := Lib.hid (fun W g g' A B c c' hA hB hc => rowsLessI A B g 0 g' 0 c c' (al ++ bs) bs W hA hB OKJ.out OKB.out hc)
    have ES := Lib.hid (fun W g g' A B c c' hA hB => sameRowsL A B g g' 0 0 c c' (lessI al bs) (lessI al bs) W hA hB OKZ.out OKZ.out)
    rw [decide_eq_true (rfl : lessI al bs = lessI al bs)] at ES
    have CB2 := Lib.hid (fun W g g' A B c c' hA hB => sameBagI A B g 0 g' 0 c c' (lessI (al ++ bs) bs) al W hA hB OKY.out OKA.out)
    rw [less_joined al bs] at CB2
    have JJ := Lib.hid (fun W g g' c c' hA hB => joinedL g g' 0 0 c c' al bs W hA hB (by omega) (by omega))
    obtain ⟨Y, hY⟩ : ∃ Y, lessI (al ++ bs) bs = Y := ⟨_, rfl⟩
    obtain ⟨J, hJ⟩ : ∃ J, al ++ bs = J := ⟨_, rfl⟩
    obtain ⟨Z, hZ⟩ : ∃ Z, lessI al bs = Z := ⟨_, rfl⟩
    rw [hY] at CJ CB2
    rw [hJ] at CJ JJ
    rw [hZ] at CI CS ES OKZ HCT hzl
    unfold RetBag at CI CS CJ
    unfold RetRws at JJ
    clear hY hJ hZ hyl HJL OKJ OKY
    go_wp2_with (first
      | ((have _ := S0); (fail_if_success (have _ := S1)); go_at_call 43; (with_reducible refine (CI.out _ _ _ _ _ _ _ VA.out VB.out hca).mono ?_); rintro e wn0 ⟨gg, cg, Tg, rfl, hc, hb1⟩; have HBn : Hid (Below w.heap.size w wn0) := Below.trans (by repeat (with_reducible first | exact HB.out | refine Below.alloc ?_ (by first | omega | (have := HB.out.size; omega) | (have := HB.out.size; simp; omega)) _ | apply Below.drew)) (Below.mono hb1 (by have := HB.out.size; first | omega | (simp; omega))); have K0 := Lib.hid (by first | exact VA.out.below hb1 | exact (VA.out.alloc _).below hb1 | exact ((VA.out.alloc _).alloc _).below hb1 | exact (VA.out.drew).below hb1); clear VA; have VA := K0; clear K0; have K0 := Lib.hid (by first | exact VB.out.below hb1 | exact (VB.out.alloc _).below hb1 | exact ((VB.out.alloc _).alloc _).below hb1 | exact (VB.out.drew).below hb1); clear VB; have VB := K0; clear K0; clear HB; have HB := HBn; clear HBn; have VG := Lib.hid hc.rws; clear hc; clear hb1; have S1 := True.intro)
      | ((have _ := S1); (fail_if_success (have _ := S2)); go_at_call 44; (with_reducible refine (CS.out _ _ _ _ _ _ _ VA.out VB.out).mono ?_); rintro e wn1 ⟨gs, cs, Ts, rfl, hc, hb1⟩; have HBn : Hid (Below w.heap.size w wn1) := Below.trans (by repeat (with_reducible first | exact HB.out | refine Below.alloc ?_ (by first | omega | (have := HB.out.size; omega) | (have := HB.out.size; simp; omega)) _ | apply Below.drew)) (Below.mono hb1 (by have := HB.out.size; first | omega | (simp; omega))); have K0 := Lib.hid (by first | exact VA.out.below hb1 | exact (VA.out.alloc _).below hb1 | exact ((VA.out.alloc _).alloc _).below hb1 | exact (VA.out.drew).below hb1); clear VA; have VA := K0; clear K0; have K0 := Lib.hid (by first | exact VB.out.below hb1 | exact (VB.out.alloc _).below hb1 | exact ((VB.out.alloc _).alloc _).below hb1 | exact (VB.out.drew).below hb1); clear VB; have VB := K0; clear K0; have K0 := Lib.hid (by first | exact VG.out.below hb1 | exact (VG.out.alloc _).below hb1 | exact ((VG.out.alloc _).alloc _).below hb1 | exact (VG.out.drew).below hb1); clear VG; have VG := K0; clear K0; clear HB; have HB := HBn; clear HBn; have VS := Lib.hid hc.rws; clear hc; clear hb1; have S2 := True.intro)
      | ((have _ := S2); (fail_if_success (have _ := S3)); go_at_call 33; (with_reducible refine (ES.out _ _ _ _ _ _ _ VG.out VS.out).mono ?_); rintro e wn2 ⟨rfl, hb1⟩; have HBn : Hid (Below w.heap.size w wn2) := Below.trans (by repeat (with_reducible first | exact HB.out | refine Below.alloc ?_ (by first | omega | (have := HB.out.size; omega) | (have := HB.out.size; simp; omega)) _ | apply Below.drew)) (Below.mono hb1 (by have := HB.out.size; first | omega | (simp; omega))); have K0 := Lib.hid (by first | exact VA.out.below hb1 | exact (VA.out.alloc _).below hb1 | exact ((VA.out.alloc _).alloc _).below hb1 | exact (VA.out.drew).below hb1); clear VA; have VA := K0; clear K0; have K0 := Lib.hid (by first | exact VB.out.below hb1 | exact (VB.out.alloc _).below hb1 | exact ((VB.out.alloc _).alloc _).below hb1 | exact (VB.out.drew).below hb1); clear VB; have VB := K0; clear K0; have K0 := Lib.hid (by first | exact VG.out.below hb1 | exact (VG.out.alloc _).below hb1 | exact ((VG.out.alloc _).alloc _).below hb1 | exact (VG.out.drew).below hb1); clear VG; have VG := K0; clear K0; clear HB; have HB := HBn; clear HBn; clear hb1; have S3 := True.intro))
    obtain ⟨wL, hwL⟩ : ∃ x, x = wn2 := ⟨_, rfl⟩
    rw [← hwL] at VA VB VG HB ⊢
    clear hwL VS
    go_loopw [6] (fun kx wr => ∃ (k : Nat), kx = .int .i64 k ∧ k ≤ al.length ∧ Hid (Below wL.heap.size wL wr)) (fun kx _ => al.length - (intOf kx).toNat)
    case atStart => exact ⟨0, rfl, Nat.zero_le _, Below.refl _ _⟩
    case round =>
      obtain ⟨k, rfl, hk, HL⟩ := hrel
      have hzL := HL.out.size
      by_cases hlt : k < al.length
      · obtain ⟨-, hg1, c1, g1, o1, hc1, hf1⟩ := (VA.out.below HL.out).at k hlt
        have hl1 := (OKA.out.at k hlt).1
        obtain ⟨K, hK⟩ : ∃ K, al[k] = K := ⟨_, rfl⟩
        rw [hK] at hc1 hf1 hl1
        have hct := HCT.out K
        have CO := Lib.hid (fun W hW hW2 => rowManyI (some ⟨gg, 0, none⟩) (some ⟨g1, o1, none⟩) gg 0 g1 o1 cg c1 Z K W hW hW2 OKZ.out hl1)
        have CA := Lib.hid (fun W hW hW2 => rowManyI (some ⟨g, 0, none⟩) (some ⟨g1, o1, none⟩) g 0 g1 o1 c c1 al K W hW hW2 OKA.out hl1)
        have CB := Lib.hid (fun W hW hW2 => rowManyI (some ⟨g2, 0, none⟩) (some ⟨g1, o1, none⟩) g2 0 g1 o1 c2 c1 bs K W hW hW2 OKB.out hl1)
        have hmb : al.count K ≤ al.length := List.count_le_length
        have hnb : bs.count K ≤ bs.length := List.count_le_length
        obtain ⟨x, hx⟩ : ∃ m, Z.count K = m := ⟨_, rfl⟩
        obtain ⟨m, hm⟩ : ∃ m, al.count K = m := ⟨_, rfl⟩
        obtain ⟨n, hn⟩ : ∃ m, bs.count K = m := ⟨_, rfl⟩
        rw [hx] at CO hct
        rw [hm] at CA hct hmb
        rw [hn] at CB hct hnb
        obtain ⟨kl, hkl⟩ : ∃ n, K.length = n := ⟨_, rfl⟩
        rw [hkl] at hc1 CO CA CB
        simp only [Nat.zero_add] at hc1
        obtain ⟨wQ, hwQ⟩ : ∃ x, x = wr := ⟨_, rfl⟩
        rw [← hwQ] at HL hc1 hf1 hg1 hzL ⊢
        clear hwQ hK hkl hx hm hn
        have HS0 : (fun w' => w'.cell? ⟨g, k, none⟩ = some (.slice (some ⟨g1, o1, none⟩) kl c1) ∧ Rws w' gg 0 (some ⟨gg, 0, none⟩) Z ∧ Rws w' g 0 (some ⟨g, 0, none⟩) al ∧ Rws w' g2 0 (some ⟨g2, 0, none⟩) bs ∧ Fl w' g1 o1 (some ⟨g1, o1, none⟩) (flatV K) ∧ Below wQ.heap.size wQ w' ∧ wQ.heap.size ≤ w'.heap.size) wQ := ⟨hc1, VG.out.below HL.out, VA.out.below HL.out, VB.out.below HL.out, hf1, Below.refl _ _, Nat.le_refl _⟩
        have i0' : (0 : Int) ≤ (k : Int) := by omega
        have i1' : (k : Int) < (al.length : Int) := by omega
        have hmx : (if IntKind.i64.wrap ((m : Int) - (n : Int)) < 0 then 0 else IntKind.i64.wrap ((m : Int) - (n : Int))) = (x : Int) := by
          rw [IntWalk.i64_in _ (by omega)]; split <;> omega
        have hxx : ((x : Int) != (x : Int)) = false := by simp
        clear hct hc1 hf1
        go_wp2_with (fail)
        go_region_held_law (fun w' => w'.cell? ⟨g, k, none⟩ = some (.slice (some ⟨g1, o1, none⟩) kl c1) ∧ Rws w' gg 0 (some ⟨gg, 0, none⟩) Z ∧ Rws w' g 0 (some ⟨g, 0, none⟩) al ∧ Rws w' g2 0 (some ⟨g2, 0, none⟩) bs ∧ Fl w' g1 o1 (some ⟨g1, o1, none⟩) (flatV K) ∧ Below wQ.heap.size wQ w' ∧ wQ.heap.size ≤ w'.heap.size) (first | exact keepT (by assumption) hbq | exact keepTD (by assumption) | assumption) (first | (go_at_call 28; (with_reducible refine (CO.out _ (zrO (by assumption)) (zrF (by assumption))).mono ?_); rintro e w1 ⟨rfl, hbq⟩) | (go_at_call 28; (with_reducible refine (CA.out _ (zrA (by assumption)) (zrF (by assumption))).mono ?_); rintro e w1 ⟨rfl, hbq⟩) | (go_at_call 28; (with_reducible refine (CB.out _ (zrB (by assumption)) (zrF (by assumption))).mono ?_); rintro e w1 ⟨rfl, hbq⟩))
        all_goals (have HXX := Lib.hid (zrW (by assumption)))
        all_goals go_wp2
        all_goals exact ⟨⟨k + 1, by go_num, by omega, HL.out.trans (HXX.out.mono hzL)⟩, by simp [intOf]; omega⟩
      · obtain rfl : k = al.length := by omega
        have VA1 := Lib.hid (VA.out.below HL.out)
        have VB1 := Lib.hid (VB.out.below HL.out)
        have HB1 := Lib.hid (HB.out.trans (HL.out.mono HB.out.size))
        clear VA VB VG HB HL
        have VA := VA1
        have VB := VB1
        have HB := HB1
        clear VA1 VB1 HB1
        go_wp2_with (first
          | ((have _ := S3); (fail_if_success (have _ := S4)); go_at_call 45; (with_reducible refine (JJ.out _ _ _ _ _ VA.out VB.out).mono ?_); rintro e wn3 ⟨gj, cj, rfl, hj, hjc, -, hb1⟩; have HBn : Hid (Below w.heap.size w wn3) := Below.trans (by repeat (with_reducible first | exact HB.out | refine Below.alloc ?_ (by first | omega | (have := HB.out.size; omega) | (have := HB.out.size; simp; omega)) _ | apply Below.drew)) (Below.mono hb1 (by have := HB.out.size; first | omega | (simp; omega))); have K0 := Lib.hid (by first | exact VA.out.below hb1 | exact (VA.out.alloc _).below hb1 | exact ((VA.out.alloc _).alloc _).below hb1 | exact (VA.out.drew).below hb1); clear VA; have VA := K0; clear K0; have K0 := Lib.hid (by first | exact VB.out.below hb1 | exact (VB.out.alloc _).below hb1 | exact ((VB.out.alloc _).alloc _).below hb1 | exact (VB.out.drew).below hb1); clear VB; have VB := K0; clear K0; clear HB; have HB := HBn; clear HBn; have VJ := Lib.hid hj; clear hj; clear hb1; have S4 := True.intro)
          | ((have _ := S4); (fail_if_success (have _ := S5)); go_at_call 43; (with_reducible refine (CJ.out _ _ _ _ _ _ _ VJ.out VB.out hjc).mono ?_); rintro e wn4 ⟨gy, cy, Ty, rfl, hc, hb1⟩; have HBn : Hid (Below w.heap.size w wn4) := Below.trans (by repeat (with_reducible first | exact HB.out | refine Below.alloc ?_ (by first | omega | (have := HB.out.size; omega) | (have := HB.out.size; simp; omega)) _ | apply Below.drew)) (Below.mono hb1 (by have := HB.out.size; first | omega | (simp; omega))); have K0 := Lib.hid (by first | exact VA.out.below hb1 | exact (VA.out.alloc _).below hb1 | exact ((VA.out.alloc _).alloc _).below hb1 | exact (VA.out.drew).below hb1); clear VA; have VA := K0; clear K0; clear HB; have HB := HBn; clear HBn; have VY := Lib.hid hc.rws; clear hc; clear hb1; have S5 := True.intro)
          | ((have _ := S5); (fail_if_success (have _ := S6)); go_at_call 36; (with_reducible refine (CB2.out _ _ _ _ _ _ _ VY.out VA.out).mono ?_); rintro e wn5 ⟨rfl, hb1⟩; have HBn : Hid (Below w.heap.size w wn5) := Below.trans (by repeat (with_reducible first | exact HB.out | refine Below.alloc ?_ (by first | omega | (have := HB.out.size; omega) | (have := HB.out.size; simp; omega)) _ | apply Below.drew)) (Below.mono hb1 (by have := HB.out.size; first | omega | (simp; omega))); clear HB; have HB := HBn; clear HBn; clear hb1; have S6 := True.intro)
          | ((have _ := S6); (fail_if_success (have _ := S7)); go_at_call 21; (with_reducible refine (alive _).mono ?_); rintro e wn6 ⟨rfl, hb1⟩; have HBn : Hid (Below w.heap.size w wn6) := Below.trans (by repeat (with_reducible first | exact HB.out | refine Below.alloc ?_ (by first | omega | (have := HB.out.size; omega) | (have := HB.out.size; simp; omega)) _ | apply Below.drew)) (Below.mono hb1 (by have := HB.out.size; first | omega | (simp; omega))); clear HB; have HB := HBn; clear HBn; clear hb1; have S7 := True.intro))
        all_goals (go_ret; exact ⟨retB (by first | rfl | simp), HB.out⟩)
end Go.Proofs.Ytcddkleglmbfgaa.Val
