/- BatchesOf: rows cut into batches, plain facts; the program's, the reference's. -/
import Derived.Test.YtjidkjnlnenmbaaBatLQ
import Derived.Test.YtjidkjnlnenmbaaBatJQ
import Derived.Test.YtjidkjnlnenmbaaTru3Q
namespace Go.Proofs.Ytjidkjnlnenmbaa.Val
open Go.RowKit
set_option linter.unusedVariables false
set_option linter.unusedSimpArgs false
set_option maxRecDepth 8000
/-- The rows of batch k, of s rows each. -/
def chk (s : Nat) (ls : List RT) (k : Nat) : List RT := (ls.drop (k * s)).take s
def batK (m s : Nat) (ls : List RT) (k : Nat) : BA := ((List.range m).map (acr (chk s ls k)), List.replicate (chk s ls k).length true)
def cutB (m s : Nat) (ls : List RT) : List BA := (List.range ((ls.length + s - 1) / s)).map (batK m s ls)
/-- What BatchesOf answers. -/
def batsI (cs : List CT) (ls : List RT) (s : Int) : List BA := if rowsB cs ls = true ∧ 1 ≤ s ∧ s ≤ 4 then cutB cs.length s.toNat ls else []
theorem cut_end {n s k f : Nat} (hf : f = k * s) (hn : n ≤ f) (hk : k = 0 ∨ (k - 1) * s < n) (h1 : 1 ≤ s) (h4 : s ≤ 4) : (n + s - 1) / s = k := by
  subst hf
  rcases (by omega : s = 1 ∨ s = 2 ∨ s = 3 ∨ s = 4) with rfl | rfl | rfl | rfl <;> omega
theorem chk_len (s : Nat) (ls : List RT) (k : Nat) : (chk s ls k).length = min s (ls.length - k * s) := by simp [chk]
theorem chk_mem {s : Nat} {ls : List RT} {k : Nat} {r : RT} (h : r ∈ chk s ls k) : r ∈ ls := List.mem_of_mem_drop (List.mem_of_mem_take h)
theorem bats_snoc (m s : Nat) (ls : List RT) (k : Nat) : (List.range (k + 1)).map (batK m s ls) = (List.range k).map (batK m s ls) ++ [batK m s ls k] := by rw [List.range_succ, List.map_append]; rfl
theorem infoBt : (Try.prog.info? 30).map (fun i => (i.zero, i.size, i.bytes)) = some (some (.agg #[.slice none 0 0, .slice none 0 0]), 2, 48) := by kernel_rfl
theorem rowsB_len {cs : List CT} {ls : List RT} (h : rowsB cs ls = true) : ∀ r ∈ ls, r.length = cs.length := by
  intro r hr
  simp only [rowsB, Bool.and_eq_true, List.all_eq_true] at h
  have := h.2 r hr
  simp only [fitB, Bool.and_eq_true, decide_eq_true_eq] at this
  exact this.1.2
/-- A batch that was made, as one of a list. -/
theorem batU_of {w : World} {B : Nat} {v v2 : Value} {T : List TT} {cols : List RT} {bs : List Bool} (h1 : BagV w B v T cols) (h2 : w.ownsRow B 4 1 v2 bs.length (bs.map tv)) (h3 : ∀ b ∈ blkV v T, v2.ownBlock ≠ some b) : BatU w B (v, v2, T, bs) ∧ baOf (v, v2, T, bs) = (cols, bs) := by
  refine ⟨⟨?_, PkV.of_own h2, h3⟩, ?_⟩
  · have := h1.eq; simp only; rw [this]; exact h1
  · simp only [baOf, h1.eq]
/-- A list of batches of one's own, or nil. -/
def BLN (w : World) (B : Nat) (A : Option Addr) (g c : Nat) (U : List UB) (bas : List BA) : Prop := (A = some ⟨g, 0, none⟩ ∧ BLs w B g c U bas) ∨ (A = none ∧ c = 0 ∧ bas = [] ∧ U = [])
def RetBLN (bas : List BA) (w : World) (e : Ending) (w' : World) : Prop := ∃ (A : Option Addr) (g c : Nat) (U : List UB), (e = .returned (.slice A bas.length c) ∧ BLN w' w.heap.size A g c U bas) ∧ Below w.heap.size w w'
def RetBLs (bas : List BA) (w : World) (e : Ending) (w' : World) : Prop := ∃ (g c : Nat) (U : List UB), (e = .returned (.slice (some ⟨g, 0, none⟩) bas.length c) ∧ BLs w' w.heap.size g c U bas) ∧ Below w.heap.size w w'
theorem sizeOkI (s : Int) (w : World) : Calls Try.prog 72 #[.int .i64 s] w fun e w' => e = .returned (.bool (decide (1 ≤ s) && decide (s ≤ 4))) ∧ w = w' := by
  go_enter Try.func72, Try.ntmps72
  by_cases h1 : 1 ≤ s
  · by_cases h4 : s ≤ 4
    · rw [decide_eq_true h1, decide_eq_true h4]
      go_wp2
      all_goals (go_ret; exact ⟨retB (by first | rfl | simp), rfl⟩)
    · rw [decide_eq_true h1, decide_eq_false h4]
      go_wp2
      all_goals (go_ret; exact ⟨retB (by first | rfl | simp), rfl⟩)
  · rw [decide_eq_false h1, Bool.false_and]
    go_wp2
    all_goals (go_ret; exact ⟨retB (by first | rfl | simp), rfl⟩)
theorem l9Many (a b : Int) (w : World) : Calls Try.prog 109 #[.int .i64 a, .int .i64 b] w fun e w' => e = .returned (.int .i64 (if a < b then a else b)) ∧ w = w' := by
  go_enter Try.func109, Try.ntmps109
  by_cases h : a < b
  · rw [if_pos h]
    go_wp2
    all_goals (go_ret; exact ⟨rfl, rfl⟩)
  · rw [if_neg h]
    go_wp2
    all_goals (go_ret; exact ⟨rfl, rfl⟩)
set_option maxHeartbeats 4000000 in
theorem l9Cut (g0 o0 cap : Nat) (A : Option Addr) (ls : List RT) (m s : Nat) (w : World) (hA : Rws w g0 o0 A ls) (hok : Ok2 ls) (hcap : ls.length ≤ cap) (hcm : cap ≤ maxLen) (hm : m ≤ 2000000) (hin : ∀ r ∈ ls, r.length = m) (h1 : 1 ≤ s) (h4 : s ≤ 4) :
    Calls Try.prog 69 #[.int .i64 (m : Int), .slice A ls.length cap, .int .i64 (s : Int)] w (RetBLs (cutB m s ls) w) := by
  obtain ⟨i0, hi, iz0, iz1, iz2⟩ := info_parts infoBt
  have HA := Lib.hid hA
  have HIN := Lib.hid hin
  have HK := Lib.hid hok
  have hl := hok.1
  unfold maxLen at hcm
  clear hA hin hok
  have BL0 := Lib.hid (BLs.empty w rfl)
  go_enter Try.func69, Try.ntmps69
  go_wp2
  go_loopw [7, 8] (fun ox ix wr => ∃ (k f g c : Nat) (U : List UB) (out : List BA), f ≤ ls.length + 4 ∧ ix = .int .i64 f ∧ ox = .slice (some ⟨g, 0, none⟩) out.length c ∧ out.length ≤ f ∧ Hid (f = k * s) ∧ Hid (k = 0 ∨ (k - 1) * s < ls.length) ∧ Hid (out = (List.range k).map (batK m s ls)) ∧ Hid (BLs wr w.heap.size g c U out) ∧ Hid (Below w.heap.size w wr)) (fun _ ix _ => ls.length - (intOf ix).toNat)
  case atStart => exact ⟨0, 0, w.heap.size, 0, [], [], by omega, rfl, rfl, Nat.le_refl _, (show (0 : Nat) = 0 * s by omega), .inl rfl, rfl, BL0, (Below.refl _ _).alloc (Nat.le_refl _) _⟩
  case round =>
    clear BL0
    obtain ⟨k, f, g, c, U, out, hf4, rfl, rfl, hof, HF, HKS, HO, HBL, HB⟩ := hrel
    have hwz := HB.out.size
    by_cases hlt : f < ls.length
    · obtain ⟨rfl, hg0, -⟩ := (HA.out.below HB.out).at f hlt
      have HCL := Lib.hid (chk_len s ls k)
      have hcl := HCL.out
      rw [← HF.out] at hcl
      obtain ⟨q, hq⟩ : ∃ q, q = min s (ls.length - f) := ⟨_, rfl⟩
      have hq1 : 1 ≤ q := by omega
      have hqs : q ≤ s := by omega
      have hqf : f + q ≤ ls.length := by omega
      have hlm : (if (ls.length : Int) - (f : Int) < (s : Int) then (ls.length : Int) - (f : Int) else (s : Int)) = (q : Int) := by split <;> omega
      have CM := Lib.hid (fun W => l9Many ((ls.length : Int) - (f : Int)) (s : Int) W)
      rw [hlm] at CM
      have hcq : (chk s ls k).length = q := by omega
      have HRW := Lib.hid (fun W (hW : Below w.heap.size w W) => (show Rws W g0 (o0 + f) (some ⟨g0, o0 + f, none⟩) (chk s ls k) from by unfold chk; rw [← HF.out]; exact ((HA.out.below hW).drop f).take s))
      have hcok : Ok2 (chk s ls k) := HK.out.sub (by omega) (fun r hr => chk_mem hr)
      have CB := Lib.hid (fun W hW cap => l9Batch (some ⟨g0, o0 + f, none⟩) g0 (o0 + f) cap (chk s ls k) m W hW hcok hm (fun r hr => by have := HIN.out r (chk_mem hr); omega))
      unfold RetB9 at CB
      have HBS := Lib.hid (bats_snoc m s ls k)
      have HBK := Lib.hid (show batK m s ls k = ((List.range m).map (acr (chk s ls k)), List.replicate (chk s ls k).length true) from rfl)
      obtain ⟨cols, hcols⟩ : ∃ x, (List.range m).map (acr (chk s ls k)) = x := ⟨_, rfl⟩
      rw [hcols, hcq] at HBK
      rw [hcols, hcq] at CB
      have HN : Hid (out ++ [(cols, List.replicate q true)] = (List.range (k + 1)).map (batK m s ls)) := by show _ = _; rw [HBS.out, ← HO.out, HBK.out]
      have HFN : Hid (f + s = (k + 1) * s) := by show _ = _; have := HF.out; rw [Nat.add_mul]; omega
      have HKN : Hid (k + 1 = 0 ∨ (k + 1 - 1) * s < ls.length) := Lib.hid (.inr (by have := HF.out; rw [Nat.add_sub_cancel]; omega))
      obtain ⟨ol, hol⟩ : ∃ n, out.length = n := ⟨_, rfl⟩
      have HOL := Lib.hid hol
      rw [hol] at hof
      rw [hol]
      have i0' : (0 : Int) ≤ (f : Int) := by omega
      have i1' : (f : Int) < (ls.length : Int) := by omega
      have i2' : (f : Int) ≤ (f : Int) + (q : Int) := by omega
      have i3' : (f : Int) + (q : Int) ≤ (cap : Int) := by omega
      clear hol hcl hlm hcok hcols hq hcq HBS HBK HO
      go_wp2_with (first
        | (go_at_call 109; (with_reducible refine (CM.out _).mono ?_); rintro e w1 ⟨rfl, rfl⟩)
        | (go_at_call 108; go_loud (with_reducible refine (CB.out _ (HRW.out _ HB.out) _).mono ?_); rintro e w2 ⟨v, v2, T, ⟨rfl, hbv, hown2, hsep⟩, hb2⟩; go_loud (obtain ⟨A8, c8, rfl⟩ := own_form hbv.own; obtain ⟨A9, c9, rfl⟩ := own_form hown2; have hbu := batU_of hbv hown2 hsep; have HBU := Lib.hid hbu.1; have HBA := Lib.hid hbu.2; have HBB := Lib.hid hb2; have HBL2 := Lib.hid (HBL.out.below hb2); have HB2 := Lib.hid (HB.out.trans (hb2.mono hwz)); have hwz2 := HB2.out.size; obtain ⟨n8, hn8⟩ : ∃ n, cols.length = n := ⟨_, rfl⟩; rw [hn8] at HBU HBA; rw [hn8]; obtain ⟨n9, hn9⟩ : ∃ n, (List.replicate q true).length = n := ⟨_, rfl⟩; rw [hn9] at HBU HBA; rw [hn9]; clear hbu hbv hown2 hsep hb2 hn8 hn9))
        | (at_builtin; go_loud (refine wpList_append_block _ rfl (.tmp 17) (.tmp 31) 41 rfl w.heap.size 30 i0 (.agg #[.slice none 0 0, .slice none 0 0]) 2 48 Try.underlying41 hi iz0 iz1 iz2 rfl (by decide) g ol c (U.flatMap hdW) rfl (by have h := HBL2.out.own; rw [HOL.out] at h; exact h.alloc _) _ 1 1 [.slice A8 n8 c8, .slice A9 n9 c9] rfl rfl (news_new (by first | rfl | simp)) (by simp [Value.oneCell']) (by unfold maxLen; omega) (by omega) (by first | omega | (simp; done) | (simp; omega)) ?_); intro g3 c3 w3 hown hgr hgg; go_loud (have HNB := Lib.hid (BLs.push HBL.out HBU.out HBB.out (n := ol + 1) (by rw [HOL.out]) hown hgr hgg); have HB3 := Lib.hid (Below.grown (HB2.out.alloc hwz2 _) hgr (by simp; omega) (fun k hk => by obtain rfl := Option.some.inj hk; exact HBL.out.lo.1)); clear hown hgr hgg)))
      rw [HBA.out] at HNB
      exact ⟨⟨k + 1, f + s, g3, c3, _, _, by omega, by go_num, by rw [List.length_append, HOL.out]; rfl, by rw [List.length_append, HOL.out]; simp; omega, HFN, HKN, HN, HNB, HB3⟩, by simp [intOf]; omega⟩
    · have hkk := cut_end HF.out (by omega) HKS.out h1 h4
      have HO2 : Hid (out = cutB m s ls) := by show _ = _; rw [HO.out, cutB, hkk]
      obtain rfl := HO2.out
      go_wp2
      go_ret
      exact ⟨g, c, U, ⟨rfl, HBL.out⟩, HB.out⟩
theorem bats_ok {cs : List CT} {ls : List RT} {S : Nat} (h : rowsB cs ls = true) (h1 : 1 ≤ S) (h4 : S ≤ 4) : batsI cs ls (S : Int) = cutB cs.length S ls := by
  unfold batsI; rw [if_pos ⟨h, by omega, by omega⟩, Int.toNat_natCast]
set_option maxHeartbeats 8000000 in
theorem batchesOfI (A B : Option Addr) (g o gB oB cap capB : Nat) (cs : List CT) (ls : List RT) (s : Int) (w : World) (hA : Fl w g o A (flatC cs)) (hB : Rws w gB oB B ls) (hl : cs.length ≤ 2000000) (hok : Ok2 ls) (hcap : ls.length ≤ capB) (hcm : capB ≤ maxLen) :
    Calls Try.prog 28 #[.slice A cs.length cap, .slice B ls.length capB, .int .i64 s] w (RetBLN (batsI cs ls s) w) := by
  obtain ⟨i0, hi, iz0, iz1, iz2⟩ := info_parts infoBt
  have CR := Lib.hid (fun W h1 h2 => rowsOkI A B g o gB oB cap capB cs ls W h1 h2 hl hok)
  have CZ := Lib.hid (fun W => sizeOkI s W)
  have HBR := Lib.hid hB
  have HCA := Lib.hid hA
  have HK := Lib.hid hok
  have hll := hok.1
  clear hA hB hok
  by_cases hE : rowsB cs ls = true ∧ 1 ≤ s ∧ s ≤ 4
  rotate_left
  · have hz : batsI cs ls s = [] := by unfold batsI; rw [if_neg hE]
    rw [hz]
    clear hz
    go_enter Try.func28, Try.ntmps28
    by_cases hr : rowsB cs ls = true
    · have hs : (decide (1 ≤ s) && decide (s ≤ 4)) = false := by
        simp only [hr, true_and] at hE
        by_cases h1 : 1 ≤ s
        · rw [decide_eq_false (show ¬ s ≤ 4 by omega), Bool.and_false]
        · rw [decide_eq_false h1, Bool.false_and]
      rw [hs] at CZ
      rw [hr] at CR
      clear hE hs hr
      go_wp2_with (first
        | (go_at_call 50; (with_reducible refine (CR.out _ HCA.out HBR.out).mono ?_); rintro e w1 ⟨rfl, hb1⟩; have HB1 := Lib.hid hb1; clear hb1)
        | (go_at_call 72; (with_reducible refine (CZ.out _).mono ?_); rintro e wq ⟨rfl, rfl⟩))
      all_goals (go_ret; exact ⟨none, 0, 0, [], ⟨rfl, .inr ⟨rfl, rfl, rfl, rfl⟩⟩, HB1.out⟩)
    · have hr2 : rowsB cs ls = false := by simpa using hr
      rw [hr2] at CR
      clear hE hr hr2
      go_wp2_with (go_at_call 50; (with_reducible refine (CR.out _ HCA.out HBR.out).mono ?_); rintro e w1 ⟨rfl, hb1⟩; have HB1 := Lib.hid hb1; clear hb1)
      all_goals (go_ret; exact ⟨none, 0, 0, [], ⟨rfl, .inr ⟨rfl, rfl, rfl, rfl⟩⟩, HB1.out⟩)
  · obtain ⟨hr, hs1, hs4⟩ := hE
    obtain ⟨S, rfl⟩ : ∃ S : Nat, s = (S : Int) := ⟨s.toNat, by omega⟩
    have h1 : 1 ≤ S := by omega
    have h4 : S ≤ 4 := by omega
    have HIN := Lib.hid (rowsB_len hr)
    rw [bats_ok hr h1 h4]
    have hs : (decide (1 ≤ (S : Int)) && decide ((S : Int) ≤ 4)) = true := by rw [decide_eq_true hs1, decide_eq_true hs4]; rfl
    rw [hs] at CZ
    rw [hr] at CR
    unfold maxLen at hcm
    clear hs hr hs1 hs4
    go_enter Try.func28, Try.ntmps28
    go_wp2_with (first
      | (go_at_call 50; (with_reducible refine (CR.out _ HCA.out HBR.out).mono ?_); rintro e w1 ⟨rfl, hb1⟩; have HB1 := Lib.hid hb1; have hw1 := hb1.size; clear hb1)
      | (go_at_call 72; (with_reducible refine (CZ.out _).mono ?_); rintro e wq ⟨rfl, rfl⟩))
    have BL0 := Lib.hid (BLs.empty w1 rfl)
    have HB0 := Lib.hid (HB1.out.alloc hw1 (.cells #[] 30))
    clear HB1 CR CZ HCA
    go_loopw [7, 8] (fun ox ix wr => ∃ (k f g c : Nat) (U : List UB) (out : List BA), f ≤ ls.length + 4 ∧ ix = .int .i64 f ∧ ox = .slice (some ⟨g, 0, none⟩) out.length c ∧ out.length ≤ f ∧ Hid (f = k * S) ∧ Hid (k = 0 ∨ (k - 1) * S < ls.length) ∧ Hid (out = (List.range k).map (batK cs.length S ls)) ∧ Hid (BLs wr w1.heap.size g c U out) ∧ Hid (Below w.heap.size w wr) ∧ w1.heap.size ≤ wr.heap.size) (fun _ ix _ => ls.length - (intOf ix).toNat)
    case atStart => exact ⟨0, 0, w1.heap.size, 0, [], [], by omega, rfl, rfl, Nat.le_refl _, (show (0 : Nat) = 0 * S by omega), .inl rfl, rfl, BL0, HB0, by simp⟩
    case round =>
      clear BL0 HB0
      obtain ⟨k, f, g, c, U, out, hf4, rfl, rfl, hof, HF, HKS, HO, HBL, HB, hwr⟩ := hrel
      have hwz := HB.out.size
      by_cases hlt : f < ls.length
      · obtain ⟨rfl, hgB, -⟩ := (HBR.out.below HB.out).at f hlt
        have HCL := Lib.hid (chk_len S ls k)
        have hcl := HCL.out
        rw [← HF.out] at hcl
        obtain ⟨q, hq⟩ : ∃ q, q = min S (ls.length - f) := ⟨_, rfl⟩
        have hq1 : 1 ≤ q := by omega
        have hqs : q ≤ S := by omega
        have hqf : f + q ≤ ls.length := by omega
        have hlm : (if (f : Int) + (S : Int) < (ls.length : Int) then (f : Int) + (S : Int) else (ls.length : Int)) = (f : Int) + (q : Int) := by split <;> omega
        have CM := Lib.hid (fun W => leastOf ((f : Int) + (S : Int)) (ls.length : Int) W)
        rw [hlm] at CM
        have hcq : (chk S ls k).length = q := by omega
        have HRW := Lib.hid (fun W (hW : Below w.heap.size w W) => (show Rws W gB (oB + f) (some ⟨gB, oB + f, none⟩) (chk S ls k) from by unfold chk; rw [← HF.out]; exact ((HBR.out.below hW).drop f).take S))
        have hcok : Ok2 (chk S ls k) := HK.out.sub (by omega) (fun r hr => chk_mem hr)
        have CB := Lib.hid (fun W hW cap => batchOf (some ⟨gB, oB + f, none⟩) gB (oB + f) cap (chk S ls k) cs.length W hW hcok (by omega) (fun r hr => by have := HIN.out r (chk_mem hr); omega))
        unfold RetB9 at CB
        have HBS := Lib.hid (bats_snoc cs.length S ls k)
        have HBK := Lib.hid (show batK cs.length S ls k = ((List.range cs.length).map (acr (chk S ls k)), List.replicate (chk S ls k).length true) from rfl)
        obtain ⟨cols, hcols⟩ : ∃ x, (List.range cs.length).map (acr (chk S ls k)) = x := ⟨_, rfl⟩
        rw [hcols, hcq] at HBK
        rw [hcols, hcq] at CB
        have HN : Hid (out ++ [(cols, List.replicate q true)] = (List.range (k + 1)).map (batK cs.length S ls)) := by show _ = _; rw [HBS.out, ← HO.out, HBK.out]
        have HFN : Hid (f + S = (k + 1) * S) := by show _ = _; have := HF.out; rw [Nat.add_mul]; omega
        have HKN : Hid (k + 1 = 0 ∨ (k + 1 - 1) * S < ls.length) := Lib.hid (.inr (by have := HF.out; rw [Nat.add_sub_cancel]; omega))
        obtain ⟨ol, hol⟩ : ∃ n, out.length = n := ⟨_, rfl⟩
        have HOL := Lib.hid hol
        rw [hol] at hof
        rw [hol]
        have i0' : (0 : Int) ≤ (f : Int) := by omega
        have i1' : (f : Int) < (ls.length : Int) := by omega
        have i2' : (f : Int) ≤ (f : Int) + (q : Int) := by omega
        have i3' : (f : Int) + (q : Int) ≤ (capB : Int) := by omega
        clear hol hcl hlm hcok hcols hq hcq HBS HBK HO
        go_wp2_with (first
          | (go_at_call 74; (with_reducible refine (CM.out _).mono ?_); rintro e wq ⟨rfl, rfl⟩)
          | (go_at_call 73; go_loud (with_reducible refine (CB.out _ (HRW.out _ HB.out) _).mono ?_); rintro e w2 ⟨v, v2, T, ⟨rfl, hbv, hown2, hsep⟩, hb2⟩; go_loud (obtain ⟨A8, c8, rfl⟩ := own_form hbv.own; obtain ⟨A9, c9, rfl⟩ := own_form hown2; have hbu := batU_of hbv hown2 hsep; have HBU := Lib.hid hbu.1; have HBA := Lib.hid hbu.2; have HBB := Lib.hid hb2; have HBL2 := Lib.hid (HBL.out.below hb2); have HB2 := Lib.hid (HB.out.trans (hb2.mono hwz)); have hwz2 := HB2.out.size; have hwr2 := Nat.le_trans hwr hb2.size; obtain ⟨n8, hn8⟩ : ∃ n, cols.length = n := ⟨_, rfl⟩; rw [hn8] at HBU HBA; rw [hn8]; obtain ⟨n9, hn9⟩ : ∃ n, (List.replicate q true).length = n := ⟨_, rfl⟩; rw [hn9] at HBU HBA; rw [hn9]; clear hbu hbv hown2 hsep hb2 hn8 hn9))
          | (at_builtin; go_loud (refine wpList_append_block _ rfl (.tmp 26) (.tmp 39) 41 rfl w1.heap.size 30 i0 (.agg #[.slice none 0 0, .slice none 0 0]) 2 48 Try.underlying41 hi iz0 iz1 iz2 rfl (by decide) g ol c (U.flatMap hdW) rfl (by have h := HBL2.out.own; rw [HOL.out] at h; exact h.alloc _) _ 1 1 [.slice A8 n8 c8, .slice A9 n9 c9] rfl rfl (news_new (by first | rfl | simp)) (by simp [Value.oneCell']) (by unfold maxLen; omega) (by omega) (by first | omega | (simp; done) | (simp; omega)) ?_); intro g3 c3 w3 hown hgr hgg; go_loud (have HNB := Lib.hid (BLs.push HBL.out HBU.out HBB.out (n := ol + 1) (by rw [HOL.out]) hown hgr hgg); have HB3 := Lib.hid (Below.grown (HB2.out.alloc hwz2 _) hgr (by simp; omega) (fun k hk => by obtain rfl := Option.some.inj hk; have := HBL.out.lo.1; omega)); have hwr3 : w1.heap.size ≤ w3.heap.size := (by have h1 := hgr.size; simp at h1; omega); clear hown hgr hgg)))
        rw [HBA.out] at HNB
        exact ⟨⟨k + 1, f + S, g3, c3, _, _, by omega, by go_num, by rw [List.length_append, HOL.out]; rfl, by rw [List.length_append, HOL.out]; simp; omega, HFN, HKN, HN, HNB, HB3, hwr3⟩, by simp [intOf]; omega⟩
      · have hkk := cut_end HF.out (by omega) HKS.out h1 h4
        have HO2 : Hid (out = cutB cs.length S ls) := by show _ = _; rw [HO.out, cutB, hkk]
        obtain rfl := HO2.out
        go_wp2
        go_ret
        exact ⟨_, g, c, U, ⟨rfl, .inl ⟨rfl, HBL.out.lower (by omega)⟩⟩, HB.out⟩
set_option maxHeartbeats 4000000 in
theorem batchesOfS (A B : Option Addr) (g o gB oB cap capB : Nat) (cs : List CT) (ls : List RT) (s : Int) (w : World) (hA : Fl w g o A (flatC cs)) (hB : Rws w gB oB B ls) (hl : cs.length ≤ 2000000) (hok : Ok2 ls) (hcap : ls.length ≤ capB) (hcm : capB ≤ maxLen) :
    Calls Try.prog 25 #[.slice A cs.length cap, .slice B ls.length capB, .int .i64 s] w (RetBLs (batsI cs ls s) w) := by
  have CR := Lib.hid (fun W h1 h2 => rowsOkS A B g o gB oB cap capB cs ls W h1 h2 hl hok)
  have CZ := Lib.hid (fun W => l1In s 1 4 W)
  have HBR := Lib.hid hB
  have HCA := Lib.hid hA
  have HK := Lib.hid hok
  clear hA hB hok
  by_cases hE : rowsB cs ls = true ∧ 1 ≤ s ∧ s ≤ 4
  rotate_left
  · have hz : batsI cs ls s = [] := by unfold batsI; rw [if_neg hE]
    rw [hz]
    clear hz
    go_enter Try.func25, Try.ntmps25
    by_cases hr : rowsB cs ls = true
    · have hs : (decide (1 ≤ s) && decide (s ≤ 4)) = false := by
        simp only [hr, true_and] at hE
        by_cases h1 : 1 ≤ s
        · rw [decide_eq_false (show ¬ s ≤ 4 by omega), Bool.and_false]
        · rw [decide_eq_false h1, Bool.false_and]
      rw [hs] at CZ
      rw [hr] at CR
      clear hE hs hr
      go_wp2_with (first
        | (go_at_call 67; (with_reducible refine (CR.out _ HCA.out HBR.out).mono ?_); rintro e w1 ⟨rfl, hb1⟩; have HB1 := Lib.hid hb1; clear hb1)
        | (go_at_call 68; (with_reducible refine (CZ.out _).mono ?_); rintro e wq ⟨rfl, rfl⟩))
      all_goals (go_ret; exact ⟨_, _, _, ⟨rfl, (BLs.empty w1 rfl).lower HB1.out.size⟩, HB1.out.alloc HB1.out.size _⟩)
    · have hr2 : rowsB cs ls = false := by simpa using hr
      rw [hr2] at CR
      clear hE hr hr2
      go_wp2_with (go_at_call 67; (with_reducible refine (CR.out _ HCA.out HBR.out).mono ?_); rintro e w1 ⟨rfl, hb1⟩; have HB1 := Lib.hid hb1; clear hb1)
      all_goals (go_ret; exact ⟨_, _, _, ⟨rfl, (BLs.empty w1 rfl).lower HB1.out.size⟩, HB1.out.alloc HB1.out.size _⟩)
  · obtain ⟨hr, hs1, hs4⟩ := hE
    obtain ⟨S, rfl⟩ : ∃ S : Nat, s = (S : Int) := ⟨s.toNat, by omega⟩
    have h1 : 1 ≤ S := by omega
    have h4 : S ≤ 4 := by omega
    have hin := rowsB_len hr
    have CC := Lib.hid (fun W hW => l9Cut gB oB capB B ls cs.length S W hW HK.out hcap hcm hl hin h1 h4)
    rw [bats_ok hr h1 h4]
    unfold RetBLs at CC
    have hs : (decide (1 ≤ (S : Int)) && decide ((S : Int) ≤ 4)) = true := by rw [decide_eq_true hs1, decide_eq_true hs4]; rfl
    rw [hs] at CZ
    rw [hr] at CR
    obtain ⟨Z, hZ⟩ : ∃ Z, cutB cs.length S ls = Z := ⟨_, rfl⟩
    rw [hZ] at CC
    rw [hZ]
    clear hs hr hs1 hs4 hin hZ
    go_enter Try.func25, Try.ntmps25
    go_wp2_with (first
      | (go_at_call 67; (with_reducible refine (CR.out _ HCA.out HBR.out).mono ?_); rintro e w1 ⟨rfl, hb1⟩; have HB1 := Lib.hid hb1; clear hb1)
      | (go_at_call 68; (with_reducible refine (CZ.out _).mono ?_); rintro e wq ⟨rfl, rfl⟩)
      | (go_at_call 69; (with_reducible refine (CC.out _ (HBR.out.below HB1.out)).mono ?_); rintro e w2 ⟨gc, cc, U, ⟨rfl, hbl⟩, hb2⟩; have HBL := Lib.hid hbl; have HB2 := Lib.hid (HB1.out.trans (hb2.mono HB1.out.size)); have hw1 := HB1.out.size; clear hbl hb2))
    all_goals (go_ret; exact ⟨gc, cc, U, ⟨rfl, HBL.out.lower hw1⟩, HB2.out⟩)
end Go.Proofs.Ytjidkjnlnenmbaa.Val
