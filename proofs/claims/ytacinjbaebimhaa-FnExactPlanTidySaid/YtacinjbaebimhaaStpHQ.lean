/- Marks of a plan of one's own told again (laws.heldStepS). -/
import Derived.Test.YtacinjbaebimhaaStpMQ
namespace Go.Proofs.Ytacinjbaebimhaa.Val
open Go.RowKit
set_option linter.unusedSimpArgs false
set_option linter.unusedVariables false
set_option maxRecDepth 8000
theorem markU_at (N : Nat) (U : List UP) (k : Nat) (hk : k < U.length) (h2 : k < (markU N U).length) : (markU N U)[k]'h2 = mk1 (N + sumU (U.take k)) U[k] := by
  induction U generalizing N k with
  | nil => simp at hk
  | cons u U ih =>
    cases k with
    | zero => simp [markU, sumU]
    | succ k =>
      simp only [markU, List.getElem_cons_succ, List.take_succ_cons, sumU, List.map_cons, List.sum_cons]
      rw [ih (N + szU u) k (by simpa using hk) (by simpa [markU_len] using hk), sumU, Nat.add_assoc]
set_option maxHeartbeats 4000000 in
theorem heldStp (N B g cap n : Nat) (U : List UP) (ps : List SP) (w : World) (h : Stp w B g cap (markU N U) ps) (hn : n = U.length) (hl : N + sumU U ≤ 7000000) (hl2 : n ≤ 1048576) :
    Calls Try.prog 43 #[.slice (some ⟨g, 0, none⟩) n cap, .int .i64 (N : Int)] w fun e w' => e = .returned (.int .i64 ((N + sumU U : Nat) : Int)) ∧ Below w.heap.size w w' := by
  have hpn : ps.length = n := by rw [← h.eq, List.length_map, markU_len, hn]
  have H := Lib.hid h
  have HNU := Lib.hid hn
  have HPN := Lib.hid hpn
  clear h hn hpn
  go_enter Try.func43, Try.ntmps43
  go_wp2
  go_loopw [1, 5] (fun kx ix wr => ∃ (k M : Nat), k ≤ n ∧ ix = .int .i64 (k : Int) ∧ kx = .int .i64 (M : Int) ∧ M = N + sumU (U.take k) ∧ Hid (Below w.heap.size w wr)) (fun _ ix _ => n - (intOf ix).toNat)
  case atStart => exact ⟨0, N, Nat.zero_le _, rfl, rfl, by simp [sumU], Below.refl _ _⟩
  case round =>
    obtain ⟨k, M, hk, rfl, rfl, hM, HB⟩ := hrel
    by_cases hlt : k < n
    · have hku : k < U.length := by have := HNU.out; omega
      have hkm : k < (markU N U).length := by rw [markU_len]; exact hku
      have hS := H.out.below HB.out
      have hgr := hS.lo.2
      have hu := hS.stps _ (List.getElem_mem hkm)
      have hat := markU_at N U k hku hkm
      rw [← hM] at hat
      have hsn := sumU_snoc U k hku
      have hsl := sumU_le U (k + 1)
      obtain ⟨f0, f1, f2, f3, f4, f5⟩ := flatS_get (markU N U) k hkm
      rw [hat] at hu f0 f1 f2 f3 f4 f5
      have x0 := (hS.own.cellAt (k * 6) (by have := HPN.out; omega)).trans f0
      have x1 := (hS.own.cellAt (k * 6 + 1) (by have := HPN.out; omega)).trans f1
      have x2 := (hS.own.cellAt (k * 6 + 2) (by have := HPN.out; omega)).trans f2
      have x3 := (hS.own.cellAt (k * 6 + 3) (by have := HPN.out; omega)).trans f3
      have x4 := (hS.own.cellAt (k * 6 + 4) (by have := HPN.out; omega)).trans f4
      have x5 := (hS.own.cellAt (k * 6 + 5) (by have := HPN.out; omega)).trans f5
      clear f0 f1 f2 f3 f4 f5 hat hS
      rw [hdE_mk1] at x4
      rw [hdL_mk1] at x5
      obtain ⟨V, hV⟩ : ∃ V, U[k] = V := ⟨_, rfl⟩
      rw [hV] at hu x0 x1 x2 x3 x4 x5 hsn
      have HSN := Lib.hid hsn
      obtain ⟨⟨n1, n2, n3, n4⟩, ⟨ge, ce, es⟩, gl, cl, ns⟩ := V
      have hszu : szU ((n1, n2, n3, n4), (ge, ce, es), gl, cl, ns) = 4 + 5 * es.length + ns.length := rfl
      rw [hszu] at hsn
      simp only [hdE, hdL, hdF] at x4 x5
      replace x0 : wr.cell? ⟨g, k * 6, none⟩ = some (.int .i64 (M : Int)) := x0
      replace x1 : wr.cell? ⟨g, k * 6 + 1, none⟩ = some (.int .i64 ((M : Int) + 1)) := x1
      replace x2 : wr.cell? ⟨g, k * 6 + 2, none⟩ = some (.int .i64 ((M : Int) + 1 + 1)) := by rw [show (M : Int) + 1 + 1 = (M : Int) + 2 by omega]; exact x2
      replace x3 : wr.cell? ⟨g, k * 6 + 3, none⟩ = some (.int .i64 ((M : Int) + 1 + 1 + 1)) := by rw [show (M : Int) + 1 + 1 + 1 = (M : Int) + 3 by omega]; exact x3
      have hMb : M + 4 + 5 * es.length + ns.length ≤ 7000000 := by omega
      have hfe : Fl wr ge 0 (some ⟨ge, 0, none⟩) (flatP (marksPK (M + 4) es.length)) := hu.e.fl
      have hfn : Fl wr gl 0 (some ⟨gl, 0, none⟩) ((marksNK (M + 4 + 5 * es.length) ns.length).map iv) := hu.l.fl
      have FE := Lib.hid hfe
      have FN := Lib.hid hfn
      have C1 := Lib.hid (fun (z : Int) W (hz : z = ((M + 4 : Nat) : Int)) hW => heldPartSZ z (M + 4) hz (some ⟨ge, 0, none⟩) ge ce es.length W (by omega) hW)
      have C2 := Lib.hid (fun (z : Int) W (hz : z = ((M + 4 + 5 * es.length : Nat) : Int)) hW => heldIntSZ z (M + 4 + 5 * es.length) hz (some ⟨gl, 0, none⟩) gl cl ns.length W (by omega) hW)
      have HMH := Lib.hid hM
      have i0' : (0 : Int) ≤ (k : Int) := by omega
      have i1' : (k : Int) < (n : Int) := by omega
      have q1 : ¬ (((M + 4 : Nat) : Int) + 5 * (es.length : Int) < 0) := by omega
      have q2 : ¬ (((M + 4 + 5 * es.length : Nat) : Int) + (ns.length : Int) < 0) := by omega
      have e0 : ((M : Int) != (M : Int)) = false := by simp
      have e1 : ((M : Int) + 1 != (M : Int) + 1) = false := by simp
      have e2 : ((M : Int) + 1 + 1 != (M : Int) + 1 + 1) = false := by simp
      have e3 : ((M : Int) + 1 + 1 + 1 != (M : Int) + 1 + 1 + 1) = false := by simp
      clear hu hsn hszu hsl hM hfe hfn
      go_wp2_with (first
        | (go_at_call 75; (with_reducible refine (C1.out _ _ (by omega) FE.out).mono ?_); rintro e w1 ⟨rfl, hb⟩; have HB1 := Lib.hid hb; have FN1 := Lib.hid (FN.out.below hb); have z5 := (hb.cell (p := ⟨g, k * 6 + 5, none⟩) hgr).trans x5; have hgr1 : g < w1.heap.size := (by have := hb.size; omega); clear hb)
        | (go_at_call 76; (with_reducible refine (C2.out _ _ (by omega) FN1.out).mono ?_); rintro e w2 ⟨rfl, hb⟩; have HB2 := Lib.hid hb; clear hb))
      all_goals (have hs1 := HB.out.size; have hs2 := HB1.out.size)
      all_goals exact ⟨⟨k + 1, M + 4 + 5 * es.length + ns.length, by omega, by go_num, by go_num, by rw [HSN.out, HMH.out]; show _ = N + (sumU (U.take k) + (4 + 5 * es.length + ns.length)); omega, HB.out.trans ((HB1.out.trans (HB2.out.mono hs2)).mono hs1)⟩, by simp [intOf]; omega⟩
    · obtain rfl : k = n := by omega
      have e1 : U.take k = U := List.take_of_length_le (by have := HNU.out; omega)
      rw [e1] at hM
      go_wp2
      go_ret
      exact ⟨by rw [hM]; rfl, HB.out⟩
end Go.Proofs.Ytacinjbaebimhaa.Val
