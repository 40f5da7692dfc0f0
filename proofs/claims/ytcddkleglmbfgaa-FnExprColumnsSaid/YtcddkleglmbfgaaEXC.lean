/- The columns that an expression asks for (ExprColumns). -/
import Derived.Test.YtcddkleglmbfgaaEKI
import Derived.Test.YtcddkleglmbfgaaEMathA
namespace Go.Proofs.Ytcddkleglmbfgaa.Val
open Go.RowKit
set_option linter.unusedVariables false
set_option linter.unusedSimpArgs false
set_option maxRecDepth 20000
def colL (ps : List PT) (n : Nat) : List Int := ((List.range n).filter (asks ps)).map fun (k : Nat) => (k : Int)
theorem colL_yes {ps : List PT} {n : Nat} (h : asks ps n = true) : colL ps (n + 1) = colL ps n ++ [(n : Int)] := by simp [colL, List.range_succ, List.filter_append, h]
theorem colL_no {ps : List PT} {n : Nat} (h : asks ps n = false) : colL ps (n + 1) = colL ps n := by simp [colL, List.range_succ, List.filter_append, h]
theorem colL_len (ps : List PT) (n : Nat) : (colL ps n).length ≤ n := by
  have := List.length_filter_le (asks ps) (List.range n)
  simpa [colL] using this
theorem asks_snoc {ps : List PT} {k i : Nat} (h : i < ps.length) : asks (ps.take (i + 1)) k = (asks (ps.take i) k || (decide (ps[i].1 = 2) && decide (ps[i].2.1 = (k : Int)))) := by
  unfold asks
  rw [List.take_succ_eq_append_getElem h, List.any_append]
  simp
theorem asks_hit {ps : List PT} {k i : Nat} {p : PT} (h : i < ps.length) (hp : ps[i] = p) (h1 : p.1 = 2) (h2 : p.2.1 = (k : Int)) : asks ps k = true := by
  unfold asks
  rw [List.any_eq_true]
  exact ⟨ps[i], List.getElem_mem h, by rw [hp]; simp [h1, h2]⟩
theorem asks_miss {ps : List PT} {k i : Nat} {p : PT} (h : i < ps.length) (hp : ps[i] = p) (h1 : ¬ (p.1 = 2 ∧ p.2.1 = (k : Int))) (h0 : asks (ps.take i) k = false) : asks (ps.take (i + 1)) k = false := by
  rw [asks_snoc h, h0, hp]
  simpa using h1
set_option maxHeartbeats 2000000 in
theorem asksFor (E : Option Addr) (ge oe ce : Nat) (ps : List PT) (n : Nat) (w : World) (hE : Fl w ge oe E (flatP ps)) (hp : ps.length ≤ 2000000) : Calls Try.prog 60 #[.slice E ps.length ce, .int .i64 n] w fun e w' => e = .returned (.bool (asks ps n)) ∧ Below w.heap.size w w' := by
  have HE := Lib.hid hE
  clear hE
  go_enter Try.func60, Try.ntmps60
  go_wp2
  go_loopw [5] (fun ix wr => ∃ (k : Nat), k ≤ ps.length ∧ ix = .int .i64 k ∧ Hid (asks (ps.take k) n = false) ∧ Hid (Below w.heap.size w wr)) (fun ix _ => ps.length - (intOf ix).toNat)
  case atStart => exact ⟨0, by omega, rfl, rfl, Below.refl _ _⟩
  case round =>
    obtain ⟨k, hk, rfl, HN, HW⟩ := hrel
    by_cases hlt : k < ps.length
    · obtain ⟨rfl, -⟩ := HE.out.pt k hlt
      obtain ⟨-, hg2, c0, c1, -⟩ := (HE.out.below HW.out).pt k hlt
      obtain ⟨p, hpk⟩ : ∃ p, ps[k] = p := ⟨_, rfl⟩
      have HY := Lib.hid (fun h1 h2 => asks_hit (k := n) hlt hpk h1 h2)
      have HM := Lib.hid (fun h1 => asks_miss (k := n) hlt hpk h1 HN.out)
      rw [hpk] at c0 c1
      clear hpk
      obtain ⟨pk, pn, v⟩ := p
      simp only at c0 c1 HY HM
      have i0' : (0 : Int) ≤ (k : Int) := by omega
      have i1' : (k : Int) < (ps.length : Int) := by omega
      go_wp2
      all_goals (try go_region)
      all_goals (try go_wp2)
      all_goals first
        | exact ⟨⟨k + 1, by omega, by go_num, HM.out (by simp_all), HW⟩, by simp [intOf]; omega⟩
        | exact ⟨⟨k + 1, by omega, by go_num, HM.out (by simp_all), HW.out.drew⟩, by simp [intOf]; omega⟩
        | (go_ret; exact ⟨retB (HY.out (by simp_all) (by simp_all)).symm, HW.out⟩)
        | (go_ret; exact ⟨retB (HY.out (by simp_all) (by simp_all)).symm, HW.out.drew⟩)
    · obtain rfl : k = ps.length := by omega
      have HN2 : Hid (asks ps n = false) := by have := HN.out; rwa [List.take_length] at this
      go_wp2
      go_ret
      exact ⟨retB HN2.out.symm, HW.out⟩
/-- A row of numbers of its own. -/
def OwnN (xs : List Int) (w : World) (e : Ending) (w' : World) : Prop := ∃ v, e = .returned v ∧ w'.ownsRow w.heap.size 3 1 v xs.length (xs.map iv) ∧ Below w.heap.size w w'
def colZ (cs : List CT) (ps : List PT) : List Int := if kindI cs ps < 0 then [] else colL ps cs.length
theorem own_nil {w : World} {B size : Nat} {e : TypeId} : w.ownsRow B e size (.slice none 0 0) 0 [] := ⟨by simp, .inl ⟨rfl, rfl⟩⟩
theorem kind_cols {cs : List CT} {ps : List PT} (h : ¬ kindI cs ps < 0) : cs.length ≤ 4 := by
  have := (kind_some h).1
  simp only [colB, Bool.and_eq_true, decide_eq_true_eq] at this
  exact this.1
set_option maxHeartbeats 4000000 in
theorem exprColumnsI (A E : Option Addr) (gc oc cc ge oe ce : Nat) (cs : List CT) (ps : List PT) (w : World) (hA : Fl w gc oc A (flatC cs)) (hE : Fl w ge oe E (flatP ps)) (hl : cs.length ≤ 2000000) (hp : ps.length ≤ 2000000) (hs : ShortP ps) : Calls Try.prog 16 #[.slice A cs.length cc, .slice E ps.length ce] w (OwnN (colZ cs ps) w) := by
  have CK := Lib.hid (exprKindI A E gc oc cc ge oe ce cs ps w hA hE hl hp hs)
  have HE := Lib.hid hE
  obtain ⟨i0, hi, iz0, iz1, iz2⟩ := info_parts infoN
  clear hA hE hs
  obtain ⟨K, hK⟩ : ∃ K, kindI cs ps = K := ⟨_, rfl⟩
  by_cases h0 : K < 0
  · have HZ := Lib.hid (show colZ cs ps = [] by unfold colZ; rw [hK, if_pos h0])
    rw [hK] at CK
    clear hK
    go_enter Try.func16, Try.ntmps16
    go_wp2_with (go_at_call 59; (with_reducible refine CK.out.mono ?_); rintro e w1 ⟨rfl, hb1⟩; have HB := Lib.hid hb1; clear hb1)
    all_goals (go_ret; refine ⟨_, rfl, ?_, HB.out⟩; rw [HZ.out]; exact own_nil)
  · have HZ := Lib.hid (show colZ cs ps = colL ps cs.length by unfold colZ; rw [hK, if_neg h0])
    have h4 := kind_cols (cs := cs) (ps := ps) (by rw [hK]; exact h0)
    rw [hK] at CK
    clear hK
    go_enter Try.func16, Try.ntmps16
    go_wp2_with (go_at_call 59; (with_reducible refine CK.out.mono ?_); rintro e w1 ⟨rfl, hb1⟩; have HB := Lib.hid hb1; clear hb1)
    go_loopw [5, 6] (fun lx nx wr => ∃ (n g cap : Nat), n ≤ cs.length ∧ nx = .int .i64 n ∧ lx = .slice (some ⟨g, 0, none⟩) (colL ps n).length cap ∧ Hid (wr.ownsRow w.heap.size 3 1 lx (colL ps n).length ((colL ps n).map iv)) ∧ Hid (Below w.heap.size w wr)) (fun _ nx _ => cs.length - (intOf nx).toNat)
    case atStart => exact ⟨0, _, _, by omega, rfl, rfl, Lib.hid (by rw [show colL ps 0 = [] from rfl]; exact own_empty3 3 1 rfl HB.out.size), HB.out.alloc HB.out.size _⟩
    case round =>
      obtain ⟨n, g, cap, hn, rfl, rfl, OWN, HW⟩ := hrel
      by_cases hlt : n < cs.length
      · have i0' : (0 : Int) ≤ (n : Int) := by omega
        have i1' : (n : Int) < (cs.length : Int) := by omega
        have hln := colL_len ps n
        obtain ⟨L, hL⟩ : ∃ L, colL ps n = L := ⟨_, rfl⟩
        rw [hL] at OWN hln ⊢
        obtain ⟨M, hM⟩ : ∃ M, L.length = M := ⟨_, rfl⟩
        rw [hM] at OWN hln ⊢
        have HML := Lib.hid hM
        have HLL := Lib.hid hL
        clear hM hL
        have CA := Lib.hid (fun W hW => asksFor E ge oe ce ps n W hW hp)
        obtain ⟨b, hb⟩ : ∃ b, asks ps n = b := ⟨_, rfl⟩
        rw [hb] at CA
        cases b
        · have HC := Lib.hid (colL_no hb)
          clear hb
          go_wp2_with (go_at_call 60; (refine (CA.out _ (HE.out.below HW.out)).mono ?_); rintro e w2 ⟨rfl, hb2⟩; have HW2 := Lib.hid (Below.trans HW.out (hb2.mono HW.out.size)); have OWN2 := Lib.hid (own_below OWN.out hb2); clear hb2)
          exact ⟨⟨n + 1, g, cap, by omega, by go_num, by rw [HC.out, HLL.out, HML.out], by rw [HC.out, HLL.out, HML.out]; exact OWN2, HW2⟩, by simp [intOf]; omega⟩
        · have HC := Lib.hid (colL_yes hb)
          clear hb
          go_wp2_with (first
            | (go_at_call 60; (refine (CA.out _ (HE.out.below HW.out)).mono ?_); rintro e w2 ⟨rfl, hb2⟩; have HW2 := Lib.hid (Below.trans HW.out (hb2.mono HW.out.size)); have OWN2 := Lib.hid (own_below OWN.out hb2); clear hb2)
            | (at_builtin; refine wpList_append_own _ rfl (.tmp 21) (.tmp 23) 27 rfl w.heap.size 3 i0 (.int .i64 0) 1 8 Try.underlying27 hi iz0 iz1 iz2 rfl (by decide) (.slice (some ⟨g, 0, none⟩) M cap) M (L.map iv) rfl (by repeat (with_reducible first | exact OWN2.out | apply World.ownsRow.alloc | apply own_drew)) ⟨w2.heap.size, 0, none⟩ 1 1 [.int .i64 n] rfl rfl (news_new (by simp)) (by simp [Value.oneCell']) (by unfold maxLen; omega) (by omega) (by have := HW2.out.size; simp; omega) ?_; intro v3 w3 hown3 hgr3 _; have OWN3 := Lib.hid hown3; have HW3 := Lib.hid (Below.grown (B := w.heap.size) (a := w) (HW2.out.alloc HW2.out.size _) hgr3 (by have := HW2.out.size; simp; omega) (fun k hk => (OWN2.out.lt k hk).1)); clear hown3 hgr3))
          obtain ⟨g', cap', rfl⟩ := own_slice OWN3.out (by omega)
          have hlen : (colL ps (n + 1)).length = M + 1 := by rw [HC.out, HLL.out, List.length_append, HML.out]; rfl
          exact ⟨⟨n + 1, g', cap', by omega, by go_num, by rw [hlen], by rw [hlen, HC.out, HLL.out]; exact Lib.hid (by have := OWN3.out; simpa [iv] using this), HW3⟩, by simp [intOf]; omega⟩
      · obtain rfl : n = cs.length := by omega
        go_wp2
        go_ret
        exact ⟨_, rfl, by rw [HZ.out]; exact OWN.out, HW.out⟩
end Go.Proofs.Ytcddkleglmbfgaa.Val
