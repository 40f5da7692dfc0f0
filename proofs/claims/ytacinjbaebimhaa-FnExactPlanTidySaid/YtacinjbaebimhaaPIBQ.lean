/- The columns of a step that takes columns: the program's takenMade; The columns of two steps one behind the other: the program's bothMade; The columns of a step, and how many rows it may have: the program's stepMade; The columns of a step, and how many rows it may have: the program's stepMade, whole. -/
import Derived.Test.YtacinjbaebimhaaPIAQ
import Derived.BigQuiet
import Derived.Deep.RegionHeldLaw
namespace Go.Proofs.Ytacinjbaebimhaa.Val
open Go.RowKit
set_option linter.unusedVariables false
set_option linter.unusedSimpArgs false
set_option maxRecDepth 8000
/-- Columns with a number, and whether there are any. -/
def RetMade (r : Option (List CT)) (m : Nat) (w : World) (e : Ending) (w' : World) : Prop := ∃ (A : Option Addr) (g o c : Nat) (cs : List CT) (k : Nat) (ok : Bool), (e = .returned (.tuple #[.agg #[.slice A cs.length c, .int .i64 (k : Int)], .bool ok]) ∧ MdAt (fun b => w.heap.size ≤ b) w' ((A, c, g, o), (cs, k)) ∧ (ok = true → r = some cs ∧ k = m) ∧ (ok = false → r = none)) ∧ Below w.heap.size w w'
theorem mdNone (P : Nat → Prop) (w : World) : MdAt P w ((none, 0, 0, 0), ([], 0)) := ⟨⟨⟨fun h => absurd h (by simp [flatC]), fun j hj => absurd hj (by simp [flatC])⟩, fun h => absurd h (by simp [flatC])⟩, .inr ⟨rfl, rfl⟩, Nat.le_refl _⟩
theorem mdOwn {w : World} {B g c k : Nat} {cs : List CT} (h : FlO w B g c cs.length (flatC cs)) : MdAt (fun b => B ≤ b) w ((some ⟨g, 0, none⟩, c, g, 0), (cs, k)) := ⟨⟨h.fl, fun _ => h.lo⟩, .inl rfl, h.cap.1⟩
theorem retNone {r : Option (List CT)} {m : Nat} {w w' : World} (hr : r = none) (hb : Below w.heap.size w w') : RetMade r m w (.returned (.tuple #[.agg #[.slice none 0 0, .int .i64 0], .bool false])) w' :=
  ⟨none, 0, 0, 0, [], 0, false, ⟨rfl, mdNone _ _, fun h => absurd h (by simp), fun _ => hr⟩, hb⟩
set_option maxHeartbeats 4000000 in
theorem takenMade (A' AN : Option Addr) (c' g' o' gn on cn : Nat) (cs : List CT) (m : Nat) (ns : List Int) (w : World) (hA : Fl w g' o' A' (flatC cs)) (hN : Fl w gn on AN (ns.map iv)) (hl : cs.length ≤ 2000000) (hnl : ns.length ≤ 2000000) :
    Calls Try.prog 116 #[.agg #[.slice A' cs.length c', .int .i64 (m : Int)], .slice AN ns.length cn] w (RetMade (takeC cs ns) m w) := by
  obtain ⟨i0, hi, iz0, iz1, iz2⟩ := info_parts infoC
  by_cases h4 : ns.length ≤ 4
  rotate_left
  · have ht : takeC cs ns = none := by unfold takeC; rw [if_neg (fun h => h4 h.2)]
    rw [ht]
    have h4' : 4 < (ns.length : Int) := by omega
    clear hA hN
    go_enter Try.func116, Try.ntmps116
    go_wp2
    refine bodyPost_ret (v := .tuple #[.agg #[.slice none 0 0, .int .i64 0], .bool false]) (by simp [results, Try.results116, go_sem, *]) rfl (retNone rfl ?_)
    repeat (with_reducible first | exact Below.refl _ _ | refine Below.alloc ?_ (by first | omega | (simp; done) | (simp; omega)) _ | refine Below.setCell ?_ (by first | omega | (simp; done) | (simp; omega)) _)
  have HA := Lib.hid hA
  have HN := Lib.hid hN
  have HT : Hid (∀ k (hk : k < ns.length), inB ns[k] cs.length = false → takeC cs ns = none) := fun k hk h => takeC_no hk h
  have HY : Hid (ns.all (fun t => inB t cs.length) = true → takeC cs ns = some (ns.map fun t => cs.getD t.toNat (0, false))) := fun h => by unfold takeC; rw [if_pos ⟨h, h4⟩]
  obtain ⟨r, hr⟩ : ∃ r, takeC cs ns = r := ⟨_, rfl⟩
  rw [hr] at HT HY ⊢
  obtain ⟨cl, hcl⟩ : ∃ n, cs.length = n := ⟨_, rfl⟩
  have HCL := Lib.hid hcl
  rw [hcl] at hl HT HY ⊢
  have OWN := Lib.hid (fun (W : World) (hW : W.heap.size = w.heap.size + 2) => own_empty3 (w := W) (B := w.heap.size + 2) 37 2 hW (Nat.le_refl _))
  clear hA hN hr hcl
  go_enter Try.func116, Try.ntmps116
  go_wp2
  go_loopw [6, 7] (fun ox kx wr => ∃ (k g2 c2 : Nat), k ≤ ns.length ∧ kx = .int .i64 k ∧ ox = .slice (some ⟨g2, 0, none⟩) k c2 ∧ Hid ((ns.take k).all (fun t => inB t cl) = true) ∧ Hid (wr.ownsRow (w.heap.size + 2) 37 2 (.slice (some ⟨g2, 0, none⟩) k c2) k (flatC ((ns.take k).map fun t => cs.getD t.toNat (0, false)))) ∧ Hid (Below (w.heap.size + 2) ((w.alloc (.cells #[.slice A' cl c', .int .i64 (m : Int)] 80)).alloc (.cells #[.slice none 0 0, .int .i64 0] 80)) wr)) (fun _ kx _ => ns.length - (intOf kx).toNat)
  case atStart => exact ⟨0, w.heap.size + 1 + 1, 0, Nat.zero_le _, rfl, rfl, rfl, OWN.out _ (by simp), (Below.refl _ _).alloc (by simp) _⟩
  case round =>
    clear OWN
    obtain ⟨k, g2, c2, hk, rfl, rfl, HL, HO, HB⟩ := hrel
    have hz := HB.out.size
    (simp only [World.size_alloc] at hz)
    have r0 := (HB.out.cell (p := ⟨w.heap.size, 0, none⟩) (by show w.heap.size < w.heap.size + 2; omega)).trans (show _ = some (.slice A' cl c') by simp [go_sem])
    have r1 := (HB.out.cell (p := ⟨w.heap.size, 1, none⟩) (by show w.heap.size < w.heap.size + 2; omega)).trans (show _ = some (.int .i64 (m : Int)) by simp [go_sem])
    have t0 := (HB.out.cell (p := ⟨w.heap.size + 1, 0, none⟩) (by show w.heap.size + 1 < w.heap.size + 2; omega)).trans (show _ = some (.slice none 0 0) by simp [go_sem])
    have t1 := (HB.out.cell (p := ⟨w.heap.size + 1, 1, none⟩) (by show w.heap.size + 1 < w.heap.size + 2; omega)).trans (show _ = some (.int .i64 0) by simp [go_sem])
    have f0 := (HB.out.frozen (p := ⟨w.heap.size + 1, 0, none⟩) (by show w.heap.size + 1 < w.heap.size + 2; omega)).trans (show _ = false by simp [go_sem])
    have f1 := (HB.out.frozen (p := ⟨w.heap.size + 1, 1, none⟩) (by show w.heap.size + 1 < w.heap.size + 2; omega)).trans (show _ = false by simp [go_sem])
    have HW := Lib.hid ((show Below w.heap.size w ((w.alloc (.cells #[.slice A' cl c', .int .i64 (m : Int)] 80)).alloc (.cells #[.slice none 0 0, .int .i64 0] 80)) from ((Below.refl _ _).alloc (Nat.le_refl _) _).alloc (by simp) _).trans (HB.out.mono (by omega)))
    have hgs := HO.out.lt g2 rfl
    by_cases hlt : k < ns.length
    · obtain ⟨rfl, hgn, cn1⟩ := (HN.out.below HW.out).n k hlt
      have HTK := Lib.hid (List.take_succ_eq_append_getElem hlt)
      have HTN := Lib.hid (HT.out k hlt)
      have HSN := Lib.hid (all_snoc (fun t => inB t cl) ns k hlt)
      obtain ⟨z, hz0⟩ : ∃ z, ns[k] = z := ⟨_, rfl⟩
      rw [hz0] at cn1 HTK HTN HSN
      clear hz0
      have i0' : (0 : Int) ≤ (k : Int) := by omega
      have i1' : (k : Int) < (ns.length : Int) := by omega
      by_cases hz1 : z < 0
      · have HRN := Lib.hid (HTN.out (by simp [inB]; omega))
        go_wp2_with (fail)
        go_quiet (fail)
        go_wp2
        refine bodyPost_ret (v := .tuple #[.agg #[.slice none 0 0, .int .i64 0], .bool false]) (by simp [results, Try.results116, go_sem, *]) rfl (retNone HRN.out ?_)
        repeat (with_reducible first | exact HW.out | refine below_drewN ?_ _ | refine Below.setCell ?_ (by first | omega | (simp; done) | (simp; omega)) _)
      by_cases hz2 : (cl : Int) ≤ z
      · have HRN := Lib.hid (HTN.out (by simp [inB]; omega))
        have q1 : decide (z < 0) = false := by simp; omega
        go_wp2_with (fail)
        go_quiet (fail)
        go_wp2
        refine bodyPost_ret (v := .tuple #[.agg #[.slice none 0 0, .int .i64 0], .bool false]) (by simp [results, Try.results116, go_sem, *]) rfl (retNone HRN.out ?_)
        repeat (with_reducible first | exact HW.out | refine below_drewN ?_ _ | refine Below.setCell ?_ (by first | omega | (simp; done) | (simp; omega)) _)
      · obtain ⟨j, rfl⟩ : ∃ j : Nat, z = (j : Int) := ⟨z.toNat, by omega⟩
        have hj : j < cs.length := by have := HCL.out; omega
        obtain ⟨rfl, hg, e0, e1⟩ := (HA.out.below HW.out).cl j hj
        have hgd : cs.getD j (0, false) = cs[j] := getD_lt hj _
        obtain ⟨V, hV⟩ : ∃ V, cs[j] = V := ⟨_, rfl⟩
        rw [hV] at e0 e1 hgd
        obtain ⟨vk, vb⟩ := V
        simp only at e0 e1
        have HLN : Hid ((ns.take (k + 1)).all (fun t => inB t cl) = true) := by show _ = _; rw [HSN.out, HL.out]; simp [inB]; omega
        have hfl := Lib.hid (show flatC ((ns.take (k + 1)).map fun t => cs.getD t.toNat (0, false)) = flatC ((ns.take k).map fun t => cs.getD t.toNat (0, false)) ++ [.int .i64 vk, .bool vb] by
          rw [HTK.out, List.map_append, flatC_app]; simp only [List.map_cons, List.map_nil, Int.toNat_natCast, hgd]; rfl)
        have q1 : decide ((j : Int) < 0) = false := by simp
        have q2 : decide ((cl : Int) ≤ (j : Int)) = false := by simp; omega
        have j0' : (0 : Int) ≤ (j : Int) := by omega
        have j1' : (j : Int) < (cl : Int) := by omega
        clear hV hgd HTK HSN HTN hj
        go_wp2_with (fail)
        go_quiet (fail)
        go_wp2_with (fail)
        go_region_law (go_loud (refine step_blk rfl (.tmp 35) (.tmp 44) 34 rfl (w.heap.size + 2) 37 i0 (.agg #[.int .i64 0, .bool false]) 2 16 Try.underlying34 hi iz0 iz1 iz2 rfl (by decide) g2 k c2 (flatC ((ns.take k).map fun t => cs.getD t.toNat (0, false))) rfl (by repeat (with_reducible first | exact HO.out | apply World.ownsRow.alloc | apply own_drew | apply own_drewQ)) _ 1 1 [.int .i64 vk, .bool vb] rfl rfl (news_new (by first | rfl | simp)) (by simp [Value.oneCell']) (by unfold maxLen; omega) (by omega) (by first | omega | (simp; done) | (simp; omega)) ?_; intro g5 c5 w5 hown hgr hgg; rw [← hfl.out] at hown; have HO5 := Lib.hid hown; have HB5 := Lib.hid (Below.grown (show Below (w.heap.size + 2) ((w.alloc (.cells #[.slice (some ⟨g', o', none⟩) cl c', .int .i64 (m : Int)] 80)).alloc (.cells #[.slice none 0 0, .int .i64 0] 80)) _ from by repeat (with_reducible first | exact HB.out | apply Below.drew | refine below_drewN ?_ _ | refine Below.alloc ?_ (by first | omega | (simp; done) | (simp; omega)) _)) hgr (by first | omega | (simp; done) | (simp; omega)) (fun k hk => by obtain rfl := Option.some.inj hk; exact hgs.1)); clear hown hgr hgg))
        all_goals go_wp2
        all_goals exact ⟨⟨k + 1, g5, c5, by omega, by go_num, rfl, HLN, HO5, HB5⟩, by simp [intOf]; omega⟩
    · obtain rfl : k = ns.length := by omega
      have HOF := HO.out
      rw [List.take_length] at HOF
      have HO2 := Lib.hid HOF
      have HLF := HL.out
      rw [List.take_length] at HLF
      have HR2 := Lib.hid (HY.out HLF)
      have HML := Lib.hid (show (ns.map fun t => cs.getD t.toNat (0, false)).length = ns.length from List.length_map _)
      have hne : g2 ≠ w.heap.size + 1 := by omega
      have hnf : ¬ w.heap.size + 1 = g2 := by omega
      clear HOF HLF
      go_wp2
      refine bodyPost_ret (v := .tuple #[.agg #[.slice (some ⟨g2, 0, none⟩) ns.length c2, .int .i64 (m : Int)], .bool true]) (by simp [results, Try.results116, go_sem, *]) rfl ⟨_, g2, 0, c2, ns.map fun t => cs.getD t.toNat (0, false), m, true, ⟨by rw [HML.out], mdOwn ?_, fun _ => ⟨HR2.out, rfl⟩, fun h => absurd h (by simp)⟩, ?_⟩
      · rw [HML.out]
        have h9 := own_setOff (u := .int .i64 (m : Int)) (o := 1) (own_setOff (u := .slice (some ⟨g2, 0, none⟩) ns.length c2) (o := 0) HO2.out hne) hne
        exact (FlO.of_own h9).lower (by omega)
      · repeat (with_reducible first | exact HW.out | refine Below.setCell ?_ (by first | omega | (simp; done) | (simp; omega)) _)
end Go.Proofs.Ytacinjbaebimhaa.Val
namespace Go.Proofs.Ytacinjbaebimhaa.Val
open Go.RowKit
set_option linter.unusedVariables false
set_option linter.unusedSimpArgs false
set_option maxRecDepth 8000
theorem bothC_noZ {a b : List CT} (k : Nat) (hk : k < (a.zip b).length) (h : decide ((a.zip b)[k].1.1 = (a.zip b)[k].2.1) = false) : bothC a b = none := by
  unfold bothC
  rw [if_neg]
  rintro ⟨-, h1⟩
  rw [List.all_eq_true] at h1
  have := h1 _ (List.getElem_mem hk)
  rw [h] at this; cases this
set_option maxHeartbeats 8000000 in
theorem bothMade (A1 A2 : Option Addr) (c1 g1 o1 c2 g2 o2 : Nat) (cs1 cs2 : List CT) (m1 m2 : Nat) (w : World) (h1 : Fl w g1 o1 A1 (flatC cs1)) (h2 : Fl w g2 o2 A2 (flatC cs2)) (k1 : cs1.length ≤ 2000000) (k2 : cs2.length ≤ 2000000) (hm1 : m1 ≤ 300) (hm2 : m2 ≤ 300) :
    Calls Try.prog 118 #[.agg #[.slice A1 cs1.length c1, .int .i64 (m1 : Int)], .agg #[.slice A2 cs2.length c2, .int .i64 (m2 : Int)]] w (RetMade (bothC cs1 cs2) (m1 + m2) w) := by
  obtain ⟨i0, hi, iz0, iz1, iz2⟩ := info_parts infoC
  by_cases hll : cs1.length = cs2.length
  rotate_left
  · have ht : bothC cs1 cs2 = none := by unfold bothC; rw [if_neg (fun h => hll h.1)]
    rw [ht]
    have h4' : ¬ (cs1.length : Int) = (cs2.length : Int) := by omega
    clear h1 h2 hll
    go_enter Try.func118, Try.ntmps118
    go_wp2
    refine bodyPost_ret (v := .tuple #[.agg #[.slice none 0 0, .int .i64 0], .bool false]) (by simp [results, Try.results118, go_sem, *]) rfl (retNone rfl ?_)
    repeat (with_reducible first | exact Below.refl _ _ | refine Below.alloc ?_ (by first | omega | (simp; done) | (simp; omega)) _ | refine Below.setCell ?_ (by first | omega | (simp; done) | (simp; omega)) _)
  have H1 := Lib.hid h1
  have H2 := Lib.hid h2
  have HT : Hid (∀ k (hk : k < (cs1.zip cs2).length), decide ((cs1.zip cs2)[k].1.1 = (cs1.zip cs2)[k].2.1) = false → bothC cs1 cs2 = none) := fun k hk h => bothC_noZ k hk h
  have HY : Hid ((cs1.zip cs2).all (fun p => decide (p.1.1 = p.2.1)) = true → bothC cs1 cs2 = some ((cs1.zip cs2).map fun p => (p.1.1, p.1.2 || p.2.2))) := fun h => by unfold bothC; rw [if_pos ⟨hll, h⟩]
  obtain ⟨r, hr⟩ : ∃ r, bothC cs1 cs2 = r := ⟨_, rfl⟩
  rw [hr] at HT HY ⊢
  have hzl : (cs1.zip cs2).length = cs1.length := by rw [List.length_zip]; omega
  have HZK : Hid (∀ k (h : k < (cs1.zip cs2).length), ∃ (h1 : k < cs1.length) (h2 : k < cs2.length), (cs1.zip cs2)[k] = (cs1[k], cs2[k])) := fun k h => ⟨by omega, by omega, by simp⟩
  obtain ⟨Z, hZ⟩ : ∃ Z, cs1.zip cs2 = Z := ⟨_, rfl⟩
  rw [hZ] at HT HY hzl
  have HZQ : Hid (∀ k (h : k < Z.length), ∃ (h1 : k < cs1.length) (h2 : k < cs2.length), Z[k] = (cs1[k], cs2[k])) := by subst hZ; exact HZK
  clear HZK
  obtain ⟨cl, hcl⟩ : ∃ n, Z.length = n := ⟨_, rfl⟩
  have e1 : cs1.length = cl := by omega
  have e2 : cs2.length = cl := by omega
  have HCL := Lib.hid hcl
  rw [e1] at k1 ⊢
  rw [e2] at k2 ⊢
  have hms : ((m1 + m2 : Nat) : Int) = (m1 : Int) + (m2 : Int) := by omega
  have OWN := Lib.hid (fun (W : World) (hW : W.heap.size = w.heap.size + 3) => own_empty3 (w := W) (B := w.heap.size + 3) 37 2 hW (Nat.le_refl _))
  clear h1 h2 hr hZ hcl e1 e2 hzl hll
  go_enter Try.func118, Try.ntmps118
  go_wp2
  go_loopw [6, 7] (fun ox kx wr => ∃ (k g5 c5 : Nat), k ≤ cl ∧ kx = .int .i64 k ∧ ox = .slice (some ⟨g5, 0, none⟩) k c5 ∧ Hid ((Z.take k).all (fun p => decide (p.1.1 = p.2.1)) = true) ∧ Hid (wr.ownsRow (w.heap.size + 3) 37 2 (.slice (some ⟨g5, 0, none⟩) k c5) k (flatC ((Z.take k).map fun p => (p.1.1, p.1.2 || p.2.2)))) ∧ Hid (Below (w.heap.size + 3) (((w.alloc (.cells #[.slice A1 cl c1, .int .i64 (m1 : Int)] 80)).alloc (.cells #[.slice A2 cl c2, .int .i64 (m2 : Int)] 80)).alloc (.cells #[.slice none 0 0, .int .i64 0] 80)) wr)) (fun _ kx _ => cl - (intOf kx).toNat)
  case atStart => exact ⟨0, w.heap.size + 1 + 1 + 1, 0, Nat.zero_le _, rfl, rfl, rfl, OWN.out _ (by simp), (Below.refl _ _).alloc (by simp) _⟩
  case round =>
    clear OWN
    obtain ⟨k, g5, c5, hk, rfl, rfl, HL, HO, HB⟩ := hrel
    have hz := HB.out.size
    (simp only [World.size_alloc] at hz)
    have r0 := (HB.out.cell (p := ⟨w.heap.size, 0, none⟩) (by show w.heap.size < w.heap.size + 3; omega)).trans (show _ = some (.slice A1 cl c1) by simp [go_sem])
    have r1 := (HB.out.cell (p := ⟨w.heap.size, 1, none⟩) (by show w.heap.size < w.heap.size + 3; omega)).trans (show _ = some (.int .i64 (m1 : Int)) by simp [go_sem])
    have s0 := (HB.out.cell (p := ⟨w.heap.size + 1, 0, none⟩) (by show w.heap.size + 1 < w.heap.size + 3; omega)).trans (show _ = some (.slice A2 cl c2) by simp [go_sem])
    have s1 := (HB.out.cell (p := ⟨w.heap.size + 1, 1, none⟩) (by show w.heap.size + 1 < w.heap.size + 3; omega)).trans (show _ = some (.int .i64 (m2 : Int)) by simp [go_sem])
    have t0 := (HB.out.cell (p := ⟨w.heap.size + 1 + 1, 0, none⟩) (by show w.heap.size + 1 + 1 < w.heap.size + 3; omega)).trans (show _ = some (.slice none 0 0) by simp [go_sem])
    have t1 := (HB.out.cell (p := ⟨w.heap.size + 1 + 1, 1, none⟩) (by show w.heap.size + 1 + 1 < w.heap.size + 3; omega)).trans (show _ = some (.int .i64 0) by simp [go_sem])
    have f0 := (HB.out.frozen (p := ⟨w.heap.size + 1 + 1, 0, none⟩) (by show w.heap.size + 1 + 1 < w.heap.size + 3; omega)).trans (show _ = false by simp [go_sem])
    have f1 := (HB.out.frozen (p := ⟨w.heap.size + 1 + 1, 1, none⟩) (by show w.heap.size + 1 + 1 < w.heap.size + 3; omega)).trans (show _ = false by simp [go_sem])
    have HW := Lib.hid ((show Below w.heap.size w (((w.alloc (.cells #[.slice A1 cl c1, .int .i64 (m1 : Int)] 80)).alloc (.cells #[.slice A2 cl c2, .int .i64 (m2 : Int)] 80)).alloc (.cells #[.slice none 0 0, .int .i64 0] 80)) from (((Below.refl _ _).alloc (Nat.le_refl _) _).alloc (by simp) _).alloc (by simp; omega) _).trans (HB.out.mono (by omega)))
    have hgs := HO.out.lt g5 rfl
    have hzA : w.heap.size < wr.heap.size := by omega
    have hzB : w.heap.size + 1 < wr.heap.size := by omega
    have hzC : w.heap.size + 1 + 1 < wr.heap.size := by omega
    by_cases hlt : k < cl
    · have hlt2 : k < Z.length := by rw [HCL.out]; exact hlt
      obtain ⟨p1, p2, hzk⟩ := HZQ.out k hlt2
      obtain ⟨rfl, hgx, a0, a1⟩ := (H1.out.below HW.out).cl k p1
      obtain ⟨rfl, hgy, b0, b1⟩ := (H2.out.below HW.out).cl k p2
      have HTK := Lib.hid (List.take_succ_eq_append_getElem hlt2)
      have HTN := Lib.hid (HT.out k hlt2)
      have HSN := Lib.hid (all_snoc (fun p : CT × CT => decide (p.1.1 = p.2.1)) Z k hlt2)
      rw [hzk] at HTK HTN HSN
      obtain ⟨V, hV⟩ : ∃ V, cs1[k] = V := ⟨_, rfl⟩
      obtain ⟨U, hU⟩ : ∃ V, cs2[k] = V := ⟨_, rfl⟩
      rw [hV] at a0 a1 HTK HTN HSN
      rw [hU] at b0 b1 HTK HTN HSN
      obtain ⟨vk, vb⟩ := V
      obtain ⟨uk, ub⟩ := U
      simp only at a0 a1 b0 b1
      clear hV hU hzk p1 p2 hlt2
      have i0' : (0 : Int) ≤ (k : Int) := by omega
      have i1' : (k : Int) < (cl : Int) := by omega
      by_cases hkk : vk = uk
      · subst hkk
        have HLN : Hid ((Z.take (k + 1)).all (fun p => decide (p.1.1 = p.2.1)) = true) := by show _ = _; rw [HSN.out, HL.out]; simp
        have hfl := Lib.hid (show flatC ((Z.take (k + 1)).map fun p => (p.1.1, p.1.2 || p.2.2)) = flatC ((Z.take k).map fun p => (p.1.1, p.1.2 || p.2.2)) ++ [.int .i64 vk, .bool (vb || ub)] by
          rw [HTK.out, List.map_append, flatC_app]; rfl)
        clear HTK HSN HTN
        cases vb with
        | true =>
          rw [show (true || ub) = true from rfl] at hfl
          go_wp2_with (fail)
          go_quiet (fail)
          go_wp2_with (fail)
          refine wp_region_any (by kernel_rfl) ?_
          change wpAny _ _ _ _ _ _ _ (World.drew _)
          try go_simp
          refine wpAny_take (i := 0) (v := ?_) rfl (by kernel_rfl) (by kernel_rfl) (by kernel_rfl) (fun _ _ _ h => h) (Or.inl ⟨by rfl, ?_⟩) ?_
          rotate_left 1
          · (intro w; go_simp)
            all_goals with_reducible rfl
          try go_simp
          refine wpAny_take (i := 1) (v := ?_) rfl (by kernel_rfl) (by kernel_rfl) (by kernel_rfl) (fun _ _ _ h => h) (Or.inl ⟨by rfl, ?_⟩) ?_
          rotate_left 1
          · (intro w; go_simp)
            all_goals with_reducible rfl
          try go_simp
          refine wpAny_take (i := 3) (v := ?_) rfl (by kernel_rfl) (by kernel_rfl) (by kernel_rfl) (fun _ _ _ h => h) (Or.inl ⟨by rfl, ?_⟩) ?_
          rotate_left 1
          · (intro w; go_simp)
            all_goals with_reducible rfl
          try go_simp
          refine wpAny_ready (rs := [2, 4]) (by kernel_rfl) (by simp) ?_
          refine AllReady.cons rfl (fun K0 hK0 => ?_) (AllReady.cons rfl (fun K0 hK0 => ?_) AllReady.nil)
          · skip
            go_simp
            refine hK0 _ _ ?_
            clear hK0 K0
            refine wpAny_ready (rs := [4]) (by kernel_rfl) (by simp) ?_
            refine AllReady.cons rfl (fun K0 hK0 => ?_) AllReady.nil
            go_simp
            refine hK0 _ _ ?_
            clear hK0 K0
            refine wpAny_take (i := 5) (v := .bool true) rfl (by kernel_rfl) (by kernel_rfl) (by kernel_rfl) (fun _ _ _ h => h) (Or.inl ⟨by rfl, ?_⟩) ?_
            · (intro w; go_simp)
              all_goals (first | omega | exact IntWalk.i64_in _ (by omega) | (simp; omega))
            try go_simp
            refine wpAny_take (i := 6) (v := undef) rfl (by kernel_rfl) (by kernel_rfl) (by kernel_rfl) (fun _ _ _ h => h) (Or.inr ⟨by rfl, rfl⟩) ?_
            try go_simp
            refine wpAny_take (i := 7) (v := undef) rfl (by kernel_rfl) (by kernel_rfl) (by kernel_rfl) (fun _ _ _ h => h) (Or.inr ⟨by rfl, rfl⟩) ?_
            try go_simp
            refine wpAny_take (i := 8) (v := undef) rfl (by kernel_rfl) (by kernel_rfl) (by kernel_rfl) (fun _ _ _ h => h) (Or.inr ⟨by rfl, rfl⟩) ?_
            try go_simp
            refine wpAny_take (i := 9) (v := undef) rfl (by kernel_rfl) (by kernel_rfl) (by kernel_rfl) (fun _ _ _ h => h) (Or.inr ⟨by rfl, rfl⟩) ?_
            try go_simp
            refine wpAny_take (i := 10) (v := undef) rfl (by kernel_rfl) (by kernel_rfl) (by kernel_rfl) (fun _ _ _ h => h) (Or.inr ⟨by rfl, rfl⟩) ?_
            try go_simp
            refine wpAny_take (i := 11) (v := undef) rfl (by kernel_rfl) (by kernel_rfl) (by kernel_rfl) (fun _ _ _ h => h) (Or.inr ⟨by rfl, rfl⟩) ?_
            try go_simp
            refine wpAny_take (i := 12) (v := .bool true) rfl (by kernel_rfl) (by kernel_rfl) (by kernel_rfl) (fun _ _ _ h => h) (Or.inl ⟨by rfl, ?_⟩) ?_
            · (intro w; go_simp)
              all_goals (first | omega | exact IntWalk.i64_in _ (by omega) | (simp; omega))
            try go_simp
            refine wpAny_take (i := 13) (v := ?_) rfl (by kernel_rfl) (by kernel_rfl) (by kernel_rfl) (fun _ _ _ h => h) (Or.inl ⟨by rfl, ?_⟩) ?_
            rotate_left 1
            · (intro w; go_simp)
              all_goals with_reducible rfl
            try go_simp
            refine wpAny_ready (rs := [14]) (by kernel_rfl) (by simp) ?_
            refine AllReady.cons rfl (fun K0 hK0 => ?_) AllReady.nil
            go_simp
            refine hK0 _ _ ?_
            clear hK0 K0
            refine wpAny_ready (rs := [15]) (by kernel_rfl) (by simp) ?_
            refine AllReady.cons rfl (fun K0 hK0 => ?_) AllReady.nil
            refine step_blk rfl (.tmp 40) (.tmp 54) 34 rfl (w.heap.size + 3) 37 i0 (.agg #[.int .i64 0, .bool false]) 2 16 Try.underlying34 hi iz0 iz1 iz2 rfl (by decide) g5 k c5 (flatC ((Z.take k).map fun p => (p.1.1, p.1.2 || p.2.2))) rfl (by repeat (with_reducible first | exact HO.out | apply World.ownsRow.alloc | apply own_drew | apply own_drewQ)) _ 1 1 [.int .i64 vk, .bool true] rfl rfl (news_new (by first | rfl | simp)) (by simp [Value.oneCell']) (by unfold maxLen; omega) (by omega) (by first | omega | (simp; done) | (simp; omega)) ?_
            intro g6 c6 w6 hown hgr hgg
            rw [← hfl.out] at hown
            have HO6 := Lib.hid hown
            have HB6 := Lib.hid (Below.grown (show Below (w.heap.size + 3) (((w.alloc (.cells #[.slice (some ⟨g1, o1, none⟩) cl c1, .int .i64 (m1 : Int)] 80)).alloc (.cells #[.slice (some ⟨g2, o2, none⟩) cl c2, .int .i64 (m2 : Int)] 80)).alloc (.cells #[.slice none 0 0, .int .i64 0] 80)) _ from by repeat (with_reducible first | exact HB.out | apply Below.drew | refine below_drewN ?_ _ | refine Below.alloc ?_ (by first | omega | (simp; done) | (simp; omega)) _)) hgr (by first | omega | (simp; done) | (simp; omega)) (fun k hk => by obtain rfl := Option.some.inj hk; exact hgs.1))
            clear hown hgr hgg
            refine hK0 _ _ ?_
            clear hK0 K0
            try go_simp
            refine wpAny_take (i := 16) (v := ?_) rfl (by kernel_rfl) (by kernel_rfl) (by kernel_rfl) (fun _ _ _ h => h) (Or.inl ⟨by rfl, ?_⟩) ?_
            rotate_left 1
            · (intro w; go_simp)
              all_goals with_reducible rfl
            try go_simp
            refine wpAny_done (by kernel_rfl) ?_ _
            go_wp2
            exact ⟨⟨k + 1, g6, c6, by omega, by go_num, rfl, HLN, HO6, HB6⟩, by simp [intOf]; omega⟩
          · skip
            go_simp
            refine hK0 _ _ ?_
            clear hK0 K0
            refine wpAny_take (i := 5) (v := .bool true) rfl (by kernel_rfl) (by kernel_rfl) (by kernel_rfl) (fun _ _ _ h => h) (Or.inl ⟨by rfl, ?_⟩) ?_
            · (intro w; go_simp)
              all_goals (first | omega | exact IntWalk.i64_in _ (by omega) | (simp; omega))
            try go_simp
            refine wpAny_take (i := 6) (v := undef) rfl (by kernel_rfl) (by kernel_rfl) (by kernel_rfl) (fun _ _ _ h => h) (Or.inr ⟨by rfl, rfl⟩) ?_
            try go_simp
            refine wpAny_take (i := 7) (v := undef) rfl (by kernel_rfl) (by kernel_rfl) (by kernel_rfl) (fun _ _ _ h => h) (Or.inr ⟨by rfl, rfl⟩) ?_
            try go_simp
            refine wpAny_take (i := 8) (v := undef) rfl (by kernel_rfl) (by kernel_rfl) (by kernel_rfl) (fun _ _ _ h => h) (Or.inr ⟨by rfl, rfl⟩) ?_
            try go_simp
            refine wpAny_take (i := 9) (v := undef) rfl (by kernel_rfl) (by kernel_rfl) (by kernel_rfl) (fun _ _ _ h => h) (Or.inr ⟨by rfl, rfl⟩) ?_
            try go_simp
            refine wpAny_take (i := 10) (v := undef) rfl (by kernel_rfl) (by kernel_rfl) (by kernel_rfl) (fun _ _ _ h => h) (Or.inr ⟨by rfl, rfl⟩) ?_
            try go_simp
            refine wpAny_take (i := 11) (v := undef) rfl (by kernel_rfl) (by kernel_rfl) (by kernel_rfl) (fun _ _ _ h => h) (Or.inr ⟨by rfl, rfl⟩) ?_
            try go_simp
            refine wpAny_take (i := 12) (v := .bool true) rfl (by kernel_rfl) (by kernel_rfl) (by kernel_rfl) (fun _ _ _ h => h) (Or.inl ⟨by rfl, ?_⟩) ?_
            · (intro w; go_simp)
              all_goals (first | omega | exact IntWalk.i64_in _ (by omega) | (simp; omega))
            try go_simp
            refine wpAny_ready (rs := [2]) (by kernel_rfl) (by simp) ?_
            refine AllReady.cons rfl (fun K0 hK0 => ?_) AllReady.nil
            go_simp
            refine hK0 _ _ ?_
            clear hK0 K0
            refine wpAny_take (i := 13) (v := ?_) rfl (by kernel_rfl) (by kernel_rfl) (by kernel_rfl) (fun _ _ _ h => h) (Or.inl ⟨by rfl, ?_⟩) ?_
            rotate_left 1
            · (intro w; go_simp)
              all_goals with_reducible rfl
            try go_simp
            refine wpAny_ready (rs := [14]) (by kernel_rfl) (by simp) ?_
            refine AllReady.cons rfl (fun K0 hK0 => ?_) AllReady.nil
            go_simp
            refine hK0 _ _ ?_
            clear hK0 K0
            refine wpAny_ready (rs := [15]) (by kernel_rfl) (by simp) ?_
            refine AllReady.cons rfl (fun K0 hK0 => ?_) AllReady.nil
            refine step_blk rfl (.tmp 40) (.tmp 54) 34 rfl (w.heap.size + 3) 37 i0 (.agg #[.int .i64 0, .bool false]) 2 16 Try.underlying34 hi iz0 iz1 iz2 rfl (by decide) g5 k c5 (flatC ((Z.take k).map fun p => (p.1.1, p.1.2 || p.2.2))) rfl (by repeat (with_reducible first | exact HO.out | apply World.ownsRow.alloc | apply own_drew | apply own_drewQ)) _ 1 1 [.int .i64 vk, .bool true] rfl rfl (news_new (by first | rfl | simp)) (by simp [Value.oneCell']) (by unfold maxLen; omega) (by omega) (by first | omega | (simp; done) | (simp; omega)) ?_
            intro g6 c6 w6 hown hgr hgg
            rw [← hfl.out] at hown
            have HO6 := Lib.hid hown
            have HB6 := Lib.hid (Below.grown (show Below (w.heap.size + 3) (((w.alloc (.cells #[.slice (some ⟨g1, o1, none⟩) cl c1, .int .i64 (m1 : Int)] 80)).alloc (.cells #[.slice (some ⟨g2, o2, none⟩) cl c2, .int .i64 (m2 : Int)] 80)).alloc (.cells #[.slice none 0 0, .int .i64 0] 80)) _ from by repeat (with_reducible first | exact HB.out | apply Below.drew | refine below_drewN ?_ _ | refine Below.alloc ?_ (by first | omega | (simp; done) | (simp; omega)) _)) hgr (by first | omega | (simp; done) | (simp; omega)) (fun k hk => by obtain rfl := Option.some.inj hk; exact hgs.1))
            clear hown hgr hgg
            refine hK0 _ _ ?_
            clear hK0 K0
            try go_simp
            refine wpAny_take (i := 16) (v := ?_) rfl (by kernel_rfl) (by kernel_rfl) (by kernel_rfl) (fun _ _ _ h => h) (Or.inl ⟨by rfl, ?_⟩) ?_
            rotate_left 1
            · (intro w; go_simp)
              all_goals with_reducible rfl
            try go_simp
            refine wpAny_done (by kernel_rfl) ?_ _
            go_wp2
            exact ⟨⟨k + 1, g6, c6, by omega, by go_num, rfl, HLN, HO6, HB6⟩, by simp [intOf]; omega⟩
        | false =>
          rw [show (false || ub) = ub from rfl] at hfl
          go_wp2_with (fail)
          go_quiet (fail)
          go_wp2_with (fail)
          refine wp_region_any (by kernel_rfl) ?_
          change wpAny _ _ _ _ _ _ _ (World.drew _)
          try go_simp
          refine wpAny_take (i := 0) (v := ?_) rfl (by kernel_rfl) (by kernel_rfl) (by kernel_rfl) (fun _ _ _ h => h) (Or.inl ⟨by rfl, ?_⟩) ?_
          rotate_left 1
          · (intro w; go_simp)
            all_goals with_reducible rfl
          try go_simp
          refine wpAny_take (i := 1) (v := ?_) rfl (by kernel_rfl) (by kernel_rfl) (by kernel_rfl) (fun _ _ _ h => h) (Or.inl ⟨by rfl, ?_⟩) ?_
          rotate_left 1
          · (intro w; go_simp)
            all_goals with_reducible rfl
          try go_simp
          refine wpAny_take (i := 3) (v := ?_) rfl (by kernel_rfl) (by kernel_rfl) (by kernel_rfl) (fun _ _ _ h => h) (Or.inl ⟨by rfl, ?_⟩) ?_
          rotate_left 1
          · (intro w; go_simp)
            all_goals with_reducible rfl
          try go_simp
          refine wpAny_ready (rs := [2, 4]) (by kernel_rfl) (by simp) ?_
          refine AllReady.cons rfl (fun K0 hK0 => ?_) (AllReady.cons rfl (fun K0 hK0 => ?_) AllReady.nil)
          · skip
            go_simp
            refine hK0 _ _ ?_
            clear hK0 K0
            refine wpAny_ready (rs := [4]) (by kernel_rfl) (by simp) ?_
            refine AllReady.cons rfl (fun K0 hK0 => ?_) AllReady.nil
            go_simp
            refine hK0 _ _ ?_
            clear hK0 K0
            refine wpAny_take (i := 5) (v := .bool false) rfl (by kernel_rfl) (by kernel_rfl) (by kernel_rfl) (fun _ _ _ h => h) (Or.inl ⟨by rfl, ?_⟩) ?_
            · (intro w; go_simp)
              all_goals (first | omega | exact IntWalk.i64_in _ (by omega) | (simp; omega))
            try go_simp
            refine wpAny_take (i := 6) (v := ?_) rfl (by kernel_rfl) (by kernel_rfl) (by kernel_rfl) (fun _ _ _ h => h) (Or.inl ⟨by rfl, ?_⟩) ?_
            rotate_left 1
            · (intro w; go_simp)
              all_goals with_reducible rfl
            try go_simp
            refine wpAny_take (i := 8) (v := ?_) rfl (by kernel_rfl) (by kernel_rfl) (by kernel_rfl) (fun _ _ _ h => h) (Or.inl ⟨by rfl, ?_⟩) ?_
            rotate_left 1
            · (intro w; go_simp)
              all_goals with_reducible rfl
            try go_simp
            refine wpAny_ready (rs := [7]) (by kernel_rfl) (by simp) ?_
            refine AllReady.cons rfl (fun K0 hK0 => ?_) AllReady.nil
            go_simp
            refine hK0 _ _ ?_
            clear hK0 K0
            refine wpAny_take (i := 9) (v := ?_) rfl (by kernel_rfl) (by kernel_rfl) (by kernel_rfl) (fun _ _ _ h => h) (Or.inl ⟨by rfl, ?_⟩) ?_
            rotate_left 1
            · (intro w; go_simp)
              all_goals with_reducible rfl
            try go_simp
            refine wpAny_take (i := 10) (v := ?_) rfl (by kernel_rfl) (by kernel_rfl) (by kernel_rfl) (fun _ _ _ h => h) (Or.inl ⟨by rfl, ?_⟩) ?_
            rotate_left 1
            · (intro w; go_simp)
              all_goals with_reducible rfl
            try go_simp
            refine wpAny_ready (rs := [11]) (by kernel_rfl) (by simp) ?_
            refine AllReady.cons rfl (fun K0 hK0 => ?_) AllReady.nil
            go_simp
            refine hK0 _ _ ?_
            clear hK0 K0
            refine wpAny_take (i := 12) (v := .bool ub) rfl (by kernel_rfl) (by kernel_rfl) (by kernel_rfl) (fun _ _ _ h => h) (Or.inl ⟨by rfl, ?_⟩) ?_
            · (intro w; go_simp)
              all_goals (first | omega | exact IntWalk.i64_in _ (by omega) | (simp; omega))
            try go_simp
            refine wpAny_take (i := 13) (v := ?_) rfl (by kernel_rfl) (by kernel_rfl) (by kernel_rfl) (fun _ _ _ h => h) (Or.inl ⟨by rfl, ?_⟩) ?_
            rotate_left 1
            · (intro w; go_simp)
              all_goals with_reducible rfl
            try go_simp
            refine wpAny_ready (rs := [14]) (by kernel_rfl) (by simp) ?_
            refine AllReady.cons rfl (fun K0 hK0 => ?_) AllReady.nil
            go_simp
            refine hK0 _ _ ?_
            clear hK0 K0
            refine wpAny_ready (rs := [15]) (by kernel_rfl) (by simp) ?_
            refine AllReady.cons rfl (fun K0 hK0 => ?_) AllReady.nil
            refine step_blk rfl (.tmp 40) (.tmp 54) 34 rfl (w.heap.size + 3) 37 i0 (.agg #[.int .i64 0, .bool false]) 2 16 Try.underlying34 hi iz0 iz1 iz2 rfl (by decide) g5 k c5 (flatC ((Z.take k).map fun p => (p.1.1, p.1.2 || p.2.2))) rfl (by repeat (with_reducible first | exact HO.out | apply World.ownsRow.alloc | apply own_drew | apply own_drewQ)) _ 1 1 [.int .i64 vk, .bool ub] rfl rfl (news_new (by first | rfl | simp)) (by simp [Value.oneCell']) (by unfold maxLen; omega) (by omega) (by first | omega | (simp; done) | (simp; omega)) ?_
            intro g6 c6 w6 hown hgr hgg
            rw [← hfl.out] at hown
            have HO6 := Lib.hid hown
            have HB6 := Lib.hid (Below.grown (show Below (w.heap.size + 3) (((w.alloc (.cells #[.slice (some ⟨g1, o1, none⟩) cl c1, .int .i64 (m1 : Int)] 80)).alloc (.cells #[.slice (some ⟨g2, o2, none⟩) cl c2, .int .i64 (m2 : Int)] 80)).alloc (.cells #[.slice none 0 0, .int .i64 0] 80)) _ from by repeat (with_reducible first | exact HB.out | apply Below.drew | refine below_drewN ?_ _ | refine Below.alloc ?_ (by first | omega | (simp; done) | (simp; omega)) _)) hgr (by first | omega | (simp; done) | (simp; omega)) (fun k hk => by obtain rfl := Option.some.inj hk; exact hgs.1))
            clear hown hgr hgg
            refine hK0 _ _ ?_
            clear hK0 K0
            try go_simp
            refine wpAny_take (i := 16) (v := ?_) rfl (by kernel_rfl) (by kernel_rfl) (by kernel_rfl) (fun _ _ _ h => h) (Or.inl ⟨by rfl, ?_⟩) ?_
            rotate_left 1
            · (intro w; go_simp)
              all_goals with_reducible rfl
            try go_simp
            refine wpAny_done (by kernel_rfl) ?_ _
            go_wp2
            exact ⟨⟨k + 1, g6, c6, by omega, by go_num, rfl, HLN, HO6, HB6⟩, by simp [intOf]; omega⟩
          · skip
            go_simp
            refine hK0 _ _ ?_
            clear hK0 K0
            refine wpAny_take (i := 5) (v := .bool false) rfl (by kernel_rfl) (by kernel_rfl) (by kernel_rfl) (fun _ _ _ h => h) (Or.inl ⟨by rfl, ?_⟩) ?_
            · (intro w; go_simp)
              all_goals (first | omega | exact IntWalk.i64_in _ (by omega) | (simp; omega))
            try go_simp
            refine wpAny_take (i := 6) (v := ?_) rfl (by kernel_rfl) (by kernel_rfl) (by kernel_rfl) (fun _ _ _ h => h) (Or.inl ⟨by rfl, ?_⟩) ?_
            rotate_left 1
            · (intro w; go_simp)
              all_goals with_reducible rfl
            try go_simp
            refine wpAny_take (i := 8) (v := ?_) rfl (by kernel_rfl) (by kernel_rfl) (by kernel_rfl) (fun _ _ _ h => h) (Or.inl ⟨by rfl, ?_⟩) ?_
            rotate_left 1
            · (intro w; go_simp)
              all_goals with_reducible rfl
            try go_simp
            refine wpAny_ready (rs := [2, 7]) (by kernel_rfl) (by simp) ?_
            refine AllReady.cons rfl (fun K0 hK0 => ?_) (AllReady.cons rfl (fun K0 hK0 => ?_) AllReady.nil)
            · skip
              go_simp
              refine hK0 _ _ ?_
              clear hK0 K0
              refine wpAny_ready (rs := [7]) (by kernel_rfl) (by simp) ?_
              refine AllReady.cons rfl (fun K0 hK0 => ?_) AllReady.nil
              go_simp
              refine hK0 _ _ ?_
              clear hK0 K0
              refine wpAny_take (i := 9) (v := ?_) rfl (by kernel_rfl) (by kernel_rfl) (by kernel_rfl) (fun _ _ _ h => h) (Or.inl ⟨by rfl, ?_⟩) ?_
              rotate_left 1
              · (intro w; go_simp)
                all_goals with_reducible rfl
              try go_simp
              refine wpAny_take (i := 10) (v := ?_) rfl (by kernel_rfl) (by kernel_rfl) (by kernel_rfl) (fun _ _ _ h => h) (Or.inl ⟨by rfl, ?_⟩) ?_
              rotate_left 1
              · (intro w; go_simp)
                all_goals with_reducible rfl
              try go_simp
              refine wpAny_ready (rs := [11]) (by kernel_rfl) (by simp) ?_
              refine AllReady.cons rfl (fun K0 hK0 => ?_) AllReady.nil
              go_simp
              refine hK0 _ _ ?_
              clear hK0 K0
              refine wpAny_take (i := 12) (v := .bool ub) rfl (by kernel_rfl) (by kernel_rfl) (by kernel_rfl) (fun _ _ _ h => h) (Or.inl ⟨by rfl, ?_⟩) ?_
              · (intro w; go_simp)
                all_goals (first | omega | exact IntWalk.i64_in _ (by omega) | (simp; omega))
              try go_simp
              refine wpAny_take (i := 13) (v := ?_) rfl (by kernel_rfl) (by kernel_rfl) (by kernel_rfl) (fun _ _ _ h => h) (Or.inl ⟨by rfl, ?_⟩) ?_
              rotate_left 1
              · (intro w; go_simp)
                all_goals with_reducible rfl
              try go_simp
              refine wpAny_ready (rs := [14]) (by kernel_rfl) (by simp) ?_
              refine AllReady.cons rfl (fun K0 hK0 => ?_) AllReady.nil
              go_simp
              refine hK0 _ _ ?_
              clear hK0 K0
              refine wpAny_ready (rs := [15]) (by kernel_rfl) (by simp) ?_
              refine AllReady.cons rfl (fun K0 hK0 => ?_) AllReady.nil
              refine step_blk rfl (.tmp 40) (.tmp 54) 34 rfl (w.heap.size + 3) 37 i0 (.agg #[.int .i64 0, .bool false]) 2 16 Try.underlying34 hi iz0 iz1 iz2 rfl (by decide) g5 k c5 (flatC ((Z.take k).map fun p => (p.1.1, p.1.2 || p.2.2))) rfl (by repeat (with_reducible first | exact HO.out | apply World.ownsRow.alloc | apply own_drew | apply own_drewQ)) _ 1 1 [.int .i64 vk, .bool ub] rfl rfl (news_new (by first | rfl | simp)) (by simp [Value.oneCell']) (by unfold maxLen; omega) (by omega) (by first | omega | (simp; done) | (simp; omega)) ?_
              intro g6 c6 w6 hown hgr hgg
              rw [← hfl.out] at hown
              have HO6 := Lib.hid hown
              have HB6 := Lib.hid (Below.grown (show Below (w.heap.size + 3) (((w.alloc (.cells #[.slice (some ⟨g1, o1, none⟩) cl c1, .int .i64 (m1 : Int)] 80)).alloc (.cells #[.slice (some ⟨g2, o2, none⟩) cl c2, .int .i64 (m2 : Int)] 80)).alloc (.cells #[.slice none 0 0, .int .i64 0] 80)) _ from by repeat (with_reducible first | exact HB.out | apply Below.drew | refine below_drewN ?_ _ | refine Below.alloc ?_ (by first | omega | (simp; done) | (simp; omega)) _)) hgr (by first | omega | (simp; done) | (simp; omega)) (fun k hk => by obtain rfl := Option.some.inj hk; exact hgs.1))
              clear hown hgr hgg
              refine hK0 _ _ ?_
              clear hK0 K0
              try go_simp
              refine wpAny_take (i := 16) (v := ?_) rfl (by kernel_rfl) (by kernel_rfl) (by kernel_rfl) (fun _ _ _ h => h) (Or.inl ⟨by rfl, ?_⟩) ?_
              rotate_left 1
              · (intro w; go_simp)
                all_goals with_reducible rfl
              try go_simp
              refine wpAny_done (by kernel_rfl) ?_ _
              go_wp2
              exact ⟨⟨k + 1, g6, c6, by omega, by go_num, rfl, HLN, HO6, HB6⟩, by simp [intOf]; omega⟩
            · skip
              go_simp
              refine hK0 _ _ ?_
              clear hK0 K0
              refine wpAny_take (i := 9) (v := ?_) rfl (by kernel_rfl) (by kernel_rfl) (by kernel_rfl) (fun _ _ _ h => h) (Or.inl ⟨by rfl, ?_⟩) ?_
              rotate_left 1
              · (intro w; go_simp)
                all_goals with_reducible rfl
              try go_simp
              refine wpAny_take (i := 10) (v := ?_) rfl (by kernel_rfl) (by kernel_rfl) (by kernel_rfl) (fun _ _ _ h => h) (Or.inl ⟨by rfl, ?_⟩) ?_
              rotate_left 1
              · (intro w; go_simp)
                all_goals with_reducible rfl
              try go_simp
              refine wpAny_ready (rs := [2, 11]) (by kernel_rfl) (by simp) ?_
              refine AllReady.cons rfl (fun K0 hK0 => ?_) (AllReady.cons rfl (fun K0 hK0 => ?_) AllReady.nil)
              · skip
                go_simp
                refine hK0 _ _ ?_
                clear hK0 K0
                refine wpAny_ready (rs := [11]) (by kernel_rfl) (by simp) ?_
                refine AllReady.cons rfl (fun K0 hK0 => ?_) AllReady.nil
                go_simp
                refine hK0 _ _ ?_
                clear hK0 K0
                refine wpAny_take (i := 12) (v := .bool ub) rfl (by kernel_rfl) (by kernel_rfl) (by kernel_rfl) (fun _ _ _ h => h) (Or.inl ⟨by rfl, ?_⟩) ?_
                · (intro w; go_simp)
                  all_goals (first | omega | exact IntWalk.i64_in _ (by omega) | (simp; omega))
                try go_simp
                refine wpAny_take (i := 13) (v := ?_) rfl (by kernel_rfl) (by kernel_rfl) (by kernel_rfl) (fun _ _ _ h => h) (Or.inl ⟨by rfl, ?_⟩) ?_
                rotate_left 1
                · (intro w; go_simp)
                  all_goals with_reducible rfl
                try go_simp
                refine wpAny_ready (rs := [14]) (by kernel_rfl) (by simp) ?_
                refine AllReady.cons rfl (fun K0 hK0 => ?_) AllReady.nil
                go_simp
                refine hK0 _ _ ?_
                clear hK0 K0
                refine wpAny_ready (rs := [15]) (by kernel_rfl) (by simp) ?_
                refine AllReady.cons rfl (fun K0 hK0 => ?_) AllReady.nil
                refine step_blk rfl (.tmp 40) (.tmp 54) 34 rfl (w.heap.size + 3) 37 i0 (.agg #[.int .i64 0, .bool false]) 2 16 Try.underlying34 hi iz0 iz1 iz2 rfl (by decide) g5 k c5 (flatC ((Z.take k).map fun p => (p.1.1, p.1.2 || p.2.2))) rfl (by repeat (with_reducible first | exact HO.out | apply World.ownsRow.alloc | apply own_drew | apply own_drewQ)) _ 1 1 [.int .i64 vk, .bool ub] rfl rfl (news_new (by first | rfl | simp)) (by simp [Value.oneCell']) (by unfold maxLen; omega) (by omega) (by first | omega | (simp; done) | (simp; omega)) ?_
                intro g6 c6 w6 hown hgr hgg
                rw [← hfl.out] at hown
                have HO6 := Lib.hid hown
                have HB6 := Lib.hid (Below.grown (show Below (w.heap.size + 3) (((w.alloc (.cells #[.slice (some ⟨g1, o1, none⟩) cl c1, .int .i64 (m1 : Int)] 80)).alloc (.cells #[.slice (some ⟨g2, o2, none⟩) cl c2, .int .i64 (m2 : Int)] 80)).alloc (.cells #[.slice none 0 0, .int .i64 0] 80)) _ from by repeat (with_reducible first | exact HB.out | apply Below.drew | refine below_drewN ?_ _ | refine Below.alloc ?_ (by first | omega | (simp; done) | (simp; omega)) _)) hgr (by first | omega | (simp; done) | (simp; omega)) (fun k hk => by obtain rfl := Option.some.inj hk; exact hgs.1))
                clear hown hgr hgg
                refine hK0 _ _ ?_
                clear hK0 K0
                try go_simp
                refine wpAny_take (i := 16) (v := ?_) rfl (by kernel_rfl) (by kernel_rfl) (by kernel_rfl) (fun _ _ _ h => h) (Or.inl ⟨by rfl, ?_⟩) ?_
                rotate_left 1
                · (intro w; go_simp)
                  all_goals with_reducible rfl
                try go_simp
                refine wpAny_done (by kernel_rfl) ?_ _
                go_wp2
                exact ⟨⟨k + 1, g6, c6, by omega, by go_num, rfl, HLN, HO6, HB6⟩, by simp [intOf]; omega⟩
              · skip
                go_simp
                refine hK0 _ _ ?_
                clear hK0 K0
                refine wpAny_take (i := 12) (v := .bool ub) rfl (by kernel_rfl) (by kernel_rfl) (by kernel_rfl) (fun _ _ _ h => h) (Or.inl ⟨by rfl, ?_⟩) ?_
                · (intro w; go_simp)
                  all_goals (first | omega | exact IntWalk.i64_in _ (by omega) | (simp; omega))
                try go_simp
                refine wpAny_ready (rs := [2]) (by kernel_rfl) (by simp) ?_
                refine AllReady.cons rfl (fun K0 hK0 => ?_) AllReady.nil
                go_simp
                refine hK0 _ _ ?_
                clear hK0 K0
                refine wpAny_take (i := 13) (v := ?_) rfl (by kernel_rfl) (by kernel_rfl) (by kernel_rfl) (fun _ _ _ h => h) (Or.inl ⟨by rfl, ?_⟩) ?_
                rotate_left 1
                · (intro w; go_simp)
                  all_goals with_reducible rfl
                try go_simp
                refine wpAny_ready (rs := [14]) (by kernel_rfl) (by simp) ?_
                refine AllReady.cons rfl (fun K0 hK0 => ?_) AllReady.nil
                go_simp
                refine hK0 _ _ ?_
                clear hK0 K0
                refine wpAny_ready (rs := [15]) (by kernel_rfl) (by simp) ?_
                refine AllReady.cons rfl (fun K0 hK0 => ?_) AllReady.nil
                refine step_blk rfl (.tmp 40) (.tmp 54) 34 rfl (w.heap.size + 3) 37 i0 (.agg #[.int .i64 0, .bool false]) 2 16 Try.underlying34 hi iz0 iz1 iz2 rfl (by decide) g5 k c5 (flatC ((Z.take k).map fun p => (p.1.1, p.1.2 || p.2.2))) rfl (by repeat (with_reducible first | exact HO.out | apply World.ownsRow.alloc | apply own_drew | apply own_drewQ)) _ 1 1 [.int .i64 vk, .bool ub] rfl rfl (news_new (by first | rfl | simp)) (by simp [Value.oneCell']) (by unfold maxLen; omega) (by omega) (by first | omega | (simp; done) | (simp; omega)) ?_
                intro g6 c6 w6 hown hgr hgg
                rw [← hfl.out] at hown
                have HO6 := Lib.hid hown
                have HB6 := Lib.hid (Below.grown (show Below (w.heap.size + 3) (((w.alloc (.cells #[.slice (some ⟨g1, o1, none⟩) cl c1, .int .i64 (m1 : Int)] 80)).alloc (.cells #[.slice (some ⟨g2, o2, none⟩) cl c2, .int .i64 (m2 : Int)] 80)).alloc (.cells #[.slice none 0 0, .int .i64 0] 80)) _ from by repeat (with_reducible first | exact HB.out | apply Below.drew | refine below_drewN ?_ _ | refine Below.alloc ?_ (by first | omega | (simp; done) | (simp; omega)) _)) hgr (by first | omega | (simp; done) | (simp; omega)) (fun k hk => by obtain rfl := Option.some.inj hk; exact hgs.1))
                clear hown hgr hgg
                refine hK0 _ _ ?_
                clear hK0 K0
                try go_simp
                refine wpAny_take (i := 16) (v := ?_) rfl (by kernel_rfl) (by kernel_rfl) (by kernel_rfl) (fun _ _ _ h => h) (Or.inl ⟨by rfl, ?_⟩) ?_
                rotate_left 1
                · (intro w; go_simp)
                  all_goals with_reducible rfl
                try go_simp
                refine wpAny_done (by kernel_rfl) ?_ _
                go_wp2
                exact ⟨⟨k + 1, g6, c6, by omega, by go_num, rfl, HLN, HO6, HB6⟩, by simp [intOf]; omega⟩
      · have HRN := Lib.hid (HTN.out (by simpa using hkk))
        go_wp2_with (fail)
        go_quiet (fail)
        go_wp2
        refine bodyPost_ret (v := .tuple #[.agg #[.slice none 0 0, .int .i64 0], .bool false]) (by simp [results, Try.results118, go_sem, *]) rfl (retNone HRN.out ?_)
        repeat (with_reducible first | exact HW.out | refine below_drewN ?_ _ | refine Below.alloc ?_ (by first | omega | (simp; done) | (simp; omega)) _ | refine Below.setCell ?_ (by first | omega | (simp; done) | (simp; omega)) _)
    · obtain rfl : k = cl := by omega
      have HOF := HO.out
      rw [List.take_of_length_le (by rw [HCL.out]; exact Nat.le_refl _)] at HOF
      have HO2 := Lib.hid HOF
      have HLF := HL.out
      rw [List.take_of_length_le (by rw [HCL.out]; exact Nat.le_refl _)] at HLF
      have HR2 := Lib.hid (HY.out HLF)
      have HML := Lib.hid (show (Z.map fun p => (p.1.1, p.1.2 || p.2.2)).length = k from by rw [List.length_map, HCL.out])
      have hne : g5 ≠ w.heap.size + 1 + 1 := by omega
      have hnf : ¬ w.heap.size + 1 + 1 = g5 := by omega
      have HMS := Lib.hid hms
      clear HOF HLF hms
      go_wp2
      refine bodyPost_ret (v := .tuple #[.agg #[.slice (some ⟨g5, 0, none⟩) k c5, .int .i64 ((m1 : Int) + (m2 : Int))], .bool true]) (by simp [results, Try.results118, go_sem, *]) rfl ⟨_, g5, 0, c5, Z.map fun p => (p.1.1, p.1.2 || p.2.2), m1 + m2, true, ⟨by rw [HML.out, HMS.out], mdOwn ?_, fun _ => ⟨HR2.out, rfl⟩, fun h => absurd h (by simp)⟩, ?_⟩
      · rw [HML.out]
        have h9 := own_setOff (u := .int .i64 ((m1 : Int) + (m2 : Int))) (o := 1) (own_setOff (u := .slice (some ⟨g5, 0, none⟩) k c5) (o := 0) HO2.out hne) hne
        exact (FlO.of_own h9).lower (by omega)
      · repeat (with_reducible first | exact HW.out | refine Below.setCell ?_ (by first | omega | (simp; done) | (simp; omega)) _)
end Go.Proofs.Ytacinjbaebimhaa.Val
namespace Go.Proofs.Ytacinjbaebimhaa.Val
open Go.RowKit
set_option linter.unusedVariables false
set_option linter.unusedSimpArgs false
set_option maxRecDepth 8000
/-- What a step was told: its columns, its number, or nothing. -/
def RetStep (X : Nat) (r : Option MT) (w : World) (e : Ending) (w' : World) : Prop := ∃ (A : Option Addr) (g o c : Nat) (cs : List CT) (k : Nat) (ok : Bool), (e = .returned (.tuple #[.agg #[.slice A cs.length c, .int .i64 (k : Int)], .bool ok]) ∧ MdAt (· ≠ X) w' ((A, c, g, o), (cs, k)) ∧ (ok = true → r = some (cs, k)) ∧ (ok = false → r = none)) ∧ Below w.heap.size w w'
theorem stepNone {X : Nat} {r : Option MT} {w w' : World} (hr : r = none) (hb : Below w.heap.size w w') : RetStep X r w (.returned (.tuple #[.agg #[.slice none 0 0, .int .i64 0], .bool false])) w' :=
  ⟨none, 0, 0, 0, [], 0, false, ⟨rfl, mdNone _ _, fun h => absurd h (by simp), fun _ => hr⟩, hb⟩
theorem mdSet {P : Nat → Prop} {X b o : Nat} {w : World} {u : Value} {d : MD} (h : MdAt P w d) (hp : ∀ k, k < w.heap.size → P k → k ≠ b ∧ k ≠ X) : MdAt (fun k => k ≠ b ∧ k ≠ X) (w.setCell ⟨b, o, none⟩ u) d :=
  ⟨h.1.move (fun k hk hpk => Below.heap_setCell _ _ _ _ (hp k hk hpk).1) hp, h.2⟩
theorem mdSet2 {P : Nat → Prop} {X b : Nat} {w : World} {u v : Value} {d : MD} (h : MdAt P w d) (hp : ∀ k, k < w.heap.size → P k → k ≠ b ∧ k ≠ X) : MdAt (· ≠ X) ((w.setCell ⟨b, 0, none⟩ u).setCell ⟨b, 1, none⟩ v) d := by
  have h1 := mdSet (o := 1) (u := v) (mdSet (o := 0) (u := u) h hp) (fun _ _ h => h)
  exact ⟨⟨h1.1.fl, fun h0 => (h1.1.q h0).2⟩, h1.2⟩
theorem mdKeep {P P' : Nat → Prop} {w w' : World} {d : MD} (h : MdAt P w d) (hb : Below w.heap.size w w') (hp : ∀ k, k < w.heap.size → P k → P' k) : MdAt P' w' d := ⟨h.1.move (Same.below hb) hp, h.2⟩
theorem ldKeep {w W W1 : World} {sb gA p q : Nat} {x1 x2 x3 x4 y1 y2 y3 y4 : Value} (h : W.cell? ⟨sb, 1, none⟩ = some x1 ∧ W.cell? ⟨sb, 2, none⟩ = some x2 ∧ W.cell? ⟨sb, 4, none⟩ = some x3 ∧ W.cell? ⟨sb, 5, none⟩ = some x4 ∧ W.cell? ⟨gA, p, none⟩ = some y1 ∧ W.cell? ⟨gA, p + 1, none⟩ = some y2 ∧ W.cell? ⟨gA, q, none⟩ = some y3 ∧ W.cell? ⟨gA, q + 1, none⟩ = some y4 ∧ Below w.heap.size w W ∧ w.heap.size ≤ W.heap.size) (hb : Below W.heap.size W W1) : W1.cell? ⟨sb, 1, none⟩ = some x1 ∧ W1.cell? ⟨sb, 2, none⟩ = some x2 ∧ W1.cell? ⟨sb, 4, none⟩ = some x3 ∧ W1.cell? ⟨sb, 5, none⟩ = some x4 ∧ W1.cell? ⟨gA, p, none⟩ = some y1 ∧ W1.cell? ⟨gA, p + 1, none⟩ = some y2 ∧ W1.cell? ⟨gA, q, none⟩ = some y3 ∧ W1.cell? ⟨gA, q + 1, none⟩ = some y4 ∧ Below w.heap.size w W1 ∧ w.heap.size ≤ W1.heap.size := by
  obtain ⟨h1, h2, h3, h4, h5, h6, h7, h8, h9, h10⟩ := h
  have hc := fun b q x (h : W.cell? ⟨b, q, none⟩ = some x) => (hb.cell (p := ⟨b, q, none⟩) (World.block_lt_of_cell? W ⟨b, q, none⟩ h)).trans h
  exact ⟨hc _ _ _ h1, hc _ _ _ h2, hc _ _ _ h3, hc _ _ _ h4, hc _ _ _ h5, hc _ _ _ h6, hc _ _ _ h7, hc _ _ _ h8, h9.trans (hb.mono h10), Nat.le_trans h10 hb.size⟩
theorem ldDrew {w W : World} {sb gA p q : Nat} {x1 x2 x3 x4 y1 y2 y3 y4 : Value} (h : W.cell? ⟨sb, 1, none⟩ = some x1 ∧ W.cell? ⟨sb, 2, none⟩ = some x2 ∧ W.cell? ⟨sb, 4, none⟩ = some x3 ∧ W.cell? ⟨sb, 5, none⟩ = some x4 ∧ W.cell? ⟨gA, p, none⟩ = some y1 ∧ W.cell? ⟨gA, p + 1, none⟩ = some y2 ∧ W.cell? ⟨gA, q, none⟩ = some y3 ∧ W.cell? ⟨gA, q + 1, none⟩ = some y4 ∧ Below w.heap.size w W ∧ w.heap.size ≤ W.heap.size) : W.drew.cell? ⟨sb, 1, none⟩ = some x1 ∧ W.drew.cell? ⟨sb, 2, none⟩ = some x2 ∧ W.drew.cell? ⟨sb, 4, none⟩ = some x3 ∧ W.drew.cell? ⟨sb, 5, none⟩ = some x4 ∧ W.drew.cell? ⟨gA, p, none⟩ = some y1 ∧ W.drew.cell? ⟨gA, p + 1, none⟩ = some y2 ∧ W.drew.cell? ⟨gA, q, none⟩ = some y3 ∧ W.drew.cell? ⟨gA, q + 1, none⟩ = some y4 ∧ Below w.heap.size w W.drew ∧ w.heap.size ≤ W.drew.heap.size := ldKeep h ((Below.refl _ _).drew)
theorem ldBelow {w W : World} {sb gA p q : Nat} {x1 x2 x3 x4 y1 y2 y3 y4 : Value} (h : W.cell? ⟨sb, 1, none⟩ = some x1 ∧ W.cell? ⟨sb, 2, none⟩ = some x2 ∧ W.cell? ⟨sb, 4, none⟩ = some x3 ∧ W.cell? ⟨sb, 5, none⟩ = some x4 ∧ W.cell? ⟨gA, p, none⟩ = some y1 ∧ W.cell? ⟨gA, p + 1, none⟩ = some y2 ∧ W.cell? ⟨gA, q, none⟩ = some y3 ∧ W.cell? ⟨gA, q + 1, none⟩ = some y4 ∧ Below w.heap.size w W ∧ w.heap.size ≤ W.heap.size) : Below w.heap.size w W := h.2.2.2.2.2.2.2.2.1
theorem ldSet {w W : World} {sb gA p q rb o : Nat} {x1 x2 x3 x4 y1 y2 y3 y4 u : Value} (h : W.cell? ⟨sb, 1, none⟩ = some x1 ∧ W.cell? ⟨sb, 2, none⟩ = some x2 ∧ W.cell? ⟨sb, 4, none⟩ = some x3 ∧ W.cell? ⟨sb, 5, none⟩ = some x4 ∧ W.cell? ⟨gA, p, none⟩ = some y1 ∧ W.cell? ⟨gA, p + 1, none⟩ = some y2 ∧ W.cell? ⟨gA, q, none⟩ = some y3 ∧ W.cell? ⟨gA, q + 1, none⟩ = some y4 ∧ Below w.heap.size w W ∧ w.heap.size ≤ W.heap.size) (h1 : sb ≠ rb) (h2 : gA ≠ rb) (h3 : w.heap.size ≤ rb) : (W.setCell ⟨rb, o, none⟩ u).cell? ⟨sb, 1, none⟩ = some x1 ∧ (W.setCell ⟨rb, o, none⟩ u).cell? ⟨sb, 2, none⟩ = some x2 ∧ (W.setCell ⟨rb, o, none⟩ u).cell? ⟨sb, 4, none⟩ = some x3 ∧ (W.setCell ⟨rb, o, none⟩ u).cell? ⟨sb, 5, none⟩ = some x4 ∧ (W.setCell ⟨rb, o, none⟩ u).cell? ⟨gA, p, none⟩ = some y1 ∧ (W.setCell ⟨rb, o, none⟩ u).cell? ⟨gA, p + 1, none⟩ = some y2 ∧ (W.setCell ⟨rb, o, none⟩ u).cell? ⟨gA, q, none⟩ = some y3 ∧ (W.setCell ⟨rb, o, none⟩ u).cell? ⟨gA, q + 1, none⟩ = some y4 ∧ Below w.heap.size w (W.setCell ⟨rb, o, none⟩ u) ∧ w.heap.size ≤ (W.setCell ⟨rb, o, none⟩ u).heap.size := by
  obtain ⟨a1, a2, a3, a4, a5, a6, a7, a8, a9, a10⟩ := h
  have hc := fun b q x (hb : b ≠ rb) (h : W.cell? ⟨b, q, none⟩ = some x) => (cellOf (Below.heap_setCell W ⟨rb, o, none⟩ u b hb)).trans h
  exact ⟨hc _ _ _ h1 a1, hc _ _ _ h1 a2, hc _ _ _ h1 a3, hc _ _ _ h1 a4, hc _ _ _ h2 a5, hc _ _ _ h2 a6, hc _ _ _ h2 a7, hc _ _ _ h2 a8, a9.setCell h3 _, by simpa [World.setCell] using a10⟩
set_option maxHeartbeats 8000000 in
theorem made_2 (AT AA : Option Addr) (nT cT gA oA cA X : Nat) (L : List MT) (i : Nat) (b : Int) (n : Int) (A1 A2 : Option Addr) (g1 o1 c1 g2 o2 c2 : Nat) (es : List PT) (ns : List Int) (w : World) (hA : MdQ (· ≠ X) w gA oA AA L) (hXw : X < w.heap.size) (hsm : ∀ x ∈ L, x.1.length ≤ 4 ∧ x.2 ≤ 300) (hE : Fl w g1 o1 A1 (flatP es)) (hN : Fl w g2 o2 A2 (ns.map iv)) (hs : OkS1 (2, (i : Int), b, n, es, ns)) (hf : fieldsI 2 (i : Int) b n es.length ns.length nT L.length = true) (hi : i < L.length) :
    Calls Try.prog 82 #[.slice AT nT cT, .slice AA L.length cA, .agg #[.int .i64 2, .int .i64 (i : Int), .int .i64 b, .int .i64 n, .slice A1 es.length c1, .slice A2 ns.length c2]] w (RetStep X (if kindI L[i].1 es = 3 then some L[i] else none) w) := by
  have C := Lib.hid (fun W => fieldsOk 2 (i : Int) b n A1 A2 es.length c1 ns.length c2 nT L.length W)
  rw [hf] at C
  obtain ⟨hs1, hs2, hs3⟩ := hs
  simp only at hs1 hs2 hs3
  obtain ⟨rfl, hg, B1, d1, h1, p1, ca0, ca1, fa, na, la⟩ := hA.at i hi
  have sa := hsm _ (List.getElem_mem hi)
  have q0 : (0 : Int) ≤ (i : Int) := by omega
  have q1 : (i : Int) < (L.length : Int) := by omega
  obtain ⟨V, hV⟩ : ∃ V, L[i] = V := ⟨_, rfl⟩
  rw [hV] at ca0 ca1 fa la sa ⊢
  obtain ⟨X1, m1⟩ := V
  simp only at ca0 ca1 fa la sa ⊢
  obtain ⟨sa4, sa2⟩ := sa
  have sa1 : X1.length ≤ 2000000 := by omega
  have CT := Lib.hid (fun W (hb : Below w.heap.size w W) => testedMade B1 A1 d1 h1 p1 g1 o1 c1 X1 (m1 : Int) es W (fa.fl.below hb) (hE.below hb) sa1 hs1 hs2)
  have HFA : Hid (FlQ (fun k => k < w.heap.size ∧ k ≠ X) w h1 p1 B1 (flatC X1)) := ⟨fa.fl, fun h0 => ⟨fa.fl.lt h0, fa.q h0⟩⟩
  have HMA : Hid (MdAt (fun k => k < w.heap.size ∧ k ≠ X) w ((B1, d1, h1, p1), (X1, m1))) := ⟨HFA.out, na, la⟩
  clear HFA
  obtain ⟨x1, hx1⟩ : ∃ m, X1.length = m := ⟨_, rfl⟩
  have HX1 := Lib.hid hx1
  obtain ⟨kk, hkk⟩ : ∃ q, kindI X1 es = q := ⟨_, rfl⟩
  rw [hkk, hx1] at CT
  rw [hkk]
  obtain ⟨r, hr⟩ : ∃ r, (if kk = 3 then some (X1, m1) else none : Option MT) = r := ⟨_, rfl⟩
  have HR := Lib.hid hr
  rw [hr]
  rw [hx1] at ca0
  obtain ⟨el, hel⟩ : ∃ m, es.length = m := ⟨_, rfl⟩
  obtain ⟨nl, hnl⟩ : ∃ m, ns.length = m := ⟨_, rfl⟩
  rw [hel] at CT
  rw [hel, hnl]
  rw [hel, hnl] at C
  have hg1 : gA < w.heap.size + 1 := by omega
  have hg2 : gA < w.heap.size + 1 + 1 := by omega
  clear hA hsm hE hN fa na la hV hf hx1 hel hnl
  clear hkk hr
  go_enter Try.func82, Try.ntmps82
  go_wp2_with ((go_at_call 114; ((with_reducible refine (C.out _).mono ?_); (try (have hc10 := hc9; have hf10 := hf9; have hz10 := hz9; have hb10 := hb9; have hya_10 := hya_9; have hyb_10 := hyb_9; clear hc9 hf9 hz9 hb9 hya_9 hyb_9)); (try (have hc9 := hc8; have hf9 := hf8; have hz9 := hz8; have hb9 := hb8; have hya_9 := hya_8; have hyb_9 := hyb_8; clear hc8 hf8 hz8 hb8 hya_8 hyb_8)); (try (have hc8 := hc7; have hf8 := hf7; have hz8 := hz7; have hb8 := hb7; have hya_8 := hya_7; have hyb_8 := hyb_7; clear hc7 hf7 hz7 hb7 hya_7 hyb_7)); (try (have hc7 := hc6; have hf7 := hf6; have hz7 := hz6; have hb7 := hb6; have hya_7 := hya_6; have hyb_7 := hyb_6; clear hc6 hf6 hz6 hb6 hya_6 hyb_6)); (try (have hc6 := hc5; have hf6 := hf5; have hz6 := hz5; have hb6 := hb5; have hya_6 := hya_5; have hyb_6 := hyb_5; clear hc5 hf5 hz5 hb5 hya_5 hyb_5)); (try (have hc5 := hc4; have hf5 := hf4; have hz5 := hz4; have hb5 := hb4; have hya_5 := hya_4; have hyb_5 := hyb_4; clear hc4 hf4 hz4 hb4 hya_4 hyb_4)); (try (have hc4 := hc3; have hf4 := hf3; have hz4 := hz3; have hb4 := hb3; have hya_4 := hya_3; have hyb_4 := hyb_3; clear hc3 hf3 hz3 hb3 hya_3 hyb_3)); (try (have hc3 := hc2; have hf3 := hf2; have hz3 := hz2; have hb3 := hb2; have hya_3 := hya_2; have hyb_3 := hyb_2; clear hc2 hf2 hz2 hb2 hya_2 hyb_2)); (try (have hc2 := hc1; have hf2 := hf1; have hz2 := hz1; have hb2 := hb1; have hya_2 := hya_1; have hyb_2 := hyb_1; clear hc1 hf1 hz1 hb1 hya_1 hyb_1)); rintro e w1 ⟨rfl, hb1⟩; obtain ⟨hc1, hf1⟩ := bcell hb1; (try simp only [World.size_drew, World.cell?_drew, World.frozen?_drew] at hc1 hf1); have hz1 := hb1.size; (try simp at hz1); have hya_1 : w.heap.size < w1.heap.size := (by omega); have hyb_1 : w.heap.size + 1 < w1.heap.size := (by omega))))
  have hz0 : w.heap.size < w1.heap.size := by omega
  have hz9 : w.heap.size + 1 < w1.heap.size := by omega
  have hgw : gA < w1.heap.size := by omega
  have HB1 : Hid (Below w.heap.size w w1) := (show Below _ _ _ from by (repeat (with_reducible first | exact Below.refl _ _ | exact HBD.out | (refine Below.trans ?_ (Below.mono hb1 (by first | omega | (simp; done) | (simp; omega))); clear hb1) | (refine Below.trans ?_ (Below.mono hb2 (by first | omega | (simp; done) | (simp; omega))); clear hb2) | (refine Below.trans ?_ (Below.mono hb3 (by first | omega | (simp; done) | (simp; omega))); clear hb3) | (refine Below.trans ?_ (Below.mono hb4 (by first | omega | (simp; done) | (simp; omega))); clear hb4) | (refine Below.trans ?_ (Below.mono hb5 (by first | omega | (simp; done) | (simp; omega))); clear hb5) | (refine Below.trans ?_ (Below.mono hb6 (by first | omega | (simp; done) | (simp; omega))); clear hb6) | (refine Below.trans ?_ (Below.mono hb7 (by first | omega | (simp; done) | (simp; omega))); clear hb7) | (refine Below.trans ?_ (Below.mono hb8 (by first | omega | (simp; done) | (simp; omega))); clear hb8) | (refine Below.trans ?_ (Below.mono hb9 (by first | omega | (simp; done) | (simp; omega))); clear hb9) | (refine Below.trans ?_ (Below.mono hb10 (by first | omega | (simp; done) | (simp; omega))); clear hb10) | refine Below.alloc ?_ (by first | omega | (simp; done) | (simp; omega)) _ | refine Below.setCell ?_ (by first | omega | (simp; done) | (simp; omega)) _ | refine Below.drew ?_)))
  have hHELD : (fun W : World => W.cell? ⟨w.heap.size, 1, none⟩ = some (.int .i64 (i : Int)) ∧ W.cell? ⟨w.heap.size, 2, none⟩ = some (.int .i64 b) ∧ W.cell? ⟨w.heap.size, 4, none⟩ = some (.slice A1 el c1) ∧ W.cell? ⟨w.heap.size, 5, none⟩ = some (.slice A2 nl c2) ∧ W.cell? ⟨gA, oA + i * 2, none⟩ = some (.slice B1 x1 d1) ∧ W.cell? ⟨gA, oA + i * 2 + 1, none⟩ = some (.int .i64 (m1 : Int)) ∧ W.cell? ⟨gA, oA + i * 2, none⟩ = some (.slice B1 x1 d1) ∧ W.cell? ⟨gA, oA + i * 2 + 1, none⟩ = some (.int .i64 (m1 : Int)) ∧ Below w.heap.size w W ∧ w.heap.size ≤ W.heap.size) w1 := ⟨by simp [go_sem, *], by simp [go_sem, *], by simp [go_sem, *], by simp [go_sem, *], by simp [go_sem, *], by simp [go_sem, *], by simp [go_sem, *], by simp [go_sem, *], HB1.out, by omega⟩
  go_region_held_law (fun W : World => W.cell? ⟨w.heap.size, 1, none⟩ = some (.int .i64 (i : Int)) ∧ W.cell? ⟨w.heap.size, 2, none⟩ = some (.int .i64 b) ∧ W.cell? ⟨w.heap.size, 4, none⟩ = some (.slice A1 el c1) ∧ W.cell? ⟨w.heap.size, 5, none⟩ = some (.slice A2 nl c2) ∧ W.cell? ⟨gA, oA + i * 2, none⟩ = some (.slice B1 x1 d1) ∧ W.cell? ⟨gA, oA + i * 2 + 1, none⟩ = some (.int .i64 (m1 : Int)) ∧ W.cell? ⟨gA, oA + i * 2, none⟩ = some (.slice B1 x1 d1) ∧ W.cell? ⟨gA, oA + i * 2 + 1, none⟩ = some (.int .i64 (m1 : Int)) ∧ Below w.heap.size w W ∧ w.heap.size ≤ W.heap.size) (first | exact ldKeep (by assumption) hbq | exact ldDrew (by assumption) | exact ldSet (ldSet (by assumption) (by omega) (by omega) (by omega)) (by omega) (by omega) (by omega) | assumption) ((go_at_call 115; (with_reducible refine (CT.out _ (ldBelow (by assumption))).mono ?_); rintro e wc ⟨rfl, hbq⟩; obtain ⟨hc2, hf2⟩ := bcell hbq; (try simp only [World.size_drew, World.cell?_drew, World.frozen?_drew] at hc2 hf2); have hz2 := hbq.size; (try simp at hz2); have HBC := Lib.hid hbq))
  all_goals (have HBL := Lib.hid (ldBelow (by assumption)))
  have HBF : Hid (Below w.heap.size w wc) := HB1.out.drew.trans (HBC.out.mono (show w.heap.size ≤ w1.heap.size by omega))
  all_goals (go_wp2)
  all_goals (have z0 : wc.cell? ⟨w.heap.size + 1, 0, none⟩ = some (.slice none 0 0) := (by simp [go_sem, *]))
  all_goals (have z1 : wc.cell? ⟨w.heap.size + 1, 1, none⟩ = some (.int .i64 0) := (by simp [go_sem, *]))
  refine bodyPost_ret (v := .tuple #[.agg #[.slice B1 x1 d1, .int .i64 (m1 : Int)], .bool (decide (kk = 3))]) (by simp [results, Try.results82, go_sem, *]) rfl ?_
  exact ⟨B1, h1, p1, d1, X1, m1, decide (kk = 3), ⟨by rw [HX1.out], mdSet2 (mdKeep HMA.out HBF.out (fun k _ h => h)) (fun k hk h => ⟨by have := h.1; omega, h.2⟩), fun h => by rw [← HR.out, if_pos (of_decide_eq_true h)], fun h => by rw [← HR.out, if_neg (of_decide_eq_false h)]⟩, HBL.out⟩
set_option maxHeartbeats 8000000 in
theorem made_3 (AT AA : Option Addr) (nT cT gA oA cA X : Nat) (L : List MT) (i : Nat) (b : Int) (n : Int) (A1 A2 : Option Addr) (g1 o1 c1 g2 o2 c2 : Nat) (es : List PT) (ns : List Int) (w : World) (hA : MdQ (· ≠ X) w gA oA AA L) (hXw : X < w.heap.size) (hsm : ∀ x ∈ L, x.1.length ≤ 4 ∧ x.2 ≤ 300) (hE : Fl w g1 o1 A1 (flatP es)) (hN : Fl w g2 o2 A2 (ns.map iv)) (hs : OkS1 (3, (i : Int), b, n, es, ns)) (hf : fieldsI 3 (i : Int) b n es.length ns.length nT L.length = true) (hi : i < L.length) :
    Calls Try.prog 82 #[.slice AT nT cT, .slice AA L.length cA, .agg #[.int .i64 3, .int .i64 (i : Int), .int .i64 b, .int .i64 n, .slice A1 es.length c1, .slice A2 ns.length c2]] w (RetStep X ((takeC L[i].1 ns).map fun c => (c, L[i].2)) w) := by
  have C := Lib.hid (fun W => fieldsOk 3 (i : Int) b n A1 A2 es.length c1 ns.length c2 nT L.length W)
  rw [hf] at C
  obtain ⟨hs1, hs2, hs3⟩ := hs
  simp only at hs1 hs2 hs3
  obtain ⟨rfl, hg, B1, d1, h1, p1, ca0, ca1, fa, na, la⟩ := hA.at i hi
  have sa := hsm _ (List.getElem_mem hi)
  have q0 : (0 : Int) ≤ (i : Int) := by omega
  have q1 : (i : Int) < (L.length : Int) := by omega
  obtain ⟨V, hV⟩ : ∃ V, L[i] = V := ⟨_, rfl⟩
  rw [hV] at ca0 ca1 fa la sa ⊢
  obtain ⟨X1, m1⟩ := V
  simp only at ca0 ca1 fa la sa ⊢
  obtain ⟨sa4, sa2⟩ := sa
  have sa1 : X1.length ≤ 2000000 := by omega
  have CT := Lib.hid (fun W (hb : Below w.heap.size w W) => takenMade B1 A2 d1 h1 p1 g2 o2 c2 X1 m1 ns W (fa.fl.below hb) (hN.below hb) sa1 hs3)
  unfold RetMade at CT
  have HFA : Hid (FlQ (fun k => k < w.heap.size ∧ k ≠ X) w h1 p1 B1 (flatC X1)) := ⟨fa.fl, fun h0 => ⟨fa.fl.lt h0, fa.q h0⟩⟩
  have HMA : Hid (MdAt (fun k => k < w.heap.size ∧ k ≠ X) w ((B1, d1, h1, p1), (X1, m1))) := ⟨HFA.out, na, la⟩
  clear HFA
  obtain ⟨x1, hx1⟩ : ∃ m, X1.length = m := ⟨_, rfl⟩
  have HX1 := Lib.hid hx1
  obtain ⟨r, hr⟩ : ∃ r, takeC X1 ns = r := ⟨_, rfl⟩
  rw [hr] at CT ⊢
  obtain ⟨r2, hr2⟩ : ∃ r2, (r.map fun c => (c, m1)) = r2 := ⟨_, rfl⟩
  have HR := Lib.hid hr2
  rw [hr2]
  clear hr2
  rw [hx1] at CT
  rw [hx1] at ca0
  obtain ⟨el, hel⟩ : ∃ m, es.length = m := ⟨_, rfl⟩
  obtain ⟨nl, hnl⟩ : ∃ m, ns.length = m := ⟨_, rfl⟩
  rw [hnl] at CT
  rw [hel, hnl]
  rw [hel, hnl] at C
  have hg1 : gA < w.heap.size + 1 := by omega
  have hg2 : gA < w.heap.size + 1 + 1 := by omega
  clear hA hsm hE hN fa na la hV hf hx1 hel hnl
  clear hr
  go_enter Try.func82, Try.ntmps82
  go_wp2_with ((go_at_call 114; ((with_reducible refine (C.out _).mono ?_); (try (have hc10 := hc9; have hf10 := hf9; have hz10 := hz9; have hb10 := hb9; have hya_10 := hya_9; have hyb_10 := hyb_9; clear hc9 hf9 hz9 hb9 hya_9 hyb_9)); (try (have hc9 := hc8; have hf9 := hf8; have hz9 := hz8; have hb9 := hb8; have hya_9 := hya_8; have hyb_9 := hyb_8; clear hc8 hf8 hz8 hb8 hya_8 hyb_8)); (try (have hc8 := hc7; have hf8 := hf7; have hz8 := hz7; have hb8 := hb7; have hya_8 := hya_7; have hyb_8 := hyb_7; clear hc7 hf7 hz7 hb7 hya_7 hyb_7)); (try (have hc7 := hc6; have hf7 := hf6; have hz7 := hz6; have hb7 := hb6; have hya_7 := hya_6; have hyb_7 := hyb_6; clear hc6 hf6 hz6 hb6 hya_6 hyb_6)); (try (have hc6 := hc5; have hf6 := hf5; have hz6 := hz5; have hb6 := hb5; have hya_6 := hya_5; have hyb_6 := hyb_5; clear hc5 hf5 hz5 hb5 hya_5 hyb_5)); (try (have hc5 := hc4; have hf5 := hf4; have hz5 := hz4; have hb5 := hb4; have hya_5 := hya_4; have hyb_5 := hyb_4; clear hc4 hf4 hz4 hb4 hya_4 hyb_4)); (try (have hc4 := hc3; have hf4 := hf3; have hz4 := hz3; have hb4 := hb3; have hya_4 := hya_3; have hyb_4 := hyb_3; clear hc3 hf3 hz3 hb3 hya_3 hyb_3)); (try (have hc3 := hc2; have hf3 := hf2; have hz3 := hz2; have hb3 := hb2; have hya_3 := hya_2; have hyb_3 := hyb_2; clear hc2 hf2 hz2 hb2 hya_2 hyb_2)); (try (have hc2 := hc1; have hf2 := hf1; have hz2 := hz1; have hb2 := hb1; have hya_2 := hya_1; have hyb_2 := hyb_1; clear hc1 hf1 hz1 hb1 hya_1 hyb_1)); rintro e w1 ⟨rfl, hb1⟩; obtain ⟨hc1, hf1⟩ := bcell hb1; (try simp only [World.size_drew, World.cell?_drew, World.frozen?_drew] at hc1 hf1); have hz1 := hb1.size; (try simp at hz1); have hya_1 : w.heap.size < w1.heap.size := (by omega); have hyb_1 : w.heap.size + 1 < w1.heap.size := (by omega))))
  have hz0 : w.heap.size < w1.heap.size := by omega
  have hz9 : w.heap.size + 1 < w1.heap.size := by omega
  have hgw : gA < w1.heap.size := by omega
  have HB1 : Hid (Below w.heap.size w w1) := (show Below _ _ _ from by (repeat (with_reducible first | exact Below.refl _ _ | exact HBD.out | (refine Below.trans ?_ (Below.mono hb1 (by first | omega | (simp; done) | (simp; omega))); clear hb1) | (refine Below.trans ?_ (Below.mono hb2 (by first | omega | (simp; done) | (simp; omega))); clear hb2) | (refine Below.trans ?_ (Below.mono hb3 (by first | omega | (simp; done) | (simp; omega))); clear hb3) | (refine Below.trans ?_ (Below.mono hb4 (by first | omega | (simp; done) | (simp; omega))); clear hb4) | (refine Below.trans ?_ (Below.mono hb5 (by first | omega | (simp; done) | (simp; omega))); clear hb5) | (refine Below.trans ?_ (Below.mono hb6 (by first | omega | (simp; done) | (simp; omega))); clear hb6) | (refine Below.trans ?_ (Below.mono hb7 (by first | omega | (simp; done) | (simp; omega))); clear hb7) | (refine Below.trans ?_ (Below.mono hb8 (by first | omega | (simp; done) | (simp; omega))); clear hb8) | (refine Below.trans ?_ (Below.mono hb9 (by first | omega | (simp; done) | (simp; omega))); clear hb9) | (refine Below.trans ?_ (Below.mono hb10 (by first | omega | (simp; done) | (simp; omega))); clear hb10) | refine Below.alloc ?_ (by first | omega | (simp; done) | (simp; omega)) _ | refine Below.setCell ?_ (by first | omega | (simp; done) | (simp; omega)) _ | refine Below.drew ?_)))
  have hHELD : (fun W : World => W.cell? ⟨w.heap.size, 1, none⟩ = some (.int .i64 (i : Int)) ∧ W.cell? ⟨w.heap.size, 2, none⟩ = some (.int .i64 b) ∧ W.cell? ⟨w.heap.size, 4, none⟩ = some (.slice A1 el c1) ∧ W.cell? ⟨w.heap.size, 5, none⟩ = some (.slice A2 nl c2) ∧ W.cell? ⟨gA, oA + i * 2, none⟩ = some (.slice B1 x1 d1) ∧ W.cell? ⟨gA, oA + i * 2 + 1, none⟩ = some (.int .i64 (m1 : Int)) ∧ W.cell? ⟨gA, oA + i * 2, none⟩ = some (.slice B1 x1 d1) ∧ W.cell? ⟨gA, oA + i * 2 + 1, none⟩ = some (.int .i64 (m1 : Int)) ∧ Below w.heap.size w W ∧ w.heap.size ≤ W.heap.size) w1 := ⟨by simp [go_sem, *], by simp [go_sem, *], by simp [go_sem, *], by simp [go_sem, *], by simp [go_sem, *], by simp [go_sem, *], by simp [go_sem, *], by simp [go_sem, *], HB1.out, by omega⟩
  go_region_held_law (fun W : World => W.cell? ⟨w.heap.size, 1, none⟩ = some (.int .i64 (i : Int)) ∧ W.cell? ⟨w.heap.size, 2, none⟩ = some (.int .i64 b) ∧ W.cell? ⟨w.heap.size, 4, none⟩ = some (.slice A1 el c1) ∧ W.cell? ⟨w.heap.size, 5, none⟩ = some (.slice A2 nl c2) ∧ W.cell? ⟨gA, oA + i * 2, none⟩ = some (.slice B1 x1 d1) ∧ W.cell? ⟨gA, oA + i * 2 + 1, none⟩ = some (.int .i64 (m1 : Int)) ∧ W.cell? ⟨gA, oA + i * 2, none⟩ = some (.slice B1 x1 d1) ∧ W.cell? ⟨gA, oA + i * 2 + 1, none⟩ = some (.int .i64 (m1 : Int)) ∧ Below w.heap.size w W ∧ w.heap.size ≤ W.heap.size) (first | exact ldKeep (by assumption) hbq | exact ldDrew (by assumption) | exact ldSet (ldSet (by assumption) (by omega) (by omega) (by omega)) (by omega) (by omega) (by omega) | assumption) ((go_at_call 116; (with_reducible refine (CT.out _ (ldBelow (by assumption))).mono ?_); rintro e wc ⟨A9, g9, o9, c9, cs9, k9, ok9, ⟨rfl, hmd, hok, hno⟩, hbq⟩; obtain ⟨hc2, hf2⟩ := bcell hbq; (try simp only [World.size_drew, World.cell?_drew, World.frozen?_drew] at hc2 hf2); have hz2 := hbq.size; (try simp at hz2); have HMD := Lib.hid hmd; have HOK := Lib.hid hok; have HNO := Lib.hid hno; obtain ⟨l9, hl9⟩ : ∃ m, cs9.length = m := ⟨_, rfl⟩; have HL9 := Lib.hid hl9; rw [hl9]; clear hmd hok hno hl9))
  all_goals (have HBL := Lib.hid (ldBelow (by assumption)))
  all_goals (go_wp2)
  all_goals (have z0 : wc.cell? ⟨w.heap.size + 1, 0, none⟩ = some (.slice none 0 0) := (by simp [go_sem, *]))
  all_goals (have z1 : wc.cell? ⟨w.heap.size + 1, 1, none⟩ = some (.int .i64 0) := (by simp [go_sem, *]))
  refine bodyPost_ret (v := .tuple #[.agg #[.slice A9 l9 c9, .int .i64 (k9 : Int)], .bool (ok9)]) (by simp [results, Try.results82, go_sem, *]) rfl ?_
  exact ⟨A9, g9, o9, c9, cs9, k9, ok9, ⟨by rw [HL9.out], mdSet2 HMD.out (fun k hk h => by (try simp at h); exact ⟨by omega, by omega⟩), fun h => by rw [← HR.out, (HOK.out h).1, (HOK.out h).2]; rfl, fun h => by rw [← HR.out, HNO.out h]; rfl⟩, HBL.out⟩
set_option maxHeartbeats 8000000 in
theorem made_4 (AT AA : Option Addr) (nT cT gA oA cA X : Nat) (L : List MT) (i j : Nat) (n : Int) (A1 A2 : Option Addr) (g1 o1 c1 g2 o2 c2 : Nat) (es : List PT) (ns : List Int) (w : World) (hA : MdQ (· ≠ X) w gA oA AA L) (hXw : X < w.heap.size) (hsm : ∀ x ∈ L, x.1.length ≤ 4 ∧ x.2 ≤ 300) (hE : Fl w g1 o1 A1 (flatP es)) (hN : Fl w g2 o2 A2 (ns.map iv)) (hs : OkS1 (4, (i : Int), (j : Int), n, es, ns)) (hf : fieldsI 4 (i : Int) (j : Int) n es.length ns.length nT L.length = true) (hi : i < L.length) (hj : j < L.length) :
    Calls Try.prog 82 #[.slice AT nT cT, .slice AA L.length cA, .agg #[.int .i64 4, .int .i64 (i : Int), .int .i64 (j : Int), .int .i64 n, .slice A1 es.length c1, .slice A2 ns.length c2]] w (RetStep X (if kindI (L[i].1 ++ L[j].1) es = 3 then some (L[i].1 ++ L[j].1, L[i].2 * L[j].2) else none) w) := by
  have C := Lib.hid (fun W => fieldsOk 4 (i : Int) (j : Int) n A1 A2 es.length c1 ns.length c2 nT L.length W)
  rw [hf] at C
  obtain ⟨hs1, hs2, hs3⟩ := hs
  simp only at hs1 hs2 hs3
  obtain ⟨rfl, hg, B1, d1, h1, p1, ca0, ca1, fa, na, la⟩ := hA.at i hi
  have sa := hsm _ (List.getElem_mem hi)
  obtain ⟨-, -, B2, d2, h2, p2, cb0, cb1, fb, nb, lb⟩ := hA.at j hj
  have sb := hsm _ (List.getElem_mem hj)
  have q0 : (0 : Int) ≤ (i : Int) := by omega
  have q1 : (i : Int) < (L.length : Int) := by omega
  have q2 : (0 : Int) ≤ (j : Int) := by omega
  have q3 : (j : Int) < (L.length : Int) := by omega
  obtain ⟨V, hV⟩ : ∃ V, L[i] = V := ⟨_, rfl⟩
  rw [hV] at ca0 ca1 fa la sa ⊢
  obtain ⟨X1, m1⟩ := V
  simp only at ca0 ca1 fa la sa ⊢
  obtain ⟨sa4, sa2⟩ := sa
  have sa1 : X1.length ≤ 2000000 := by omega
  obtain ⟨U, hU⟩ : ∃ V, L[j] = V := ⟨_, rfl⟩
  rw [hU] at cb0 cb1 fb lb sb ⊢
  obtain ⟨X2, m2⟩ := U
  simp only at cb0 cb1 fb lb sb ⊢
  obtain ⟨sb4, sb2⟩ := sb
  have sb1 : X2.length ≤ 2000000 := by omega
  have CJ := Lib.hid (fun W (hb : Below w.heap.size w W) => joinedMade B1 B2 d1 h1 p1 d2 h2 p2 X1 X2 m1 m2 W (fa.fl.below hb) (fb.fl.below hb) na nb la lb sa1 sb1 sa2 sb2)
  have CT := Lib.hid (fun W g c (hf : FlO W 0 g c (X1 ++ X2).length (flatC (X1 ++ X2))) (hb : Below w.heap.size w W) => testedMade (some ⟨g, 0, none⟩) A1 c g 0 g1 o1 c1 (X1 ++ X2) ((m1 * m2 : Nat) : Int) es W hf.fl (hE.below hb) (by rw [List.length_append]; omega) hs1 hs2)
  have HFA : Hid (FlQ (fun k => k < w.heap.size ∧ k ≠ X) w h1 p1 B1 (flatC X1)) := ⟨fa.fl, fun h0 => ⟨fa.fl.lt h0, fa.q h0⟩⟩
  have HMA : Hid (MdAt (fun k => k < w.heap.size ∧ k ≠ X) w ((B1, d1, h1, p1), (X1, m1))) := ⟨HFA.out, na, la⟩
  clear HFA
  obtain ⟨x1, hx1⟩ : ∃ m, X1.length = m := ⟨_, rfl⟩
  have HX1 := Lib.hid hx1
  obtain ⟨kk, hkk⟩ : ∃ q, kindI (X1 ++ X2) es = q := ⟨_, rfl⟩
  rw [hkk] at CT
  rw [hkk]
  obtain ⟨XJ, hXJ⟩ : ∃ q, X1 ++ X2 = q := ⟨_, rfl⟩
  rw [hXJ] at CJ CT ⊢
  obtain ⟨mj, hmj⟩ : ∃ q, m1 * m2 = q := ⟨_, rfl⟩
  rw [hmj] at CJ CT ⊢
  obtain ⟨r, hr⟩ : ∃ r, (if kk = 3 then some (XJ, mj) else none : Option MT) = r := ⟨_, rfl⟩
  have HR := Lib.hid hr
  rw [hr]
  obtain ⟨xj, hxj⟩ : ∃ q, XJ.length = q := ⟨_, rfl⟩
  have HXJ := Lib.hid hxj
  rw [hxj] at CJ CT
  rw [hx1] at CJ
  obtain ⟨x2, hx2⟩ : ∃ m, X2.length = m := ⟨_, rfl⟩
  rw [hx2] at CJ cb0
  rw [hx1] at ca0
  obtain ⟨el, hel⟩ : ∃ m, es.length = m := ⟨_, rfl⟩
  obtain ⟨nl, hnl⟩ : ∃ m, ns.length = m := ⟨_, rfl⟩
  rw [hel] at CT
  rw [hel, hnl]
  rw [hel, hnl] at C
  have hg1 : gA < w.heap.size + 1 := by omega
  have hg2 : gA < w.heap.size + 1 + 1 := by omega
  clear hA hsm hE hN fa na la hV hf hx1 hel hnl fb nb lb hU hx2
  clear hkk hXJ hmj hxj hr
  go_enter Try.func82, Try.ntmps82
  go_wp2_with ((go_at_call 114; ((with_reducible refine (C.out _).mono ?_); (try (have hc10 := hc9; have hf10 := hf9; have hz10 := hz9; have hb10 := hb9; have hya_10 := hya_9; have hyb_10 := hyb_9; clear hc9 hf9 hz9 hb9 hya_9 hyb_9)); (try (have hc9 := hc8; have hf9 := hf8; have hz9 := hz8; have hb9 := hb8; have hya_9 := hya_8; have hyb_9 := hyb_8; clear hc8 hf8 hz8 hb8 hya_8 hyb_8)); (try (have hc8 := hc7; have hf8 := hf7; have hz8 := hz7; have hb8 := hb7; have hya_8 := hya_7; have hyb_8 := hyb_7; clear hc7 hf7 hz7 hb7 hya_7 hyb_7)); (try (have hc7 := hc6; have hf7 := hf6; have hz7 := hz6; have hb7 := hb6; have hya_7 := hya_6; have hyb_7 := hyb_6; clear hc6 hf6 hz6 hb6 hya_6 hyb_6)); (try (have hc6 := hc5; have hf6 := hf5; have hz6 := hz5; have hb6 := hb5; have hya_6 := hya_5; have hyb_6 := hyb_5; clear hc5 hf5 hz5 hb5 hya_5 hyb_5)); (try (have hc5 := hc4; have hf5 := hf4; have hz5 := hz4; have hb5 := hb4; have hya_5 := hya_4; have hyb_5 := hyb_4; clear hc4 hf4 hz4 hb4 hya_4 hyb_4)); (try (have hc4 := hc3; have hf4 := hf3; have hz4 := hz3; have hb4 := hb3; have hya_4 := hya_3; have hyb_4 := hyb_3; clear hc3 hf3 hz3 hb3 hya_3 hyb_3)); (try (have hc3 := hc2; have hf3 := hf2; have hz3 := hz2; have hb3 := hb2; have hya_3 := hya_2; have hyb_3 := hyb_2; clear hc2 hf2 hz2 hb2 hya_2 hyb_2)); (try (have hc2 := hc1; have hf2 := hf1; have hz2 := hz1; have hb2 := hb1; have hya_2 := hya_1; have hyb_2 := hyb_1; clear hc1 hf1 hz1 hb1 hya_1 hyb_1)); rintro e w1 ⟨rfl, hb1⟩; obtain ⟨hc1, hf1⟩ := bcell hb1; (try simp only [World.size_drew, World.cell?_drew, World.frozen?_drew] at hc1 hf1); have hz1 := hb1.size; (try simp at hz1); have hya_1 : w.heap.size < w1.heap.size := (by omega); have hyb_1 : w.heap.size + 1 < w1.heap.size := (by omega))))
  have hz0 : w.heap.size < w1.heap.size := by omega
  have hz9 : w.heap.size + 1 < w1.heap.size := by omega
  have hgw : gA < w1.heap.size := by omega
  have HB1 : Hid (Below w.heap.size w w1) := (show Below _ _ _ from by (repeat (with_reducible first | exact Below.refl _ _ | exact HBD.out | (refine Below.trans ?_ (Below.mono hb1 (by first | omega | (simp; done) | (simp; omega))); clear hb1) | (refine Below.trans ?_ (Below.mono hb2 (by first | omega | (simp; done) | (simp; omega))); clear hb2) | (refine Below.trans ?_ (Below.mono hb3 (by first | omega | (simp; done) | (simp; omega))); clear hb3) | (refine Below.trans ?_ (Below.mono hb4 (by first | omega | (simp; done) | (simp; omega))); clear hb4) | (refine Below.trans ?_ (Below.mono hb5 (by first | omega | (simp; done) | (simp; omega))); clear hb5) | (refine Below.trans ?_ (Below.mono hb6 (by first | omega | (simp; done) | (simp; omega))); clear hb6) | (refine Below.trans ?_ (Below.mono hb7 (by first | omega | (simp; done) | (simp; omega))); clear hb7) | (refine Below.trans ?_ (Below.mono hb8 (by first | omega | (simp; done) | (simp; omega))); clear hb8) | (refine Below.trans ?_ (Below.mono hb9 (by first | omega | (simp; done) | (simp; omega))); clear hb9) | (refine Below.trans ?_ (Below.mono hb10 (by first | omega | (simp; done) | (simp; omega))); clear hb10) | refine Below.alloc ?_ (by first | omega | (simp; done) | (simp; omega)) _ | refine Below.setCell ?_ (by first | omega | (simp; done) | (simp; omega)) _ | refine Below.drew ?_)))
  have hHELD : (fun W : World => W.cell? ⟨w.heap.size, 1, none⟩ = some (.int .i64 (i : Int)) ∧ W.cell? ⟨w.heap.size, 2, none⟩ = some (.int .i64 (j : Int)) ∧ W.cell? ⟨w.heap.size, 4, none⟩ = some (.slice A1 el c1) ∧ W.cell? ⟨w.heap.size, 5, none⟩ = some (.slice A2 nl c2) ∧ W.cell? ⟨gA, oA + i * 2, none⟩ = some (.slice B1 x1 d1) ∧ W.cell? ⟨gA, oA + i * 2 + 1, none⟩ = some (.int .i64 (m1 : Int)) ∧ W.cell? ⟨gA, oA + j * 2, none⟩ = some (.slice B2 x2 d2) ∧ W.cell? ⟨gA, oA + j * 2 + 1, none⟩ = some (.int .i64 (m2 : Int)) ∧ Below w.heap.size w W ∧ w.heap.size ≤ W.heap.size) w1 := ⟨by simp [go_sem, *], by simp [go_sem, *], by simp [go_sem, *], by simp [go_sem, *], by simp [go_sem, *], by simp [go_sem, *], by simp [go_sem, *], by simp [go_sem, *], HB1.out, by omega⟩
  go_region_held_law (fun W : World => W.cell? ⟨w.heap.size, 1, none⟩ = some (.int .i64 (i : Int)) ∧ W.cell? ⟨w.heap.size, 2, none⟩ = some (.int .i64 (j : Int)) ∧ W.cell? ⟨w.heap.size, 4, none⟩ = some (.slice A1 el c1) ∧ W.cell? ⟨w.heap.size, 5, none⟩ = some (.slice A2 nl c2) ∧ W.cell? ⟨gA, oA + i * 2, none⟩ = some (.slice B1 x1 d1) ∧ W.cell? ⟨gA, oA + i * 2 + 1, none⟩ = some (.int .i64 (m1 : Int)) ∧ W.cell? ⟨gA, oA + j * 2, none⟩ = some (.slice B2 x2 d2) ∧ W.cell? ⟨gA, oA + j * 2 + 1, none⟩ = some (.int .i64 (m2 : Int)) ∧ Below w.heap.size w W ∧ w.heap.size ≤ W.heap.size) (first | exact ldKeep (by assumption) hbq | exact ldDrew (by assumption) | exact ldSet (ldSet (by assumption) (by omega) (by omega) (by omega)) (by omega) (by omega) (by omega) | assumption) (first | (go_at_call 117; (with_reducible refine (CJ.out _ (ldBelow (by assumption))).mono ?_); rintro e wj ⟨gj, cj, ⟨rfl, hfj⟩, hbq⟩; obtain ⟨hc3, hf3⟩ := bcell hbq; (try simp only [World.size_drew, World.cell?_drew, World.frozen?_drew] at hc3 hf3); have hz3 := hbq.size; (try simp at hz3); have hzk : w.heap.size + 1 < wj.heap.size := (by omega); have HFJ := Lib.hid hfj; have hzj := hfj.lo; have hzh := hfj.hi; (try simp at hzj); clear hfj) | (go_at_call 115; (with_reducible refine (CT.out _ _ _ (HFJ.out.lower (Nat.zero_le _)) (ldBelow (by assumption))).mono ?_); rintro e wc ⟨rfl, hbq⟩; obtain ⟨hc2, hf2⟩ := bcell hbq; (try simp only [World.size_drew, World.cell?_drew, World.frozen?_drew] at hc2 hf2); have hz2 := hbq.size; (try simp at hz2); have HFJ2 := Lib.hid (HFJ.out.below hbq)))
  all_goals (have HBL := Lib.hid (ldBelow (by assumption)))
  all_goals (go_wp2)
  all_goals (have z0 : wc.cell? ⟨w.heap.size + 1, 0, none⟩ = some (.slice none 0 0) := (by simp [go_sem, *]))
  all_goals (have z1 : wc.cell? ⟨w.heap.size + 1, 1, none⟩ = some (.int .i64 0) := (by simp [go_sem, *]))
  refine bodyPost_ret (v := .tuple #[.agg #[.slice (some ⟨gj, 0, none⟩) xj cj, .int .i64 (mj : Int)], .bool (decide (kk = 3))]) (by simp [results, Try.results82, go_sem, *]) rfl ?_
  exact ⟨_, gj, 0, cj, XJ, mj, decide (kk = 3), ⟨by rw [HXJ.out], mdSet2 (mdOwn (by rw [HXJ.out]; exact HFJ2.out)) (fun k hk h => by (try simp at h); exact ⟨by omega, by omega⟩), fun h => by rw [← HR.out, if_pos (of_decide_eq_true h)], fun h => by rw [← HR.out, if_neg (of_decide_eq_false h)]⟩, HBL.out⟩
set_option maxHeartbeats 8000000 in
theorem made_5 (AT AA : Option Addr) (nT cT gA oA cA X : Nat) (L : List MT) (i j : Nat) (n : Int) (A1 A2 : Option Addr) (g1 o1 c1 g2 o2 c2 : Nat) (es : List PT) (ns : List Int) (w : World) (hA : MdQ (· ≠ X) w gA oA AA L) (hXw : X < w.heap.size) (hsm : ∀ x ∈ L, x.1.length ≤ 4 ∧ x.2 ≤ 300) (hE : Fl w g1 o1 A1 (flatP es)) (hN : Fl w g2 o2 A2 (ns.map iv)) (hs : OkS1 (5, (i : Int), (j : Int), n, es, ns)) (hf : fieldsI 5 (i : Int) (j : Int) n es.length ns.length nT L.length = true) (hi : i < L.length) (hj : j < L.length) :
    Calls Try.prog 82 #[.slice AT nT cT, .slice AA L.length cA, .agg #[.int .i64 5, .int .i64 (i : Int), .int .i64 (j : Int), .int .i64 n, .slice A1 es.length c1, .slice A2 ns.length c2]] w (RetStep X ((bothC L[i].1 L[j].1).map fun c => (c, L[i].2 + L[j].2)) w) := by
  have C := Lib.hid (fun W => fieldsOk 5 (i : Int) (j : Int) n A1 A2 es.length c1 ns.length c2 nT L.length W)
  rw [hf] at C
  obtain ⟨hs1, hs2, hs3⟩ := hs
  simp only at hs1 hs2 hs3
  obtain ⟨rfl, hg, B1, d1, h1, p1, ca0, ca1, fa, na, la⟩ := hA.at i hi
  have sa := hsm _ (List.getElem_mem hi)
  obtain ⟨-, -, B2, d2, h2, p2, cb0, cb1, fb, nb, lb⟩ := hA.at j hj
  have sb := hsm _ (List.getElem_mem hj)
  have q0 : (0 : Int) ≤ (i : Int) := by omega
  have q1 : (i : Int) < (L.length : Int) := by omega
  have q2 : (0 : Int) ≤ (j : Int) := by omega
  have q3 : (j : Int) < (L.length : Int) := by omega
  obtain ⟨V, hV⟩ : ∃ V, L[i] = V := ⟨_, rfl⟩
  rw [hV] at ca0 ca1 fa la sa ⊢
  obtain ⟨X1, m1⟩ := V
  simp only at ca0 ca1 fa la sa ⊢
  obtain ⟨sa4, sa2⟩ := sa
  have sa1 : X1.length ≤ 2000000 := by omega
  obtain ⟨U, hU⟩ : ∃ V, L[j] = V := ⟨_, rfl⟩
  rw [hU] at cb0 cb1 fb lb sb ⊢
  obtain ⟨X2, m2⟩ := U
  simp only at cb0 cb1 fb lb sb ⊢
  obtain ⟨sb4, sb2⟩ := sb
  have sb1 : X2.length ≤ 2000000 := by omega
  have CT := Lib.hid (fun W (hb : Below w.heap.size w W) => bothMade B1 B2 d1 h1 p1 d2 h2 p2 X1 X2 m1 m2 W (fa.fl.below hb) (fb.fl.below hb) sa1 sb1 sa2 sb2)
  unfold RetMade at CT
  have HFA : Hid (FlQ (fun k => k < w.heap.size ∧ k ≠ X) w h1 p1 B1 (flatC X1)) := ⟨fa.fl, fun h0 => ⟨fa.fl.lt h0, fa.q h0⟩⟩
  have HMA : Hid (MdAt (fun k => k < w.heap.size ∧ k ≠ X) w ((B1, d1, h1, p1), (X1, m1))) := ⟨HFA.out, na, la⟩
  clear HFA
  obtain ⟨x1, hx1⟩ : ∃ m, X1.length = m := ⟨_, rfl⟩
  have HX1 := Lib.hid hx1
  obtain ⟨r, hr⟩ : ∃ r, bothC X1 X2 = r := ⟨_, rfl⟩
  rw [hr] at CT ⊢
  obtain ⟨r2, hr2⟩ : ∃ r2, (r.map fun c => (c, m1 + m2)) = r2 := ⟨_, rfl⟩
  have HR := Lib.hid hr2
  rw [hr2]
  clear hr2
  rw [hx1] at CT
  have hms : ((m1 + m2 : Nat) : Int) = (m1 : Int) + (m2 : Int) := by omega
  obtain ⟨x2, hx2⟩ : ∃ m, X2.length = m := ⟨_, rfl⟩
  rw [hx2] at CT cb0
  rw [hx1] at ca0
  obtain ⟨el, hel⟩ : ∃ m, es.length = m := ⟨_, rfl⟩
  obtain ⟨nl, hnl⟩ : ∃ m, ns.length = m := ⟨_, rfl⟩
  rw [hel, hnl]
  rw [hel, hnl] at C
  have hg1 : gA < w.heap.size + 1 := by omega
  have hg2 : gA < w.heap.size + 1 + 1 := by omega
  clear hA hsm hE hN fa na la hV hf hx1 hel hnl fb nb lb hU hx2
  clear hr
  go_enter Try.func82, Try.ntmps82
  go_wp2_with ((go_at_call 114; ((with_reducible refine (C.out _).mono ?_); (try (have hc10 := hc9; have hf10 := hf9; have hz10 := hz9; have hb10 := hb9; have hya_10 := hya_9; have hyb_10 := hyb_9; clear hc9 hf9 hz9 hb9 hya_9 hyb_9)); (try (have hc9 := hc8; have hf9 := hf8; have hz9 := hz8; have hb9 := hb8; have hya_9 := hya_8; have hyb_9 := hyb_8; clear hc8 hf8 hz8 hb8 hya_8 hyb_8)); (try (have hc8 := hc7; have hf8 := hf7; have hz8 := hz7; have hb8 := hb7; have hya_8 := hya_7; have hyb_8 := hyb_7; clear hc7 hf7 hz7 hb7 hya_7 hyb_7)); (try (have hc7 := hc6; have hf7 := hf6; have hz7 := hz6; have hb7 := hb6; have hya_7 := hya_6; have hyb_7 := hyb_6; clear hc6 hf6 hz6 hb6 hya_6 hyb_6)); (try (have hc6 := hc5; have hf6 := hf5; have hz6 := hz5; have hb6 := hb5; have hya_6 := hya_5; have hyb_6 := hyb_5; clear hc5 hf5 hz5 hb5 hya_5 hyb_5)); (try (have hc5 := hc4; have hf5 := hf4; have hz5 := hz4; have hb5 := hb4; have hya_5 := hya_4; have hyb_5 := hyb_4; clear hc4 hf4 hz4 hb4 hya_4 hyb_4)); (try (have hc4 := hc3; have hf4 := hf3; have hz4 := hz3; have hb4 := hb3; have hya_4 := hya_3; have hyb_4 := hyb_3; clear hc3 hf3 hz3 hb3 hya_3 hyb_3)); (try (have hc3 := hc2; have hf3 := hf2; have hz3 := hz2; have hb3 := hb2; have hya_3 := hya_2; have hyb_3 := hyb_2; clear hc2 hf2 hz2 hb2 hya_2 hyb_2)); (try (have hc2 := hc1; have hf2 := hf1; have hz2 := hz1; have hb2 := hb1; have hya_2 := hya_1; have hyb_2 := hyb_1; clear hc1 hf1 hz1 hb1 hya_1 hyb_1)); rintro e w1 ⟨rfl, hb1⟩; obtain ⟨hc1, hf1⟩ := bcell hb1; (try simp only [World.size_drew, World.cell?_drew, World.frozen?_drew] at hc1 hf1); have hz1 := hb1.size; (try simp at hz1); have hya_1 : w.heap.size < w1.heap.size := (by omega); have hyb_1 : w.heap.size + 1 < w1.heap.size := (by omega))))
  have hz0 : w.heap.size < w1.heap.size := by omega
  have hz9 : w.heap.size + 1 < w1.heap.size := by omega
  have hgw : gA < w1.heap.size := by omega
  have HB1 : Hid (Below w.heap.size w w1) := (show Below _ _ _ from by (repeat (with_reducible first | exact Below.refl _ _ | exact HBD.out | (refine Below.trans ?_ (Below.mono hb1 (by first | omega | (simp; done) | (simp; omega))); clear hb1) | (refine Below.trans ?_ (Below.mono hb2 (by first | omega | (simp; done) | (simp; omega))); clear hb2) | (refine Below.trans ?_ (Below.mono hb3 (by first | omega | (simp; done) | (simp; omega))); clear hb3) | (refine Below.trans ?_ (Below.mono hb4 (by first | omega | (simp; done) | (simp; omega))); clear hb4) | (refine Below.trans ?_ (Below.mono hb5 (by first | omega | (simp; done) | (simp; omega))); clear hb5) | (refine Below.trans ?_ (Below.mono hb6 (by first | omega | (simp; done) | (simp; omega))); clear hb6) | (refine Below.trans ?_ (Below.mono hb7 (by first | omega | (simp; done) | (simp; omega))); clear hb7) | (refine Below.trans ?_ (Below.mono hb8 (by first | omega | (simp; done) | (simp; omega))); clear hb8) | (refine Below.trans ?_ (Below.mono hb9 (by first | omega | (simp; done) | (simp; omega))); clear hb9) | (refine Below.trans ?_ (Below.mono hb10 (by first | omega | (simp; done) | (simp; omega))); clear hb10) | refine Below.alloc ?_ (by first | omega | (simp; done) | (simp; omega)) _ | refine Below.setCell ?_ (by first | omega | (simp; done) | (simp; omega)) _ | refine Below.drew ?_)))
  have hHELD : (fun W : World => W.cell? ⟨w.heap.size, 1, none⟩ = some (.int .i64 (i : Int)) ∧ W.cell? ⟨w.heap.size, 2, none⟩ = some (.int .i64 (j : Int)) ∧ W.cell? ⟨w.heap.size, 4, none⟩ = some (.slice A1 el c1) ∧ W.cell? ⟨w.heap.size, 5, none⟩ = some (.slice A2 nl c2) ∧ W.cell? ⟨gA, oA + i * 2, none⟩ = some (.slice B1 x1 d1) ∧ W.cell? ⟨gA, oA + i * 2 + 1, none⟩ = some (.int .i64 (m1 : Int)) ∧ W.cell? ⟨gA, oA + j * 2, none⟩ = some (.slice B2 x2 d2) ∧ W.cell? ⟨gA, oA + j * 2 + 1, none⟩ = some (.int .i64 (m2 : Int)) ∧ Below w.heap.size w W ∧ w.heap.size ≤ W.heap.size) w1 := ⟨by simp [go_sem, *], by simp [go_sem, *], by simp [go_sem, *], by simp [go_sem, *], by simp [go_sem, *], by simp [go_sem, *], by simp [go_sem, *], by simp [go_sem, *], HB1.out, by omega⟩
  go_region_held_law (fun W : World => W.cell? ⟨w.heap.size, 1, none⟩ = some (.int .i64 (i : Int)) ∧ W.cell? ⟨w.heap.size, 2, none⟩ = some (.int .i64 (j : Int)) ∧ W.cell? ⟨w.heap.size, 4, none⟩ = some (.slice A1 el c1) ∧ W.cell? ⟨w.heap.size, 5, none⟩ = some (.slice A2 nl c2) ∧ W.cell? ⟨gA, oA + i * 2, none⟩ = some (.slice B1 x1 d1) ∧ W.cell? ⟨gA, oA + i * 2 + 1, none⟩ = some (.int .i64 (m1 : Int)) ∧ W.cell? ⟨gA, oA + j * 2, none⟩ = some (.slice B2 x2 d2) ∧ W.cell? ⟨gA, oA + j * 2 + 1, none⟩ = some (.int .i64 (m2 : Int)) ∧ Below w.heap.size w W ∧ w.heap.size ≤ W.heap.size) (first | exact ldKeep (by assumption) hbq | exact ldDrew (by assumption) | exact ldSet (ldSet (by assumption) (by omega) (by omega) (by omega)) (by omega) (by omega) (by omega) | assumption) ((go_at_call 118; (with_reducible refine (CT.out _ (ldBelow (by assumption))).mono ?_); rintro e wc ⟨A9, g9, o9, c9, cs9, k9, ok9, ⟨rfl, hmd, hok, hno⟩, hbq⟩; obtain ⟨hc2, hf2⟩ := bcell hbq; (try simp only [World.size_drew, World.cell?_drew, World.frozen?_drew] at hc2 hf2); have hz2 := hbq.size; (try simp at hz2); have HMD := Lib.hid hmd; have HOK := Lib.hid hok; have HNO := Lib.hid hno; obtain ⟨l9, hl9⟩ : ∃ m, cs9.length = m := ⟨_, rfl⟩; have HL9 := Lib.hid hl9; rw [hl9]; clear hmd hok hno hl9))
  all_goals (have HBL := Lib.hid (ldBelow (by assumption)))
  all_goals (go_wp2)
  all_goals (have z0 : wc.cell? ⟨w.heap.size + 1, 0, none⟩ = some (.slice none 0 0) := (by simp [go_sem, *]))
  all_goals (have z1 : wc.cell? ⟨w.heap.size + 1, 1, none⟩ = some (.int .i64 0) := (by simp [go_sem, *]))
  refine bodyPost_ret (v := .tuple #[.agg #[.slice A9 l9 c9, .int .i64 (k9 : Int)], .bool (ok9)]) (by simp [results, Try.results82, go_sem, *]) rfl ?_
  exact ⟨A9, g9, o9, c9, cs9, k9, ok9, ⟨by rw [HL9.out], mdSet2 HMD.out (fun k hk h => by (try simp at h); exact ⟨by omega, by omega⟩), fun h => by rw [← HR.out, (HOK.out h).1, (HOK.out h).2]; rfl, fun h => by rw [← HR.out, HNO.out h]; rfl⟩, HBL.out⟩
set_option maxHeartbeats 4000000 in
theorem made_F (AT AA : Option Addr) (nT cT nL cA X : Nat) (r : Option MT) (hr : r = none) (k a b n : Int) (A1 A2 : Option Addr) (el c1 nl c2 : Nat) (w : World) (hf : fieldsI k a b n el nl nT nL = false) :
    Calls Try.prog 82 #[.slice AT nT cT, .slice AA nL cA, .agg #[.int .i64 k, .int .i64 a, .int .i64 b, .int .i64 n, .slice A1 el c1, .slice A2 nl c2]] w (RetStep X r w) := by
  have C := Lib.hid (fun W => fieldsOk k a b n A1 A2 el c1 nl c2 nT nL W)
  rw [hf] at C
  clear hf
  go_enter Try.func82, Try.ntmps82
  go_wp2_with ((go_at_call 114; ((with_reducible refine (C.out _).mono ?_); (try (have hc10 := hc9; have hf10 := hf9; have hz10 := hz9; have hb10 := hb9; have hya_10 := hya_9; have hyb_10 := hyb_9; clear hc9 hf9 hz9 hb9 hya_9 hyb_9)); (try (have hc9 := hc8; have hf9 := hf8; have hz9 := hz8; have hb9 := hb8; have hya_9 := hya_8; have hyb_9 := hyb_8; clear hc8 hf8 hz8 hb8 hya_8 hyb_8)); (try (have hc8 := hc7; have hf8 := hf7; have hz8 := hz7; have hb8 := hb7; have hya_8 := hya_7; have hyb_8 := hyb_7; clear hc7 hf7 hz7 hb7 hya_7 hyb_7)); (try (have hc7 := hc6; have hf7 := hf6; have hz7 := hz6; have hb7 := hb6; have hya_7 := hya_6; have hyb_7 := hyb_6; clear hc6 hf6 hz6 hb6 hya_6 hyb_6)); (try (have hc6 := hc5; have hf6 := hf5; have hz6 := hz5; have hb6 := hb5; have hya_6 := hya_5; have hyb_6 := hyb_5; clear hc5 hf5 hz5 hb5 hya_5 hyb_5)); (try (have hc5 := hc4; have hf5 := hf4; have hz5 := hz4; have hb5 := hb4; have hya_5 := hya_4; have hyb_5 := hyb_4; clear hc4 hf4 hz4 hb4 hya_4 hyb_4)); (try (have hc4 := hc3; have hf4 := hf3; have hz4 := hz3; have hb4 := hb3; have hya_4 := hya_3; have hyb_4 := hyb_3; clear hc3 hf3 hz3 hb3 hya_3 hyb_3)); (try (have hc3 := hc2; have hf3 := hf2; have hz3 := hz2; have hb3 := hb2; have hya_3 := hya_2; have hyb_3 := hyb_2; clear hc2 hf2 hz2 hb2 hya_2 hyb_2)); (try (have hc2 := hc1; have hf2 := hf1; have hz2 := hz1; have hb2 := hb1; have hya_2 := hya_1; have hyb_2 := hyb_1; clear hc1 hf1 hz1 hb1 hya_1 hyb_1)); rintro e w1 ⟨rfl, hb1⟩; obtain ⟨hc1, hf1⟩ := bcell hb1; (try simp only [World.size_drew, World.cell?_drew, World.frozen?_drew] at hc1 hf1); have hz1 := hb1.size; (try simp at hz1); have hya_1 : w.heap.size < w1.heap.size := (by omega); have hyb_1 : w.heap.size + 1 < w1.heap.size := (by omega))))
  have z0 : w1.cell? ⟨w.heap.size + 1, 0, none⟩ = some (.slice none 0 0) := (by simp [go_sem, *])
  have z1 : w1.cell? ⟨w.heap.size + 1, 1, none⟩ = some (.int .i64 0) := (by simp [go_sem, *])
  refine bodyPost_ret (v := .tuple #[.agg #[.slice none 0 0, .int .i64 0], .bool false]) (by simp [results, Try.results82, go_sem, *]) rfl (stepNone hr ?_)
  show Below _ _ _
  (repeat (with_reducible first | exact Below.refl _ _ | exact HBD.out | (refine Below.trans ?_ (Below.mono hb1 (by first | omega | (simp; done) | (simp; omega))); clear hb1) | (refine Below.trans ?_ (Below.mono hb2 (by first | omega | (simp; done) | (simp; omega))); clear hb2) | (refine Below.trans ?_ (Below.mono hb3 (by first | omega | (simp; done) | (simp; omega))); clear hb3) | (refine Below.trans ?_ (Below.mono hb4 (by first | omega | (simp; done) | (simp; omega))); clear hb4) | (refine Below.trans ?_ (Below.mono hb5 (by first | omega | (simp; done) | (simp; omega))); clear hb5) | (refine Below.trans ?_ (Below.mono hb6 (by first | omega | (simp; done) | (simp; omega))); clear hb6) | (refine Below.trans ?_ (Below.mono hb7 (by first | omega | (simp; done) | (simp; omega))); clear hb7) | (refine Below.trans ?_ (Below.mono hb8 (by first | omega | (simp; done) | (simp; omega))); clear hb8) | (refine Below.trans ?_ (Below.mono hb9 (by first | omega | (simp; done) | (simp; omega))); clear hb9) | (refine Below.trans ?_ (Below.mono hb10 (by first | omega | (simp; done) | (simp; omega))); clear hb10) | refine Below.alloc ?_ (by first | omega | (simp; done) | (simp; omega)) _ | refine Below.setCell ?_ (by first | omega | (simp; done) | (simp; omega)) _ | refine Below.drew ?_))
set_option maxHeartbeats 4000000 in
theorem made_K (AT AA : Option Addr) (nT cT nL cA X : Nat) (r : Option MT) (hr : r = none) (k a b n : Int) (A1 A2 : Option Addr) (el c1 nl c2 : Nat) (w : World) (hf : fieldsI k a b n el nl nT nL = true) (k1 : ¬ k = 1) (k2 : ¬ k = 2) (k3 : ¬ k = 3) (k4 : ¬ k = 4) (k5 : ¬ k = 5) (k6 : ¬ k = 6) :
    Calls Try.prog 82 #[.slice AT nT cT, .slice AA nL cA, .agg #[.int .i64 k, .int .i64 a, .int .i64 b, .int .i64 n, .slice A1 el c1, .slice A2 nl c2]] w (RetStep X r w) := by
  have C := Lib.hid (fun W => fieldsOk k a b n A1 A2 el c1 nl c2 nT nL W)
  rw [hf] at C
  clear hf
  go_enter Try.func82, Try.ntmps82
  go_wp2_with ((go_at_call 114; ((with_reducible refine (C.out _).mono ?_); (try (have hc10 := hc9; have hf10 := hf9; have hz10 := hz9; have hb10 := hb9; have hya_10 := hya_9; have hyb_10 := hyb_9; clear hc9 hf9 hz9 hb9 hya_9 hyb_9)); (try (have hc9 := hc8; have hf9 := hf8; have hz9 := hz8; have hb9 := hb8; have hya_9 := hya_8; have hyb_9 := hyb_8; clear hc8 hf8 hz8 hb8 hya_8 hyb_8)); (try (have hc8 := hc7; have hf8 := hf7; have hz8 := hz7; have hb8 := hb7; have hya_8 := hya_7; have hyb_8 := hyb_7; clear hc7 hf7 hz7 hb7 hya_7 hyb_7)); (try (have hc7 := hc6; have hf7 := hf6; have hz7 := hz6; have hb7 := hb6; have hya_7 := hya_6; have hyb_7 := hyb_6; clear hc6 hf6 hz6 hb6 hya_6 hyb_6)); (try (have hc6 := hc5; have hf6 := hf5; have hz6 := hz5; have hb6 := hb5; have hya_6 := hya_5; have hyb_6 := hyb_5; clear hc5 hf5 hz5 hb5 hya_5 hyb_5)); (try (have hc5 := hc4; have hf5 := hf4; have hz5 := hz4; have hb5 := hb4; have hya_5 := hya_4; have hyb_5 := hyb_4; clear hc4 hf4 hz4 hb4 hya_4 hyb_4)); (try (have hc4 := hc3; have hf4 := hf3; have hz4 := hz3; have hb4 := hb3; have hya_4 := hya_3; have hyb_4 := hyb_3; clear hc3 hf3 hz3 hb3 hya_3 hyb_3)); (try (have hc3 := hc2; have hf3 := hf2; have hz3 := hz2; have hb3 := hb2; have hya_3 := hya_2; have hyb_3 := hyb_2; clear hc2 hf2 hz2 hb2 hya_2 hyb_2)); (try (have hc2 := hc1; have hf2 := hf1; have hz2 := hz1; have hb2 := hb1; have hya_2 := hya_1; have hyb_2 := hyb_1; clear hc1 hf1 hz1 hb1 hya_1 hyb_1)); rintro e w1 ⟨rfl, hb1⟩; obtain ⟨hc1, hf1⟩ := bcell hb1; (try simp only [World.size_drew, World.cell?_drew, World.frozen?_drew] at hc1 hf1); have hz1 := hb1.size; (try simp at hz1); have hya_1 : w.heap.size < w1.heap.size := (by omega); have hyb_1 : w.heap.size + 1 < w1.heap.size := (by omega))))
  have z0 : w1.cell? ⟨w.heap.size + 1, 0, none⟩ = some (.slice none 0 0) := (by simp [go_sem, *])
  have z1 : w1.cell? ⟨w.heap.size + 1, 1, none⟩ = some (.int .i64 0) := (by simp [go_sem, *])
  refine bodyPost_ret (v := .tuple #[.agg #[.slice none 0 0, .int .i64 0], .bool false]) (by simp [results, Try.results82, go_sem, *]) rfl (stepNone hr ?_)
  show Below _ _ _
  (repeat (with_reducible first | exact Below.refl _ _ | exact HBD.out | (refine Below.trans ?_ (Below.mono hb1 (by first | omega | (simp; done) | (simp; omega))); clear hb1) | (refine Below.trans ?_ (Below.mono hb2 (by first | omega | (simp; done) | (simp; omega))); clear hb2) | (refine Below.trans ?_ (Below.mono hb3 (by first | omega | (simp; done) | (simp; omega))); clear hb3) | (refine Below.trans ?_ (Below.mono hb4 (by first | omega | (simp; done) | (simp; omega))); clear hb4) | (refine Below.trans ?_ (Below.mono hb5 (by first | omega | (simp; done) | (simp; omega))); clear hb5) | (refine Below.trans ?_ (Below.mono hb6 (by first | omega | (simp; done) | (simp; omega))); clear hb6) | (refine Below.trans ?_ (Below.mono hb7 (by first | omega | (simp; done) | (simp; omega))); clear hb7) | (refine Below.trans ?_ (Below.mono hb8 (by first | omega | (simp; done) | (simp; omega))); clear hb8) | (refine Below.trans ?_ (Below.mono hb9 (by first | omega | (simp; done) | (simp; omega))); clear hb9) | (refine Below.trans ?_ (Below.mono hb10 (by first | omega | (simp; done) | (simp; omega))); clear hb10) | refine Below.alloc ?_ (by first | omega | (simp; done) | (simp; omega)) _ | refine Below.setCell ?_ (by first | omega | (simp; done) | (simp; omega)) _ | refine Below.drew ?_))
set_option maxHeartbeats 4000000 in
theorem made_1 (AT AA : Option Addr) (gT oT cT nL cA X : Nat) (tb : List TB) (a b : Int) (j : Nat) (A1 A2 : Option Addr) (el c1 nl c2 : Nat) (w : World) (hT : TbQ (· ≠ X) w gT oT AT tb) (hXw : X < w.heap.size) (hj : j < tb.length) (hf : fieldsI 1 a b (j : Int) el nl tb.length nL = true) :
    Calls Try.prog 82 #[.slice AT tb.length cT, .slice AA nL cA, .agg #[.int .i64 1, .int .i64 a, .int .i64 b, .int .i64 (j : Int), .slice A1 el c1, .slice A2 nl c2]] w (RetStep X (some (tb[j].1, 6)) w) := by
  have C := Lib.hid (fun W => fieldsOk 1 a b (j : Int) A1 A2 el c1 nl c2 tb.length nL W)
  rw [hf] at C
  obtain ⟨rfl, hg, B1, d1, h1, p1, -, -, -, -, ca0, -, fa, -, la, -, na, -⟩ := hT.at j hj
  have q0 : (0 : Int) ≤ (j : Int) := by omega
  have q1 : (j : Int) < (tb.length : Int) := by omega
  obtain ⟨X1, hV⟩ : ∃ V, tb[j].1 = V := ⟨_, rfl⟩
  rw [hV] at ca0 fa la ⊢
  have HMA : Hid (MdAt (fun k => k < w.heap.size ∧ k ≠ X) w ((B1, d1, h1, p1), (X1, 6))) := ⟨⟨fa.fl, fun h0 => ⟨fa.fl.lt h0, fa.q h0⟩⟩, na, la⟩
  obtain ⟨x1, hx1⟩ : ∃ m, X1.length = m := ⟨_, rfl⟩
  have HX1 := Lib.hid hx1
  rw [hx1] at ca0
  have hg1 : gT < w.heap.size + 1 := by omega
  have hg2 : gT < w.heap.size + 1 + 1 := by omega
  clear hT fa na la hV hf hx1
  go_enter Try.func82, Try.ntmps82
  go_wp2_with ((go_at_call 114; ((with_reducible refine (C.out _).mono ?_); (try (have hc10 := hc9; have hf10 := hf9; have hz10 := hz9; have hb10 := hb9; have hya_10 := hya_9; have hyb_10 := hyb_9; clear hc9 hf9 hz9 hb9 hya_9 hyb_9)); (try (have hc9 := hc8; have hf9 := hf8; have hz9 := hz8; have hb9 := hb8; have hya_9 := hya_8; have hyb_9 := hyb_8; clear hc8 hf8 hz8 hb8 hya_8 hyb_8)); (try (have hc8 := hc7; have hf8 := hf7; have hz8 := hz7; have hb8 := hb7; have hya_8 := hya_7; have hyb_8 := hyb_7; clear hc7 hf7 hz7 hb7 hya_7 hyb_7)); (try (have hc7 := hc6; have hf7 := hf6; have hz7 := hz6; have hb7 := hb6; have hya_7 := hya_6; have hyb_7 := hyb_6; clear hc6 hf6 hz6 hb6 hya_6 hyb_6)); (try (have hc6 := hc5; have hf6 := hf5; have hz6 := hz5; have hb6 := hb5; have hya_6 := hya_5; have hyb_6 := hyb_5; clear hc5 hf5 hz5 hb5 hya_5 hyb_5)); (try (have hc5 := hc4; have hf5 := hf4; have hz5 := hz4; have hb5 := hb4; have hya_5 := hya_4; have hyb_5 := hyb_4; clear hc4 hf4 hz4 hb4 hya_4 hyb_4)); (try (have hc4 := hc3; have hf4 := hf3; have hz4 := hz3; have hb4 := hb3; have hya_4 := hya_3; have hyb_4 := hyb_3; clear hc3 hf3 hz3 hb3 hya_3 hyb_3)); (try (have hc3 := hc2; have hf3 := hf2; have hz3 := hz2; have hb3 := hb2; have hya_3 := hya_2; have hyb_3 := hyb_2; clear hc2 hf2 hz2 hb2 hya_2 hyb_2)); (try (have hc2 := hc1; have hf2 := hf1; have hz2 := hz1; have hb2 := hb1; have hya_2 := hya_1; have hyb_2 := hyb_1; clear hc1 hf1 hz1 hb1 hya_1 hyb_1)); rintro e w1 ⟨rfl, hb1⟩; obtain ⟨hc1, hf1⟩ := bcell hb1; (try simp only [World.size_drew, World.cell?_drew, World.frozen?_drew] at hc1 hf1); have hz1 := hb1.size; (try simp at hz1); have hya_1 : w.heap.size < w1.heap.size := (by omega); have hyb_1 : w.heap.size + 1 < w1.heap.size := (by omega); have hz9 : w.heap.size + 1 < w1.heap.size := (by omega); have hgw : gT < w1.heap.size := (by omega))))
  have HB1 : Hid (Below w.heap.size w w1) := (show Below _ _ _ from by (repeat (with_reducible first | exact Below.refl _ _ | exact HBD.out | (refine Below.trans ?_ (Below.mono hb1 (by first | omega | (simp; done) | (simp; omega))); clear hb1) | (refine Below.trans ?_ (Below.mono hb2 (by first | omega | (simp; done) | (simp; omega))); clear hb2) | (refine Below.trans ?_ (Below.mono hb3 (by first | omega | (simp; done) | (simp; omega))); clear hb3) | (refine Below.trans ?_ (Below.mono hb4 (by first | omega | (simp; done) | (simp; omega))); clear hb4) | (refine Below.trans ?_ (Below.mono hb5 (by first | omega | (simp; done) | (simp; omega))); clear hb5) | (refine Below.trans ?_ (Below.mono hb6 (by first | omega | (simp; done) | (simp; omega))); clear hb6) | (refine Below.trans ?_ (Below.mono hb7 (by first | omega | (simp; done) | (simp; omega))); clear hb7) | (refine Below.trans ?_ (Below.mono hb8 (by first | omega | (simp; done) | (simp; omega))); clear hb8) | (refine Below.trans ?_ (Below.mono hb9 (by first | omega | (simp; done) | (simp; omega))); clear hb9) | (refine Below.trans ?_ (Below.mono hb10 (by first | omega | (simp; done) | (simp; omega))); clear hb10) | refine Below.alloc ?_ (by first | omega | (simp; done) | (simp; omega)) _ | refine Below.setCell ?_ (by first | omega | (simp; done) | (simp; omega)) _ | refine Below.drew ?_)))
  have z0 : w1.cell? ⟨w.heap.size + 1, 0, none⟩ = some (.slice none 0 0) := (by simp [go_sem, *])
  have z1 : w1.cell? ⟨w.heap.size + 1, 1, none⟩ = some (.int .i64 0) := (by simp [go_sem, *])
  refine bodyPost_ret (v := .tuple #[.agg #[.slice B1 x1 d1, .int .i64 6], .bool true]) (by simp [results, Try.results82, go_sem, *]) rfl ?_
  exact ⟨B1, h1, p1, d1, X1, 6, true, ⟨by rw [HX1.out]; rfl, mdSet2 (mdKeep HMA.out HB1.out (fun k _ h => h)) (fun k hk h => ⟨by have := h.1; omega, h.2⟩), fun _ => rfl, fun h => absurd h (by simp)⟩, (HB1.out.setCell (by simp) _).setCell (by simp) _⟩
set_option maxHeartbeats 4000000 in
theorem made_6 (AT AA : Option Addr) (nT cT gA oA cA X : Nat) (L : List MT) (i : Nat) (b n : Int) (A1 A2 : Option Addr) (el c1 nl c2 : Nat) (w : World) (hA : MdQ (· ≠ X) w gA oA AA L) (hXw : X < w.heap.size) (hi : i < L.length) (hf : fieldsI 6 (i : Int) b n el nl nT L.length = true) :
    Calls Try.prog 82 #[.slice AT nT cT, .slice AA L.length cA, .agg #[.int .i64 6, .int .i64 (i : Int), .int .i64 b, .int .i64 n, .slice A1 el c1, .slice A2 nl c2]] w (RetStep X (some L[i]) w) := by
  have C := Lib.hid (fun W => fieldsOk 6 (i : Int) b n A1 A2 el c1 nl c2 nT L.length W)
  rw [hf] at C
  obtain ⟨rfl, hg, B1, d1, h1, p1, ca0, ca1, fa, na, la⟩ := hA.at i hi
  have q0 : (0 : Int) ≤ (i : Int) := by omega
  have q1 : (i : Int) < (L.length : Int) := by omega
  obtain ⟨V, hV⟩ : ∃ V, L[i] = V := ⟨_, rfl⟩
  rw [hV] at ca0 ca1 fa la ⊢
  obtain ⟨X1, m1⟩ := V
  simp only at ca0 ca1 fa la ⊢
  have HMA : Hid (MdAt (fun k => k < w.heap.size ∧ k ≠ X) w ((B1, d1, h1, p1), (X1, m1))) := ⟨⟨fa.fl, fun h0 => ⟨fa.fl.lt h0, fa.q h0⟩⟩, na, la⟩
  obtain ⟨x1, hx1⟩ : ∃ m, X1.length = m := ⟨_, rfl⟩
  have HX1 := Lib.hid hx1
  rw [hx1] at ca0
  have hg1 : gA < w.heap.size + 1 := by omega
  have hg2 : gA < w.heap.size + 1 + 1 := by omega
  clear hA fa na la hV hf hx1
  go_enter Try.func82, Try.ntmps82
  go_wp2_with ((go_at_call 114; ((with_reducible refine (C.out _).mono ?_); (try (have hc10 := hc9; have hf10 := hf9; have hz10 := hz9; have hb10 := hb9; have hya_10 := hya_9; have hyb_10 := hyb_9; clear hc9 hf9 hz9 hb9 hya_9 hyb_9)); (try (have hc9 := hc8; have hf9 := hf8; have hz9 := hz8; have hb9 := hb8; have hya_9 := hya_8; have hyb_9 := hyb_8; clear hc8 hf8 hz8 hb8 hya_8 hyb_8)); (try (have hc8 := hc7; have hf8 := hf7; have hz8 := hz7; have hb8 := hb7; have hya_8 := hya_7; have hyb_8 := hyb_7; clear hc7 hf7 hz7 hb7 hya_7 hyb_7)); (try (have hc7 := hc6; have hf7 := hf6; have hz7 := hz6; have hb7 := hb6; have hya_7 := hya_6; have hyb_7 := hyb_6; clear hc6 hf6 hz6 hb6 hya_6 hyb_6)); (try (have hc6 := hc5; have hf6 := hf5; have hz6 := hz5; have hb6 := hb5; have hya_6 := hya_5; have hyb_6 := hyb_5; clear hc5 hf5 hz5 hb5 hya_5 hyb_5)); (try (have hc5 := hc4; have hf5 := hf4; have hz5 := hz4; have hb5 := hb4; have hya_5 := hya_4; have hyb_5 := hyb_4; clear hc4 hf4 hz4 hb4 hya_4 hyb_4)); (try (have hc4 := hc3; have hf4 := hf3; have hz4 := hz3; have hb4 := hb3; have hya_4 := hya_3; have hyb_4 := hyb_3; clear hc3 hf3 hz3 hb3 hya_3 hyb_3)); (try (have hc3 := hc2; have hf3 := hf2; have hz3 := hz2; have hb3 := hb2; have hya_3 := hya_2; have hyb_3 := hyb_2; clear hc2 hf2 hz2 hb2 hya_2 hyb_2)); (try (have hc2 := hc1; have hf2 := hf1; have hz2 := hz1; have hb2 := hb1; have hya_2 := hya_1; have hyb_2 := hyb_1; clear hc1 hf1 hz1 hb1 hya_1 hyb_1)); rintro e w1 ⟨rfl, hb1⟩; obtain ⟨hc1, hf1⟩ := bcell hb1; (try simp only [World.size_drew, World.cell?_drew, World.frozen?_drew] at hc1 hf1); have hz1 := hb1.size; (try simp at hz1); have hya_1 : w.heap.size < w1.heap.size := (by omega); have hyb_1 : w.heap.size + 1 < w1.heap.size := (by omega); have hz9 : w.heap.size + 1 < w1.heap.size := (by omega); have hgw : gA < w1.heap.size := (by omega))))
  have HB1 : Hid (Below w.heap.size w w1) := (show Below _ _ _ from by (repeat (with_reducible first | exact Below.refl _ _ | exact HBD.out | (refine Below.trans ?_ (Below.mono hb1 (by first | omega | (simp; done) | (simp; omega))); clear hb1) | (refine Below.trans ?_ (Below.mono hb2 (by first | omega | (simp; done) | (simp; omega))); clear hb2) | (refine Below.trans ?_ (Below.mono hb3 (by first | omega | (simp; done) | (simp; omega))); clear hb3) | (refine Below.trans ?_ (Below.mono hb4 (by first | omega | (simp; done) | (simp; omega))); clear hb4) | (refine Below.trans ?_ (Below.mono hb5 (by first | omega | (simp; done) | (simp; omega))); clear hb5) | (refine Below.trans ?_ (Below.mono hb6 (by first | omega | (simp; done) | (simp; omega))); clear hb6) | (refine Below.trans ?_ (Below.mono hb7 (by first | omega | (simp; done) | (simp; omega))); clear hb7) | (refine Below.trans ?_ (Below.mono hb8 (by first | omega | (simp; done) | (simp; omega))); clear hb8) | (refine Below.trans ?_ (Below.mono hb9 (by first | omega | (simp; done) | (simp; omega))); clear hb9) | (refine Below.trans ?_ (Below.mono hb10 (by first | omega | (simp; done) | (simp; omega))); clear hb10) | refine Below.alloc ?_ (by first | omega | (simp; done) | (simp; omega)) _ | refine Below.setCell ?_ (by first | omega | (simp; done) | (simp; omega)) _ | refine Below.drew ?_)))
  have z0 : w1.cell? ⟨w.heap.size + 1, 0, none⟩ = some (.slice none 0 0) := (by simp [go_sem, *])
  have z1 : w1.cell? ⟨w.heap.size + 1, 1, none⟩ = some (.int .i64 0) := (by simp [go_sem, *])
  refine bodyPost_ret (v := .tuple #[.agg #[.slice B1 x1 d1, .int .i64 (m1 : Int)], .bool true]) (by simp [results, Try.results82, go_sem, *]) rfl ?_
  exact ⟨B1, h1, p1, d1, X1, m1, true, ⟨by rw [HX1.out], mdSet2 (mdKeep HMA.out HB1.out (fun k _ h => h)) (fun k hk h => ⟨by have := h.1; omega, h.2⟩), fun _ => rfl, fun h => absurd h (by simp)⟩, (HB1.out.setCell (by simp) _).setCell (by simp) _⟩
end Go.Proofs.Ytacinjbaebimhaa.Val
namespace Go.Proofs.Ytacinjbaebimhaa.Val
open Go.RowKit
set_option linter.unusedVariables false
set_option maxRecDepth 8000
theorem madeS_A (md : List Nat) (k a b n : Int) (es : List PT) (ns : List Int) (k1 : ¬ k = 1) (k4 : ¬ k = 4) (k5 : ¬ k = 5) : madeS md (k, a, b, n, es, ns) = md.getD a.toNat 0 := by simp [madeS, k1, k4, k5]
theorem madeS_1 (md : List Nat) (a b n : Int) (es : List PT) (ns : List Int) : madeS md (1, a, b, n, es, ns) = 6 := by simp [madeS]
theorem madeS_4 (md : List Nat) (a b n : Int) (es : List PT) (ns : List Int) : madeS md (4, a, b, n, es, ns) = md.getD a.toNat 0 * md.getD b.toNat 0 := by simp [madeS]
theorem madeS_5 (md : List Nat) (a b n : Int) (es : List PT) (ns : List Int) : madeS md (5, a, b, n, es, ns) = md.getD a.toNat 0 + md.getD b.toNat 0 := by simp [madeS]
theorem ite_map {α β : Type} (c : Prop) [Decidable c] (x : α) (f : α → β) : ((if c then some x else none : Option α).map f) = if c then some (f x) else none := by split <;> rfl
set_option maxHeartbeats 1000000 in
theorem stepMade (AT AA : Option Addr) (gT oT cT gA oA cA X : Nat) (tb : List TB) (L : List MT) (s : SP) (A1 A2 : Option Addr) (g1 o1 c1 g2 o2 c2 : Nat) (w : World) (hT : TbQ (· ≠ X) w gT oT AT tb) (hA : MdQ (· ≠ X) w gA oA AA L) (hXw : X < w.heap.size) (hsm : ∀ x ∈ L, x.1.length ≤ 4 ∧ x.2 ≤ 300) (hE : Fl w g1 o1 A1 (flatP s.2.2.2.2.1)) (hN : Fl w g2 o2 A2 (s.2.2.2.2.2.map iv)) (hs : OkS1 s) :
    Calls Try.prog 82 #[.slice AT tb.length cT, .slice AA L.length cA, aggS s A1 c1 A2 c2] w (RetStep X ((colS tb (L.map fun x => x.1) s).map fun c => (c, madeS (L.map fun x => x.2) s)) w) := by
  obtain ⟨k, a, b, n, es, ns⟩ := s
  simp only at hE hN
  unfold aggS
  simp only
  have hl1 : (L.map fun x => x.1).length = L.length := List.length_map _
  have hl2 : (L.map fun x => x.2).length = L.length := List.length_map _
  have hg1 : ∀ i (h : i < L.length), (L.map fun x => x.1)[i]'(by rw [hl1]; exact h) = L[i].1 := fun i h => List.getElem_map _
  have hg2 : ∀ i (h : i < L.length), (L.map fun x => x.2).getD i 0 = L[i].2 := fun i h => by rw [getD_lt (by rw [hl2]; exact h), List.getElem_map]
  cases hf : fieldsI k a b n es.length ns.length tb.length L.length with
  | false =>
    have e : colS tb (L.map fun x => x.1) (k, a, b, n, es, ns) = none := col_no (by rw [hl1]; exact hf)
    rw [e, Option.map_none]
    exact made_F AT AA tb.length cT L.length cA X none rfl k a b n A1 A2 es.length c1 ns.length c2 w hf
  | true =>
    have hf2 : fieldsI k a b n es.length ns.length tb.length (L.map fun x => x.1).length = true := by rw [hl1]; exact hf
    by_cases k1 : k = 1
    · subst k1
      obtain ⟨j, rfl, hj, e⟩ := col_1 hf2
      rw [e, madeS_1, Option.map_some]
      exact made_1 AT AA gT oT cT L.length cA X tb a b j A1 A2 es.length c1 ns.length c2 w hT hXw hj hf
    by_cases k2 : k = 2
    · subst k2
      obtain ⟨i, rfl, hi⟩ := col_A (k := 2) (by decide) hf
      rw [col_2 (by rw [hl1]; exact hi) hf2, hg1 i hi]
      rw [ite_map, madeS_A _ _ _ _ _ _ _ (by decide) (by decide) (by decide), Int.toNat_natCast, hg2 i hi]
      exact made_2 AT AA tb.length cT gA oA cA X L i b n A1 A2 g1 o1 c1 g2 o2 c2 es ns w hA hXw hsm hE hN hs hf hi
    by_cases k3 : k = 3
    · subst k3
      obtain ⟨i, rfl, hi⟩ := col_A (k := 3) (by decide) hf
      rw [col_3 (by rw [hl1]; exact hi) hf2, hg1 i hi, madeS_A _ _ _ _ _ _ _ (by decide) (by decide) (by decide), Int.toNat_natCast, hg2 i hi]
      exact made_3 AT AA tb.length cT gA oA cA X L i b n A1 A2 g1 o1 c1 g2 o2 c2 es ns w hA hXw hsm hE hN hs hf hi
    by_cases k4 : k = 4
    · subst k4
      obtain ⟨i, rfl, hi⟩ := col_A (k := 4) (by decide) hf
      obtain ⟨j, rfl, hj⟩ := col_B (k := 4) (by decide) hf
      rw [col_4 (by rw [hl1]; exact hi) (by rw [hl1]; exact hj) hf2, hg1 i hi, hg1 j hj]
      rw [ite_map, madeS_4, Int.toNat_natCast, Int.toNat_natCast, hg2 i hi, hg2 j hj]
      exact made_4 AT AA tb.length cT gA oA cA X L i j n A1 A2 g1 o1 c1 g2 o2 c2 es ns w hA hXw hsm hE hN hs hf hi hj
    by_cases k5 : k = 5
    · subst k5
      obtain ⟨i, rfl, hi⟩ := col_A (k := 5) (by decide) hf
      obtain ⟨j, rfl, hj⟩ := col_B (k := 5) (by decide) hf
      rw [col_5 (by rw [hl1]; exact hi) (by rw [hl1]; exact hj) hf2, hg1 i hi, hg1 j hj, madeS_5, Int.toNat_natCast, Int.toNat_natCast, hg2 i hi, hg2 j hj]
      exact made_5 AT AA tb.length cT gA oA cA X L i j n A1 A2 g1 o1 c1 g2 o2 c2 es ns w hA hXw hsm hE hN hs hf hi hj
    by_cases k6 : k = 6
    · subst k6
      obtain ⟨i, rfl, hi⟩ := col_A (k := 6) (by decide) hf
      rw [col_6 (by rw [hl1]; exact hi) hf2, hg1 i hi]
      rw [madeS_A _ _ _ _ _ _ _ (by decide) (by decide) (by decide), Int.toNat_natCast, hg2 i hi, Option.map_some]
      exact made_6 AT AA tb.length cT gA oA cA X L i b n A1 A2 es.length c1 ns.length c2 w hA hXw hi hf
    · rw [col_K k1 k2 k3 k4 k5 k6, Option.map_none]
      exact made_K AT AA tb.length cT L.length cA X none rfl k a b n A1 A2 es.length c1 ns.length c2 w hf k1 k2 k3 k4 k5 k6
end Go.Proofs.Ytacinjbaebimhaa.Val
