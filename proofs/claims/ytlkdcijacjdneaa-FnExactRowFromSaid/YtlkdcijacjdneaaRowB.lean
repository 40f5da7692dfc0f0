/- RowBytes, both sides. -/
import Derived.Test.YtlkdcijacjdneaaRowV
import Derived.Test.YtlkdcijacjdneaaRowK
import Derived.Test.YtlkdcijacjdneaaDrawF
namespace Go.Proofs.Ytlkdcijacjdneaa.Val
open Go.RowKit
set_option linter.unusedVariables false
def bytesV (v : VT) : List UInt8 := bytesL v.1 v.2.1 v.2.2
def rbL (vs : List VT) : List UInt8 := if rowB vs = true then UInt8.ofNat vs.length :: vs.flatMap bytesV else []
theorem bytesV_short (v : VT) : (bytesV v).length ≤ 8 := bytes_short _ _ _
theorem bytesV_pos (v : VT) (h : okV v = true) : 0 < (bytesV v).length := by
  obtain ⟨k, n, s⟩ := v
  have hok : okB k n s = true := h
  show 0 < (bytesL k n s).length
  rcases ok_cases k n s with ho | ⟨rfl, rfl, he, ho⟩ | ⟨rfl, h1, h2, he, ho⟩ | ⟨rfl, rfl, hz, hl, ho⟩ | ⟨rfl, rfl, he, ho⟩ | ⟨rfl, rfl, he, ho⟩
  · rw [hok] at ho; cases ho
  all_goals simp [bytesL, ho]
theorem flat_snoc (vs : List VT) (k : Nat) (h : k < vs.length) : (vs.take (k + 1)).flatMap bytesV = (vs.take k).flatMap bytesV ++ bytesV vs[k] := by
  rw [List.take_succ_eq_append_getElem h, List.flatMap_append]; simp
theorem flat_short (vs : List VT) : (vs.flatMap bytesV).length ≤ 8 * vs.length := by
  induction vs with
  | nil => simp
  | cons v vs ih =>
    have := bytesV_short v
    rw [List.flatMap_cons, List.length_append, List.length_cons]; omega
theorem rbL_short (vs : List VT) : (rbL vs).length ≤ 33 := by
  unfold rbL
  split
  · rename_i h
    have h4 : vs.length ≤ 4 := by simp only [rowB, Bool.and_eq_true, decide_eq_true_eq] at h; exact h.1
    have := flat_short vs
    rw [List.length_cons]; omega
  · simp
theorem rb_pos (vs : List VT) : 0 < (rbL vs).length ↔ rowB vs = true := by
  unfold rbL
  split
  · rename_i h; simp [h]
  · rename_i h; simp [h]
theorem rowB_ok {vs : List VT} (h : rowB vs = true) : ∀ i (hi : i < vs.length), okV vs[i] = true := by
  simp only [rowB, Bool.and_eq_true, List.all_eq_true] at h
  exact fun i hi => h.2 _ (List.getElem_mem hi)
set_option maxHeartbeats 1000000 in
theorem rowBytesI (A : Option Addr) (g o cap : Nat) (vs : List VT) (w : World) (h : Fl w g o A (flatV vs)) (hl : vs.length ≤ 2000000) (hs : Short vs) : Calls Try.prog 23 #[.slice A vs.length cap] w (BPost (rbL vs) w) := by
  obtain ⟨i0, hi, iz0, iz1, iz2⟩ := info_parts info5
  have H := Lib.hid h
  have HSH := Lib.hid hs
  clear h hs
  have CR := Lib.hid (fun w hw => rowOkI A g o cap vs w hw hl HSH.out)
  cases hB : rowB vs
  · have hL : rbL vs = [] := by rw [rbL, if_neg (by rw [hB]; simp)]
    rw [hB] at CR
    rw [hL]
    clear hB hL
    go_enter Try.func23, Try.ntmps23
    go_wp2_with (go_at_call 21; (with_reducible refine (CR.out _ H.out).mono ?_); rintro e w1 ⟨rfl, hb1⟩; have HB := Lib.hid hb1; clear hb1)
    go_ret
    exact ⟨_, rfl, World.ownsRow_nil _ _ _ _, HB.out⟩
  · have h4 : vs.length ≤ 4 := by simp only [rowB, Bool.and_eq_true, decide_eq_true_eq] at hB; exact hB.1
    have hall := Lib.hid (rowB_ok hB)
    have hL : rbL vs = UInt8.ofNat vs.length :: vs.flatMap bytesV := by rw [rbL, if_pos hB]
    rw [hB] at CR
    rw [hL]
    clear hB hL
    have ev : IntKind.u8.wrap (vs.length : Int) = (vs.length : Int) := IntWalk.u8_in _ (by omega)
    have hbv : bv (UInt8.ofNat vs.length) = .int .u8 (vs.length : Int) := by
      have := bv_of (vs.length : Int) (by omega) (by omega)
      rwa [Int.toNat_natCast] at this
    have HBV := Lib.hid hbv
    clear hbv
    go_enter Try.func23, Try.ntmps23
    go_wp2_with (go_at_call 21; (with_reducible refine (CR.out _ H.out).mono ?_); rintro e w1 ⟨rfl, hb1⟩; have HB := Lib.hid hb1; clear hb1)
    have hB0 := HB.out.size
    go_loopw [3, 4] (fun vx kx wr => ∃ (k : Nat), k ≤ vs.length ∧ kx = .int .i64 k ∧ Hid (Below w.heap.size w wr) ∧ Hid (wr.ownsRow w.heap.size 5 1 vx (UInt8.ofNat vs.length :: (vs.take k).flatMap bytesV).length ((UInt8.ofNat vs.length :: (vs.take k).flatMap bytesV).map bv))) (fun _ kx _ => vs.length - (intOf kx).toNat)
    case atStart =>
      refine ⟨0, Nat.zero_le _, rfl, HB.out.alloc hB0 _, ?_⟩
      have := own_built (w := w1) (B := w.heap.size) 5 (.int .u8 (vs.length : Int)) hB0
      show World.ownsRow _ _ _ _ _ 1 [bv (UInt8.ofNat vs.length)]
      rw [HBV.out]
      exact this
    case round =>
      obtain ⟨k, hk, rfl, HW, OWN⟩ := hrel
      obtain ⟨Lk, hLk⟩ : ∃ L, UInt8.ofNat vs.length :: (vs.take k).flatMap bytesV = L := ⟨_, rfl⟩
      have hsk := flat_short (vs.take k)
      have hlk : Lk.length ≤ 33 := by
        rw [← hLk, List.length_cons]
        have : (vs.take k).length ≤ 4 := by simp; omega
        omega
      rw [hLk] at OWN
      have HLK := Lib.hid hLk
      clear hLk hsk
      by_cases hlt : k < vs.length
      · obtain ⟨rfl, -, -, -, -⟩ := H.out.v k hlt
        obtain ⟨-, hg, c0, c1, c2⟩ := (H.out.below HW.out).v k hlt
        have hsz := HSH.out k hlt
        have hok := hall.out k hlt
        have HFS := Lib.hid (flat_snoc vs k hlt)
        obtain ⟨K, hK⟩ : ∃ K, vs[k] = K := ⟨_, rfl⟩
        rw [hK] at c0 c1 c2 HFS hsz hok
        obtain ⟨x, n, s⟩ := K
        simp only at c0 c1 c2 hsz
        have h8 := bytesV_short (x, n, s)
        have CV := Lib.hid (fun w => bytesP_of (valueBytesI x n s w hsz) (bytesV_pos (x, n, s) hok))
        obtain ⟨L, hL⟩ : ∃ L, bytesV (x, n, s) = L := ⟨_, rfl⟩
        have hL2 : bytesL x n s = L := hL
        rw [hL2] at CV
        rw [hL] at HFS h8
        clear hL hL2 hK hok
        have i0' : (0 : Int) ≤ (k : Int) := by omega
        have i1' : (k : Int) < (vs.length : Int) := by omega
        have hW0 := HW.out.size
        go_wp2_with (first
          | (go_at_call 51; (with_reducible refine (CV.out _).mono ?_); rintro e wv ⟨gv, cv, rfl, hrv, hcv, hcv2, hb1⟩; have HB1 := Lib.hid (HW.out.trans (hb1.mono hW0)); have OWN1 := Lib.hid (own_below OWN.out hb1); have HRV := Lib.hid hrv; clear hb1 hrv)
          | (at_builtin; refine wpList_append_own _ rfl (.tmp 18) (.tmp 23) 22 rfl w.heap.size 5 i0 (.int .u8 0) 1 1 Try.underlying22 hi iz0 iz1 iz2 rfl (by decide) u3 Lk.length (Lk.map bv) rfl OWN1.out ⟨gv, 0, none⟩ L.length cv (L.map bv) rfl (by simp) (news_row HRV.out) (ones_bv _) (by unfold maxLen; omega) (by omega) HB1.out.size ?_; intro v2 w2 hown2 hgr2 _; have OWN2 := Lib.hid hown2; have HB2 := Lib.hid (Below.grown HB1.out hgr2 HB1.out.size (fun b hb => (OWN1.out.lt b hb).1)); clear hown2 hgr2))
        refine ⟨⟨k + 1, by omega, by go_num, HB2, ?_⟩, by simp [intOf]; omega⟩
        have := OWN2.out
        rw [HFS.out, ← List.cons_append, HLK.out, List.map_append, List.length_append]
        exact this
      · obtain rfl : k = vs.length := by omega
        go_wp2
        go_ret
        have hh := HLK.out
        rw [List.take_length] at hh
        rw [hh]
        exact ⟨_, rfl, OWN.out, HW.out⟩
set_option maxHeartbeats 1000000 in
theorem rowBytesS (A : Option Addr) (g o cap : Nat) (vs : List VT) (w : World) (h : Fl w g o A (flatV vs)) (hl : vs.length ≤ 2000000) (hs : Short vs) : Calls Try.prog 32 #[.slice A vs.length cap] w (BPost (rbL vs) w) := by
  obtain ⟨i0, hi, iz0, iz1, iz2⟩ := info_parts info5
  have H := Lib.hid h
  have HSH := Lib.hid hs
  clear h hs
  have CR := Lib.hid (fun w hw => rowOkS A g o cap vs w hw hl HSH.out)
  cases hB : rowB vs
  · have hL : rbL vs = [] := by rw [rbL, if_neg (by rw [hB]; simp)]
    rw [hB] at CR
    rw [hL]
    clear hB hL
    go_enter Try.func32, Try.ntmps32
    go_wp2_with (go_at_call 22; (with_reducible refine (CR.out _ H.out).mono ?_); rintro e w1 ⟨rfl, hb1⟩; have HB := Lib.hid hb1; clear hb1)
    go_ret
    exact ⟨_, rfl, own_empty 5 HB.out.size, HB.out.alloc HB.out.size _⟩
  · have h4 : vs.length ≤ 4 := by simp only [rowB, Bool.and_eq_true, decide_eq_true_eq] at hB; exact hB.1
    have hall := Lib.hid (rowB_ok hB)
    have hL : rbL vs = UInt8.ofNat vs.length :: vs.flatMap bytesV := by rw [rbL, if_pos hB]
    rw [hB] at CR
    rw [hL]
    clear hB hL
    have ev : IntKind.u8.wrap (vs.length : Int) = (vs.length : Int) := IntWalk.u8_in _ (by omega)
    have hbv : bv (UInt8.ofNat vs.length) = .int .u8 (vs.length : Int) := by
      have := bv_of (vs.length : Int) (by omega) (by omega)
      rwa [Int.toNat_natCast] at this
    have HBV := Lib.hid hbv
    clear hbv
    go_enter Try.func32, Try.ntmps32
    go_wp2_with (go_at_call 22; (with_reducible refine (CR.out _ H.out).mono ?_); rintro e w1 ⟨rfl, hb1⟩; have HB := Lib.hid hb1; clear hb1)
    have hB0 := HB.out.size
    go_loopw [3, 4] (fun vx kx wr => ∃ (k : Nat), k ≤ vs.length ∧ kx = .int .i64 k ∧ Hid (Below w.heap.size w wr) ∧ Hid (wr.ownsRow w.heap.size 5 1 vx (UInt8.ofNat vs.length :: (vs.take k).flatMap bytesV).length ((UInt8.ofNat vs.length :: (vs.take k).flatMap bytesV).map bv))) (fun _ kx _ => vs.length - (intOf kx).toNat)
    case atStart =>
      refine ⟨0, Nat.zero_le _, rfl, HB.out.alloc hB0 _, ?_⟩
      have := own_built (w := w1) (B := w.heap.size) 5 (.int .u8 (vs.length : Int)) hB0
      show World.ownsRow _ _ _ _ _ 1 [bv (UInt8.ofNat vs.length)]
      rw [HBV.out]
      exact this
    case round =>
      obtain ⟨k, hk, rfl, HW, OWN⟩ := hrel
      obtain ⟨Lk, hLk⟩ : ∃ L, UInt8.ofNat vs.length :: (vs.take k).flatMap bytesV = L := ⟨_, rfl⟩
      have hsk := flat_short (vs.take k)
      have hlk : Lk.length ≤ 33 := by
        rw [← hLk, List.length_cons]
        have : (vs.take k).length ≤ 4 := by simp; omega
        omega
      rw [hLk] at OWN
      have HLK := Lib.hid hLk
      clear hLk hsk
      by_cases hlt : k < vs.length
      · obtain ⟨rfl, -, -, -, -⟩ := H.out.v k hlt
        obtain ⟨-, hg, c0, c1, c2⟩ := (H.out.below HW.out).v k hlt
        have hsz := HSH.out k hlt
        have hok := hall.out k hlt
        have HFS := Lib.hid (flat_snoc vs k hlt)
        obtain ⟨K, hK⟩ : ∃ K, vs[k] = K := ⟨_, rfl⟩
        rw [hK] at c0 c1 c2 HFS hsz hok
        obtain ⟨x, n, s⟩ := K
        simp only at c0 c1 c2 hsz
        have h8 := bytesV_short (x, n, s)
        have CV := Lib.hid (fun w => bytesP_of (valueBytesS x n s w hsz) (bytesV_pos (x, n, s) hok))
        obtain ⟨L, hL⟩ : ∃ L, bytesV (x, n, s) = L := ⟨_, rfl⟩
        have hL2 : bytesL x n s = L := hL
        rw [hL2] at CV
        rw [hL] at HFS h8
        clear hL hL2 hK hok
        have i0' : (0 : Int) ≤ (k : Int) := by omega
        have i1' : (k : Int) < (vs.length : Int) := by omega
        have hW0 := HW.out.size
        go_wp2_with (first
          | (go_at_call 66; (with_reducible refine (CV.out _).mono ?_); rintro e wv ⟨gv, cv, rfl, hrv, hcv, hcv2, hb1⟩; have HB1 := Lib.hid (HW.out.trans (hb1.mono hW0)); have OWN1 := Lib.hid (own_below OWN.out hb1); have HRV := Lib.hid hrv; clear hb1 hrv)
          | (at_builtin; refine wpList_append_own _ rfl (.tmp 19) (.tmp 24) 22 rfl w.heap.size 5 i0 (.int .u8 0) 1 1 Try.underlying22 hi iz0 iz1 iz2 rfl (by decide) u3 Lk.length (Lk.map bv) rfl OWN1.out ⟨gv, 0, none⟩ L.length cv (L.map bv) rfl (by simp) (news_row HRV.out) (ones_bv _) (by unfold maxLen; omega) (by omega) HB1.out.size ?_; intro v2 w2 hown2 hgr2 _; have OWN2 := Lib.hid hown2; have HB2 := Lib.hid (Below.grown HB1.out hgr2 HB1.out.size (fun b hb => (OWN1.out.lt b hb).1)); clear hown2 hgr2))
        refine ⟨⟨k + 1, by omega, by go_num, HB2, ?_⟩, by simp [intOf]; omega⟩
        have := OWN2.out
        rw [HFS.out, ← List.cons_append, HLK.out, List.map_append, List.length_append]
        exact this
      · obtain rfl : k = vs.length := by omega
        go_wp2
        go_ret
        have hh := HLK.out
        rw [List.take_length] at hh
        rw [hh]
        exact ⟨_, rfl, OWN.out, HW.out⟩
end Go.Proofs.Ytlkdcijacjdneaa.Val
