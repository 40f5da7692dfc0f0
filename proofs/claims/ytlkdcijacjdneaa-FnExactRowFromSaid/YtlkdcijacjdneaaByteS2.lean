/- ValueBytes of a text (spec). -/
import Derived.Test.YtlkdcijacjdneaaByteS1
import Derived.Deep.RegionHeldLaw
namespace Go.Proofs.Ytlkdcijacjdneaa.Val
open Go.RowKit
set_option linter.unusedVariables false
set_option maxHeartbeats 4000000 in
theorem vbs2 (s : ByteArray) (w : World) (hs : s.size ≤ maxLen) (hok : okB 2 0 s = true) (h1 : s.size ≤ 6) : Calls Try.prog 66 #[.agg #[.int .i64 2, .int .i64 0, .string s]] w (BPost (2 :: UInt8.ofNat s.size :: s.data.toList) w) := by
  obtain ⟨i0, hi, hz0, hz1', hz2⟩ := info_parts info5
  have h2 : (s.size : Int) < 256 := by omega
  have h3 : 0 ≤ (s.size : Int) := by omega
  have kb := fun (W : World) => run_bytes_of_string (P := Try.prog) W 9 22 5 s Try.underlying9 Try.underlying22 Try.underlying5
  have eu : IntKind.u8.wrap (s.size : Int) = s.size := IntWalk.u8_in _ (by omega)
  have HX : Hid (∀ (w3 : World) (v3 : Value), w3.ownsRow (w.heap.size + 1) 5 1 v3 (2 + s.size) ([.int .u8 2, .int .u8 s.size] ++ Lib.strCells s) → w3.ownsRow w.heap.size 5 1 v3 (2 :: UInt8.ofNat s.size :: s.data.toList).length ((2 :: UInt8.ofNat s.size :: s.data.toList).map bv)) := by
    intro w3 v3 h
    have hl : (2 :: UInt8.ofNat s.size :: s.data.toList).length = 2 + s.size := by
      have : s.data.toList.length = s.size := by simp
      simp only [List.length_cons, this]; omega
    have e2 : bv (UInt8.ofNat s.size) = .int .u8 s.size := by
      have := bv_of (s.size : Int) h3 h2
      rwa [Int.toNat_natCast] at this
    rw [hl, List.map_cons, List.map_cons, e2, ← strCells_bv]
    exact own_mono h (Nat.le_succ _)
  go_enter Try.func66, Try.ntmps66
  go_wp2_with ((go_at_call 58; ((with_reducible refine (valueOkS _ _ _ _ (by assumption)).mono ?_); (try (have hc10 := hc9; have hf10 := hf9; have hz10 := hz9; have hb10 := hb9; have hya_10 := hya_9; clear hc9 hf9 hz9 hb9 hya_9)); (try (have hc9 := hc8; have hf9 := hf8; have hz9 := hz8; have hb9 := hb8; have hya_9 := hya_8; clear hc8 hf8 hz8 hb8 hya_8)); (try (have hc8 := hc7; have hf8 := hf7; have hz8 := hz7; have hb8 := hb7; have hya_8 := hya_7; clear hc7 hf7 hz7 hb7 hya_7)); (try (have hc7 := hc6; have hf7 := hf6; have hz7 := hz6; have hb7 := hb6; have hya_7 := hya_6; clear hc6 hf6 hz6 hb6 hya_6)); (try (have hc6 := hc5; have hf6 := hf5; have hz6 := hz5; have hb6 := hb5; have hya_6 := hya_5; clear hc5 hf5 hz5 hb5 hya_5)); (try (have hc5 := hc4; have hf5 := hf4; have hz5 := hz4; have hb5 := hb4; have hya_5 := hya_4; clear hc4 hf4 hz4 hb4 hya_4)); (try (have hc4 := hc3; have hf4 := hf3; have hz4 := hz3; have hb4 := hb3; have hya_4 := hya_3; clear hc3 hf3 hz3 hb3 hya_3)); (try (have hc3 := hc2; have hf3 := hf2; have hz3 := hz2; have hb3 := hb2; have hya_3 := hya_2; clear hc2 hf2 hz2 hb2 hya_2)); (try (have hc2 := hc1; have hf2 := hf1; have hz2 := hz1; have hb2 := hb1; have hya_2 := hya_1; clear hc1 hf1 hz1 hb1 hya_1)); rintro e w1 ⟨rfl, hb1⟩; obtain ⟨hc1, hf1⟩ := bcell hb1; (try simp only [World.size_drew, World.cell?_drew, World.frozen?_drew] at hc1 hf1); have hz1 := hb1.size; (try simp at hz1); have hya_1 : w.heap.size < w1.heap.size := (by omega); (try (have hx6 := hx5; have hn6 := hn5)); (try (have hx5 := hx4; have hn5 := hn4)); (try (have hx4 := hx3; have hn4 := hn3)); (try (have hx3 := hx2; have hn3 := hn2)); (try (have hx2 := hx1; have hn2 := hn1)); (try (have hx1 := Nat.lt_of_succ_le hz1; have hn1 := Nat.ne_of_lt hx1)))))
  have c2 : (w1.alloc (.cells #[.int .u8 2] 5)).cell? ⟨w.heap.size, 2, none⟩ = some (.string s) := by simp [go_sem, *]
  have OWN := Lib.hid (own_built (B := w.heap.size + 1) 5 (.int .u8 2) (show w.heap.size + 1 ≤ w1.heap.size by omega))
  have hw0 : w.heap.size + 1 ≤ w1.heap.size := by omega
  have HBD : Hid (Below w.heap.size w (w1.alloc (.cells #[.int .u8 2] 5))) := by show Below _ _ _; (repeat (with_reducible first | exact Below.refl _ _ | exact HBD.out | (refine Below.trans ?_ (Below.mono hb1 (by first | omega | (simp; done) | (simp; omega))); clear hb1) | (refine Below.trans ?_ (Below.mono hb2 (by first | omega | (simp; done) | (simp; omega))); clear hb2) | (refine Below.trans ?_ (Below.mono hb3 (by first | omega | (simp; done) | (simp; omega))); clear hb3) | (refine Below.trans ?_ (Below.mono hb4 (by first | omega | (simp; done) | (simp; omega))); clear hb4) | (refine Below.trans ?_ (Below.mono hb5 (by first | omega | (simp; done) | (simp; omega))); clear hb5) | (refine Below.trans ?_ (Below.mono hb6 (by first | omega | (simp; done) | (simp; omega))); clear hb6) | (refine Below.trans ?_ (Below.mono hb7 (by first | omega | (simp; done) | (simp; omega))); clear hb7) | (refine Below.trans ?_ (Below.mono hb8 (by first | omega | (simp; done) | (simp; omega))); clear hb8) | (refine Below.trans ?_ (Below.mono hb9 (by first | omega | (simp; done) | (simp; omega))); clear hb9) | (refine Below.trans ?_ (Below.mono hb10 (by first | omega | (simp; done) | (simp; omega))); clear hb10) | refine Below.alloc ?_ (by first | omega | (simp; done) | (simp; omega)) _ | refine Below.setCell ?_ (by first | omega | (simp; done) | (simp; omega)) _ | refine Below.drew ?_))
  clear hc1 hf1
  go_region_held_law (fun w' => w'.cell? ⟨w.heap.size, 2, none⟩ = some (.string s)) (first | assumption | go_keep) (first
    | ((fail_if_success (have _ := OWN2)); refine step_own rfl _ _ 22 rfl (w.heap.size + 1) 5 i0 (.int .u8 0) 1 1 Try.underlying22 hi hz0 hz1' hz2 rfl (by decide) (.slice (some ⟨w1.heap.size, 0, none⟩) 1 1) 1 [.int .u8 2] rfl (by (repeat (first | exact OWN.out | apply World.ownsRow.alloc | apply own_drew))) _ 1 1 [.int .u8 s.size] rfl rfl (news1 (by simp [go_sem, *])) (by simp [Value.oneCell']) (by decide) (by decide) (by simp; omega) ?_; intro v2 w2 hown2 hgr2 _; have OWN2 := Lib.hid hown2; have GR2 := Lib.hid hgr2; have hz2w := hgr2.size; have HG2 := Lib.hid (Below.grown (B := w.heap.size) (a := w) (by (repeat (with_reducible first | exact HBD.out | refine Below.alloc ?_ (by first | omega | (simp; omega)) _ | refine Below.drew ?_))) hgr2 (by first | omega | (simp; omega)) (by intro k hk; simp [Value.ownBlock] at hk; omega)); have c3 := hgr2.cell (a := ⟨w.heap.size, 2, none⟩) (v := .string s) (by assumption) (by simp [Value.ownBlock]; omega); (try (have HRS := Lib.hid (RowS.grown hgr2 (by with_reducible (repeat (first | exact rows_new | apply RowS.drew | apply RowS.alloc))) (by first | (simp [Value.ownBlock]; done) | (simp [Value.ownBlock]; omega)))); (try simp only [World.size_alloc] at HRS)); clear hown2; (try simp at hz2w))
    | (have _ := OWN2; refine step_own rfl _ _ 22 rfl (w.heap.size + 1) 5 i0 (.int .u8 0) 1 1 Try.underlying22 hi hz0 hz1' hz2 rfl (by decide) v2 2 [.int .u8 2, .int .u8 s.size] rfl (by (repeat (first | exact OWN2.out | apply World.ownsRow.alloc | apply own_drew))) _ s.size _ (Lib.strCells s) rfl (by simp [Lib.strCells]) (news_rows (by with_reducible (repeat (first | exact HRS.out | exact rows_new | apply RowS.drew | apply RowS.alloc)))) (by simp [Lib.strCells, Value.oneCell']) (by unfold maxLen; omega) (by omega) (by first | omega | (simp; omega)) ?_; intro v3 w3 hown3 hgr3 _; have OWN3 := Lib.hid hown3; have HG3 := Lib.hid (Below.grown (B := w.heap.size) (a := w) (by (repeat (with_reducible first | exact HG2.out | refine Below.alloc ?_ (by first | omega | (simp; omega)) _ | refine Below.drew ?_))) hgr3 (by first | omega | (simp; omega)) (fun k hk => Nat.le_of_succ_le (OWN2.out.lt k hk).1)); have c4 := hgr3.cell (a := ⟨w.heap.size, 2, none⟩) (v := .string s) (by assumption) (fun e => Nat.not_succ_le_self _ (OWN2.out.lt w.heap.size e.symm).1); clear hown3 hgr3))
  all_goals go_wp2
  all_goals go_ret
  all_goals exact ⟨v3, rfl, HX.out _ _ OWN3.out, HG3.out⟩
theorem valueBytesS (k n : Int) (s : ByteArray) (w : World) (hs : s.size ≤ maxLen) : Calls Try.prog 66 #[.agg #[.int .i64 k, .int .i64 n, .string s]] w (BPost (bytesL k n s) w) := by
  rcases ok_cases k n s with h | ⟨rfl, rfl, hl, h⟩ | ⟨rfl, h1, h2, hl, h⟩ | ⟨rfl, rfl, hz, hl, h⟩ | ⟨rfl, rfl, hl, h⟩ | ⟨rfl, rfl, hl, h⟩
  · have : bytesL k n s = [] := by simp [bytesL, h]
    rw [this]; exact vbsNo k n s w hs h
  · have : bytesL 0 0 s = [0] := by simp [bytesL, h]
    rw [this]; exact vbs0 s w hs h
  · have : bytesL 1 n s = [1, UInt8.ofNat ((n + 10000) / 256).toNat, UInt8.ofNat ((n + 10000) % 256).toNat] := by simp [bytesL, h]
    rw [this]; exact vbs1 n s w hs h h1 h2
  · have : bytesL 2 0 s = 2 :: UInt8.ofNat s.size :: s.data.toList := by simp [bytesL, h]
    rw [this]; exact vbs2 s w hs h hz
  · have : bytesL 3 0 s = [3, UInt8.ofNat (0 : Int).toNat] := by simp [bytesL, h]
    rw [this]; exact vbs3 0 s w hs h (by omega) (by omega)
  · have : bytesL 3 1 s = [3, UInt8.ofNat (1 : Int).toNat] := by simp [bytesL, h]
    rw [this]; exact vbs3 1 s w hs h (by omega) (by omega)
end Go.Proofs.Ytlkdcijacjdneaa.Val
