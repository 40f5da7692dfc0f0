/- BatchOk, BatchRows: the program's. -/
import Derived.Test.YtjidkjnlnenmbaaBatMQ
namespace Go.Proofs.Ytjidkjnlnenmbaa.Val
open Go.RowKit
set_option linter.unusedVariables false
set_option maxRecDepth 8000
theorem valuesAcross (A : Option Addr) (g o cap : Nat) (ls : List RT) (m : Nat) (w : World) (hA : Rws w g o A ls) (hok : Ok2 ls) (hin : ∀ c ∈ ls, m < c.length) :
    Calls Try.prog 64 #[.slice A ls.length cap, .int .i64 (m : Int)] w (RetRw (acr ls m) w) := by
  obtain ⟨i0, hi, iz0, iz1, iz2⟩ := info_parts infoVc
  have HA := Lib.hid hA
  have HIN := Lib.hid hin
  have HK := Lib.hid hok
  have hl := hok.1
  have OWN := Lib.hid (own_empty3 (w := w) (B := w.heap.size) 73 3 rfl (Nat.le_refl _))
  clear hA hin hok
  go_enter Try.func64, Try.ntmps64
  go_wp2
  go_loopw [5, 6] (fun ox kx wr => ∃ (k g2 c2 : Nat), k ≤ ls.length ∧ kx = .int .i64 k ∧ ox = .slice (some ⟨g2, 0, none⟩) k c2 ∧ Hid (wr.ownsRow w.heap.size 73 3 (.slice (some ⟨g2, 0, none⟩) k c2) k (flatV (acr (ls.take k) m))) ∧ Hid (Below w.heap.size w wr)) (fun _ kx _ => ls.length - (intOf kx).toNat)
  case atStart => exact ⟨0, w.heap.size, 0, Nat.zero_le _, rfl, rfl, OWN, (Below.refl _ _).alloc (Nat.le_refl _) _⟩
  case round =>
    clear OWN
    obtain ⟨k, g2, c2, hk, rfl, rfl, HO, HB⟩ := hrel
    have hz := HB.out.size
    by_cases hlt : k < ls.length
    · obtain ⟨rfl, hg, c', g', o', hc, hf⟩ := (HA.out.below HB.out).at k hlt
      have HTK := Lib.hid (List.take_succ_eq_append_getElem hlt)
      have hml := HIN.out _ (List.getElem_mem hlt)
      have hkl := (HK.out.at k hlt).1
      obtain ⟨K, hK⟩ : ∃ K, ls[k] = K := ⟨_, rfl⟩
      rw [hK] at hc hf HTK hml hkl
      obtain ⟨-, hg3, e0, e1, e2⟩ := hf.v m hml
      have hgd : K.getD m nilV = K[m] := getD_lt hml _
      obtain ⟨V, hV⟩ : ∃ V, K[m] = V := ⟨_, rfl⟩
      rw [hV] at e0 e1 e2 hgd
      obtain ⟨vk, vn, vs⟩ := V
      simp only at e0 e1 e2
      have hfl := Lib.hid (show flatV (acr (ls.take (k + 1)) m) = flatV (acr (ls.take k) m) ++ [.int .i64 vk, .int .i64 vn, .string vs] by
        unfold acr; rw [HTK.out, List.map_append, flatV_app]; simp only [List.map_cons, List.map_nil, hgd]; rfl)
      have hgs := (HO.out.lt g2 rfl).1
      obtain ⟨kl, hkl2⟩ : ∃ n, K.length = n := ⟨_, rfl⟩
      rw [hkl2] at hc hml hkl
      have i0' : (0 : Int) ≤ (k : Int) := by omega
      have i1' : (k : Int) < (ls.length : Int) := by omega
      have j0' : (0 : Int) ≤ (m : Int) := by omega
      have j1' : (m : Int) < (kl : Int) := by omega
      clear hV hgd HTK hK hf hkl2
      go_wp2_with (at_builtin; go_loud (refine wpList_append_block _ rfl (.tmp 14) (.tmp 22) 53 rfl w.heap.size 73 i0 (.agg #[.int .i64 0, .int .i64 0, .string ⟨#[]⟩]) 3 32 Try.underlying53 hi iz0 iz1 iz2 rfl (by decide) g2 k c2 (flatV (acr (ls.take k) m)) rfl (HO.out.alloc _) _ 1 1 [.int .i64 vk, .int .i64 vn, .string vs] rfl rfl (news_new (by first | rfl | simp)) (by simp [Value.oneCell']) (by unfold maxLen; omega) (by omega) (by first | omega | (simp; done) | (simp; omega)) ?_); intro g5 c5 w5 hown hgr hgg; rw [← hfl.out] at hown; have HO5 := Lib.hid hown; have HB5 := Lib.hid (Below.grown (HB.out.alloc hz _) hgr (by simp; omega) (fun k hk => by obtain rfl := Option.some.inj hk; exact hgs)); clear hown hgr hgg)
      exact ⟨⟨k + 1, g5, c5, by omega, by go_num, rfl, HO5, HB5⟩, by simp [intOf]; omega⟩
    · obtain rfl : k = ls.length := by omega
      have HOF := HO.out
      rw [List.take_length] at HOF
      have HO2 := Lib.hid HOF
      clear HOF
      go_wp2
      go_ret
      exact ⟨g2, c2, by rw [acr_len]; rfl, RowO.of_own (by rw [acr_len]; exact HO2.out), HB.out⟩
end Go.Proofs.Ytjidkjnlnenmbaa.Val
