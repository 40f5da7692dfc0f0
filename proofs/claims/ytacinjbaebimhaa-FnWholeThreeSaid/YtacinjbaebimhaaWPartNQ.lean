/- A part put behind an expression (laws.withParts with no second one). -/
import Derived.Test.YtacinjbaebimhaaDrawXQ
import Derived.Test.YtacinjbaebimhaaOwnAQ
import Derived.Laws.AppendOwnNone
namespace Go.Proofs.Ytacinjbaebimhaa.Val
open Go.RowKit
set_option linter.unusedVariables false
set_option linter.unusedSimpArgs false
set_option maxRecDepth 4000
/-- A row of its own, somewhere. -/
def PutP (xs : List PT) (w : World) (e : Ending) (w' : World) : Prop := ∃ (g c : Nat), e = .returned (.slice (some ⟨g, 0, none⟩) xs.length c) ∧ w'.ownsRow w.heap.size 93 5 (.slice (some ⟨g, 0, none⟩) xs.length c) xs.length (flatP xs) ∧ Below w.heap.size w w'
theorem put_of {xs : List PT} {w w' : World} {g c n : Nat} {ys : List Value} (h : w'.ownsRow w.heap.size 93 5 (.slice (some ⟨g, 0, none⟩) n c) n ys) (hb : Below w.heap.size w w') (hn : n = xs.length) (hy : ys = flatP xs) : PutP xs w (.returned (.slice (some ⟨g, 0, none⟩) n c)) w' := by
  subst hn hy
  exact ⟨g, c, rfl, h, hb⟩
set_option maxHeartbeats 4000000 in
theorem withPartsN (ga ca : Nat) (xa : List PT) (k : Int) (w : World) (hk : 0 < k) (hA : Fl w ga 0 (some ⟨ga, 0, none⟩) (flatP xa)) (hga : ga < w.heap.size) (hla : xa.length ≤ 1000) : Calls Try.prog 28 #[.slice (some ⟨ga, 0, none⟩) xa.length ca, .slice none 0 0, .int .i64 k] w (PutP (xa ++ [(k, 0, nilV)]) w) := by
  have FA := Lib.hid hA
  have HB := Lib.hid (Below.refl w.heap.size w)
  clear hA
  obtain ⟨i0, hi, iz0, iz1, iz2⟩ := info_parts infoP
  have hzb : w.heap.size ≤ w.heap.size := Nat.le_refl _
  go_enter Try.func28, Try.ntmps28
  go_wp2_with (first
    | ((fail_if_success (have _ := OX)); (at_builtin; refine wpList_append_own _ rfl (.tmp 8) (.tmp 9) 29 rfl (w.heap.size) 93 i0 (.agg #[.int .i64 0, .int .i64 0, .int .i64 0, .int .i64 0, .string ⟨#[]⟩]) 5 48 Try.underlying29 hi iz0 iz1 iz2 rfl (by decide) (.slice (some ⟨w.heap.size, 0, none⟩) 0 0) (0) ([]) rfl (own_empty3 93 5 rfl (Nat.le_refl _)) ⟨ga, 0, none⟩ (xa.length) (ca) (flatP xa) rfl (flatP_len xa) (news_fl (by repeat (with_reducible first | exact FA.out | apply Fl.alloc | apply Fl.drew))) (one_flatX xa) (by unfold maxLen; omega) (by omega) (by first | omega | (simp; done) | (simp; omega)) ?_; intro va wa hown hgr hnn; (try simp only [Nat.zero_add, List.nil_append] at hown); have HOL := (show ∀ k, Value.ownBlock (.slice (some ⟨w.heap.size, 0, none⟩) 0 0) = some k → w.heap.size ≤ k ∧ True from fun k hk => ⟨by simp [Value.ownBlock] at hk; omega, trivial⟩); have HBn : Hid (Below w.heap.size w wa) := Below.grown (by repeat (with_reducible first | exact HB.out | refine Below.alloc ?_ (by first | omega | (simp; done) | (simp; omega)) _ | apply Below.drew)) hgr (by first | omega | (simp; done) | (simp; omega)) (fun k hk => by have := (HOL k hk).1; omega); have K0 := Lib.hid (Fl.keep (by repeat (with_reducible first | exact FA.out | apply Fl.alloc | apply Fl.drew)) (fun hg j => World.cell?_of_block (hgr.block _ hg (fun e => by have := (HOL _ e.symm).1; (try dsimp only at this); omega)))); clear FA; have FA := K0; clear K0; clear HB; have HB := HBn; clear HBn HOL; have hzb := HB.out.size; have hza := hgr.size; (try simp at hza); obtain ⟨gOX, cOX, rfl⟩ := own_sliceY hown (fun e => by have := (hnn.1 e).1; simp at this); have OX := Lib.hid hown; clear hown hgr hnn))
    | (have _ := OX; (at_builtin; refine wpList_append_own_none rfl (.tmp 10) (.tmp 11) 29 rfl w.heap.size 93 i0 5 Try.underlying29 hi (.slice (some ⟨gOX, 0, none⟩) xa.length cOX) xa.length (flatP xa) rfl OX.out rfl ?_))
    | (have _ := OX; (at_builtin; refine wpList_append_own _ rfl (.tmp 15) (.tmp 18) 29 rfl (w.heap.size) 93 i0 (.agg #[.int .i64 0, .int .i64 0, .int .i64 0, .int .i64 0, .string ⟨#[]⟩]) 5 48 Try.underlying29 hi iz0 iz1 iz2 rfl (by decide) (.slice (some ⟨gOX, 0, none⟩) xa.length cOX) (xa.length) (flatP xa) rfl (by repeat (with_reducible first | exact OX.out | apply World.ownsRow.alloc | apply own_drew)) _ 1 1 ([.int .i64 k, .int .i64 0, .int .i64 0, .int .i64 0, .string ⟨#[]⟩]) rfl rfl (news_new (by first | rfl | simp)) (by simp [Value.oneCell']) (by unfold maxLen; omega) (by omega) (by first | omega | (simp; done) | (simp; omega)) ?_; intro va wa hown hgr hnn; (try simp only [Nat.zero_add, List.nil_append] at hown); have HOL := (World.ownsRow.lt (by repeat (with_reducible first | exact OX.out | apply World.ownsRow.alloc | apply own_drew))); have HBn : Hid (Below w.heap.size w wa) := Below.grown (by repeat (with_reducible first | exact HB.out | refine Below.alloc ?_ (by first | omega | (simp; done) | (simp; omega)) _ | apply Below.drew)) hgr (by first | omega | (simp; done) | (simp; omega)) (fun k hk => by have := (HOL k hk).1; omega); have K0 := Lib.hid (Fl.keep (by repeat (with_reducible first | exact FA.out | apply Fl.alloc | apply Fl.drew)) (fun hg j => World.cell?_of_block (hgr.block _ hg (fun e => by have := (HOL _ e.symm).1; (try dsimp only at this); omega)))); clear FA; have FA := K0; clear K0; clear HB; have HB := HBn; clear HBn HOL; have hzb := HB.out.size; have hza := hgr.size; (try simp at hza); obtain ⟨gOZ, cOZ, rfl⟩ := own_sliceY hown (fun e => by have := (hnn.1 e).1; simp at this); have OZ := Lib.hid hown; clear hown hgr hnn)))
  all_goals (go_ret; exact put_of OZ.out HB.out (by simp) (by rw [flatP_app, flatP_cons, flatP_nil]; rfl))
end Go.Proofs.Ytacinjbaebimhaa.Val
