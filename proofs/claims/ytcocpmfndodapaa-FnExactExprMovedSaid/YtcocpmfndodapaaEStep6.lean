/- The kinds that stand after a part: any part. -/
import Derived.Test.YtcocpmfndodapaaEStep2
import Derived.Test.YtcocpmfndodapaaEStep3
import Derived.Test.YtcocpmfndodapaaEStep4
import Derived.Test.YtcocpmfndodapaaEStep5
import Derived.Test.YtcocpmfndodapaaEImp
namespace Go.Proofs.Ytcocpmfndodapaa.Val
open Go.RowKit
set_option linter.unusedVariables false
theorem nil_is {v : VT} (h : isNil v = true) : v = nilV := by
  obtain ⟨k, n, s⟩ := v
  simp [isNil] at h
  obtain ⟨⟨rfl, rfl⟩, hs⟩ := h
  rw [bytes_none hs]; rfl
theorem l4Step (A : Option Addr) (gc o cc : Nat) (cs : List CT) (g cap : Nat) (st : List Int) (p : PT) (B : Nat) (w : World) (hA : Fl w gc o A (flatC cs)) (hcs : cs.length ≤ 2000000) (own : w.ownsRow B 3 1 (.slice (some ⟨g, 0, none⟩) st.length cap) st.length (st.reverse.map iv)) (hB : B ≤ w.heap.size) (hst : st.length ≤ 100) (hs : p.2.2.2.2.size ≤ maxLen) : Calls Try.prog 62 #[.slice A cs.length cc, .slice (some ⟨g, 0, none⟩) st.length cap, aggP p] w (StepPost cs st p B w) := by
  rcases hb : partBad p with _ | _
  case true => exact l4StepBad A cc cs (.int .i64 0) st _ cap g p B w hb hB
  obtain ⟨k, n, v⟩ := p
  have hb2 : (k ≠ 1 → v = nilV) ∧ (k ≠ 2 → k ≠ 4 → n = 0) := by
    simp [partBad] at hb
    exact ⟨fun h => nil_is (by simpa using hb.1 h), fun h h4 => hb.2 h h4⟩
  clear hb
  obtain ⟨hv, hn⟩ := hb2
  rcases kind_eight k with rfl | rfl | rfl | rfl | rfl | rfl | rfl | rfl | h9
  · obtain rfl := hn (by decide) (by decide)
    exact l4Step1 A gc o cc cs g cap st v.1 v.2.1 v.2.2 B w hA hcs own hB hst hs
  · obtain rfl := hv (by decide)
    exact l4Step2 A gc o cc cs g cap st n B w hA hcs own hB hst
  · obtain rfl := hv (by decide)
    obtain rfl := hn (by decide) (by decide)
    clear hA hcs hs
    rcases st with _ | ⟨a, _ | ⟨b, q⟩⟩
    · exact l4Step3A A cc cs g cap B w own hB hst
    · exact l4Step3B A cc cs g cap a B w own hB hst
    · exact l4Step3C A cc cs g cap a b q B w own hB hst
  · obtain rfl := hv (by decide)
    clear hA hcs hs
    rcases st with _ | ⟨a, _ | ⟨b, q⟩⟩
    · exact l4Step4A A cc cs g cap n B w own hB hst
    · exact l4Step4B A cc cs g cap n a B w own hB hst
    · exact l4Step4C A cc cs g cap n a b q B w own hB hst
  · obtain rfl := hv (by decide)
    obtain rfl := hn (by decide) (by decide)
    clear hA hcs hs
    rcases st with _ | ⟨a, _ | ⟨b, q⟩⟩
    · exact l4Step5A A cc cs g cap B w own hB hst
    · exact l4Step5B A cc cs g cap a B w own hB hst
    · exact l4Step5C A cc cs g cap a b q B w own hB hst
  · obtain rfl := hv (by decide)
    obtain rfl := hn (by decide) (by decide)
    clear hA hcs hs
    rcases st with _ | ⟨a, _ | ⟨b, q⟩⟩
    · exact l4Step6A A cc cs g cap B w own hB hst
    · exact l4Step6B A cc cs g cap a B w own hB hst
    · exact l4Step6C A cc cs g cap a b q B w own hB hst
  · obtain rfl := hv (by decide)
    obtain rfl := hn (by decide) (by decide)
    clear hA hcs hs
    rcases st with _ | ⟨a, q⟩
    · exact l4Step7A A cc cs g cap B w own hB hst
    · exact l4Step7C A cc cs g cap a q B w own hB hst
  · obtain rfl := hv (by decide)
    obtain rfl := hn (by decide) (by decide)
    clear hA hcs hs
    rcases st with _ | ⟨a, q⟩
    · exact l4Step8A A cc cs g cap B w own hB hst
    · exact l4Step8C A cc cs g cap a q B w own hB hst
  · obtain rfl := hv h9.1
    obtain rfl := hn h9.2.1 h9.2.2.2.1
    exact l4StepNo A gc o cc cs g cap st k B w hA hcs own hB hst h9
end Go.Proofs.Ytcocpmfndodapaa.Val
