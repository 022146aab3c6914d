/- A list of integers that came in, as the walks of layer 10 take it. -/
import Derived.Test.YtgohbjlfgiohiaaHj
import Derived.Test.YtgohbjlfgiohiaaKr
namespace Go.Proofs.Ytgohbjlfgiohiaa
open Go.RowKit

theorem isL_of_row {w : World} {a : Option Addr} {len cap : Nat} {zs : List Int} (h : IsRow w a len cap zs) :
    IsL w a len (fun k => zs.getD k 0) ∧ len ≤ 9223372036854775807 ∧ ∀ k, k < len → -9223372036854775808 ≤ zs.getD k 0 ∧ zs.getD k 0 ≤ 9223372036854775807 := by
  rcases h with ⟨_, rfl, _⟩ | ⟨x, rfl, h1, h2, h3, h4, h5⟩
  · exact ⟨.inl rfl, by omega, fun k hk => absurd hk (by omega)⟩
  · refine ⟨?_, by unfold maxLen at h2; omega, fun k hk => ?_⟩
    · by_cases h0 : len = 0
      · exact .inl h0
      · obtain ⟨b, off, spot⟩ := x
        have hc := h4 0 (by omega)
        have hspot : spot = none := by simpa [Addr.add] using World.cell?_spot hc
        subst hspot
        refine .inr ⟨b, off, rfl, fun k hk => ?_⟩
        have hcj := h4 k (by omega)
        by_cases e : k = 0
        · subst e; simpa [Addr.add] using hcj
        · simpa [Addr.add, e] using hcj
    · have hm : zs.getD k 0 ∈ zs := by
        rw [List.getD_eq_getElem?_getD, List.getElem?_eq_getElem (by omega)]
        exact List.getElem_mem _
      have := h5 _ hm
      simp only [Lit.wf, Bool.and_eq_true, decide_eq_true_eq] at this
      exact this
end Go.Proofs.Ytgohbjlfgiohiaa
