/- The contract of the reference's check of what is read from a well. -/
import Derived.Test.YtdjmidoegidlbaaKo1
import Derived.Test.YtdjmidoegidlbaaKo2
import Derived.Test.YtdjmidoegidlbaaKo3
namespace Go.Proofs.Ytdjmidoegidlbaa
open Go.RowKit

theorem rshut_range (pl ph cl ch gl gh wt dp ar : Int) (h : shutB pl ph cl ch gl gh wt dp ar = false) (w : World) :
    Calls Try.prog 74 #[.agg (xv pl ph cl ch gl gh wt dp ar)] w fun e w' => e = .returned (.int .i64 2) ∧ Below w.heap.size w w' := by
  by_cases t1 : 0 ≤ pl
  case neg => exact rshut_1 pl ph cl ch gl gh wt dp ar  (by omega) w
  by_cases t2 : pl ≤ ph
  case neg => exact rshut_2 pl ph cl ch gl gh wt dp ar t1 (by omega) w
  by_cases t3 : ph ≤ 68719476736
  case neg => exact rshut_3 pl ph cl ch gl gh wt dp ar t1 t2 (by omega) w
  by_cases t4 : 0 ≤ cl
  case neg => exact rshut_4 pl ph cl ch gl gh wt dp ar t1 t2 t3 (by omega) w
  by_cases t5 : cl ≤ ch
  case neg => exact rshut_5 pl ph cl ch gl gh wt dp ar t1 t2 t3 t4 (by omega) w
  by_cases t6 : ch ≤ 68719476736
  case neg => exact rshut_6 pl ph cl ch gl gh wt dp ar t1 t2 t3 t4 t5 (by omega) w
  cases t7 : wi wt 1 40000
  · exact rshut_7 pl ph cl ch gl gh wt dp ar t1 t2 t3 t4 t5 t6 t7 w
  cases t8 : wi dp 1 1048576
  · exact rshut_8 pl ph cl ch gl gh wt dp ar t1 t2 t3 t4 t5 t6 t7 t8 w
  cases t9 : wi ar 1 5000
  · exact rshut_9 pl ph cl ch gl gh wt dp ar t1 t2 t3 t4 t5 t6 t7 t8 t9 w
  by_cases t10 : ar ≤ gl
  case neg => exact rshut_10 pl ph cl ch gl gh wt dp ar t1 t2 t3 t4 t5 t6 t7 t8 t9 (by omega) w
  by_cases t11 : gl ≤ gh
  case neg => exact rshut_11 pl ph cl ch gl gh wt dp ar t1 t2 t3 t4 t5 t6 t7 t8 t9 t10 (by omega) w
  by_cases t12 : gh ≤ 1073741824
  case neg => exact rshut_12 pl ph cl ch gl gh wt dp ar t1 t2 t3 t4 t5 t6 t7 t8 t9 t10 t11 (by omega) w
  simp [shutB, isR, t1, t2, t3, t4, t5, t6, t7, t8, t9, t10, t11, t12] at h
theorem rshut_order (pl ph cl ch gl gh wt dp ar : Int) (h : shutB pl ph cl ch gl gh wt dp ar = true) (hc : cl < ph) (w : World) :
    Calls Try.prog 74 #[.agg (xv pl ph cl ch gl gh wt dp ar)] w fun e w' => e = .returned (.int .i64 11) ∧ Below w.heap.size w w' := by
  simp only [shutB, isR, Bool.and_eq_true, decide_eq_true_eq] at h
  obtain ⟨⟨⟨⟨⟨h1, h2⟩, h3⟩, h4, h5, h6⟩, h7, h8, h9⟩, h10, h11, h12⟩ := h
  exact rshut_order0 pl ph cl ch gl gh wt dp ar h4 h5 h6 h7 h8 h9 h2 h3 h1 h10 h11 h12 (by omega) w
theorem rshut_ok (pl ph cl ch gl gh wt dp ar : Int) (h : shutB pl ph cl ch gl gh wt dp ar = true) (hc : ¬ cl < ph) (w : World) :
    Calls Try.prog 74 #[.agg (xv pl ph cl ch gl gh wt dp ar)] w fun e w' => e = .returned (.int .i64 0) ∧ Below w.heap.size w w' := by
  simp only [shutB, isR, Bool.and_eq_true, decide_eq_true_eq] at h
  obtain ⟨⟨⟨⟨⟨h1, h2⟩, h3⟩, h4, h5, h6⟩, h7, h8, h9⟩, h10, h11, h12⟩ := h
  exact rshut_ok0 pl ph cl ch gl gh wt dp ar h4 h5 h6 h7 h8 h9 h2 h3 h1 h10 h11 h12 (by omega) w
end Go.Proofs.Ytdjmidoegidlbaa
