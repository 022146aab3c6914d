/- What Identify's bounds say of ranges and of numbers within them. -/
import Derived.Test.YtngcfohmlppghaaKl
namespace Go.Proofs.Ytngcfohmlppghaa

theorem cdiv_le_iff {a b k : Int} (hb : 0 < b) : cdiv a b ≤ k ↔ a ≤ k * b := by
  unfold cdiv
  constructor
  · intro h
    have : -k ≤ (-a) / b := by omega
    have := (Int.le_ediv_iff_mul_le hb).1 this
    rw [Int.neg_mul] at this
    omega
  · intro h
    have : -k ≤ (-a) / b := (Int.le_ediv_iff_mul_le hb).2 (by rw [Int.neg_mul]; omega)
    omega
theorem le_cdiv_mul {a b : Int} (hb : 0 < b) : a ≤ cdiv a b * b := (cdiv_le_iff hb).1 (Int.le_refl _)
/-- The bounds of an influx, for ranges and for numbers within them. -/
theorem encl_math {pl ph cl ch gl gh ar P C G : Int} (pl0 : pl ≤ P) (ph0 : P ≤ ph) (cl0 : cl ≤ C) (ch0 : C ≤ ch) (gl0 : gl ≤ G) (gh0 : G ≤ gh) (hpc : ph ≤ cl) (ar0 : 1 ≤ ar) (ag : ar ≤ gl) :
    gl / ar ≤ G / ar ∧ cdiv G ar ≤ cdiv gh ar ∧ cdiv G ar - G / ar ≤ 1 ∧ G / ar ≤ cdiv G ar ∧ 1 ≤ gl / ar
    ∧ cdiv (C - P) (G / ar) ≤ cdiv (ch - pl) (gl / ar) ∧ (cl - ph) / cdiv gh ar ≤ (C - P) / cdiv G ar
    ∧ 0 ≤ (C - P) / cdiv G ar ∧ (C - P) / cdiv G ar ≤ C - P ∧ 0 ≤ cdiv (C - P) (G / ar) ∧ cdiv (C - P) (G / ar) ≤ C - P ∧ (C - P) / cdiv G ar ≤ cdiv (C - P) (G / ar)
    ∧ (C - P) / cdiv G ar * G ≤ (C - P) * ar ∧ (C - P) * ar ≤ cdiv (C - P) (G / ar) * G := by
  have har : 0 < ar := by omega
  have L1 : 1 ≤ gl / ar := (Int.le_ediv_iff_mul_le har).2 (by omega)
  have LG : gl / ar ≤ G / ar := Int.ediv_le_ediv har gl0
  have hGe := Int.emod_nonneg G (show ar ≠ 0 by omega)
  have hGl := Int.emod_lt_of_pos G har
  have hGd := Int.mul_ediv_add_emod G ar
  have LGm : G / ar * ar ≤ G := by rw [Int.mul_comm]; omega
  have HG : cdiv G ar ≤ cdiv gh ar := (cdiv_le_iff har).2 (Int.le_trans gh0 (le_cdiv_mul har))
  have HG1 : cdiv G ar ≤ G / ar + 1 := (cdiv_le_iff har).2 (by rw [Int.add_mul, Int.one_mul, Int.mul_comm]; omega)
  have hcm : G ≤ cdiv G ar * ar := le_cdiv_mul har
  have HL : G / ar ≤ cdiv G ar := by
    have h : G / ar * ar ≤ cdiv G ar * ar := Int.le_trans LGm hcm
    exact Int.le_of_mul_le_mul_right h har
  have d0 : 0 ≤ C - P := by omega
  have e0 : 0 ≤ cl - ph := by omega
  have hL : 0 < G / ar := by omega
  have hgL : 0 < gl / ar := by omega
  have hH : 0 < cdiv G ar := by omega
  have hgH : 0 < cdiv gh ar := by omega
  have q0 : 0 ≤ (C - P) / cdiv G ar := Int.ediv_nonneg d0 (by omega)
  have q1 : (C - P) / cdiv G ar ≤ C - P := Int.ediv_le_self _ d0
  have qm : (C - P) / cdiv G ar * cdiv G ar ≤ C - P := Int.ediv_mul_le _ (by omega)
  have c0 : 0 ≤ cdiv (C - P) (G / ar) := by
    have h := le_cdiv_mul (a := C - P) hL
    by_cases hh : 0 ≤ cdiv (C - P) (G / ar)
    · exact hh
    · have : cdiv (C - P) (G / ar) * (G / ar) < 0 := Int.mul_neg_of_neg_of_pos (by omega) hL
      omega
  have c1 : cdiv (C - P) (G / ar) ≤ C - P := (cdiv_le_iff hL).2 (by
    have := Int.mul_le_mul_of_nonneg_left (show (1:Int) ≤ G / ar by omega) d0
    omega)
  have A : cdiv (C - P) (G / ar) ≤ cdiv (ch - pl) (gl / ar) := by
    apply (cdiv_le_iff hL).2
    have h1 := le_cdiv_mul (a := ch - pl) hgL
    have h2 : 0 ≤ cdiv (ch - pl) (gl / ar) := by
      by_cases hh : 0 ≤ cdiv (ch - pl) (gl / ar)
      · exact hh
      · have : cdiv (ch - pl) (gl / ar) * (gl / ar) < 0 := Int.mul_neg_of_neg_of_pos (by omega) hgL
        omega
    have h3 := Int.mul_le_mul_of_nonneg_left LG h2
    omega
  have B : (cl - ph) / cdiv gh ar ≤ (C - P) / cdiv G ar := by
    apply (Int.le_ediv_iff_mul_le hH).2
    have h1 : (cl - ph) / cdiv gh ar * cdiv gh ar ≤ cl - ph := Int.ediv_mul_le _ (by omega)
    have h2 : 0 ≤ (cl - ph) / cdiv gh ar := Int.ediv_nonneg e0 (by omega)
    have h3 := Int.mul_le_mul_of_nonneg_left HG h2
    omega
  have D : (C - P) / cdiv G ar * G ≤ (C - P) * ar := by
    have h1 := Int.mul_le_mul_of_nonneg_left hcm q0
    have h2 := Int.mul_le_mul_of_nonneg_right qm (show 0 ≤ ar by omega)
    rw [Int.mul_assoc] at h2
    omega
  have E : (C - P) * ar ≤ cdiv (C - P) (G / ar) * G := by
    have h1 := Int.mul_le_mul_of_nonneg_left LGm c0
    have h2 := Int.mul_le_mul_of_nonneg_right (le_cdiv_mul (a := C - P) hL) (show 0 ≤ ar by omega)
    rw [Int.mul_assoc] at h2
    omega
  have F : (C - P) / cdiv G ar ≤ cdiv (C - P) (G / ar) := by
    have : (C - P) / cdiv G ar * cdiv G ar ≤ cdiv (C - P) (G / ar) * cdiv G ar := by
      have h1 := le_cdiv_mul (a := C - P) hL
      have h2 := Int.mul_le_mul_of_nonneg_left HL c0
      omega
    exact Int.le_of_mul_le_mul_right this hH
  exact ⟨LG, HG, by omega, HL, L1, A, B, q0, q1, c0, c1, F, D, E⟩
theorem kindV_in {a b c d : Int} (h1 : a ≤ c) (h2 : c ≤ d) (h3 : d ≤ b) (h : kindV a b ≠ 4) : kindV c d = kindV a b := by
  unfold kindV at *
  repeat' split
  all_goals first | rfl | omega | (exfalso; simp_all; omega) | simp_all
end Go.Proofs.Ytngcfohmlppghaa
