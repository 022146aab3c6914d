/-
  Layer 3: gas, cuttings and mud: what both sides give.
-/
import Derived.Test.YtgjnkdedknpniaaFb
set_option linter.unusedSimpArgs false
set_option linter.unusedVariables false
namespace Go.Proofs.Ytgjnkdedknpniaa
open Go Go.Rx

def freeOk (K P p : Int) : Prop := 0 ≤ K ∧ K ≤ 1152921504606846976 ∧ 0 ≤ P ∧ P ≤ 1099511627776 ∧ 1 ≤ p ∧ p ≤ 68719476736
instance (K P p : Int) : Decidable (freeOk K P p) := by unfold freeOk; infer_instance
def freeI (K P p : Int) : Int := if freeOk K P p then maxL 0 (K - P * (p / 1048576)) else 0
def mixedI (w r l : Int) : Int := if 0 ≤ w ∧ w ≤ 40000 ∧ 0 ≤ r ∧ r ≤ 40000 ∧ 0 ≤ l ∧ l ≤ 1000 then w + cdiv ((r - w) * l) 1000 else 0
def loadOk (a b c e feed flow slip : Int) : Prop := (1 ≤ a ∧ a ≤ 1048576 ∧ 0 ≤ b ∧ b ≤ a ∧ 1 ≤ c ∧ c ≤ 5000 ∧ 1 ≤ e ∧ e ≤ 200) ∧ 0 ≤ feed ∧ feed ≤ 1000000 ∧ 0 ≤ flow ∧ flow ≤ 1000000 ∧ 0 ≤ slip ∧ slip ≤ 1000 ∧ 1 ≤ flow - slip * c
instance (a b c e feed flow slip : Int) : Decidable (loadOk a b c e feed flow slip) := by unfold loadOk; infer_instance
def loadI (a b c e feed flow slip : Int) : Int := if loadOk a b c e feed flow slip then minL 1000 (cdiv (1000 * feed) (flow - slip * c)) else 0
theorem mul_bound {x y X Y : Int} (hx : 0 ≤ x) (hx2 : x ≤ X) (hy : 0 ≤ y) (hy2 : y ≤ Y) : 0 ≤ x * y ∧ x * y ≤ X * Y := ⟨Int.mul_nonneg hx hy, Int.mul_le_mul hx2 hy2 hy (by omega)⟩
section
variable {m : Nat} (hm : 200 ≤ m) {H : Hp} {nx : Nat}
include hm
theorem free_pure (K P p : Int) : Pure Try.prog AW m 35 [.agg [.i .i64 K, .i .i64 P], .i .i64 p] H nx (.i .i64 (freeI K P p)) := by
  refine pure_of (n := 20) (d := m - 21) (U := 30) (fs := fs0) (ov := true) sp0_ok sp0_aw noLoop_ok (by decide) (by decide) (by omega) (args := [.agg [.i .i64 K, .i .i64 P], .i .i64 p]) (M := .l) (snx := 0) ?_ (VSL.cons ⟨_, rfl, VSL.cons rfl (VSL.cons rfl rfl)⟩ (VSL.cons rfl rfl)) hs_empty
  rw [free_eq]
  simp only [cond_iff, cond_not, InK64]
  have hq : 0 ≤ p → Int.tdiv p 1048576 = p / 1048576 := Int.tdiv_eq_ediv_of_nonneg
  have ht : 0 ≤ P → P ≤ 1099511627776 → 0 ≤ p → p ≤ 68719476736 → 0 ≤ P * (p / 1048576) ∧ P * (p / 1048576) ≤ 1099511627776 * 65536 := fun h1 h2 h3 h4 => mul_bound h1 h2 (by omega) (by omega)
  by_cases hv : freeOk K P p
  · obtain ⟨v1, v2, v3, v4, v5, v6⟩ := id hv
    have hq := hq (by omega)
    have ht := ht v3 v4 (by omega) v6
    rw [hq]
    repeat' (first | apply And.intro | intro _)
    all_goals first
      | omega
      | (exfalso; omega)
      | exact end_i (by unfold freeI; rw [if_pos hv])
  · have e : freeI K P p = 0 := by unfold freeI; rw [if_neg hv]
    rw [e]
    unfold freeOk at hv
    clear hq ht
    repeat' (first | apply And.intro | intro _)
    all_goals first
      | exact end_i rfl
      | (exfalso; omega)
theorem rfree_pure (K P p : Int) : Pure Try.prog AW m 36 [.agg [.i .i64 K, .i .i64 P], .i .i64 p] H nx (.i .i64 (freeI K P p)) := by
  refine pure_of (n := 20) (d := m - 21) (U := 30) (fs := fs0) (ov := true) sp0_ok sp0_aw noLoop_ok (by decide) (by decide) (by omega) (args := [.agg [.i .i64 K, .i .i64 P], .i .i64 p]) (M := .l) (snx := 0) ?_ (VSL.cons ⟨_, rfl, VSL.cons rfl (VSL.cons rfl rfl)⟩ (VSL.cons rfl rfl)) hs_empty
  rw [rfree_eq]
  simp only [cond_iff, cond_not, InK64]
  have hq : Int.fdiv p 1048576 = p / 1048576 := Int.fdiv_eq_ediv_of_nonneg _ (by omega)
  have ht : 0 ≤ P → P ≤ 1099511627776 → 0 ≤ p → p ≤ 68719476736 → 0 ≤ P * (p / 1048576) ∧ P * (p / 1048576) ≤ 1099511627776 * 65536 := fun h1 h2 h3 h4 => mul_bound h1 h2 (by omega) (by omega)
  rw [hq]
  by_cases hv : freeOk K P p
  · obtain ⟨v1, v2, v3, v4, v5, v6⟩ := id hv
    have ht := ht v3 v4 (by omega) v6
    repeat' (first | apply And.intro | intro _)
    all_goals first
      | omega
      | (exfalso; omega)
      | exact end_i (by unfold freeI; rw [if_pos hv])
  · have e : freeI K P p = 0 := by unfold freeI; rw [if_neg hv]
    rw [e]
    unfold freeOk at hv
    clear ht
    repeat' (first | apply And.intro | intro _)
    all_goals first
      | exact end_i rfl
      | (exfalso; omega)
theorem mixed_pure (w r l : Int) : Pure Try.prog AW m 41 [.i .i64 w, .i .i64 r, .i .i64 l] H nx (.i .i64 (mixedI w r l)) := by
  refine pure_of (n := 20) (d := m - 21) (U := 30) (fs := fs1) (ov := true) (sp1_ok (by omega)) sp1_aw noLoop_ok (by decide) (by decide) (by omega) (args := [.i .i64 w, .i .i64 r, .i .i64 l]) (M := .l) (snx := 0) ?_ (VSL.cons rfl (VSL.cons rfl (VSL.cons rfl rfl))) hs_empty
  rw [mixed_eq]
  simp only [cond_iff, cond_not, InK64]
  by_cases hv : 0 ≤ w ∧ w ≤ 40000 ∧ 0 ≤ r ∧ r ≤ 40000 ∧ 0 ≤ l ∧ l ≤ 1000
  · have e : mixedI w r l = w + cdiv ((r - w) * l) 1000 := if_pos hv
    obtain ⟨v1, v2, v3, v4, v5, v6⟩ := hv
    have hb : -40000000 ≤ (r - w) * l ∧ (r - w) * l ≤ 40000000 := by
      by_cases h : 0 ≤ r - w
      · have := mul_bound (X := 40000) (Y := 1000) h (by omega) v5 v6; omega
      · have := mul_bound (X := 40000) (Y := 1000) (show 0 ≤ w - r by omega) (by omega) v5 v6
        have : (r - w) * l = -((w - r) * l) := by rw [← Int.neg_mul]; congr 1; omega
        omega
    rw [e]
    unfold cdiv
    generalize (r - w) * l = t at *
    repeat' (first | apply And.intro | intro _)
    all_goals first
      | omega
      | exact end_i rfl
      | (exfalso; omega)
  · have e : mixedI w r l = 0 := if_neg hv
    rw [e]
    repeat' (first | apply And.intro | intro _)
    all_goals first
      | exact end_i rfl
      | (exfalso; omega)
theorem rmixed_pure (w r l : Int) : Pure Try.prog AW m 42 [.i .i64 w, .i .i64 r, .i .i64 l] H nx (.i .i64 (mixedI w r l)) := by
  refine pure_of (n := 20) (d := m - 21) (U := 30) (fs := fs1) (ov := true) (sp1_ok (by omega)) sp1_aw noLoop_ok (by decide) (by decide) (by omega) (args := [.i .i64 w, .i .i64 r, .i .i64 l]) (M := .l) (snx := 0) ?_ (VSL.cons rfl (VSL.cons rfl (VSL.cons rfl rfl))) hs_empty
  rw [rmixed_eq]
  simp only [cond_iff, cond_not, InK64]
  by_cases hv : 0 ≤ w ∧ w ≤ 40000 ∧ 0 ≤ r ∧ r ≤ 40000 ∧ 0 ≤ l ∧ l ≤ 1000
  · have e : mixedI w r l = w + cdiv ((r - w) * l) 1000 := if_pos hv
    obtain ⟨v1, v2, v3, v4, v5, v6⟩ := hv
    have hb : -(w * 1000) ≤ (r - w) * l ∧ (r - w) * l ≤ 40000000 := by
      by_cases h : 0 ≤ r - w
      · have := mul_bound (X := 40000) (Y := 1000) h (by omega) v5 v6; omega
      · have := mul_bound (X := w) (Y := 1000) (show 0 ≤ w - r by omega) (by omega) v5 v6
        have : (r - w) * l = -((w - r) * l) := by rw [← Int.neg_mul]; congr 1; omega
        omega
    rw [e]
    unfold cdiv
    generalize (r - w) * l = t at *
    repeat' (first | apply And.intro | intro _)
    all_goals first
      | omega
      | exact end_i (by omega)
      | (exfalso; omega)
  · have e : mixedI w r l = 0 := if_neg hv
    rw [e]
    repeat' (first | apply And.intro | intro _)
    all_goals first
      | exact end_i rfl
      | (exfalso; omega)
theorem load_pure (a b c e feed flow slip : Int) : Pure Try.prog AW m 39 [.agg [.i .i64 a, .i .i64 b, .i .i64 c, .i .i64 e], .i .i64 feed, .i .i64 flow, .i .i64 slip] H nx (.tup [.i .i64 (loadI a b c e feed flow slip), .b (decide (loadOk a b c e feed flow slip))]) := by
  refine pure_of (n := 20) (d := m - 21) (U := 30) (fs := fs1) (ov := true) (sp1_ok (by omega)) sp1_aw noLoop_ok (by decide) (by decide) (by omega) (args := [.agg [.i .i64 a, .i .i64 b, .i .i64 c, .i .i64 e], .i .i64 feed, .i .i64 flow, .i .i64 slip]) (M := .l) (snx := 0) ?_ (VSL.cons ⟨_, rfl, VSL.cons rfl (VSL.cons rfl (VSL.cons rfl (VSL.cons rfl rfl)))⟩ (VSL.cons rfl (VSL.cons rfl (VSL.cons rfl rfl)))) hs_empty
  rw [load_eq]
  simp only [cond_iff, cond_not, InK64]
  have ht : 0 ≤ slip → slip ≤ 1000 → 1 ≤ c → c ≤ 5000 → 0 ≤ slip * c ∧ slip * c ≤ 1000 * 5000 := fun h1 h2 h3 h4 => mul_bound h1 h2 (by omega) h4
  by_cases hv : loadOk a b c e feed flow slip
  · have e1 : loadI a b c e feed flow slip = minL 1000 (cdiv (1000 * feed) (flow - slip * c)) := if_pos hv
    rw [e1, decide_eq_true hv]
    unfold loadOk at hv
    generalize slip * c = t at *
    repeat' (first | apply And.intro | intro _)
    all_goals first
      | omega
      | exact end_ib rfl rfl
      | (exfalso; omega)
  · have e1 : loadI a b c e feed flow slip = 0 := if_neg hv
    rw [e1, decide_eq_false hv]
    unfold loadOk at hv
    generalize slip * c = t at *
    repeat' (first | apply And.intro | intro _)
    all_goals first
      | omega
      | exact end_ib rfl rfl
      | (exfalso; omega)
theorem rload_pure (a b c e feed flow slip : Int) : Pure Try.prog AW m 40 [.agg [.i .i64 a, .i .i64 b, .i .i64 c, .i .i64 e], .i .i64 feed, .i .i64 flow, .i .i64 slip] H nx (.tup [.i .i64 (loadI a b c e feed flow slip), .b (decide (loadOk a b c e feed flow slip))]) := by
  refine pure_of (n := 20) (d := m - 21) (U := 30) (fs := fs1) (ov := true) (sp1_ok (by omega)) sp1_aw noLoop_ok (by decide) (by decide) (by omega) (args := [.agg [.i .i64 a, .i .i64 b, .i .i64 c, .i .i64 e], .i .i64 feed, .i .i64 flow, .i .i64 slip]) (M := .l) (snx := 0) ?_ (VSL.cons ⟨_, rfl, VSL.cons rfl (VSL.cons rfl (VSL.cons rfl (VSL.cons rfl rfl)))⟩ (VSL.cons rfl (VSL.cons rfl (VSL.cons rfl rfl)))) hs_empty
  rw [rload_eq]
  simp only [cond_iff, cond_not, InK64]
  have ht : 0 ≤ slip → slip ≤ 1000 → 1 ≤ c → c ≤ 5000 → 0 ≤ slip * c ∧ slip * c ≤ 1000 * 5000 := fun h1 h2 h3 h4 => mul_bound h1 h2 (by omega) h4
  by_cases hv : loadOk a b c e feed flow slip
  · have e1 : loadI a b c e feed flow slip = minL 1000 (cdiv (1000 * feed) (flow - slip * c)) := if_pos hv
    rw [e1, decide_eq_true hv]
    unfold loadOk at hv
    generalize slip * c = t at *
    repeat' (first | apply And.intro | intro _)
    all_goals first
      | omega
      | exact end_ib rfl rfl
      | (exfalso; omega)
  · have e1 : loadI a b c e feed flow slip = 0 := if_neg hv
    rw [e1, decide_eq_false hv]
    unfold loadOk at hv
    generalize slip * c = t at *
    repeat' (first | apply And.intro | intro _)
    all_goals first
      | omega
      | exact end_ib rfl rfl
      | (exfalso; omega)
end
end Go.Proofs.Ytgjnkdedknpniaa
