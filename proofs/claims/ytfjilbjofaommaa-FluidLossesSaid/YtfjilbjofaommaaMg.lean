/-
  Layer 3: what flows, gradients.
-/
import Derived.Test.YtfjilbjofaommaaMb
import Derived.Test.YtfjilbjofaommaaMu
import Derived.Test.YtfjilbjofaommaaGr
set_option linter.unusedSimpArgs false
set_option linter.unusedVariables false
set_option maxRecDepth 100000
namespace Go.Proofs.Ytfjilbjofaommaa
open Go Go.Rx

noncomputable abbrev fsg : Fs where
  i := fun n ls xs => match n, ls, xs with | 8, [], [a, b] => a * b / 18446744073709551616 | 9, [], [a, b] => a * b % 18446744073709551616 | 10, [], [c, e, y, v, f] => gradI c e y v f | 11, [], [a, b, c, e, y, v, f] => gradO a b c e y v f | _, _, _ => 0
  b := fun n ls xs => match n, ls, xs with | 31, [], [p, q, r, s] => decide (r * 18446744073709551616 + s ≤ p * 18446744073709551616 + q) | 32, [], [g, f, c, e, y, v] => decide (FlowsP g f c e y v) | 33, [], [a, b, c, e, y, v, f] => decide (CanP a b c e y v f) | 34, [], [g, f, c, e, y, v] => decide (0 ≤ g ∧ g ≤ 20000 ∧ FlowsP g f c e y v) | 35, [], [a, b, c, e, y, v, f] => gradK a b c e y v f | _, _, _ => false
  l := fun _ _ _ => []
  rng := rngAt Try.prog
theorem u64_wrap {a : Int} (h0 : 0 ≤ a) (h1 : a < 18446744073709551616) : InK .u64 a := by
  show IntKind.wrap .u64 a = a
  simp [IntKind.wrap, IntKind.bits, IntKind.signed]
  omega
theorem end_agguu {fs : Fs} {ov : Bool} {k k' : IntKind} {x y : Int} {n : Nat} {M : SH (stdA fs ov)} : doneK (fs := fs) (ov := ov) (.agg [.i k x, .i k' y]) n (.agg [.i k x, .i k' y]) M n [] :=
  ⟨fun _ _ hv => by obtain ⟨l, rfl, y, r, rfl, rfl, y2, r2, rfl, rfl, rfl⟩ := hv; rfl, rfl, rfl⟩
abbrev gmul64S {A : Go.Rx.Alg} : List (Go.Rx.SV A) → Go.Rx.SH A → Nat → Go.Rx.KS A → A.R := fun args_ M_ snx_ K_ => match args_ with
  | [.i .u64 a, .i .u64 b] => (A.need .leq (A.lit 0) a (A.need .lss a (A.lit 18446744073709551616) (A.need .leq (A.lit 0) b (A.need .lss b (A.lit 18446744073709551616) (K_ (.tup [.i .u64 (A.app 8 [] [a, b]), .i .u64 (A.app 9 [] [a, b])]) M_ snx_ [])))))
  | _ => A.fail "gmul64"
theorem gmul64S_ok {ov : Bool} {d : Nat} (hd : 100 ≤ d) : SpecOK (fs := fsg) (ov := ov) Try.prog AW d 64 gmul64S := by
  intro m_ hm_ args_ M_ snx_ K_ h_ ν_ largs_ H_ nx_ ha_ hM_
  unfold gmul64S at h_
  split at h_
  · rename_i a b
    obtain ⟨y1, r1, rfl, rfl, ⟨y2, r2, rfl, rfl, rfl⟩⟩ := ha_
    obtain ⟨p1, h_⟩ := h_
    obtain ⟨p2, h_⟩ := h_
    obtain ⟨p3, h_⟩ := h_
    obtain ⟨p4, h_⟩ := h_
    exact pure_got (mul64_pure (by omega) a b p1 p2 p3 p4) hM_ (v := .tup [.i .u64 _, .i .u64 _]) ⟨_, rfl, (VSL.cons rfl (VSL.cons rfl rfl))⟩ h_
  · exact h_.elim
abbrev spM {A : Go.Rx.Alg} : Go.Rx.SpL A := [(AW, Go.Rx.awakeS), (64, gmul64S)]
theorem spM_ok {ov : Bool} {d : Nat} (hd : 100 ≤ d) : SpOK (fs := fsg) (ov := ov) Try.prog AW d spM := SpOK.cons awake_ok (SpOK.cons (gmul64S_ok (by omega)) SpOK.nil)
theorem spM_aw {fs : Fs} {ov : Bool} : (spOf (A := stdA fs ov) spM AW).isSome = true := rfl
theorem gprod_eq (a b : Int) (KK : KS (stdA fsg true)) : sFunc Try.prog 30 (sCall Try.prog 30 (spOf spM) noLoop 20) noLoop 56 [.i .i64 a, .i .i64 b] .l 0 KK =
  (InK .u64 a ∧ (InK .u64 b ∧ ((0 : Int) ≤ a ∧ (a < (18446744073709551616 : Int) ∧ ((0 : Int) ≤ b ∧ (b < (18446744073709551616 : Int) ∧ (KK (.agg [(.i .u64 (a * b / 18446744073709551616)), (.i .u64 (a * b % 18446744073709551616))]) .l 0 []))))))) := by kernel_rfl
theorem gprod_pure {m : Nat} (hm : 200 ≤ m) {H : Hp} {nx : Nat} (a b : Int) (p1 : (0 : Int) ≤ a) (p2 : a ≤ (9223372036854775807 : Int)) (p3 : (0 : Int) ≤ b) (p4 : b ≤ (9223372036854775807 : Int)) : Pure Try.prog AW m 56 [.i .i64 a, .i .i64 b] H nx (.agg [.i .u64 (a * b / 18446744073709551616), .i .u64 (a * b % 18446744073709551616)]) := by
  refine pure_of (n := 20) (d := m - 21) (U := 30) (fs := fsg) (ov := true) (spM_ok (by omega)) spM_aw noLoop_ok (by decide) (by decide) (by omega) (args := [.i .i64 a, .i .i64 b]) (M := .l) (snx := 0) ?_ (VSL.cons rfl (VSL.cons rfl rfl)) hs_empty
  rw [gprod_eq]
  exact ⟨u64_wrap p1 (by omega), u64_wrap p3 (by omega), by omega, by omega, by omega, by omega, end_agguu⟩
abbrev gprodS {A : Go.Rx.Alg} : List (Go.Rx.SV A) → Go.Rx.SH A → Nat → Go.Rx.KS A → A.R := fun args_ M_ snx_ K_ => match args_ with
  | [.i .i64 a, .i .i64 b] => (A.need .leq (A.lit 0) a (A.need .leq a (A.lit 9223372036854775807) (A.need .leq (A.lit 0) b (A.need .leq b (A.lit 9223372036854775807) (K_ (.agg [.i .u64 (A.app 8 [] [a, b]), .i .u64 (A.app 9 [] [a, b])]) M_ snx_ [])))))
  | _ => A.fail "gprod"
theorem gprodS_ok {ov : Bool} {d : Nat} (hd : 200 ≤ d) : SpecOK (fs := fsg) (ov := ov) Try.prog AW d 56 gprodS := by
  intro m_ hm_ args_ M_ snx_ K_ h_ ν_ largs_ H_ nx_ ha_ hM_
  unfold gprodS at h_
  split at h_
  · rename_i a b
    obtain ⟨y1, r1, rfl, rfl, ⟨y2, r2, rfl, rfl, rfl⟩⟩ := ha_
    obtain ⟨p1, h_⟩ := h_
    obtain ⟨p2, h_⟩ := h_
    obtain ⟨p3, h_⟩ := h_
    obtain ⟨p4, h_⟩ := h_
    exact pure_got (gprod_pure (by omega) a b p1 p2 p3 p4) hM_ (v := .agg [.i .u64 _, .i .u64 _]) ⟨_, rfl, (VSL.cons rfl (VSL.cons rfl rfl))⟩ h_
  · exact h_.elim
theorem gatl_eq (p q r s : Int) (KK : KS (stdA fsg true)) : sFunc Try.prog 30 (sCall Try.prog 30 (spOf sp0) noLoop 20) noLoop 57 [.agg [.i .u64 p, .i .u64 q], .agg [.i .u64 r, .i .u64 s]] .l 0 KK =
  (cond ((decide (p = r)) && (decide (q = s)))
 (KK (.b true) .l 0 [])
 (cond (decide (p > r))
 (KK (.b true) .l 0 [])
 (cond (decide (p = r))
 (KK (.b (decide (q > s))) .l 0 [])
 (KK (.b false) .l 0 [])))) := by kernel_rfl
theorem gatl_pure {m : Nat} (hm : 100 ≤ m) {H : Hp} {nx : Nat} (p q r s : Int) (p1 : (0 : Int) ≤ q) (p2 : q < (18446744073709551616 : Int)) (p3 : (0 : Int) ≤ s) (p4 : s < (18446744073709551616 : Int)) : Pure Try.prog AW m 57 [.agg [.i .u64 p, .i .u64 q], .agg [.i .u64 r, .i .u64 s]] H nx (.b (decide (r * 18446744073709551616 + s ≤ p * 18446744073709551616 + q))) := by
  refine pure_of (n := 20) (d := m - 21) (U := 30) (fs := fsg) (ov := true) sp0_ok sp0_aw noLoop_ok (by decide) (by decide) (by omega) (args := [.agg [.i .u64 p, .i .u64 q], .agg [.i .u64 r, .i .u64 s]]) (M := .l) (snx := 0) ?_ (VSL.cons ⟨_, rfl, (VSL.cons rfl (VSL.cons rfl rfl))⟩ (VSL.cons ⟨_, rfl, (VSL.cons rfl (VSL.cons rfl rfl))⟩ rfl)) hs_empty
  rw [gatl_eq]
  rw [← Bool.decide_and]
  simp only [cond_iff]
  refine ⟨fun h => end_b ?_, fun h => ⟨fun h2 => end_b ?_, fun h2 => ⟨fun h3 => end_b ?_, fun h3 => end_b ?_⟩⟩⟩
  · exact (decide_eq_true (by omega)).symm
  · exact (decide_eq_true (by omega)).symm
  · subst h3
    by_cases h4 : q > s
    · rw [decide_eq_true h4, decide_eq_true (by omega)]
    · rw [decide_eq_false h4, decide_eq_false (by omega)]
  · exact (decide_eq_false (by omega)).symm
abbrev gatlS {A : Go.Rx.Alg} : List (Go.Rx.SV A) → Go.Rx.SH A → Nat → Go.Rx.KS A → A.R := fun args_ M_ snx_ K_ => match args_ with
  | [.agg [.i .u64 p, .i .u64 q], .agg [.i .u64 r, .i .u64 s]] => (A.need .leq (A.lit 0) q (A.need .lss q (A.lit 18446744073709551616) (A.need .leq (A.lit 0) s (A.need .lss s (A.lit 18446744073709551616) (K_ (.b (A.appB 31 [] [p, q, r, s])) M_ snx_ [])))))
  | _ => A.fail "gatl"
theorem gatlS_ok {ov : Bool} {d : Nat} (hd : 100 ≤ d) : SpecOK (fs := fsg) (ov := ov) Try.prog AW d 57 gatlS := by
  intro m_ hm_ args_ M_ snx_ K_ h_ ν_ largs_ H_ nx_ ha_ hM_
  unfold gatlS at h_
  split at h_
  · rename_i p q r s
    obtain ⟨y1, r1, rfl, ⟨l1, rfl, ⟨y2, r2, rfl, rfl, ⟨y3, r3, rfl, rfl, rfl⟩⟩⟩, ⟨y4, r4, rfl, ⟨l4, rfl, ⟨y5, r5, rfl, rfl, ⟨y6, r6, rfl, rfl, rfl⟩⟩⟩, rfl⟩⟩ := ha_
    obtain ⟨p1, h_⟩ := h_
    obtain ⟨p2, h_⟩ := h_
    obtain ⟨p3, h_⟩ := h_
    obtain ⟨p4, h_⟩ := h_
    exact pure_got (gatl_pure (by omega) p q r s p1 p2 p3 p4) hM_ (v := .b _) rfl h_
  · exact h_.elim
abbrev spGF {A : Go.Rx.Alg} : Go.Rx.SpL A := [(AW, Go.Rx.awakeS), (56, gprodS), (57, gatlS)]
theorem spGF_ok {ov : Bool} {d : Nat} (hd : 200 ≤ d) : SpOK (fs := fsg) (ov := ov) Try.prog AW d spGF := SpOK.cons awake_ok (SpOK.cons (gprodS_ok (by omega)) (SpOK.cons (gatlS_ok (by omega)) SpOK.nil))
theorem spGF_aw {fs : Fs} {ov : Bool} : (spOf (A := stdA fs ov) spGF AW).isSome = true := rfl
theorem gflw_eq (a b c e y v g f : Int) (KK : KS (stdA fsg true)) : sFunc Try.prog 30 (sCall Try.prog 30 (spOf spGF) noLoop 20) noLoop 46 [.agg [.i .i64 a, .i .i64 b, .i .i64 c, .i .i64 e], .agg [.i .i64 y, .i .i64 v], .i .i64 g, .i .i64 f] .l 0 KK =
  (InK .i64 (g * e) ∧ (cond (decide (f = (0 : Int)))
 (KK (.b (decide (f = (0 : Int)))) .l 0 [])
 (cond (decide ((g * e) ≤ y))
 (KK (.b (decide (f = (0 : Int)))) .l 0 [])
 (InK .i64 ((g * e) - y) ∧ (InK .i64 (((g * e) - y) * ((g * e) - y)) ∧ (InK .i64 ((2 : Int) * (g * e)) ∧ (InK .i64 (((2 : Int) * (g * e)) + y) ∧ (InK .i64 ((((2 : Int) * (g * e)) + y) * e) ∧ (InK .i64 (((((2 : Int) * (g * e)) + y) * e) * c) ∧ ((0 : Int) ≤ (((g * e) - y) * ((g * e) - y)) ∧ ((((g * e) - y) * ((g * e) - y)) ≤ (9223372036854775807 : Int) ∧ ((0 : Int) ≤ (((((2 : Int) * (g * e)) + y) * e) * c) ∧ ((((((2 : Int) * (g * e)) + y) * e) * c) ≤ (9223372036854775807 : Int) ∧ (InK .i64 (f * v) ∧ (InK .i64 ((g * e) * (g * e)) ∧ ((0 : Int) ≤ (f * v) ∧ ((f * v) ≤ (9223372036854775807 : Int) ∧ ((0 : Int) ≤ ((g * e) * (g * e)) ∧ (((g * e) * (g * e)) ≤ (9223372036854775807 : Int) ∧ ((0 : Int) ≤ ((((g * e) - y) * ((g * e) - y)) * (((((2 : Int) * (g * e)) + y) * e) * c) % 18446744073709551616) ∧ (((((g * e) - y) * ((g * e) - y)) * (((((2 : Int) * (g * e)) + y) * e) * c) % 18446744073709551616) < (18446744073709551616 : Int) ∧ ((0 : Int) ≤ ((f * v) * ((g * e) * (g * e)) % 18446744073709551616) ∧ (((f * v) * ((g * e) * (g * e)) % 18446744073709551616) < (18446744073709551616 : Int) ∧ (KK (.b (decide (((f * v) * ((g * e) * (g * e)) / 18446744073709551616) * 18446744073709551616 + ((f * v) * ((g * e) * (g * e)) % 18446744073709551616) ≤ ((((g * e) - y) * ((g * e) - y)) * (((((2 : Int) * (g * e)) + y) * e) * c) / 18446744073709551616) * 18446744073709551616 + ((((g * e) - y) * ((g * e) - y)) * (((((2 : Int) * (g * e)) + y) * e) * c) % 18446744073709551616)))) .l 0 [])))))))))))))))))))))))) := by kernel_rfl
theorem gflw_pure {m : Nat} (hm : 300 ≤ m) {H : Hp} {nx : Nat} (a b c e y v g f : Int) (p1 : (decide (CanP a b c e y v f)) = true) (p2 : (0 : Int) ≤ g) (p3 : g ≤ (20000 : Int)) : Pure Try.prog AW m 46 [.agg [.i .i64 a, .i .i64 b, .i .i64 c, .i .i64 e], .agg [.i .i64 y, .i .i64 v], .i .i64 g, .i .i64 f] H nx (.b (decide (FlowsP g f c e y v))) := by
  refine pure_of (n := 20) (d := m - 21) (U := 30) (fs := fsg) (ov := true) (spGF_ok (by omega)) spGF_aw noLoop_ok (by decide) (by decide) (by omega) (args := [.agg [.i .i64 a, .i .i64 b, .i .i64 c, .i .i64 e], .agg [.i .i64 y, .i .i64 v], .i .i64 g, .i .i64 f]) (M := .l) (snx := 0) ?_ (VSL.cons ⟨_, rfl, (VSL.cons rfl (VSL.cons rfl (VSL.cons rfl (VSL.cons rfl rfl))))⟩ (VSL.cons ⟨_, rfl, (VSL.cons rfl (VSL.cons rfl rfl))⟩ (VSL.cons rfl (VSL.cons rfl rfl)))) hs_empty
  rw [gflw_eq]
  have p1 : CanP a b c e y v f := of_decide_eq_true p1
  obtain ⟨⟨b1, b2, b3, b4, b5, b6, b7, b8⟩, b9, b10, b11, b12, b13, b14⟩ := p1
  simp only [cond_iff, cond_not, InK64]
  have t0 := mul_bound p2 p3 (show 0 ≤ e by omega) b8
  have hD : decide (FlowsP g f c e y v) = true ↔ (if f = 0 ∨ g * e ≤ y then f = 0 else f * v * (g * e * (g * e)) ≤ (g * e - y) * (g * e - y) * ((2 * (g * e) + y) * e * c)) := by rw [decide_eq_true_iff]; exact Iff.rfl
  generalize decide (FlowsP g f c e y v) = D at *
  generalize g * e = t at *
  have fin : ∀ {p : Prop} [Decidable p], (D = true ↔ p) → decide p = D := fun {p} _ h => by
    by_cases hp : p
    · rw [decide_eq_true hp, h.2 hp]
    · rw [decide_eq_false hp]; cases D
      · rfl
      · exact absurd (h.1 rfl) hp
  have t1 := mul_bound t0.1 t0.2 t0.1 t0.2
  have t2 := mul_bound b13 b14 (show 0 ≤ v by omega) b12
  refine ⟨by omega, fun h => end_b (fin (by rw [if_pos (.inl h)] at hD; exact hD)), fun h => ⟨fun h2 => end_b (fin (by rw [if_pos (.inr h2)] at hD; exact hD)), fun h2 => ?_⟩⟩
  have t3 := mul_bound (show 0 ≤ t - y by omega) (show t - y ≤ 4000000 by omega) (show 0 ≤ t - y by omega) (show t - y ≤ 4000000 by omega)
  have t4 := mul_bound (show 0 ≤ 2 * t + y by omega) (show 2 * t + y ≤ 9000000 by omega) (show 0 ≤ e by omega) b8
  have t5 := mul_bound t4.1 t4.2 (show 0 ≤ c by omega) b6
  rw [if_neg (by omega)] at hD
  have m1 := Int.mul_nonneg t2.1 t1.1
  have m2 := Int.mul_nonneg t3.1 t5.1
  generalize f * v * (t * t) = L at *
  generalize (t - y) * (t - y) * ((2 * t + y) * e * c) = R at *
  generalize t * t = tt at *
  generalize f * v = fv at *
  generalize (t - y) * (t - y) = oo at *
  generalize (2 * t + y) * e * c = gg at *
  generalize (2 * t + y) * e = ge at *
  exact ⟨by omega, by omega, by omega, by omega, by omega, by omega, by omega, by omega, by omega, by omega, by omega, by omega, by omega, by omega, by omega, by omega, by omega, by omega, by omega, by omega, end_b (fin (by rw [hD]; omega))⟩
abbrev gflwS {A : Go.Rx.Alg} : List (Go.Rx.SV A) → Go.Rx.SH A → Nat → Go.Rx.KS A → A.R := fun args_ M_ snx_ K_ => match args_ with
  | [.agg [.i .i64 a, .i .i64 b, .i .i64 c, .i .i64 e], .agg [.i .i64 y, .i .i64 v], .i .i64 g, .i .i64 f] => (A.br (A.appB 33 [] [a, b, c, e, y, v, f]) (fun _ => (A.need .leq (A.lit 0) g (A.need .leq g (A.lit 20000) (K_ (.b (A.appB 32 [] [g, f, c, e, y, v])) M_ snx_ [])))) (fun _ => A.fail "pre"))
  | _ => A.fail "gflw"
theorem gflwS_ok {ov : Bool} {d : Nat} (hd : 300 ≤ d) : SpecOK (fs := fsg) (ov := ov) Try.prog AW d 46 gflwS := by
  intro m_ hm_ args_ M_ snx_ K_ h_ ν_ largs_ H_ nx_ ha_ hM_
  unfold gflwS at h_
  split at h_
  · rename_i a b c e y v g f
    obtain ⟨y1, r1, rfl, ⟨l1, rfl, ⟨y2, r2, rfl, rfl, ⟨y3, r3, rfl, rfl, ⟨y4, r4, rfl, rfl, ⟨y5, r5, rfl, rfl, rfl⟩⟩⟩⟩⟩, ⟨y6, r6, rfl, ⟨l6, rfl, ⟨y7, r7, rfl, rfl, ⟨y8, r8, rfl, rfl, rfl⟩⟩⟩, ⟨y9, r9, rfl, rfl, ⟨y10, r10, rfl, rfl, rfl⟩⟩⟩⟩ := ha_
    obtain ⟨p1, h_⟩ := br_pre (fs := fsg) (ov := ov) h_
    have p1 : (decide (CanP a b c e y v f)) = true := p1
    obtain ⟨p2, h_⟩ := h_
    obtain ⟨p3, h_⟩ := h_
    exact pure_got (gflw_pure (by omega) a b c e y v g f p1 p2 p3) hM_ (v := .b _) rfl h_
  · exact h_.elim
theorem gcan_eq (a b c e y v f : Int) (KK : KS (stdA fsg true)) : sFunc Try.prog 30 (sCall Try.prog 30 (spOf sp0) noLoop 20) noLoop 43 [.agg [.i .i64 a, .i .i64 b, .i .i64 c, .i .i64 e], .agg [.i .i64 y, .i .i64 v], .i .i64 f] .l 0 KK =
  ((0 : Int) ≤ (0 : Int) ∧ ((0 : Int) < (1 : Int) ∧ (cond (decide (a < (1 : Int)))
 (KK (.b false) .l 0 [])
 (cond (decide (b < (0 : Int)))
 (KK (.b false) .l 0 [])
 (cond (decide (b > a))
 (KK (.b false) .l 0 [])
 (cond (decide (c < (1 : Int)))
 (KK (.b false) .l 0 [])
 (cond (decide (c > (5000 : Int)))
 (KK (.b false) .l 0 [])
 (cond (decide (e < (1 : Int)))
 (KK (.b false) .l 0 [])
 (cond (decide (e > (200 : Int)))
 (KK (.b false) .l 0 [])
 (InK .i64 (1 : Int) ∧ ((0 : Int) ≤ (0 : Int) ∧ ((0 : Int) < (1 : Int) ∧ (cond (decide (a > (1048576 : Int)))
 (KK (.b false) .l 0 [])
 (InK .i64 ((1048576 : Int) - a) ∧ (InK .i64 (1 : Int) ∧ (cond (decide (y ≥ (0 : Int)))
 (cond (decide (y ≤ (1000000 : Int)))
 (cond (decide (v ≥ (1 : Int)))
 (cond (decide (v ≤ (1000000 : Int)))
 (cond (decide (f ≥ (0 : Int)))
 (KK (.b (decide (f ≤ (1000000 : Int)))) .l 0 [])
 (KK (.b false) .l 0 []))
 (KK (.b false) .l 0 []))
 (KK (.b false) .l 0 []))
 (KK (.b false) .l 0 []))
 (KK (.b false) .l 0 []))))))))))))))))) := by kernel_rfl
theorem gcan_pure {m : Nat} (hm : 100 ≤ m) {H : Hp} {nx : Nat} (a b c e y v f : Int) : Pure Try.prog AW m 43 [.agg [.i .i64 a, .i .i64 b, .i .i64 c, .i .i64 e], .agg [.i .i64 y, .i .i64 v], .i .i64 f] H nx (.b (decide (CanP a b c e y v f))) := by
  refine pure_of (n := 20) (d := m - 21) (U := 30) (fs := fsg) (ov := true) sp0_ok sp0_aw noLoop_ok (by decide) (by decide) (by omega) (args := [.agg [.i .i64 a, .i .i64 b, .i .i64 c, .i .i64 e], .agg [.i .i64 y, .i .i64 v], .i .i64 f]) (M := .l) (snx := 0) ?_ (VSL.cons ⟨_, rfl, (VSL.cons rfl (VSL.cons rfl (VSL.cons rfl (VSL.cons rfl rfl))))⟩ (VSL.cons ⟨_, rfl, (VSL.cons rfl (VSL.cons rfl rfl))⟩ (VSL.cons rfl rfl))) hs_empty
  rw [gcan_eq]
  have hD : decide (CanP a b c e y v f) = true ↔ ((1 ≤ a ∧ a ≤ 1048576 ∧ 0 ≤ b ∧ b ≤ a ∧ 1 ≤ c ∧ c ≤ 5000 ∧ 1 ≤ e ∧ e ≤ 200) ∧ 0 ≤ y ∧ y ≤ 1000000 ∧ 1 ≤ v ∧ v ≤ 1000000 ∧ 0 ≤ f ∧ f ≤ 1000000) := by rw [decide_eq_true_iff]; exact Iff.rfl
  generalize decide (CanP a b c e y v f) = D at *
  have fin : ∀ {p : Prop} [Decidable p], (D = true ↔ p) → decide p = D := fun {p} _ h => by
    by_cases hp : p
    · rw [decide_eq_true hp, h.2 hp]
    · rw [decide_eq_false hp]; cases D
      · rfl
      · exact absurd (h.1 rfl) hp
  have no : (¬ ((1 ≤ a ∧ a ≤ 1048576 ∧ 0 ≤ b ∧ b ≤ a ∧ 1 ≤ c ∧ c ≤ 5000 ∧ 1 ≤ e ∧ e ≤ 200) ∧ 0 ≤ y ∧ y ≤ 1000000 ∧ 1 ≤ v ∧ v ≤ 1000000 ∧ 0 ≤ f ∧ f ≤ 1000000)) → false = D := fun h => by
    cases D
    · rfl
    · exact absurd (hD.1 rfl) h
  simp only [cond_iff, cond_not, InK64]
  repeat' (first | apply And.intro | intro _)
  all_goals first
    | omega
    | exact end_b (no (by omega))
    | exact end_b (fin (hD.trans ⟨fun h => by omega, fun h => by omega⟩))
abbrev gcanS {A : Go.Rx.Alg} : List (Go.Rx.SV A) → Go.Rx.SH A → Nat → Go.Rx.KS A → A.R := fun args_ M_ snx_ K_ => match args_ with
  | [.agg [.i .i64 a, .i .i64 b, .i .i64 c, .i .i64 e], .agg [.i .i64 y, .i .i64 v], .i .i64 f] => (K_ (.b (A.appB 33 [] [a, b, c, e, y, v, f])) M_ snx_ [])
  | _ => A.fail "gcan"
theorem gcanS_ok {ov : Bool} {d : Nat} (hd : 100 ≤ d) : SpecOK (fs := fsg) (ov := ov) Try.prog AW d 43 gcanS := by
  intro m_ hm_ args_ M_ snx_ K_ h_ ν_ largs_ H_ nx_ ha_ hM_
  unfold gcanS at h_
  split at h_
  · rename_i a b c e y v f
    obtain ⟨y1, r1, rfl, ⟨l1, rfl, ⟨y2, r2, rfl, rfl, ⟨y3, r3, rfl, rfl, ⟨y4, r4, rfl, rfl, ⟨y5, r5, rfl, rfl, rfl⟩⟩⟩⟩⟩, ⟨y6, r6, rfl, ⟨l6, rfl, ⟨y7, r7, rfl, rfl, ⟨y8, r8, rfl, rfl, rfl⟩⟩⟩, ⟨y9, r9, rfl, rfl, rfl⟩⟩⟩ := ha_
    exact pure_got (gcan_pure (by omega) a b c e y v f) hM_ (v := .b _) rfl h_
  · exact h_.elim
abbrev spG {A : Go.Rx.Alg} : Go.Rx.SpL A := [(AW, Go.Rx.awakeS), (46, gflwS), (43, gcanS)]
theorem spG_ok {ov : Bool} {d : Nat} (hd : 300 ≤ d) : SpOK (fs := fsg) (ov := ov) Try.prog AW d spG := SpOK.cons awake_ok (SpOK.cons (gflwS_ok (by omega)) (SpOK.cons (gcanS_ok (by omega)) SpOK.nil))
theorem spG_aw {fs : Fs} {ov : Bool} : (spOf (A := stdA fs ov) spG AW).isSome = true := rfl
theorem gflo_eq (a b c e y v g f : Int) (KK : KS (stdA fsg true)) : sFunc Try.prog 30 (sCall Try.prog 30 (spOf spG) noLoop 20) noLoop 25 [.agg [.i .i64 a, .i .i64 b, .i .i64 c, .i .i64 e], .agg [.i .i64 y, .i .i64 v], .i .i64 g, .i .i64 f] .l 0 KK =
  (cond (decide (CanP a b c e y v f))
 (cond (decide (g ≥ (0 : Int)))
 (cond (decide (g ≤ (20000 : Int)))
 (cond (decide (CanP a b c e y v f))
 ((0 : Int) ≤ g ∧ (g ≤ (20000 : Int) ∧ (KK (.b (decide (FlowsP g f c e y v))) .l 0 [])))
 False)
 (KK (.b false) .l 0 []))
 (KK (.b false) .l 0 []))
 (KK (.b false) .l 0 [])) := by kernel_rfl
theorem gflo_pure {m : Nat} (hm : 400 ≤ m) {H : Hp} {nx : Nat} (a b c e y v g f : Int) (p1 : (decide (CanP a b c e y v f)) = true) : Pure Try.prog AW m 25 [.agg [.i .i64 a, .i .i64 b, .i .i64 c, .i .i64 e], .agg [.i .i64 y, .i .i64 v], .i .i64 g, .i .i64 f] H nx (.b (decide (0 ≤ g ∧ g ≤ 20000 ∧ FlowsP g f c e y v))) := by
  refine pure_of (n := 20) (d := m - 21) (U := 30) (fs := fsg) (ov := true) (spG_ok (by omega)) spG_aw noLoop_ok (by decide) (by decide) (by omega) (args := [.agg [.i .i64 a, .i .i64 b, .i .i64 c, .i .i64 e], .agg [.i .i64 y, .i .i64 v], .i .i64 g, .i .i64 f]) (M := .l) (snx := 0) ?_ (VSL.cons ⟨_, rfl, (VSL.cons rfl (VSL.cons rfl (VSL.cons rfl (VSL.cons rfl rfl))))⟩ (VSL.cons ⟨_, rfl, (VSL.cons rfl (VSL.cons rfl rfl))⟩ (VSL.cons rfl (VSL.cons rfl rfl)))) hs_empty
  rw [gflo_eq]
  rw [p1]
  simp only [cond_true, cond_iff]
  refine ⟨fun h => ⟨fun h2 => ⟨h, h2, end_b ?_⟩, fun h2 => end_b ?_⟩, fun h => end_b ?_⟩
  · congr 1; apply propext; exact ⟨fun h3 => ⟨h, h2, h3⟩, fun h3 => h3.2.2⟩
  · exact (decide_eq_false fun h3 => h2 h3.2.1).symm
  · exact (decide_eq_false fun h3 => h h3.1).symm
abbrev gfloS {A : Go.Rx.Alg} : List (Go.Rx.SV A) → Go.Rx.SH A → Nat → Go.Rx.KS A → A.R := fun args_ M_ snx_ K_ => match args_ with
  | [.agg [.i .i64 a, .i .i64 b, .i .i64 c, .i .i64 e], .agg [.i .i64 y, .i .i64 v], .i .i64 g, .i .i64 f] => (A.br (A.appB 33 [] [a, b, c, e, y, v, f]) (fun _ => (K_ (.b (A.appB 34 [] [g, f, c, e, y, v])) M_ snx_ [])) (fun _ => A.fail "pre"))
  | _ => A.fail "gflo"
theorem gfloS_ok {ov : Bool} {d : Nat} (hd : 400 ≤ d) : SpecOK (fs := fsg) (ov := ov) Try.prog AW d 25 gfloS := by
  intro m_ hm_ args_ M_ snx_ K_ h_ ν_ largs_ H_ nx_ ha_ hM_
  unfold gfloS at h_
  split at h_
  · rename_i a b c e y v g f
    obtain ⟨y1, r1, rfl, ⟨l1, rfl, ⟨y2, r2, rfl, rfl, ⟨y3, r3, rfl, rfl, ⟨y4, r4, rfl, rfl, ⟨y5, r5, rfl, rfl, rfl⟩⟩⟩⟩⟩, ⟨y6, r6, rfl, ⟨l6, rfl, ⟨y7, r7, rfl, rfl, ⟨y8, r8, rfl, rfl, rfl⟩⟩⟩, ⟨y9, r9, rfl, rfl, ⟨y10, r10, rfl, rfl, rfl⟩⟩⟩⟩ := ha_
    obtain ⟨p1, h_⟩ := br_pre (fs := fsg) (ov := ov) h_
    have p1 : (decide (CanP a b c e y v f)) = true := p1
    exact pure_got (gflo_pure (by omega) a b c e y v g f p1) hM_ (v := .b _) rfl h_
  · exact h_.elim
theorem gfst_eq (a b c e y v f lo hi : Int) (T : Al (SV (stdA fsg true))) (M : Al (SO (stdA fsg true))) (KK : Ex → List (SV (stdA fsg true)) → List (SO (stdA fsg true)) → List Ll → Prop) : sCode Try.prog (sCall Try.prog 30 (spOf spG) noLoop 20) ⟨44, false, noLoop 44⟩ 30 (false :: [false, false, true, true]) (bodyAt Try.prog 44 [false, false, true, true]) (hdL (bodyAt Try.prog 44 [false, false, true, true]) T M 26 3 [(2, .fn 45 [] [.p 0 0, .p 1 0, .p 2 0])] [(0, .row 42 [.i .i64 a, .i .i64 b, .i .i64 c, .i .i64 e]), (1, .row 52 [.i .i64 y, .i .i64 v]), (2, .row 2 [.i .i64 f])] [(0, .i .i64 lo), (1, .i .i64 hi)] [] [] [] []) (outL 3 (tsOf [0, 1] []) [] [] [] KK) =
  (cond (decide (lo < hi))
 (InK .i64 (hi - lo) ∧ ((2 : Int) ≠ 0 ∧ (InK .i64 (Int.tdiv (hi - lo) (2 : Int)) ∧ (InK .i64 (lo + (Int.tdiv (hi - lo) (2 : Int))) ∧ (cond (decide (CanP a b c e y v f))
 ((0 : Int) ≤ (lo + (Int.tdiv (hi - lo) (2 : Int))) ∧ ((lo + (Int.tdiv (hi - lo) (2 : Int))) ≤ (20000 : Int) ∧ (cond (decide (FlowsP (lo + (Int.tdiv (hi - lo) (2 : Int))) f c e y v))
 (KK .normal [(.i .i64 lo), (.i .i64 (lo + (Int.tdiv (hi - lo) (2 : Int))))] [] [])
 (InK .i64 ((lo + (Int.tdiv (hi - lo) (2 : Int))) + (1 : Int)) ∧ (KK .normal [(.i .i64 ((lo + (Int.tdiv (hi - lo) (2 : Int))) + (1 : Int))), (.i .i64 hi)] [] [])))))
 False)))))
 (KK (.exit 0) [(.i .i64 lo), (.i .i64 hi)] [] [])) := by kernel_rfl
theorem gfst_go (a : Int) (b : Int) (c : Int) (e : Int) (y : Int) (v : Int) (f : Int) (lo : Int) (hi : Int) (lo_0 : Int) (hi_0 : Int) (r1 : lo_0 = (0 : Int)) (r2 : hi_0 = (20001 : Int)) (T : Al (SV (stdA fsg true))) (M : Al (SO (stdA fsg true))) (KK : Ex → List (SV (stdA fsg true)) → List (SO (stdA fsg true)) → List Ll → Prop) (p1 : (decide (CanP a b c e y v f)) = true) (hI : 0 ≤ lo ∧ lo ≤ hi ∧ hi ≤ 20001 ∧ lo ≤ gradI c e y v f ∧ gradI c e y v f ≤ hi) (hn : ∀ (lo' : Int) (hi' : Int), 0 ≤ lo' ∧ lo' ≤ hi' ∧ hi' ≤ 20001 ∧ lo' ≤ gradI c e y v f ∧ gradI c e y v f ≤ hi' → (hi' - lo').toNat < (hi - lo).toNat → KK .normal [.i .i64 lo', .i .i64 hi'] [] []) (hx1 : KK (.exit 0) [.i .i64 (gradI c e y v f), .i .i64 (gradI c e y v f)] [] []) :
    sCode Try.prog (sCall Try.prog 30 (spOf spG) noLoop 20) ⟨44, false, noLoop 44⟩ 30 (false :: [false, false, true, true]) (bodyAt Try.prog 44 [false, false, true, true]) (hdL (bodyAt Try.prog 44 [false, false, true, true]) T M 26 3 [(2, .fn 45 [] [.p 0 0, .p 1 0, .p 2 0])] [(0, .row 42 [.i .i64 a, .i .i64 b, .i .i64 c, .i .i64 e]), (1, .row 52 [.i .i64 y, .i .i64 v]), (2, .row 2 [.i .i64 f])] [(0, .i .i64 lo), (1, .i .i64 hi)] [] [] [] []) (outL 3 (tsOf [0, 1] []) [] [] [] KK) := by
  refine Eq.mpr (gfst_eq a b c e y v f lo hi T M KK) ?_
  rw [p1]
  simp only [cond_true, cond_iff, cond_not, InK64]
  obtain ⟨i0, i1, i2, i3, i4⟩ := hI
  obtain ⟨s1, s2, s3, s4⟩ := gradI_spec c e y v f
  have p2 : CanP a b c e y v f := of_decide_eq_true p1
  obtain ⟨⟨b1, b2, b3, b4, b5, b6, b7, b8⟩, b9, b10, b11, b12, b13, b14⟩ := p2
  have ed : Int.tdiv (hi - lo) 2 = (hi - lo) / 2 := Int.tdiv_eq_ediv_of_nonneg (by omega)
  rw [ed]
  refine ⟨fun hlt => ?_, fun hge => ?_⟩
  · obtain ⟨m, hm⟩ : ∃ m, m = lo + (hi - lo) / 2 := ⟨_, rfl⟩
    rw [← hm]
    refine ⟨by omega, by omega, by omega, by omega, by omega, by omega, fun hp => hn lo m ⟨i0, by omega, by omega, i3, ?_⟩ (by omega), fun hp => ⟨by omega, hn (m + 1) hi ⟨by omega, by omega, i2, ?_, i4⟩ (by omega)⟩⟩
    · by_cases hq : gradI c e y v f ≤ m
      · exact hq
      · exact absurd hp (s3 m (by omega) (by omega))
    · by_cases hq : m < gradI c e y v f
      · omega
      · exfalso
        rcases s4 with s4 | s4
        · omega
        · exact hp (flows_mono s1 (show gradI c e y v f ≤ m by omega) b7 (Int.le_refl _) b5 b9 (Int.le_refl _) (by omega) (Int.le_refl _) b13 (Int.le_refl _) s4)
  · have e1 : lo = gradI c e y v f := by omega
    have e2 : hi = gradI c e y v f := by omega
    rw [e1, e2]; exact hx1
abbrev gfstF {A : Go.Rx.Alg} : Code → Go.Rx.SS A → (Go.Rx.Ex → Go.Rx.SS A → A.R) → A.R := fun c_ s_ K_ => match s_.T.get 2, s_.H.get 0, s_.H.get 1, s_.H.get 2, s_.T.get 0, s_.T.get 1 with
  | some (.fn f1 [] [.p 0 0, .p 1 0, .p 2 0]), some (.row t2 [.i .i64 a, .i .i64 b, .i .i64 c, .i .i64 e]), some (.row t3 [.i .i64 y, .i .i64 v]), some (.row t4 [.i .i64 f]), some (.i .i64 lo), some (.i .i64 hi) => bif (((((Nat.beq s_.N 26 && Nat.beq s_.nx 3) && Nat.beq f1 45) && Nat.beq t2 42) && Nat.beq t3 52) && Nat.beq t4 2) then (A.need .eql lo (A.lit 0) (A.need .eql hi (A.lit 20001) (A.br (A.appB 33 [] [a, b, c, e, y, v, f]) (fun _ => (K_ (.exit 0) (Go.Rx.hdL c_ s_.T (Go.Rx.kills [] s_.H) 26 3 [(2, .fn 45 [] [.p 0 0, .p 1 0, .p 2 0])] [(0, .row 42 [.i .i64 a, .i .i64 b, .i .i64 c, .i .i64 e]), (1, .row 52 [.i .i64 y, .i .i64 v]), (2, .row 2 [.i .i64 f])] [(0, .i .i64 (A.app 10 [] [c, e, y, v, f])), (1, .i .i64 (A.app 10 [] [c, e, y, v, f]))] [] [] [] (Go.Rx.addW ([] ++ []) s_.wr)))) (fun _ => A.fail "pre")))) else A.fail "frame of gfst"
  | _, _, _, _, _, _ => A.fail "gfst"
theorem gfstF_ok {d : Nat} (hd : 400 ≤ d) : LoopOK (fs := fsg) (ov := true) Try.prog AW d 44 [false, false, true, true] false gfstF := by
  intro m_ hm_ fn_ c0_ hfn_ hb_ c_ ro_ hro_ hc_ s_ K_ W_ ν_ S_ h_ hs_
  obtain rfl := body_of hfn_ hb_ hc_
  unfold gfstF at h_
  split at h_
  · rename_i f1 t2 a_0 b_0 c_0 e_0 t3 y_0 v_0 t4 f_0 lo_0_0 hi_0_0 g0 g1 g2 g3 g4 g5
    obtain ⟨a, rfl⟩ : ∃ q : Int, q = a_0 := ⟨a_0, rfl⟩
    obtain ⟨b, rfl⟩ : ∃ q : Int, q = b_0 := ⟨b_0, rfl⟩
    obtain ⟨c, rfl⟩ : ∃ q : Int, q = c_0 := ⟨c_0, rfl⟩
    obtain ⟨e, rfl⟩ : ∃ q : Int, q = e_0 := ⟨e_0, rfl⟩
    obtain ⟨y, rfl⟩ : ∃ q : Int, q = y_0 := ⟨y_0, rfl⟩
    obtain ⟨v, rfl⟩ : ∃ q : Int, q = v_0 := ⟨v_0, rfl⟩
    obtain ⟨f, rfl⟩ : ∃ q : Int, q = f_0 := ⟨f_0, rfl⟩
    obtain ⟨lo_0, rfl⟩ : ∃ q : Int, q = lo_0_0 := ⟨lo_0_0, rfl⟩
    obtain ⟨hi_0, rfl⟩ : ∃ q : Int, q = hi_0_0 := ⟨hi_0_0, rfl⟩
    obtain ⟨T_, FN_, M_, snx_, wr_⟩ := s_
    have hN : (((((Nat.beq FN_ 26 && Nat.beq snx_ 3) && Nat.beq f1 45) && Nat.beq t2 42) && Nat.beq t3 52) && Nat.beq t4 2) = true := by
      cases hq : ((((((Nat.beq FN_ 26 && Nat.beq snx_ 3) && Nat.beq f1 45) && Nat.beq t2 42) && Nat.beq t3 52) && Nat.beq t4 2) : Bool) with
      | true => rfl
      | false => (rw [hq] at h_; exact h_.elim)
    rw [hN, cond_true] at h_
    simp only [Bool.and_eq_true, beq_iff, decide_eq_true_eq] at hN
    obtain ⟨⟨⟨⟨⟨rfl, rfl⟩, rfl⟩, rfl⟩, rfl⟩, rfl⟩ := hN
    obtain ⟨q1, h_⟩ := h_
    have q1 : lo_0 = (0 : Int) := q1
    obtain ⟨q2, h_⟩ := h_
    have q2 : hi_0 = (20001 : Int) := q2
    obtain ⟨q3, h_⟩ := br_pre (fs := fsg) (ov := true) h_
    have q3 : (decide (CanP a b c e y v f)) = true := q3
    replace h_ : K_ (.exit 0) (hdL (bodyAt Try.prog 44 [false, false, true, true]) T_ (kills [] M_) 26 3 [(2, .fn 45 [] [.p 0 0, .p 1 0, .p 2 0])] [(0, .row 42 [.i .i64 a, .i .i64 b, .i .i64 c, .i .i64 e]), (1, .row 52 [.i .i64 y, .i .i64 v]), (2, .row 2 [.i .i64 f])] [(0, .i .i64 (gradI c e y v f)), (1, .i .i64 (gradI c e y v f))] [] [] [] (addW ([] ++ []) wr_)) := h_
    have hx1 : K_ (.exit 0) (hdL (bodyAt Try.prog 44 [false, false, true, true]) T_ (kills [] M_) 26 3 [(2, .fn 45 [] [.p 0 0, .p 1 0, .p 2 0])] [(0, .row 42 [.i .i64 a, .i .i64 b, .i .i64 c, .i .i64 e]), (1, .row 52 [.i .i64 y, .i .i64 v]), (2, .row 2 [.i .i64 f])] [(0, .i .i64 (gradI c e y v f)), (1, .i .i64 (gradI c e y v f))] [] [] [] (addW ([] ++ []) wr_)) := by
      have h2 := h_
      exact h2
    refine loop_ruleL (fs := fsg) (ov := true) (s := ⟨T_, 26, M_, 3, wr_⟩) (X := Int × Int) (B := []) (mv := []) (kt := [(2, .fn 45 [] [.p 0 0, .p 1 0, .p 2 0])]) (kr := [(0, .row 42 [.i .i64 a, .i .i64 b, .i .i64 c, .i .i64 e]), (1, .row 52 [.i .i64 y, .i .i64 v]), (2, .row 2 [.i .i64 f])]) (ty := []) (x := (lo_0, hi_0))
      (Inv := (fun x_ : Int × Int => match x_ with | (lo, hi) => 0 ≤ lo ∧ lo ≤ hi ∧ hi ≤ 20001 ∧ lo ≤ gradI c e y v f ∧ gradI c e y v f ≤ hi)) (μ := (fun x_ : Int × Int => match x_ with | (lo, hi) => (hi - lo).toNat)) (ts := tsOf [0, 1] []) (sl := (fun x_ : Int × Int => match x_ with | (lo, hi) => [.i .i64 lo, .i .i64 hi])) (bl := (fun x_ : Int × Int => match x_ with | (lo, hi) => [])) (ll := (fun x_ : Int × Int => match x_ with | (lo, hi) => [])) (Q := fun e_ vs_ os_ hs_ => K_ e_ (hdL (bodyAt Try.prog 44 [false, false, true, true]) T_ (kills [] M_) 26 3 [(2, .fn 45 [] [.p 0 0, .p 1 0, .p 2 0])] [(0, .row 42 [.i .i64 a, .i .i64 b, .i .i64 c, .i .i64 e]), (1, .row 52 [.i .i64 y, .i .i64 v]), (2, .row 2 [.i .i64 f])] (((tsOf [0, 1] []) e_).zip vs_) ([].zip os_) [] hs_ (addW ([] ++ []) wr_)))
      (L := LL) (U := 30) (cs := sCall Try.prog 30 (spOf spG) noLoop 20) (call := CN Try.prog AW m_) (lp := ⟨44, false, noLoop 44⟩) (root := c0_) (p := [false, false, true, true])
      (show CallSOK _ _ from by
        have := sCall_ok (P := Try.prog) (d := m_ - 20) (U := 30) (lp := noLoop) (spG_ok (ov := true) (d := m_ - 20) (by omega)) (spG_aw (fs := fsg) (ov := true)) (noLoop_ok) (by decide) rfl 20
        rwa [show 20 + (m_ - 20) = m_ by omega] at this) (ctx_of (g := 44) (rg := false) (at_ := noLoop 44) (fun p rg f h => by cases h) hfn_ hb_ hro_) (by decide) hc_
      (fun x o ho => by cases ho)
      (fun x hx => by cases hx) (fun x hx => by cases hx) (fun x hx => by cases hx)
      (fun x hx => by
        simp only [List.mem_cons, List.not_mem_nil, or_false] at hx
        rcases hx with rfl
        · exact g0) (fun x hx => by
        simp only [List.mem_cons, List.not_mem_nil, or_false] at hx
        rcases hx with rfl | rfl | rfl
        · exact ⟨g1, by simp⟩
        · exact ⟨g2, by simp⟩
        · exact ⟨g3, by simp⟩) ?_ (fun _ _ _ _ _ h => h) ?_ ?_ ?_ hs_
    · rintro ⟨lo, hi⟩ hI
      exact gfst_go a b c e y v f lo hi lo_0 hi_0 q1 q2 T_ (kills [] M_) _ q3 hI (fun lo' hi' ha hb => ⟨(lo', hi'), ha, hb, rfl, rfl, rfl⟩) (⟨by simp [SO.mine], hx1⟩)
    · show 0 ≤ lo_0 ∧ lo_0 ≤ hi_0 ∧ hi_0 ≤ 20001 ∧ lo_0 ≤ gradI c e y v f ∧ gradI c e y v f ≤ hi_0
      obtain ⟨s1, s2, _⟩ := gradI_spec c e y v f
      exact ⟨by omega, by omega, by omega, by omega, by omega⟩
    · show (hi_0 - lo_0).toNat < LL
      exact Nat.lt_of_le_of_lt (show _ ≤ 20001 by omega) (by decide)
    · exact ⟨⟨[.i .i64 lo_0, .i .i64 hi_0], [], [], [], by simp [gets, tsOf, g0, g1, g2, g3, g4, g5], by simp [gets, g0, g1, g2, g3, g4, g5], rfl, rfl, by simp [listsOf] <;> rfl⟩⟩
  · exact h_.elim
abbrev lpG {A : Go.Rx.Alg} : Nat → Go.Rx.LoopS A := Go.Rx.lpOf [(44, [false, false, true, true], false, gfstF)]
theorem lpG_ok {d : Nat} (hd : 400 ≤ d) : LoopsAll (fs := fsg) (ov := true) Try.prog AW d lpG := lpOf_ok fun x hx => by
  simp only [List.mem_cons, List.not_mem_nil, or_false] at hx
  rcases hx with rfl
  · exact gfstF_ok (by omega)
theorem ggrad_eq (a b c e y v f : Int) (KK : KS (stdA fsg true)) : sFunc Try.prog 30 (sCall Try.prog 30 (spOf spG) lpG 20) lpG 22 [.agg [.i .i64 a, .i .i64 b, .i .i64 c, .i .i64 e], .agg [.i .i64 y, .i .i64 v], .i .i64 f] .l 0 KK =
  (cond (!(decide (CanP a b c e y v f)))
 (KK (.tup [(.i .i64 (0 : Int)), (.b false)]) .l 0 [])
 (InK .i64 (20001 : Int) ∧ ((0 : Int) = (0 : Int) ∧ ((20001 : Int) = (20001 : Int) ∧ (cond (decide (CanP a b c e y v f))
 (cond (decide ((gradI c e y v f) > (20000 : Int)))
 (KK (.tup [(.i .i64 (0 : Int)), (.b false)]) .l 0 [])
 (KK (.tup [(.i .i64 (gradI c e y v f)), (.b true)]) .l 0 []))
 False))))) := by kernel_rfl
theorem ggrad_pure {m : Nat} (hm : 500 ≤ m) {H : Hp} {nx : Nat} (a b c e y v f : Int) : Pure Try.prog AW m 22 [.agg [.i .i64 a, .i .i64 b, .i .i64 c, .i .i64 e], .agg [.i .i64 y, .i .i64 v], .i .i64 f] H nx (.tup [.i .i64 (gradO a b c e y v f), .b (gradK a b c e y v f)]) := by
  refine pure_of (n := 20) (d := m - 21) (U := 30) (fs := fsg) (ov := true) (spG_ok (by omega)) spG_aw (lpG_ok (by omega)) (by decide) (by decide) (by omega) (args := [.agg [.i .i64 a, .i .i64 b, .i .i64 c, .i .i64 e], .agg [.i .i64 y, .i .i64 v], .i .i64 f]) (M := .l) (snx := 0) ?_ (VSL.cons ⟨_, rfl, (VSL.cons rfl (VSL.cons rfl (VSL.cons rfl (VSL.cons rfl rfl))))⟩ (VSL.cons ⟨_, rfl, (VSL.cons rfl (VSL.cons rfl rfl))⟩ (VSL.cons rfl rfl))) hs_empty
  rw [ggrad_eq]
  by_cases hp : CanP a b c e y v f
  · rw [decide_eq_true hp, gradO_of hp, gradK_of hp]
    simp only [cond_true, Bool.not_true, cond_false, cond_iff, cond_not, InK64]
    refine ⟨by omega, by trivial, by trivial, fun h => ?_, fun h => ?_⟩
    · rw [if_neg (by omega), decide_eq_false (by omega)]; exact end_ib rfl rfl
    · rw [if_pos (by omega), decide_eq_true (by omega)]; exact end_ib rfl rfl
  · rw [decide_eq_false hp, gradO_no hp, gradK_no hp]
    simp only [cond_true, cond_false, cond_iff, cond_not, Bool.not_false]
    exact end_ib rfl rfl
abbrev ggradS {A : Go.Rx.Alg} : List (Go.Rx.SV A) → Go.Rx.SH A → Nat → Go.Rx.KS A → A.R := fun args_ M_ snx_ K_ => match args_ with
  | [.agg [.i .i64 a, .i .i64 b, .i .i64 c, .i .i64 e], .agg [.i .i64 y, .i .i64 v], .i .i64 f] => (K_ (.tup [.i .i64 (A.app 11 [] [a, b, c, e, y, v, f]), .b (A.appB 35 [] [a, b, c, e, y, v, f])]) M_ snx_ [])
  | _ => A.fail "ggrad"
theorem ggradS_ok {ov : Bool} {d : Nat} (hd : 500 ≤ d) : SpecOK (fs := fsg) (ov := ov) Try.prog AW d 22 ggradS := by
  intro m_ hm_ args_ M_ snx_ K_ h_ ν_ largs_ H_ nx_ ha_ hM_
  unfold ggradS at h_
  split at h_
  · rename_i a b c e y v f
    obtain ⟨y1, r1, rfl, ⟨l1, rfl, ⟨y2, r2, rfl, rfl, ⟨y3, r3, rfl, rfl, ⟨y4, r4, rfl, rfl, ⟨y5, r5, rfl, rfl, rfl⟩⟩⟩⟩⟩, ⟨y6, r6, rfl, ⟨l6, rfl, ⟨y7, r7, rfl, rfl, ⟨y8, r8, rfl, rfl, rfl⟩⟩⟩, ⟨y9, r9, rfl, rfl, rfl⟩⟩⟩ := ha_
    exact pure_got (ggrad_pure (by omega) a b c e y v f) hM_ (v := .tup [.i .i64 _, .b _]) ⟨_, rfl, (VSL.cons rfl (VSL.cons rfl rfl))⟩ h_
  · exact h_.elim
end Go.Proofs.Ytfjilbjofaommaa
