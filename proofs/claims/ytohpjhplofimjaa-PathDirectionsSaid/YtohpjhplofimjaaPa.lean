/-
  Layer 1: remainders and roots.
-/
import Derived.Test.YtohpjhplofimjaaKx
import Derived.Test.YtohpjhplofimjaaPm
import Derived.Test.YtohpjhplofimjaaYn
set_option linter.unusedSimpArgs false
set_option linter.unusedVariables false
namespace Go.Proofs.Ytohpjhplofimjaa
open Go Go.Rx

abbrev AW : Nat := 7
/-- Only the call of the examples is told of. -/
abbrev sp0 {A : Go.Rx.Alg} : Go.Rx.SpL A := [(AW, Go.Rx.awakeS)]
abbrev fsr : Fs where
  i := fun n ls xs => match n, ls, xs with | 1, [], [n] => isqI n | _, _, _ => 0
  b := fun _ _ _ => false
  l := fun _ _ _ => []
theorem sp0_ok {fs : Fs} {ov : Bool} {d : Nat} : SpOK (fs := fs) (ov := ov) Try.prog AW d sp0 := SpOK.cons awake_ok SpOK.nil
theorem sp0_aw {fs : Fs} {ov : Bool} : (spOf (A := stdA fs ov) sp0 AW).isSome = true := rfl
abbrev rootF {A : Go.Rx.Alg} : Code → Go.Rx.SS A → (Go.Rx.Ex → Go.Rx.SS A → A.R) → A.R := fun c s K => match s.T.get 3, s.T.get 4, s.T.get 0 with
  | some (.i .i64 lo), some (.i .i64 hi), some (.i .i64 n) => bif Nat.beq s.N 25 && Nat.beq s.nx 0 then
      A.need .eql lo (A.lit 0) (A.need .eql hi (A.lit 3037000499) (A.need .leq (A.lit 0) n (A.need .leq n (A.lit 1125899906842624)
        (K (.exit 0) (Go.Rx.hdS c ⟨Go.Rx.push [(0, .i .i64 n)] s.T, s.N, s.H, s.nx, s.wr⟩ [(3, .i .i64 (A.app 1 [] [n])), (4, .i .i64 (A.app 1 [] [n]))] [] s.wr)))))
    else A.fail "frame"
  | _, _, _ => A.fail "root"
abbrev lpR {A : Go.Rx.Alg} : Nat → Go.Rx.LoopS A := Go.Rx.lpOf [(22, [false, false, true, true], rootF)]
theorem mod64_eq (a b : Int) (KK : KS (stdA fsr true)) : sFunc Try.prog 30 (sCall Try.prog 30 (spOf sp0) noLoop 20) noLoop 5 [.i .i64 a, .i .i64 b] .l 0 KK =
  (b ≠ 0 ∧ (cond (decide ((Int.tmod a b) < (0 : Int)))
 (InK .i64 ((Int.tmod a b) + b) ∧ (KK (.i .i64 ((Int.tmod a b) + b)) .l 0 []))
 (KK (.i .i64 (Int.tmod a b)) .l 0 []))) := by kernel_rfl
theorem mod_eq (a b : Int) (KK : KS (stdA fsr true)) : sFunc Try.prog 30 (sCall Try.prog 30 (spOf sp0) noLoop 20) noLoop 8 [.i .i64 a, .i .i64 b] .l 0 KK =
  (b ≠ 0 ∧ (cond (decide ((Int.tmod a b) < (0 : Int)))
 (InK .i64 ((Int.tmod a b) + b) ∧ (KK (.i .i64 ((Int.tmod a b) + b)) .l 0 []))
 (KK (.i .i64 (Int.tmod a b)) .l 0 []))) := by kernel_rfl
theorem rootL_eq (lo hi n : Int) (T : Al (SV (stdA fsr true))) (H : Al (SO (stdA fsr true))) (wr : List Nat) (KK : Ex → List (SV (stdA fsr true)) → List (SO (stdA fsr true)) → Prop) : sCode Try.prog (sCall Try.prog 30 (spOf sp0) noLoop 20) (noLoop 22) 30 (false :: [false, false, true, true]) (bodyAt Try.prog 22 [false, false, true, true]) (hdS (bodyAt Try.prog 22 [false, false, true, true]) ⟨push [(0, .i .i64 n)] T, 25, push [] H, 0, wr⟩ [(3, .i .i64 lo), (4, .i .i64 hi)] [] []) (outK 0 (tsOf [3, 4] []) [] KK) =
  (cond (decide (lo < hi))
 (InK .i64 (hi - lo) ∧ (InK .i64 ((hi - lo) + (1 : Int)) ∧ ((2 : Int) ≠ 0 ∧ (InK .i64 (Int.tdiv ((hi - lo) + (1 : Int)) (2 : Int)) ∧ (InK .i64 (lo + (Int.tdiv ((hi - lo) + (1 : Int)) (2 : Int))) ∧ (InK .i64 ((lo + (Int.tdiv ((hi - lo) + (1 : Int)) (2 : Int))) * (lo + (Int.tdiv ((hi - lo) + (1 : Int)) (2 : Int)))) ∧ (cond (decide (((lo + (Int.tdiv ((hi - lo) + (1 : Int)) (2 : Int))) * (lo + (Int.tdiv ((hi - lo) + (1 : Int)) (2 : Int)))) ≤ n))
 (KK .normal [(.i .i64 (lo + (Int.tdiv ((hi - lo) + (1 : Int)) (2 : Int)))), (.i .i64 hi)] [])
 (InK .i64 ((lo + (Int.tdiv ((hi - lo) + (1 : Int)) (2 : Int))) - (1 : Int)) ∧ (KK .normal [(.i .i64 lo), (.i .i64 ((lo + (Int.tdiv ((hi - lo) + (1 : Int)) (2 : Int))) - (1 : Int)))] [])))))))))
 (KK (.exit 0) [(.i .i64 lo), (.i .i64 hi)] [])) := by kernel_rfl
theorem rootF_ok {d : Nat} (hd : 100 ≤ d) : LoopOK (fs := fsr) (ov := true) Try.prog AW d 22 [false, false, true, true] rootF := by
  intro m hm fn c0 hfn hb c ro hc s K W ν S h hs
  have hbody := body_of hfn hb hc
  simp only [rootF] at h
  split at h
  · rename_i lo hi n0 g0 g1 g2
    obtain ⟨n, rfl⟩ : ∃ k : Int, k = n0 := ⟨n0, rfl⟩
    obtain ⟨T, N, M, snx, wr⟩ := s
    cases hN : (Nat.beq N 25 && Nat.beq snx 0)
    · rw [hN] at h; exact h.elim
    · rw [hN] at h
      simp only [Bool.and_eq_true, beq_iff] at hN
      obtain ⟨rfl, rfl⟩ := hN
      obtain ⟨q1, q2, q3, q4, h⟩ := h
      have q3 : (0 : Int) ≤ n := q3
      have q4 : n ≤ (1125899906842624 : Int) := q4
      refine goC_push (kt := [(0, .i .i64 n)]) (kr := []) ?_
      have hs' := sim_push (kt := [(0, .i .i64 n)]) (kr := []) hs (by simpa using g2) (by simp)
      refine loop_rule (X := Int × Int) (B := []) (x := (0, 3037000499)) (Inv := fun x => 0 ≤ x.1 ∧ x.1 ≤ x.2 ∧ x.2 ≤ 3037000499 ∧ x.1 * x.1 ≤ n ∧ n < (x.2 + 1) * (x.2 + 1)) (μ := fun x => (x.2 - x.1).toNat)
        (ts := tsOf [3, 4] []) (sl := fun x => [.i .i64 x.1, .i .i64 x.2]) (bl := fun _ => []) (Q := fun e vs os => e = .exit 0 ∧ vs = [.i .i64 (isqI n), .i .i64 (isqI n)] ∧ os = []) (L := LL) (U := 30) (cs := sCall Try.prog 30 (spOf sp0) noLoop 20)
        (call := CN Try.prog AW m) (lp := noLoop 22) (root := c0) (p := [false, false, true, true]) (show CallSOK _ _ from by
          have := sCall_ok (P := Try.prog) (d := m - 20) (U := 30) (lp := noLoop) (sp0_ok (fs := fsr) (ov := true) (d := m - 20)) (sp0_aw (fs := fsr) (ov := true)) noLoop_ok (by decide) 20
          rwa [show 20 + (m - 20) = m by omega] at this) (fun p f h => by cases h) (by decide) hc (fun x => ⟨rfl, by simp⟩) (by simp) ?_ ?_ ⟨by omega, by omega, by omega, by omega, by dsimp only; omega⟩ (by decide) ?_ (by simp) hs'
      · rintro ⟨lo, hi⟩ ⟨i1, i2, i3, i4, i5⟩
        rw [← hbody]
        refine Eq.mpr (rootL_eq lo hi n T M wr _) ?_
        simp only [cond_iff, InK64]
        have i1 : 0 ≤ lo := i1
        have i2 : lo ≤ hi := i2
        have i3 : hi ≤ 3037000499 := i3
        have i4 : lo * lo ≤ n := i4
        have i5 : n < (hi + 1) * (hi + 1) := i5
        have e2 : Int.tdiv (hi - lo + 1) 2 = (hi - lo + 1) / 2 := Int.tdiv_eq_ediv_of_nonneg (by omega)
        simp only [e2]
        obtain ⟨y, hy⟩ : ∃ y, y = lo + (hi - lo + 1) / 2 := ⟨_, rfl⟩
        rw [← hy]
        have y0 : 0 ≤ y := by omega
        have y1 : y ≤ 3037000499 := by omega
        have y2 : y * y ≤ 3037000499 * 3037000499 := sq_le y0 y1
        have y3 : 0 ≤ y * y := Int.mul_nonneg y0 y0
        refine ⟨fun hlt => ⟨by omega, by omega, by omega, by omega, by omega, by omega, fun hz => ⟨(y, hi), ⟨y0, by dsimp only; omega, i3, hz, i5⟩, by dsimp only; omega, by trivial, by trivial⟩, fun hz => ⟨by omega, (lo, y - 1), ⟨i1, by dsimp only; omega, by dsimp only; omega, i4, ?_⟩, by dsimp only; omega, by trivial, by trivial⟩⟩, fun hge => ⟨by trivial, by simp, by trivial, ?_, by trivial⟩⟩
        · dsimp only
          rw [show y - 1 + 1 = y by omega]; omega
        · have e : lo = hi := by omega
          subst e
          rw [isq_uniq q3 i1 i4 i5]
      · rintro e vs os _ ⟨rfl, rfl, rfl⟩
        exact h
      · intro y hy
        simp [tsOf] at hy
        rcases hy with rfl | rfl
        · exact ⟨by rw [show (push [(0, (SV.i .i64 n : SV (stdA fsr true)))] T).get 3 = T.get 3 from rfl, g0, q1], rfl⟩
        · exact ⟨by rw [show (push [(0, (SV.i .i64 n : SV (stdA fsr true)))] T).get 4 = T.get 4 from rfl, g1, q2], rfl⟩
  · exact h.elim
theorem lpR_ok {d : Nat} (hd : 100 ≤ d) : LoopsAll (fs := fsr) (ov := true) Try.prog AW d lpR := lpOf_ok fun x hx => by
  rcases List.mem_cons.1 hx with rfl | hx
  · exact rootF_ok hd
  · cases hx
theorem root_eq (n : Int) (KK : KS (stdA fsr true)) : sFunc Try.prog 30 (sCall Try.prog 30 (spOf sp0) lpR 20) lpR 22 [.i .i64 n] .l 0 KK =
  ((0 : Int) = (0 : Int) ∧ ((3037000499 : Int) = (3037000499 : Int) ∧ ((0 : Int) ≤ n ∧ (n ≤ (1125899906842624 : Int) ∧ (KK (.i .i64 (isqI n)) .l 0 []))))) := by kernel_rfl
section
variable {m : Nat} (hm : 200 ≤ m) {H : Hp} {nx : Nat}
include hm
theorem root_pure (n : Int) (h0 : 0 ≤ n) (h1 : n ≤ 1125899906842624) : Pure Try.prog AW m 22 [.i .i64 n] H nx (.i .i64 (isqI n)) := by
  refine pure_of (n := 20) (d := m - 21) (U := 30) (fs := fsr) (ov := true) sp0_ok sp0_aw (lpR_ok (by omega)) (by decide) (by decide) (by omega) (args := [.i .i64 n]) (M := .l) (snx := 0) ?_ (VSL.cons rfl rfl) hs_empty
  rw [root_eq]
  exact ⟨by trivial, by trivial, h0, h1, end_i rfl⟩
theorem mod64_pure (a b : Int) (hb : 1 ≤ b) (b1 : b ≤ 9223372036854775807) : Pure Try.prog AW m 5 [.i .i64 a, .i .i64 b] H nx (.i .i64 (a % b)) := by
  refine pure_of (n := 20) (d := m - 21) (U := 30) (fs := fsr) (ov := true) sp0_ok sp0_aw noLoop_ok (by decide) (by decide) (by omega) (args := [.i .i64 a, .i .i64 b]) (M := .l) (snx := 0) ?_ (VSL.cons rfl (VSL.cons rfl rfl)) hs_empty
  rw [mod64_eq]
  simp only [cond_iff, InK64]
  have e0 := Int.emod_nonneg a (show b ≠ 0 by omega)
  have e1 := Int.emod_lt_of_pos a (show 0 < b by omega)
  by_cases h : 0 ≤ a
  · have e := Int.tmod_eq_emod_of_nonneg h (b := b)
    exact ⟨by omega, fun h => absurd h (by omega), fun h => end_i e⟩
  · have e : a.tmod b = -((-a) % b) := by rw [show a = -(-a) by omega, Int.neg_tmod, Int.tmod_eq_emod_of_nonneg (by omega), show - - -a = -a by omega]
    have r0 := Int.emod_nonneg (-a) (show b ≠ 0 by omega)
    have r1 := Int.emod_lt_of_pos (-a) (show 0 < b by omega)
    have s1 := Int.mul_ediv_add_emod (-a) b
    by_cases hz : (-a) % b = 0
    · have : a % b = 0 := by
        have := Int.emod_emod_of_dvd (-a) (Int.dvd_refl b)
        rw [← Int.dvd_iff_emod_eq_zero] at hz ⊢
        exact (Int.dvd_neg.1 hz)
      exact ⟨by omega, fun h => absurd h (by omega), fun h => end_i (by omega)⟩
    · have : a % b = b - (-a) % b := by
        have e2 : a = (b - (-a) % b) + b * (-((-a) / b) - 1) := by rw [Int.mul_sub, Int.mul_neg]; omega
        conv => lhs; rw [e2]
        rw [Int.add_mul_emod_self_left, Int.emod_eq_of_lt (by omega) (by omega)]
      exact ⟨by omega, fun h => ⟨by omega, end_i (by omega)⟩, fun h => absurd h (by omega)⟩
theorem mod_pure (a b : Int) (hb : 1 ≤ b) (b1 : b ≤ 9223372036854775807) : Pure Try.prog AW m 8 [.i .i64 a, .i .i64 b] H nx (.i .i64 (a % b)) := by
  refine pure_of (n := 20) (d := m - 21) (U := 30) (fs := fsr) (ov := true) sp0_ok sp0_aw noLoop_ok (by decide) (by decide) (by omega) (args := [.i .i64 a, .i .i64 b]) (M := .l) (snx := 0) ?_ (VSL.cons rfl (VSL.cons rfl rfl)) hs_empty
  rw [mod_eq]
  simp only [cond_iff, InK64]
  have e0 := Int.emod_nonneg a (show b ≠ 0 by omega)
  have e1 := Int.emod_lt_of_pos a (show 0 < b by omega)
  by_cases h : 0 ≤ a
  · have e := Int.tmod_eq_emod_of_nonneg h (b := b)
    exact ⟨by omega, fun h => absurd h (by omega), fun h => end_i e⟩
  · have e : a.tmod b = -((-a) % b) := by rw [show a = -(-a) by omega, Int.neg_tmod, Int.tmod_eq_emod_of_nonneg (by omega), show - - -a = -a by omega]
    have r0 := Int.emod_nonneg (-a) (show b ≠ 0 by omega)
    have r1 := Int.emod_lt_of_pos (-a) (show 0 < b by omega)
    have s1 := Int.mul_ediv_add_emod (-a) b
    by_cases hz : (-a) % b = 0
    · have : a % b = 0 := by
        have := Int.emod_emod_of_dvd (-a) (Int.dvd_refl b)
        rw [← Int.dvd_iff_emod_eq_zero] at hz ⊢
        exact (Int.dvd_neg.1 hz)
      exact ⟨by omega, fun h => absurd h (by omega), fun h => end_i (by omega)⟩
    · have : a % b = b - (-a) % b := by
        have e2 : a = (b - (-a) % b) + b * (-((-a) / b) - 1) := by rw [Int.mul_sub, Int.mul_neg]; omega
        conv => lhs; rw [e2]
        rw [Int.add_mul_emod_self_left, Int.emod_eq_of_lt (by omega) (by omega)]
      exact ⟨by omega, fun h => ⟨by omega, end_i (by omega)⟩, fun h => absurd h (by omega)⟩
end
end Go.Proofs.Ytohpjhplofimjaa
