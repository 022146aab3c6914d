/-
  math/bits.Mul64: the whole product of two numbers below 2^64.
-/
import Derived.Test.YtfjilbjofaommaaMb
set_option linter.unusedSimpArgs false
set_option linter.unusedVariables false
namespace Go.Proofs.Ytfjilbjofaommaa
open Go Go.Rx
noncomputable abbrev fsmu : Fs where
  i := fun n ls xs => match n, ls, xs with | 1, [], [a, b] => a * b | _, _, _ => 0
  b := fun _ _ _ => false
  l := fun _ _ _ => []
  rng := rngAt Try.prog
theorem mul64_eq (x y : Int) (KK : KS (stdA fsmu false)) : sFunc Try.prog 30 (sCall Try.prog 30 (spOf sp0) noLoop 20) noLoop 64 [.i .u64 x, .i .u64 y] .l 0 KK =
  (0 ≤ (32 : Int) ∧ (0 ≤ (32 : Int) ∧ (0 ≤ (32 : Int) ∧ (0 ≤ (32 : Int) ∧ (0 ≤ (32 : Int) ∧ (KK (.tup [(.i .u64 (IntKind.wrap .u64 ((IntKind.wrap .u64 ((IntKind.wrap .u64 ((Int.fdiv x 4294967296) * (Int.fdiv y 4294967296))) + (Int.fdiv (IntKind.wrap .u64 ((IntKind.wrap .u64 ((Int.fdiv x 4294967296) * (bitsI .and .u64 y (4294967295 : Int)))) + (Int.fdiv (IntKind.wrap .u64 ((bitsI .and .u64 x (4294967295 : Int)) * (bitsI .and .u64 y (4294967295 : Int)))) 4294967296))) 4294967296))) + (Int.fdiv (IntKind.wrap .u64 ((bitsI .and .u64 (IntKind.wrap .u64 ((IntKind.wrap .u64 ((Int.fdiv x 4294967296) * (bitsI .and .u64 y (4294967295 : Int)))) + (Int.fdiv (IntKind.wrap .u64 ((bitsI .and .u64 x (4294967295 : Int)) * (bitsI .and .u64 y (4294967295 : Int)))) 4294967296))) (4294967295 : Int)) + (IntKind.wrap .u64 ((bitsI .and .u64 x (4294967295 : Int)) * (Int.fdiv y 4294967296))))) 4294967296)))), (.i .u64 (IntKind.wrap .u64 (x * y)))]) .l 0 [])))))) := by kernel_rfl
theorem wrap_u64 (n : Int) : IntKind.u64.wrap n = n % 18446744073709551616 := rfl
theorem and_low {x : Int} (h0 : 0 ≤ x) (h1 : x < 18446744073709551616) : bitsI .and .u64 x 4294967295 = x % 4294967296 := by
  obtain ⟨n, rfl⟩ := Int.eq_ofNat_of_zero_le h0
  have e1 : (BitVec.ofInt 64 (n : Int)).toNat = n := by
    rw [BitVec.toNat_ofInt]
    omega
  have e2 : (BitVec.ofInt 64 4294967295).toNat = 2 ^ 32 - 1 := by decide
  show IntKind.u64.wrap ((BitVec.ofInt 64 (n : Int) &&& BitVec.ofInt 64 4294967295).toNat : Int) = _
  rw [BitVec.toNat_and, e1, e2, Nat.and_two_pow_sub_one_eq_mod, wrap_u64]
  omega
theorem shr_32 (x : Int) : shI .shr .u64 x 32 = x / 4294967296 := by
  show x.fdiv (2 ^ (min (32 : Int).toNat 64)) = _
  rw [show (2 : Int) ^ (min (32 : Int).toNat 64) = 4294967296 from rfl]
  exact Int.fdiv_eq_ediv_of_nonneg x (by omega)
/-- The product by halves. -/
theorem mul_halves {x y x0 x1 y0 y1 a b c d : Int} (hx : x = x1 * 4294967296 + x0) (hy : y = y1 * 4294967296 + y0) (ha : a = x0 * y0) (hb : b = x1 * y0) (hc : c = x0 * y1) (hd : d = x1 * y1) : x * y = d * 18446744073709551616 + (b + c) * 4294967296 + a := by
  subst hx hy ha hb hc hd
  simp only [Int.add_mul, Int.mul_add]
  have e1 : x1 * 4294967296 * (y1 * 4294967296) = x1 * y1 * 18446744073709551616 := by
    rw [Int.mul_assoc, Int.mul_left_comm 4294967296 y1, ← Int.mul_assoc]; rfl
  have e2 : x1 * 4294967296 * y0 = x1 * y0 * 4294967296 := Int.mul_right_comm ..
  have e3 : x0 * (y1 * 4294967296) = x0 * y1 * 4294967296 := (Int.mul_assoc ..).symm
  omega
theorem half_bound {p q : Int} (p0 : 0 ≤ p) (p1 : p ≤ 4294967295) (q0 : 0 ≤ q) (q1 : q ≤ 4294967295) : 0 ≤ p * q ∧ p * q ≤ 18446744065119617025 := by
  have := Int.mul_nonneg p0 q0
  have a := Int.mul_le_mul p1 q1 q0 (by omega)
  omega
theorem end_uu {fs : Fs} {ov : Bool} {k k' : IntKind} {x y x' y' : Int} {n : Nat} {M : SH (stdA fs ov)} (h : x = x') (h' : y = y') : doneK (fs := fs) (ov := ov) (.tup [.i k x', .i k' y']) n (.tup [.i k x, .i k' y]) M n [] :=
  ⟨fun _ _ hv => by obtain ⟨l, rfl, a, r, rfl, rfl, a2, r2, rfl, rfl, rfl⟩ := hv; rw [h, h'], rfl, rfl⟩
theorem mul64_pure {m : Nat} (hm : 100 ≤ m) {H : Hp} {nx : Nat} (x y : Int) (x0 : 0 ≤ x) (x1 : x < 18446744073709551616) (y0 : 0 ≤ y) (y1 : y < 18446744073709551616) : Pure Try.prog AW m 64 [.i .u64 x, .i .u64 y] H nx (.tup [.i .u64 (x * y / 18446744073709551616), .i .u64 (x * y % 18446744073709551616)]) := by
  refine pure_of (n := 20) (d := m - 21) (U := 30) (fs := fsmu) (ov := false) sp0_ok sp0_aw noLoop_ok (by decide) (by decide) (by omega) (args := [.i .u64 x, .i .u64 y]) (M := .l) (snx := 0) ?_ (VSL.cons rfl (VSL.cons rfl rfl)) hs_empty
  rw [mul64_eq]
  have fd : ∀ z : Int, Int.fdiv z 4294967296 = z / 4294967296 := fun z => Int.fdiv_eq_ediv_of_nonneg z (by omega)
  simp only [fd]
  rw [and_low x0 x1, and_low y0 y1]
  refine ⟨by omega, by omega, by omega, by omega, by omega, ?_⟩
  have wu : ∀ n : Int, 0 ≤ n → n < 18446744073709551616 → IntKind.u64.wrap n = n := fun n h0 h1 => by rw [wrap_u64]; omega
  obtain ⟨a, ha⟩ : ∃ a, a = x % 4294967296 * (y % 4294967296) := ⟨_, rfl⟩
  obtain ⟨b, hb⟩ : ∃ b, b = x / 4294967296 * (y % 4294967296) := ⟨_, rfl⟩
  obtain ⟨c, hc⟩ : ∃ c, c = x % 4294967296 * (y / 4294967296) := ⟨_, rfl⟩
  obtain ⟨d, hd⟩ : ∃ d, d = x / 4294967296 * (y / 4294967296) := ⟨_, rfl⟩
  have key := mul_halves (x := x) (y := y) (by omega) (by omega) ha hb hc hd
  have a0 := half_bound (p := x % 4294967296) (q := y % 4294967296) (by omega) (by omega) (by omega) (by omega)
  have b0 := half_bound (p := x / 4294967296) (q := y % 4294967296) (by omega) (by omega) (by omega) (by omega)
  have c0 := half_bound (p := x % 4294967296) (q := y / 4294967296) (by omega) (by omega) (by omega) (by omega)
  have d0 := half_bound (p := x / 4294967296) (q := y / 4294967296) (by omega) (by omega) (by omega) (by omega)
  rw [← ha] at a0
  rw [← hb] at b0
  rw [← hc] at c0
  rw [← hd] at d0
  rw [← ha, ← hb, ← hc, ← hd]
  clear ha hb hc hd
  rw [wu a (by omega) (by omega), wu b (by omega) (by omega), wu c (by omega) (by omega), wu d (by omega) (by omega)]
  rw [wu (b + a / 4294967296) (by omega) (by omega), and_low (x := b + a / 4294967296) (by omega) (by omega), wu (d + (b + a / 4294967296) / 4294967296) (by omega) (by omega), wu ((b + a / 4294967296) % 4294967296 + c) (by omega) (by omega)]
  rw [wu _ (by omega) (by omega), wrap_u64]
  exact end_uu (by omega) rfl
end Go.Proofs.Ytfjilbjofaommaa
