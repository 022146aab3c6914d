/-
  Layer 1: the turn of two vectors.
-/
import Derived.Test.YtohpjhplofimjaaPb
import Derived.Test.YtohpjhplofimjaaPc
set_option linter.unusedSimpArgs false
set_option linter.unusedVariables false
namespace Go.Proofs.Ytohpjhplofimjaa
open Go Go.Rx
abbrev fst : Fs where
  i := fun n ls xs => match n, ls, xs with | 2, [], [x, y, z] => len3 x y z | 3, [], [n, d] => n / gcdI n d | 4, [], [n, d] => d / gcdI n d | _, _, _ => 0
  b := fun n ls xs => match n, ls, xs with | 1, [], [x, y, z] => decide (okV x y z) | _, _, _ => false
  l := fun _ _ _ => []
abbrev wlS {A : Go.Rx.Alg} : List (Go.Rx.SV A) → Go.Rx.SH A → Nat → Go.Rx.KS A → A.R := fun args M snx KK => match args with
  | [.agg [.i .i64 x, .i .i64 y, .i .i64 z]] => A.br (A.appB 1 [] [x, y, z]) (fun _ => KK (.tup [.i .i64 (A.app 2 [] [x, y, z]), .b (A.ofB true)]) M snx []) (fun _ => A.fail "wl")
  | _ => A.fail "wl"
abbrev lowS {A : Go.Rx.Alg} : List (Go.Rx.SV A) → Go.Rx.SH A → Nat → Go.Rx.KS A → A.R := fun args M snx KK => match args with
  | [.i .i64 n, .i .i64 d] => A.need .leq (A.lit 0) n (A.need .leq n (A.lit 9223372036854775807) (A.need .leq (A.lit 1) d (A.need .leq d (A.lit 17179869184) (KK (.agg [.i .i64 (A.app 3 [] [n, d]), .i .i64 (A.app 4 [] [n, d])]) M snx []))))
  | _ => A.fail "low"
abbrev spT {A : Go.Rx.Alg} : Go.Rx.SpL A := [(AW, Go.Rx.awakeS), (9, wlS), (10, lowS)]
theorem turn_eq (x y z u v w : Int) (KK : KS (stdA fst true)) : sFunc Try.prog 30 (sCall Try.prog 30 (spOf spT) noLoop 20) noLoop 6 [.agg [.i .i64 x, .i .i64 y, .i .i64 z], .agg [.i .i64 u, .i .i64 v, .i .i64 w]] .l 0 KK =
  (cond (decide (okV x y z))
 (cond (decide (okV u v w))
 (cond (decide ((minL (len3 x y z) (len3 u v w)) < (1 : Int)))
 (KK (.tup [(.agg [(.i .i64 (0 : Int)), (.i .i64 (0 : Int))]), (.i .i64 (3 : Int))]) .l 0 [])
 (cond (decide ((maxL (len3 x y z) (len3 u v w)) > (131072 : Int)))
 (KK (.tup [(.agg [(.i .i64 (0 : Int)), (.i .i64 (0 : Int))]), (.i .i64 (3 : Int))]) .l 0 [])
 (InK .i64 ((len3 x y z) * (len3 u v w)) ∧ (InK .i64 (x * u) ∧ (InK .i64 (y * v) ∧ (InK .i64 ((x * u) + (y * v)) ∧ (InK .i64 (z * w) ∧ (InK .i64 (((x * u) + (y * v)) + (z * w)) ∧ (InK .i64 (((len3 x y z) * (len3 u v w)) - (((x * u) + (y * v)) + (z * w))) ∧ (InK .i64 ((len3 x y z) * (len3 u v w)) ∧ ((0 : Int) ≤ (((len3 x y z) * (len3 u v w)) - (((x * u) + (y * v)) + (z * w))) ∧ ((((len3 x y z) * (len3 u v w)) - (((x * u) + (y * v)) + (z * w))) ≤ (9223372036854775807 : Int) ∧ ((1 : Int) ≤ ((len3 x y z) * (len3 u v w)) ∧ (((len3 x y z) * (len3 u v w)) ≤ (17179869184 : Int) ∧ (KK (.tup [(.agg [(.i .i64 ((((len3 x y z) * (len3 u v w)) - (((x * u) + (y * v)) + (z * w))) / gcdI (((len3 x y z) * (len3 u v w)) - (((x * u) + (y * v)) + (z * w))) ((len3 x y z) * (len3 u v w)))), (.i .i64 (((len3 x y z) * (len3 u v w)) / gcdI (((len3 x y z) * (len3 u v w)) - (((x * u) + (y * v)) + (z * w))) ((len3 x y z) * (len3 u v w))))]), (.i .i64 (0 : Int))]) .l 0 [])))))))))))))))
 False)
 False) := by kernel_rfl
theorem spT_ok {ov : Bool} {d : Nat} (hd : 500 ≤ d) : SpOK (fs := fst) (ov := ov) Try.prog AW d spT := by
  refine SpOK.cons awake_ok (SpOK.cons ?_ (SpOK.cons ?_ SpOK.nil))
  · intro m hm args M snx K h ν largs H nx ha hM
    unfold wlS at h
    split at h
    · rename_i x0 y0 z0
      obtain ⟨x, rfl⟩ : ∃ k : Int, k = x0 := ⟨x0, rfl⟩
      obtain ⟨y, rfl⟩ : ∃ k : Int, k = y0 := ⟨y0, rfl⟩
      obtain ⟨z, rfl⟩ : ∃ k : Int, k = z0 := ⟨z0, rfl⟩
      have h' : cond (decide (okV x y z)) (K (.tup [.i .i64 (len3 x y z), .b true]) M snx []) False := h
      by_cases hv : okV x y z
      · rw [decide_eq_true hv] at h'
        obtain ⟨x, r, rfl, ⟨l, rfl, x1, r1, rfl, rfl, x2, r2, rfl, rfl, x3, r3, rfl, rfl, rfl⟩, rfl⟩ := ha
        exact pure_got (wl_pure (by omega) _ _ _ hv) hM (v := .tup [.i .i64 _, .b _]) ⟨_, rfl, VSL.cons rfl (VSL.cons rfl rfl)⟩ h'
      · rw [decide_eq_false hv] at h'
        exact h'.elim
    · exact h.elim
  · intro m hm args M snx K h ν largs H nx ha hM
    unfold lowS at h
    split at h
    · obtain ⟨h1, h2, h3, h4, h⟩ := h
      obtain ⟨x, r, rfl, rfl, y, r2, rfl, rfl, rfl⟩ := ha
      exact pure_got (low_pure (by omega) _ _ h1 h2 h3 h4) hM (v := .agg [.i .i64 _, .i .i64 _]) ⟨_, rfl, VSL.cons rfl (VSL.cons rfl rfl)⟩ h
    · exact h.elim
theorem spT_aw {fs : Fs} {ov : Bool} : (spOf (A := stdA fs ov) spT AW).isSome = true := rfl
theorem mul_abs {B x u : Int} (h0 : -B ≤ x) (h1 : x ≤ B) (h2 : -B ≤ u) (h3 : u ≤ B) : -(B * B) ≤ x * u ∧ x * u ≤ B * B := by
  have a : 0 ≤ (B - x) * (B + u) := Int.mul_nonneg (by omega) (by omega)
  have b : 0 ≤ (B + x) * (B - u) := Int.mul_nonneg (by omega) (by omega)
  have c : 0 ≤ (B - x) * (B - u) := Int.mul_nonneg (by omega) (by omega)
  have d : 0 ≤ (B + x) * (B + u) := Int.mul_nonneg (by omega) (by omega)
  simp only [Int.sub_mul, Int.add_mul, Int.mul_sub, Int.mul_add] at a b c d
  have e := Int.mul_comm B u
  have f := Int.mul_comm B x
  omega
theorem end_t {fs : Fs} {ov : Bool} {k : IntKind} {x y z x' y' z' : Int} {n : Nat} {M : SH (stdA fs ov)} (h : x = x') (h' : y = y') (h2 : z = z') : doneK (fs := fs) (ov := ov) (.tup [.agg [.i k x', .i k y'], .i k z']) n (.tup [.agg [.i k x, .i k y], .i k z]) M n [] :=
  ⟨fun _ _ hv => by obtain ⟨l, rfl, a, r, rfl, ⟨l2, rfl, b1, s1, rfl, rfl, b2, s2, rfl, rfl, rfl⟩, a2, r2, rfl, rfl, rfl⟩ := hv; rw [h, h', h2], rfl, rfl⟩
theorem turn_pure {m : Nat} (hm : 600 ≤ m) {H : Hp} {nx : Nat} (x y z u v w : Int) (h : okT x y z u v w) : Pure Try.prog AW m 6 [.agg [.i .i64 x, .i .i64 y, .i .i64 z], .agg [.i .i64 u, .i .i64 v, .i .i64 w]] H nx (.tup [.agg [.i .i64 (pN x y z u v w), .i .i64 (pD x y z u v w)], .i .i64 0]) := by
  refine pure_of (n := 20) (d := m - 21) (U := 30) (fs := fst) (ov := true) (spT_ok (by omega)) spT_aw noLoop_ok (by decide) (by decide) (by omega) (args := [.agg [.i .i64 x, .i .i64 y, .i .i64 z], .agg [.i .i64 u, .i .i64 v, .i .i64 w]]) (M := .l) (snx := 0) ?_ (VSL.cons ⟨_, rfl, VSL.cons rfl (VSL.cons rfl (VSL.cons rfl rfl))⟩ (VSL.cons ⟨_, rfl, VSL.cons rfl (VSL.cons rfl (VSL.cons rfl rfl))⟩ rfl)) hs_empty
  rw [turn_eq]
  unfold pN pD tN tD
  obtain ⟨o1, o2, l1, l2, p0⟩ := h
  unfold tN tD at p0
  rw [decide_eq_true o1, decide_eq_true o2]
  obtain ⟨⟨x0, x1⟩, ⟨y0, y1⟩, ⟨z0, z1⟩, e, l3⟩ := o1
  obtain ⟨⟨u0, u1⟩, ⟨v0, v1⟩, ⟨w0, w1⟩, e', l4⟩ := o2
  simp only [cond_iff, cond_not, InK64, minL_eq, maxL_eq]
  clear e e'
  generalize len3 x y z = L at *
  generalize len3 u v w = G at *
  have b0 := mul_abs (B := 131072) (show -131072 ≤ L by omega) l3 (show -131072 ≤ G by omega) l4
  have b5 : 1 * 1 ≤ L * G := Int.mul_le_mul l1 l2 (by omega) (by omega)
  have b1 := mul_abs x0 x1 u0 u1
  have b2 := mul_abs y0 y1 v0 v1
  have b3 := mul_abs z0 z1 w0 w1
  exact ⟨fun h => by exfalso; revert h; split <;> omega, fun _ => ⟨fun h => by exfalso; revert h; split <;> omega, fun _ => ⟨by omega, by omega, by omega, by omega, by omega, by omega, by omega, by omega, p0, by omega, by omega, by omega, end_t rfl rfl rfl⟩⟩⟩
end Go.Proofs.Ytohpjhplofimjaa
