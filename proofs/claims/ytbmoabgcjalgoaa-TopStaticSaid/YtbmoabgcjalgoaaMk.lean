/-
  Numbers of the kit; holes made of numbers.
-/
import Derived.Test.YtbmoabgcjalgoaaMb
import Derived.Test.YtbmoabgcjalgoaaMa
set_option linter.unusedSimpArgs false
set_option linter.unusedVariables false
set_option maxRecDepth 100000
namespace Go.Proofs.Ytbmoabgcjalgoaa
open Go Go.Rx

noncomputable abbrev fsk : Fs where
  i := fun n ls xs => match n, ls, xs with | 1, [], [a, b] => a % b | 2, [l], [a] => pickI l a | 3, [l], [] => (annK l : Int) | _, _, _ => 0
  b := fun _ _ _ => false
  l := fun n ls xs => match n, ls, xs with | 50, [l], [] => annL l | _, _, _ => []
  rng := rngAt Try.prog
theorem m64_eq (a b : Int) (KK : KS (stdA fsk true)) : sFunc Try.prog 30 (sCall Try.prog 30 (spOf sp0) noLoop 20) noLoop 4 [.i .i64 a, .i .i64 b] .l 0 KK =
  (b ≠ 0 ∧ (cond (decide ((Int.tmod a b) < (0 : Int)))
 (InK .i64 ((Int.tmod a b) + b) ∧ (KK (.i .i64 ((Int.tmod a b) + b)) .l 0 []))
 (KK (.i .i64 (Int.tmod a b)) .l 0 []))) := by kernel_rfl
theorem m64_pure {m : Nat} (hm : 100 ≤ m) {H : Hp} {nx : Nat} (a b : Int) (p1 : (1 : Int) ≤ b) (p2 : b ≤ (9223372036854775807 : Int)) : Pure Try.prog AW m 4 [.i .i64 a, .i .i64 b] H nx (.i .i64 (a % b)) := by
  refine pure_of (n := 20) (d := m - 21) (U := 30) (fs := fsk) (ov := true) sp0_ok sp0_aw noLoop_ok (by decide) (by decide) (by omega) (args := [.i .i64 a, .i .i64 b]) (M := .l) (snx := 0) ?_ (VSL.cons rfl (VSL.cons rfl rfl)) hs_empty
  rw [m64_eq]
  simp only [cond_iff, InK64]
  have e0 := Int.emod_nonneg a (show b ≠ 0 by omega)
  have e1 := Int.emod_lt_of_pos a (show 0 < b by omega)
  rcases tmod_cases a b (by omega) with ⟨e, h⟩ | ⟨h, e⟩
  · exact ⟨by omega, fun h => absurd h (by omega), fun h => end_i (by omega)⟩
  · exact ⟨by omega, fun h => ⟨by omega, end_i (by omega)⟩, fun h => absurd h (by omega)⟩
abbrev m64S {A : Go.Rx.Alg} : List (Go.Rx.SV A) → Go.Rx.SH A → Nat → Go.Rx.KS A → A.R := fun args_ M_ snx_ K_ => match args_ with
  | [.i .i64 a, .i .i64 b] => (A.need .leq (A.lit 1) b (A.need .leq b (A.lit 9223372036854775807) (K_ (.i .i64 (A.app 1 [] [a, b])) M_ snx_ [])))
  | _ => A.fail "m64"
theorem m64S_ok {ov : Bool} {d : Nat} (hd : 100 ≤ d) : SpecOK (fs := fsk) (ov := ov) Try.prog AW d 4 m64S := by
  intro m_ hm_ args_ M_ snx_ K_ h_ ν_ largs_ H_ nx_ ha_ hM_
  unfold m64S at h_
  split at h_
  · rename_i a b
    obtain ⟨y1, r1, rfl, rfl, ⟨y2, r2, rfl, rfl, rfl⟩⟩ := ha_
    obtain ⟨p1, h_⟩ := h_
    obtain ⟨p2, h_⟩ := h_
    exact pure_got (m64_pure (by omega) a b p1 p2) hM_ (v := .i .i64 _) rfl h_
  · exact h_.elim
abbrev spKa {A : Go.Rx.Alg} : Go.Rx.SpL A := [(AW, Go.Rx.awakeS), (4, m64S)]
theorem spKa_ok {ov : Bool} {d : Nat} (hd : 100 ≤ d) : SpOK (fs := fsk) (ov := ov) Try.prog AW d spKa := SpOK.cons awake_ok (SpOK.cons (m64S_ok (by omega)) SpOK.nil)
theorem spKa_aw {fs : Fs} {ov : Bool} : (spOf (A := stdA fs ov) spKa AW).isSome = true := rfl
abbrev spKb {A : Go.Rx.Alg} : Go.Rx.SpL A := [(AW, Go.Rx.awakeS), (4, m64S)]
theorem spKb_ok {ov : Bool} {d : Nat} (hd : 100 ≤ d) : SpOK (fs := fsk) (ov := ov) Try.prog AW d spKb := SpOK.cons awake_ok (SpOK.cons (m64S_ok (by omega)) SpOK.nil)
theorem spKb_aw {fs : Fs} {ov : Bool} : (spOf (A := stdA fs ov) spKb AW).isSome = true := rfl
end Go.Proofs.Ytbmoabgcjalgoaa
