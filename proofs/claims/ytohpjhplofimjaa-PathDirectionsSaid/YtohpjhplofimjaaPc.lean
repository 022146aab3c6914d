/-
  Layer 1: the kit's directions; whole lengths.
-/
import Derived.Test.YtohpjhplofimjaaPa
set_option linter.unusedSimpArgs false
set_option linter.unusedVariables false
namespace Go.Proofs.Ytohpjhplofimjaa
open Go Go.Rx
abbrev fsd : Fs where
  i := fun n ls xs => match n, ls, xs with | 1, [], [a, b] => a % b | 2, [], [n] => isqI n | _, _, _ => 0
  b := fun _ _ _ => false
  l := fun _ _ _ => []
abbrev modS {A : Go.Rx.Alg} : List (Go.Rx.SV A) → Go.Rx.SH A → Nat → Go.Rx.KS A → A.R := fun args M snx KK => match args with
  | [.i .i64 a, .i .i64 b] => A.need .leq (A.lit 1) b (A.need .leq b (A.lit 9223372036854775807) (KK (.i .i64 (A.app 1 [] [a, b])) M snx []))
  | _ => A.fail "mod"
abbrev rootS {A : Go.Rx.Alg} : List (Go.Rx.SV A) → Go.Rx.SH A → Nat → Go.Rx.KS A → A.R := fun args M snx KK => match args with
  | [.i .i64 n] => A.need .leq (A.lit 0) n (A.need .leq n (A.lit 1125899906842624) (KK (.i .i64 (A.app 2 [] [n])) M snx []))
  | _ => A.fail "root"
abbrev spD {A : Go.Rx.Alg} : Go.Rx.SpL A := [(AW, Go.Rx.awakeS), (8, modS), (22, rootS)]
theorem dir_eq (n : Int) (KK : KS (stdA fsd true)) : sFunc Try.prog 30 (sCall Try.prog 30 (spOf spD) noLoop 20) noLoop 4 [.i .i64 n] .l 0 KK =
  ((1 : Int) ≤ (13 : Int) ∧ ((13 : Int) ≤ (9223372036854775807 : Int) ∧ ((0 : Int) ≤ (n % (13 : Int)) ∧ ((n % (13 : Int)) < (13 : Int) ∧ (cond (decide ((n % (13 : Int)) = (0 : Int)))
 ((1 : Int) ≤ (52 : Int) ∧ ((52 : Int) ≤ (9223372036854775807 : Int) ∧ ((13 : Int) ≠ 0 ∧ (InK .i64 (Int.tdiv (n % (52 : Int)) (13 : Int)) ∧ (cond (decide ((Int.tdiv (n % (52 : Int)) (13 : Int)) = (1 : Int)))
 (InK .i64 (0 : Int) ∧ (KK (.agg [(.i .i64 (0 : Int)), (.i .i64 (0 : Int)), (.i .i64 (1 : Int))]) .l 0 []))
 (cond (decide ((Int.tdiv (n % (52 : Int)) (13 : Int)) = (2 : Int)))
 (InK .i64 (0 : Int) ∧ (KK (.agg [(.i .i64 (0 : Int)), (.i .i64 (0 : Int)), (.i .i64 (1 : Int))]) .l 0 []))
 (cond (decide ((Int.tdiv (n % (52 : Int)) (13 : Int)) = (3 : Int)))
 (KK (.agg [(.i .i64 (0 : Int)), (.i .i64 (0 : Int)), (.i .i64 (1 : Int))]) .l 0 [])
 (KK (.agg [(.i .i64 (0 : Int)), (.i .i64 (0 : Int)), (.i .i64 (1 : Int))]) .l 0 []))))))))
 (cond (decide ((n % (13 : Int)) = (1 : Int)))
 ((1 : Int) ≤ (52 : Int) ∧ ((52 : Int) ≤ (9223372036854775807 : Int) ∧ ((13 : Int) ≠ 0 ∧ (InK .i64 (Int.tdiv (n % (52 : Int)) (13 : Int)) ∧ (cond (decide ((Int.tdiv (n % (52 : Int)) (13 : Int)) = (1 : Int)))
 (InK .i64 (0 : Int) ∧ (KK (.agg [(.i .i64 (0 : Int)), (.i .i64 (3 : Int)), (.i .i64 (4 : Int))]) .l 0 []))
 (cond (decide ((Int.tdiv (n % (52 : Int)) (13 : Int)) = (2 : Int)))
 (InK .i64 (-3 : Int) ∧ (KK (.agg [(.i .i64 (0 : Int)), (.i .i64 (-3 : Int)), (.i .i64 (4 : Int))]) .l 0 []))
 (cond (decide ((Int.tdiv (n % (52 : Int)) (13 : Int)) = (3 : Int)))
 (KK (.agg [(.i .i64 (3 : Int)), (.i .i64 (0 : Int)), (.i .i64 (4 : Int))]) .l 0 [])
 (KK (.agg [(.i .i64 (0 : Int)), (.i .i64 (3 : Int)), (.i .i64 (4 : Int))]) .l 0 []))))))))
 (cond (decide ((n % (13 : Int)) = (2 : Int)))
 ((1 : Int) ≤ (52 : Int) ∧ ((52 : Int) ≤ (9223372036854775807 : Int) ∧ ((13 : Int) ≠ 0 ∧ (InK .i64 (Int.tdiv (n % (52 : Int)) (13 : Int)) ∧ (cond (decide ((Int.tdiv (n % (52 : Int)) (13 : Int)) = (1 : Int)))
 (InK .i64 (-3 : Int) ∧ (KK (.agg [(.i .i64 (-3 : Int)), (.i .i64 (0 : Int)), (.i .i64 (4 : Int))]) .l 0 []))
 (cond (decide ((Int.tdiv (n % (52 : Int)) (13 : Int)) = (2 : Int)))
 (InK .i64 (0 : Int) ∧ (KK (.agg [(.i .i64 (3 : Int)), (.i .i64 (0 : Int)), (.i .i64 (4 : Int))]) .l 0 []))
 (cond (decide ((Int.tdiv (n % (52 : Int)) (13 : Int)) = (3 : Int)))
 (KK (.agg [(.i .i64 (0 : Int)), (.i .i64 (3 : Int)), (.i .i64 (4 : Int))]) .l 0 [])
 (KK (.agg [(.i .i64 (3 : Int)), (.i .i64 (0 : Int)), (.i .i64 (4 : Int))]) .l 0 []))))))))
 (cond (decide ((n % (13 : Int)) = (3 : Int)))
 ((1 : Int) ≤ (52 : Int) ∧ ((52 : Int) ≤ (9223372036854775807 : Int) ∧ ((13 : Int) ≠ 0 ∧ (InK .i64 (Int.tdiv (n % (52 : Int)) (13 : Int)) ∧ (cond (decide ((Int.tdiv (n % (52 : Int)) (13 : Int)) = (1 : Int)))
 (InK .i64 (-1 : Int) ∧ (KK (.agg [(.i .i64 (-1 : Int)), (.i .i64 (2 : Int)), (.i .i64 (2 : Int))]) .l 0 []))
 (cond (decide ((Int.tdiv (n % (52 : Int)) (13 : Int)) = (2 : Int)))
 (InK .i64 (-2 : Int) ∧ (KK (.agg [(.i .i64 (1 : Int)), (.i .i64 (-2 : Int)), (.i .i64 (2 : Int))]) .l 0 []))
 (cond (decide ((Int.tdiv (n % (52 : Int)) (13 : Int)) = (3 : Int)))
 (KK (.agg [(.i .i64 (2 : Int)), (.i .i64 (1 : Int)), (.i .i64 (2 : Int))]) .l 0 [])
 (KK (.agg [(.i .i64 (1 : Int)), (.i .i64 (2 : Int)), (.i .i64 (2 : Int))]) .l 0 []))))))))
 (cond (decide ((n % (13 : Int)) = (4 : Int)))
 ((1 : Int) ≤ (52 : Int) ∧ ((52 : Int) ≤ (9223372036854775807 : Int) ∧ ((13 : Int) ≠ 0 ∧ (InK .i64 (Int.tdiv (n % (52 : Int)) (13 : Int)) ∧ (cond (decide ((Int.tdiv (n % (52 : Int)) (13 : Int)) = (1 : Int)))
 (InK .i64 (-2 : Int) ∧ (KK (.agg [(.i .i64 (-2 : Int)), (.i .i64 (3 : Int)), (.i .i64 (6 : Int))]) .l 0 []))
 (cond (decide ((Int.tdiv (n % (52 : Int)) (13 : Int)) = (2 : Int)))
 (InK .i64 (-3 : Int) ∧ (KK (.agg [(.i .i64 (2 : Int)), (.i .i64 (-3 : Int)), (.i .i64 (6 : Int))]) .l 0 []))
 (cond (decide ((Int.tdiv (n % (52 : Int)) (13 : Int)) = (3 : Int)))
 (KK (.agg [(.i .i64 (3 : Int)), (.i .i64 (2 : Int)), (.i .i64 (6 : Int))]) .l 0 [])
 (KK (.agg [(.i .i64 (2 : Int)), (.i .i64 (3 : Int)), (.i .i64 (6 : Int))]) .l 0 []))))))))
 (cond (decide ((n % (13 : Int)) = (5 : Int)))
 ((1 : Int) ≤ (52 : Int) ∧ ((52 : Int) ≤ (9223372036854775807 : Int) ∧ ((13 : Int) ≠ 0 ∧ (InK .i64 (Int.tdiv (n % (52 : Int)) (13 : Int)) ∧ (cond (decide ((Int.tdiv (n % (52 : Int)) (13 : Int)) = (1 : Int)))
 (InK .i64 (-1 : Int) ∧ (KK (.agg [(.i .i64 (-1 : Int)), (.i .i64 (4 : Int)), (.i .i64 (8 : Int))]) .l 0 []))
 (cond (decide ((Int.tdiv (n % (52 : Int)) (13 : Int)) = (2 : Int)))
 (InK .i64 (-4 : Int) ∧ (KK (.agg [(.i .i64 (1 : Int)), (.i .i64 (-4 : Int)), (.i .i64 (8 : Int))]) .l 0 []))
 (cond (decide ((Int.tdiv (n % (52 : Int)) (13 : Int)) = (3 : Int)))
 (KK (.agg [(.i .i64 (4 : Int)), (.i .i64 (1 : Int)), (.i .i64 (8 : Int))]) .l 0 [])
 (KK (.agg [(.i .i64 (1 : Int)), (.i .i64 (4 : Int)), (.i .i64 (8 : Int))]) .l 0 []))))))))
 (cond (decide ((n % (13 : Int)) = (6 : Int)))
 ((1 : Int) ≤ (52 : Int) ∧ ((52 : Int) ≤ (9223372036854775807 : Int) ∧ ((13 : Int) ≠ 0 ∧ (InK .i64 (Int.tdiv (n % (52 : Int)) (13 : Int)) ∧ (cond (decide ((Int.tdiv (n % (52 : Int)) (13 : Int)) = (1 : Int)))
 (InK .i64 (-4 : Int) ∧ (KK (.agg [(.i .i64 (-4 : Int)), (.i .i64 (4 : Int)), (.i .i64 (7 : Int))]) .l 0 []))
 (cond (decide ((Int.tdiv (n % (52 : Int)) (13 : Int)) = (2 : Int)))
 (InK .i64 (-4 : Int) ∧ (KK (.agg [(.i .i64 (4 : Int)), (.i .i64 (-4 : Int)), (.i .i64 (7 : Int))]) .l 0 []))
 (cond (decide ((Int.tdiv (n % (52 : Int)) (13 : Int)) = (3 : Int)))
 (KK (.agg [(.i .i64 (4 : Int)), (.i .i64 (4 : Int)), (.i .i64 (7 : Int))]) .l 0 [])
 (KK (.agg [(.i .i64 (4 : Int)), (.i .i64 (4 : Int)), (.i .i64 (7 : Int))]) .l 0 []))))))))
 (cond (decide ((n % (13 : Int)) = (7 : Int)))
 ((1 : Int) ≤ (52 : Int) ∧ ((52 : Int) ≤ (9223372036854775807 : Int) ∧ ((13 : Int) ≠ 0 ∧ (InK .i64 (Int.tdiv (n % (52 : Int)) (13 : Int)) ∧ (cond (decide ((Int.tdiv (n % (52 : Int)) (13 : Int)) = (1 : Int)))
 (InK .i64 (-2 : Int) ∧ (KK (.agg [(.i .i64 (-2 : Int)), (.i .i64 (6 : Int)), (.i .i64 (9 : Int))]) .l 0 []))
 (cond (decide ((Int.tdiv (n % (52 : Int)) (13 : Int)) = (2 : Int)))
 (InK .i64 (-6 : Int) ∧ (KK (.agg [(.i .i64 (2 : Int)), (.i .i64 (-6 : Int)), (.i .i64 (9 : Int))]) .l 0 []))
 (cond (decide ((Int.tdiv (n % (52 : Int)) (13 : Int)) = (3 : Int)))
 (KK (.agg [(.i .i64 (6 : Int)), (.i .i64 (2 : Int)), (.i .i64 (9 : Int))]) .l 0 [])
 (KK (.agg [(.i .i64 (2 : Int)), (.i .i64 (6 : Int)), (.i .i64 (9 : Int))]) .l 0 []))))))))
 (cond (decide ((n % (13 : Int)) = (8 : Int)))
 ((1 : Int) ≤ (52 : Int) ∧ ((52 : Int) ≤ (9223372036854775807 : Int) ∧ ((13 : Int) ≠ 0 ∧ (InK .i64 (Int.tdiv (n % (52 : Int)) (13 : Int)) ∧ (cond (decide ((Int.tdiv (n % (52 : Int)) (13 : Int)) = (1 : Int)))
 (InK .i64 (0 : Int) ∧ (KK (.agg [(.i .i64 (0 : Int)), (.i .i64 (5 : Int)), (.i .i64 (12 : Int))]) .l 0 []))
 (cond (decide ((Int.tdiv (n % (52 : Int)) (13 : Int)) = (2 : Int)))
 (InK .i64 (-5 : Int) ∧ (KK (.agg [(.i .i64 (0 : Int)), (.i .i64 (-5 : Int)), (.i .i64 (12 : Int))]) .l 0 []))
 (cond (decide ((Int.tdiv (n % (52 : Int)) (13 : Int)) = (3 : Int)))
 (KK (.agg [(.i .i64 (5 : Int)), (.i .i64 (0 : Int)), (.i .i64 (12 : Int))]) .l 0 [])
 (KK (.agg [(.i .i64 (0 : Int)), (.i .i64 (5 : Int)), (.i .i64 (12 : Int))]) .l 0 []))))))))
 (cond (decide ((n % (13 : Int)) = (9 : Int)))
 ((1 : Int) ≤ (52 : Int) ∧ ((52 : Int) ≤ (9223372036854775807 : Int) ∧ ((13 : Int) ≠ 0 ∧ (InK .i64 (Int.tdiv (n % (52 : Int)) (13 : Int)) ∧ (cond (decide ((Int.tdiv (n % (52 : Int)) (13 : Int)) = (1 : Int)))
 (InK .i64 (0 : Int) ∧ (KK (.agg [(.i .i64 (0 : Int)), (.i .i64 (7 : Int)), (.i .i64 (24 : Int))]) .l 0 []))
 (cond (decide ((Int.tdiv (n % (52 : Int)) (13 : Int)) = (2 : Int)))
 (InK .i64 (-7 : Int) ∧ (KK (.agg [(.i .i64 (0 : Int)), (.i .i64 (-7 : Int)), (.i .i64 (24 : Int))]) .l 0 []))
 (cond (decide ((Int.tdiv (n % (52 : Int)) (13 : Int)) = (3 : Int)))
 (KK (.agg [(.i .i64 (7 : Int)), (.i .i64 (0 : Int)), (.i .i64 (24 : Int))]) .l 0 [])
 (KK (.agg [(.i .i64 (0 : Int)), (.i .i64 (7 : Int)), (.i .i64 (24 : Int))]) .l 0 []))))))))
 (cond (decide ((n % (13 : Int)) = (10 : Int)))
 ((1 : Int) ≤ (52 : Int) ∧ ((52 : Int) ≤ (9223372036854775807 : Int) ∧ ((13 : Int) ≠ 0 ∧ (InK .i64 (Int.tdiv (n % (52 : Int)) (13 : Int)) ∧ (cond (decide ((Int.tdiv (n % (52 : Int)) (13 : Int)) = (1 : Int)))
 (InK .i64 (-6 : Int) ∧ (KK (.agg [(.i .i64 (-6 : Int)), (.i .i64 (6 : Int)), (.i .i64 (7 : Int))]) .l 0 []))
 (cond (decide ((Int.tdiv (n % (52 : Int)) (13 : Int)) = (2 : Int)))
 (InK .i64 (-6 : Int) ∧ (KK (.agg [(.i .i64 (6 : Int)), (.i .i64 (-6 : Int)), (.i .i64 (7 : Int))]) .l 0 []))
 (cond (decide ((Int.tdiv (n % (52 : Int)) (13 : Int)) = (3 : Int)))
 (KK (.agg [(.i .i64 (6 : Int)), (.i .i64 (6 : Int)), (.i .i64 (7 : Int))]) .l 0 [])
 (KK (.agg [(.i .i64 (6 : Int)), (.i .i64 (6 : Int)), (.i .i64 (7 : Int))]) .l 0 []))))))))
 (cond (decide ((n % (13 : Int)) = (11 : Int)))
 ((1 : Int) ≤ (52 : Int) ∧ ((52 : Int) ≤ (9223372036854775807 : Int) ∧ ((13 : Int) ≠ 0 ∧ (InK .i64 (Int.tdiv (n % (52 : Int)) (13 : Int)) ∧ (cond (decide ((Int.tdiv (n % (52 : Int)) (13 : Int)) = (1 : Int)))
 (InK .i64 (-1 : Int) ∧ (KK (.agg [(.i .i64 (-1 : Int)), (.i .i64 (0 : Int)), (.i .i64 (0 : Int))]) .l 0 []))
 (cond (decide ((Int.tdiv (n % (52 : Int)) (13 : Int)) = (2 : Int)))
 (InK .i64 (0 : Int) ∧ (KK (.agg [(.i .i64 (1 : Int)), (.i .i64 (0 : Int)), (.i .i64 (0 : Int))]) .l 0 []))
 (cond (decide ((Int.tdiv (n % (52 : Int)) (13 : Int)) = (3 : Int)))
 (KK (.agg [(.i .i64 (0 : Int)), (.i .i64 (1 : Int)), (.i .i64 (0 : Int))]) .l 0 [])
 (KK (.agg [(.i .i64 (1 : Int)), (.i .i64 (0 : Int)), (.i .i64 (0 : Int))]) .l 0 []))))))))
 ((1 : Int) ≤ (52 : Int) ∧ ((52 : Int) ≤ (9223372036854775807 : Int) ∧ ((13 : Int) ≠ 0 ∧ (InK .i64 (Int.tdiv (n % (52 : Int)) (13 : Int)) ∧ (cond (decide ((Int.tdiv (n % (52 : Int)) (13 : Int)) = (1 : Int)))
 (InK .i64 (0 : Int) ∧ (KK (.agg [(.i .i64 (0 : Int)), (.i .i64 (4 : Int)), (.i .i64 (-3 : Int))]) .l 0 []))
 (cond (decide ((Int.tdiv (n % (52 : Int)) (13 : Int)) = (2 : Int)))
 (InK .i64 (-4 : Int) ∧ (KK (.agg [(.i .i64 (0 : Int)), (.i .i64 (-4 : Int)), (.i .i64 (-3 : Int))]) .l 0 []))
 (cond (decide ((Int.tdiv (n % (52 : Int)) (13 : Int)) = (3 : Int)))
 (KK (.agg [(.i .i64 (4 : Int)), (.i .i64 (0 : Int)), (.i .i64 (-3 : Int))]) .l 0 [])
 (KK (.agg [(.i .i64 (0 : Int)), (.i .i64 (4 : Int)), (.i .i64 (-3 : Int))]) .l 0 [])))))))))))))))))))))))) := by kernel_rfl
theorem wl_eq (x y z : Int) (KK : KS (stdA fsd true)) : sFunc Try.prog 30 (sCall Try.prog 30 (spOf spD) noLoop 20) noLoop 9 [.agg [.i .i64 x, .i .i64 y, .i .i64 z]] .l 0 KK =
  (cond (decide ((-16777216 : Int) ≤ x))
 (cond (decide (x ≤ (16777216 : Int)))
 (cond (decide ((-16777216 : Int) ≤ y))
 (cond (decide (y ≤ (16777216 : Int)))
 (cond (decide ((-16777216 : Int) ≤ z))
 (cond (!(decide (z ≤ (16777216 : Int))))
 (KK (.tup [(.i .i64 (0 : Int)), (.b false)]) .l 0 [])
 (InK .i64 (x * x) ∧ (InK .i64 (y * y) ∧ (InK .i64 ((x * x) + (y * y)) ∧ (InK .i64 (z * z) ∧ (InK .i64 (((x * x) + (y * y)) + (z * z)) ∧ (cond (decide ((((x * x) + (y * y)) + (z * z)) < (0 : Int)))
 (KK (.tup [(.i .i64 (0 : Int)), (.b false)]) .l 0 [])
 (cond (decide ((((x * x) + (y * y)) + (z * z)) > (1125899906842624 : Int)))
 (KK (.tup [(.i .i64 (0 : Int)), (.b false)]) .l 0 [])
 ((0 : Int) ≤ (((x * x) + (y * y)) + (z * z)) ∧ ((((x * x) + (y * y)) + (z * z)) ≤ (1125899906842624 : Int) ∧ (InK .i64 ((isqI (((x * x) + (y * y)) + (z * z))) * (isqI (((x * x) + (y * y)) + (z * z)))) ∧ (cond (decide (((isqI (((x * x) + (y * y)) + (z * z))) * (isqI (((x * x) + (y * y)) + (z * z)))) ≠ (((x * x) + (y * y)) + (z * z))))
 (KK (.tup [(.i .i64 (0 : Int)), (.b false)]) .l 0 [])
 (KK (.tup [(.i .i64 (isqI (((x * x) + (y * y)) + (z * z)))), (.b true)]) .l 0 [])))))))))))))
 (KK (.tup [(.i .i64 (0 : Int)), (.b false)]) .l 0 []))
 (KK (.tup [(.i .i64 (0 : Int)), (.b false)]) .l 0 []))
 (KK (.tup [(.i .i64 (0 : Int)), (.b false)]) .l 0 []))
 (KK (.tup [(.i .i64 (0 : Int)), (.b false)]) .l 0 []))
 (KK (.tup [(.i .i64 (0 : Int)), (.b false)]) .l 0 [])) := by kernel_rfl
theorem modS_ok {fs : Fs} {ov : Bool} {d g : Nat} (hf : ∀ a b, fs.i 1 [] [a, b] = a % b) (hp : ∀ m, d ≤ m → ∀ H nx (a b : Int), 1 ≤ b → b ≤ 9223372036854775807 → Pure Try.prog AW m g [.i .i64 a, .i .i64 b] H nx (.i .i64 (a % b))) : SpecOK (fs := fs) (ov := ov) Try.prog AW d g modS := by
  intro m hm args M snx K h ν largs H nx ha hM
  unfold modS at h
  split at h
  · obtain ⟨h1, h2, h⟩ := h
    obtain ⟨x, r, rfl, rfl, y, r2, rfl, rfl, rfl⟩ := ha
    exact pure_got (hp m hm _ _ _ _ h1 h2) hM (v := .i .i64 _) (by show LV.i _ _ = LV.i _ _; rw [← hf]) h
  · exact h.elim
theorem spD_ok {ov : Bool} {d : Nat} (hd : 300 ≤ d) : SpOK (fs := fsd) (ov := ov) Try.prog AW d spD := by
  refine SpOK.cons awake_ok (SpOK.cons (modS_ok (fun _ _ => rfl) fun m hm _ _ a b h1 h2 => mod_pure (by omega) a b h1 h2) (SpOK.cons ?_ SpOK.nil))
  intro m hm args M snx K h ν largs H nx ha hM
  unfold rootS at h
  split at h
  · obtain ⟨h1, h2, h⟩ := h
    obtain ⟨x, r, rfl, rfl, rfl⟩ := ha
    exact pure_got (root_pure (by omega) _ h1 h2) hM (v := .i .i64 _) rfl h
  · exact h.elim
theorem spD_aw {fs : Fs} {ov : Bool} : (spOf (A := stdA fs ov) spD AW).isSome = true := rfl
theorem end_iii {fs : Fs} {ov : Bool} {k : IntKind} {x y z x' y' z' : Int} {n : Nat} {M : SH (stdA fs ov)} (h : x = x') (h' : y = y') (h2 : z = z') : doneK (fs := fs) (ov := ov) (.agg [.i k x', .i k y', .i k z']) n (.agg [.i k x, .i k y, .i k z]) M n [] :=
  ⟨fun _ _ hv => by obtain ⟨l, rfl, a, r, rfl, rfl, a2, r2, rfl, rfl, a3, r3, rfl, rfl, rfl⟩ := hv; rw [h, h', h2], rfl, rfl⟩
theorem dir_pure {m : Nat} (hm : 400 ≤ m) {H : Hp} {nx : Nat} (n : Int) : Pure Try.prog AW m 4 [.i .i64 n] H nx (.agg [.i .i64 (dirX n), .i .i64 (dirY n), .i .i64 (dirZ n)]) := by
  refine pure_of (n := 20) (d := m - 21) (U := 30) (fs := fsd) (ov := true) (spD_ok (by omega)) spD_aw noLoop_ok (by decide) (by decide) (by omega) (args := [.i .i64 n]) (M := .l) (snx := 0) ?_ (VSL.cons rfl rfl) hs_empty
  rw [dir_eq]
  unfold dirX dirY dirZ
  obtain ⟨q, hq⟩ : ∃ q, q = Int.tdiv (n % 52) 13 := ⟨_, rfl⟩
  obtain ⟨j, hj⟩ : ∃ j, j = n % 13 := ⟨_, rfl⟩
  have hq' := hq
  rw [Int.tdiv_eq_ediv_of_nonneg (by omega)] at hq'
  rw [← hq, ← hj]
  have q0 : 0 ≤ q := by omega
  have q1 : q ≤ 3 := by omega
  have j0 : 0 ≤ j := by omega
  have j1 : j ≤ 12 := by omega
  clear hq hj hq'
  have jj : j = 0 ∨ j = 1 ∨ j = 2 ∨ j = 3 ∨ j = 4 ∨ j = 5 ∨ j = 6 ∨ j = 7 ∨ j = 8 ∨ j = 9 ∨ j = 10 ∨ j = 11 ∨ j = 12 := by omega
  have qq : q = 0 ∨ q = 1 ∨ q = 2 ∨ q = 3 := by omega
  rcases jj with rfl | rfl | rfl | rfl | rfl | rfl | rfl | rfl | rfl | rfl | rfl | rfl | rfl <;> rcases qq with rfl | rfl | rfl | rfl <;> (repeat' (first | apply And.intro | exact end_iii (by decide) (by decide) (by decide) | decide))
theorem wl_pure {m : Nat} (hm : 400 ≤ m) {H : Hp} {nx : Nat} (x y z : Int) (h : okV x y z) : Pure Try.prog AW m 9 [.agg [.i .i64 x, .i .i64 y, .i .i64 z]] H nx (.tup [.i .i64 (len3 x y z), .b true]) := by
  refine pure_of (n := 20) (d := m - 21) (U := 30) (fs := fsd) (ov := true) (spD_ok (by omega)) spD_aw noLoop_ok (by decide) (by decide) (by omega) (args := [.agg [.i .i64 x, .i .i64 y, .i .i64 z]]) (M := .l) (snx := 0) ?_ (VSL.cons ⟨_, rfl, VSL.cons rfl (VSL.cons rfl (VSL.cons rfl rfl))⟩ rfl) hs_empty
  rw [wl_eq]
  simp only [cond_iff, cond_not, InK64]
  obtain ⟨⟨x0, x1⟩, ⟨y0, y1⟩, ⟨z0, z1⟩, e, l1⟩ := h
  have l0 := len3_nonneg x y z
  have b2 : len3 x y z * len3 x y z ≤ 131072 * 131072 := sq_le l0 l1
  have sx : 0 ≤ x * x := by rcases Int.le_total 0 x with h | h; exact Int.mul_nonneg h h; exact Int.mul_nonneg_of_nonpos_of_nonpos h h
  have sy : 0 ≤ y * y := by rcases Int.le_total 0 y with h | h; exact Int.mul_nonneg h h; exact Int.mul_nonneg_of_nonpos_of_nonpos h h
  have sz : 0 ≤ z * z := by rcases Int.le_total 0 z with h | h; exact Int.mul_nonneg h h; exact Int.mul_nonneg_of_nonpos_of_nonpos h h
  unfold len3 at *
  repeat' (first | apply And.intro | intro _)
  all_goals first
    | trivial
    | omega
    | (exfalso; omega)
    | exact end_ib rfl rfl
end Go.Proofs.Ytohpjhplofimjaa
