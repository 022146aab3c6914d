/-
  Layer 3: gas, cuttings and mud by both sides.
-/
import Derived.Test.YtgjnkdedknpniaaFa
set_option linter.unusedSimpArgs false
set_option linter.unusedVariables false
namespace Go.Proofs.Ytgjnkdedknpniaa
open Go Go.Rx

abbrev fs1 : Fs where
  i := fun n ls xs => match n, ls, xs with | 1, [], [a, b] => a / b | 2, [], [a, b] => cdiv a b | _, _, _ => 0
  b := fun _ _ _ => false
  l := fun _ _ _ => []
abbrev downS {A : Go.Rx.Alg} : List (Go.Rx.SV A) → Go.Rx.SH A → Nat → Go.Rx.KS A → A.R := fun args M snx K => match args with
  | [.i .i64 a, .i .i64 b] => A.need .leq (A.lit (-9223372036854775808)) a (A.need .leq a (A.lit 9223372036854775807) (A.need .leq (A.lit 1) b (K (.i .i64 (A.app 1 [] [a, b])) M snx [])))
  | _ => A.fail "down"
abbrev upS {A : Go.Rx.Alg} : List (Go.Rx.SV A) → Go.Rx.SH A → Nat → Go.Rx.KS A → A.R := fun args M snx K => match args with
  | [.i .i64 a, .i .i64 b] => A.need .leq (A.lit (-9223372036854775808)) a (A.need .leq a (A.lit 9223372036854775806) (A.need .leq (A.lit 1) b (K (.i .i64 (A.app 2 [] [a, b])) M snx [])))
  | _ => A.fail "up"
abbrev rupS {A : Go.Rx.Alg} : List (Go.Rx.SV A) → Go.Rx.SH A → Nat → Go.Rx.KS A → A.R := fun args M snx K => match args with
  | [.i .i64 a, .i .i64 b] => A.need .leq (A.lit 0) a (A.need .leq a (A.lit 4611686018427387903) (A.need .leq (A.lit 1) b (A.need .leq b (A.lit 4611686018427387904) (K (.i .i64 (A.app 2 [] [a, b])) M snx []))))
  | _ => A.fail "rup"
abbrev sp1 {A : Go.Rx.Alg} : Go.Rx.SpL A := [(AW, Go.Rx.awakeS), (65, downS), (66, upS), (67, rupS)]
theorem sp1_ok {ov : Bool} {d : Nat} (hd : 100 ≤ d) : SpOK (fs := fs1) (ov := ov) Try.prog AW d sp1 := by
  refine SpOK.cons awake_ok (SpOK.cons ?_ (SpOK.cons ?_ (SpOK.cons ?_ SpOK.nil)))
  · intro m hm args M snx K h ν largs H nx ha hM
    unfold downS at h
    split at h
    · obtain ⟨h1, h2, h3, h4⟩ := h
      obtain ⟨x, r, rfl, rfl, y, r2, rfl, rfl, rfl⟩ := ha
      exact pure_got (down_pure (by omega) _ _ h1 h2 h3) hM (v := .i .i64 _) rfl h4
    · exact h.elim
  · intro m hm args M snx K h ν largs H nx ha hM
    unfold upS at h
    split at h
    · obtain ⟨h1, h2, h3, h4⟩ := h
      obtain ⟨x, r, rfl, rfl, y, r2, rfl, rfl, rfl⟩ := ha
      exact pure_got (up_pure (by omega) _ _ h1 h2 h3) hM (v := .i .i64 _) rfl h4
    · exact h.elim
  · intro m hm args M snx K h ν largs H nx ha hM
    unfold rupS at h
    split at h
    · rename_i a b
      obtain ⟨h1, h2, h3, h5, h4⟩ := h
      obtain ⟨x, r, rfl, rfl, y, r2, rfl, rfl, rfl⟩ := ha
      have h1 : (0 : Int) ≤ a := h1
      have h2 : @LE.le Int _ a 4611686018427387903 := h2
      have h3 : (1 : Int) ≤ b := h3
      have h5 : @LE.le Int _ b 4611686018427387904 := h5
      exact pure_got (rup_pure (by omega) _ _ h1 (by omega) h3) hM (v := .i .i64 _) rfl h4
    · exact h.elim
theorem sp1_aw {fs : Fs} {ov : Bool} : (spOf (A := stdA fs ov) sp1 AW).isSome = true := rfl
theorem free_eq (K P p : Int) (KK : KS (stdA fs0 true)) : sFunc Try.prog 30 (sCall Try.prog 30 (spOf sp0) noLoop 20) noLoop 35 [.agg [.i .i64 K, .i .i64 P], .i .i64 p] .l 0 KK =
  (cond (decide (K ≥ (0 : Int)))
 (cond (decide (K ≤ (1152921504606846976 : Int)))
 (cond (decide (P ≥ (0 : Int)))
 (cond (decide (P ≤ (1099511627776 : Int)))
 (cond (decide (p ≥ (1 : Int)))
 (cond (!(decide (p ≤ (68719476736 : Int))))
 (KK (.i .i64 (0 : Int)) .l 0 [])
 ((1048576 : Int) ≠ 0 ∧ (InK .i64 (Int.tdiv p (1048576 : Int)) ∧ (InK .i64 (P * (Int.tdiv p (1048576 : Int))) ∧ (InK .i64 (K - (P * (Int.tdiv p (1048576 : Int)))) ∧ (KK (.i .i64 (maxL (0 : Int) (K - (P * (Int.tdiv p (1048576 : Int)))))) .l 0 []))))))
 (KK (.i .i64 (0 : Int)) .l 0 []))
 (KK (.i .i64 (0 : Int)) .l 0 []))
 (KK (.i .i64 (0 : Int)) .l 0 []))
 (KK (.i .i64 (0 : Int)) .l 0 []))
 (KK (.i .i64 (0 : Int)) .l 0 [])) := by kernel_rfl
theorem rfree_eq (K P p : Int) (KK : KS (stdA fs0 true)) : sFunc Try.prog 30 (sCall Try.prog 30 (spOf sp0) noLoop 20) noLoop 36 [.agg [.i .i64 K, .i .i64 P], .i .i64 p] .l 0 KK =
  (cond (decide (K ≥ (0 : Int)))
 (cond (decide (K ≤ (1152921504606846976 : Int)))
 (cond (decide (P ≥ (0 : Int)))
 (cond (!(decide (P ≤ (1099511627776 : Int))))
 (KK (.i .i64 (0 : Int)) .l 0 [])
 (cond (decide (p < (1 : Int)))
 (KK (.i .i64 (0 : Int)) .l 0 [])
 (cond (decide (p > (68719476736 : Int)))
 (KK (.i .i64 (0 : Int)) .l 0 [])
 (0 ≤ (20 : Int) ∧ (InK .i64 (P * (Int.fdiv p 1048576)) ∧ (InK .i64 (K - (P * (Int.fdiv p 1048576))) ∧ (KK (.i .i64 (maxL (0 : Int) (K - (P * (Int.fdiv p 1048576))))) .l 0 [])))))))
 (KK (.i .i64 (0 : Int)) .l 0 []))
 (KK (.i .i64 (0 : Int)) .l 0 []))
 (KK (.i .i64 (0 : Int)) .l 0 [])) := by kernel_rfl
theorem mixed_eq (w r l : Int) (KK : KS (stdA fs1 true)) : sFunc Try.prog 30 (sCall Try.prog 30 (spOf sp1) noLoop 20) noLoop 41 [.i .i64 w, .i .i64 r, .i .i64 l] .l 0 KK =
  (cond (decide (w ≥ (0 : Int)))
 (cond (!(decide (w ≤ (40000 : Int))))
 (KK (.i .i64 (0 : Int)) .l 0 [])
 (cond (decide (r ≥ (0 : Int)))
 (cond (!(decide (r ≤ (40000 : Int))))
 (KK (.i .i64 (0 : Int)) .l 0 [])
 (cond (decide (l < (0 : Int)))
 (KK (.i .i64 (0 : Int)) .l 0 [])
 (cond (decide (l > (1000 : Int)))
 (KK (.i .i64 (0 : Int)) .l 0 [])
 (InK .i64 (r - w) ∧ (InK .i64 ((r - w) * l) ∧ ((-9223372036854775808 : Int) ≤ ((r - w) * l) ∧ (((r - w) * l) ≤ (9223372036854775806 : Int) ∧ ((1 : Int) ≤ (1000 : Int) ∧ (InK .i64 (w + (cdiv ((r - w) * l) (1000 : Int))) ∧ (KK (.i .i64 (w + (cdiv ((r - w) * l) (1000 : Int)))) .l 0 []))))))))))
 (KK (.i .i64 (0 : Int)) .l 0 [])))
 (KK (.i .i64 (0 : Int)) .l 0 [])) := by kernel_rfl
theorem rmixed_eq (w r l : Int) (KK : KS (stdA fs1 true)) : sFunc Try.prog 30 (sCall Try.prog 30 (spOf sp1) noLoop 20) noLoop 42 [.i .i64 w, .i .i64 r, .i .i64 l] .l 0 KK =
  (cond (decide (w < (0 : Int)))
 (KK (.i .i64 (0 : Int)) .l 0 [])
 (cond (decide (w > (40000 : Int)))
 (KK (.i .i64 (0 : Int)) .l 0 [])
 (cond (decide (r < (0 : Int)))
 (KK (.i .i64 (0 : Int)) .l 0 [])
 (cond (decide (r > (40000 : Int)))
 (KK (.i .i64 (0 : Int)) .l 0 [])
 (cond (decide (l < (0 : Int)))
 (KK (.i .i64 (0 : Int)) .l 0 [])
 (cond (decide (l > (1000 : Int)))
 (KK (.i .i64 (0 : Int)) .l 0 [])
 (InK .i64 ((1000 : Int) * w) ∧ (InK .i64 (r - w) ∧ (InK .i64 ((r - w) * l) ∧ (InK .i64 (((1000 : Int) * w) + ((r - w) * l)) ∧ ((0 : Int) ≤ (((1000 : Int) * w) + ((r - w) * l)) ∧ ((((1000 : Int) * w) + ((r - w) * l)) ≤ (4611686018427387903 : Int) ∧ ((1 : Int) ≤ (1000 : Int) ∧ ((1000 : Int) ≤ (4611686018427387904 : Int) ∧ (KK (.i .i64 (cdiv (((1000 : Int) * w) + ((r - w) * l)) (1000 : Int))) .l 0 []))))))))))))))) := by kernel_rfl
theorem load_eq (a b c e feed flow slip : Int) (KK : KS (stdA fs1 true)) : sFunc Try.prog 30 (sCall Try.prog 30 (spOf sp1) noLoop 20) noLoop 39 [.agg [.i .i64 a, .i .i64 b, .i .i64 c, .i .i64 e], .i .i64 feed, .i .i64 flow, .i .i64 slip] .l 0 KK =
  ((0 : Int) ≤ (0 : Int) ∧ ((0 : Int) < (1 : Int) ∧ (cond (decide (a < (1 : Int)))
 (KK (.tup [(.i .i64 (0 : Int)), (.b false)]) .l 0 [])
 (cond (decide (b < (0 : Int)))
 (KK (.tup [(.i .i64 (0 : Int)), (.b false)]) .l 0 [])
 (cond (decide (b > a))
 (KK (.tup [(.i .i64 (0 : Int)), (.b false)]) .l 0 [])
 (cond (decide (c < (1 : Int)))
 (KK (.tup [(.i .i64 (0 : Int)), (.b false)]) .l 0 [])
 (cond (decide (c > (5000 : Int)))
 (KK (.tup [(.i .i64 (0 : Int)), (.b false)]) .l 0 [])
 (cond (decide (e < (1 : Int)))
 (KK (.tup [(.i .i64 (0 : Int)), (.b false)]) .l 0 [])
 (cond (decide (e > (200 : Int)))
 (KK (.tup [(.i .i64 (0 : Int)), (.b false)]) .l 0 [])
 (InK .i64 (1 : Int) ∧ ((0 : Int) ≤ (0 : Int) ∧ ((0 : Int) < (1 : Int) ∧ (cond (decide (a > (1048576 : Int)))
 (KK (.tup [(.i .i64 (0 : Int)), (.b false)]) .l 0 [])
 (InK .i64 ((1048576 : Int) - a) ∧ (InK .i64 (1 : Int) ∧ (cond (decide (feed ≥ (0 : Int)))
 (cond (!(decide (feed ≤ (1000000 : Int))))
 (KK (.tup [(.i .i64 (0 : Int)), (.b false)]) .l 0 [])
 (cond (decide (flow ≥ (0 : Int)))
 (cond (!(decide (flow ≤ (1000000 : Int))))
 (KK (.tup [(.i .i64 (0 : Int)), (.b false)]) .l 0 [])
 (cond (decide (slip < (0 : Int)))
 (KK (.tup [(.i .i64 (0 : Int)), (.b false)]) .l 0 [])
 (cond (decide (slip > (1000 : Int)))
 (KK (.tup [(.i .i64 (0 : Int)), (.b false)]) .l 0 [])
 (InK .i64 (slip * c) ∧ (InK .i64 (flow - (slip * c)) ∧ (cond (decide ((flow - (slip * c)) ≤ (0 : Int)))
 (KK (.tup [(.i .i64 (0 : Int)), (.b false)]) .l 0 [])
 (InK .i64 ((1000 : Int) * feed) ∧ ((-9223372036854775808 : Int) ≤ ((1000 : Int) * feed) ∧ (((1000 : Int) * feed) ≤ (9223372036854775806 : Int) ∧ ((1 : Int) ≤ (flow - (slip * c)) ∧ (KK (.tup [(.i .i64 (minL (1000 : Int) (cdiv ((1000 : Int) * feed) (flow - (slip * c))))), (.b true)]) .l 0 [])))))))))))
 (KK (.tup [(.i .i64 (0 : Int)), (.b false)]) .l 0 [])))
 (KK (.tup [(.i .i64 (0 : Int)), (.b false)]) .l 0 []))))))))))))))))) := by kernel_rfl
theorem rload_eq (a b c e feed flow slip : Int) (KK : KS (stdA fs1 true)) : sFunc Try.prog 30 (sCall Try.prog 30 (spOf sp1) noLoop 20) noLoop 40 [.agg [.i .i64 a, .i .i64 b, .i .i64 c, .i .i64 e], .i .i64 feed, .i .i64 flow, .i .i64 slip] .l 0 KK =
  (cond (decide (a ≥ (1 : Int)))
 (cond (decide (a ≤ (1048576 : Int)))
 (cond (decide (b ≥ (0 : Int)))
 (cond (decide (b ≤ a))
 (cond (decide (c ≥ (1 : Int)))
 (cond (decide (c ≤ (5000 : Int)))
 (cond (decide (e ≥ (1 : Int)))
 (cond (!(decide (e ≤ (200 : Int))))
 (KK (.tup [(.i .i64 (0 : Int)), (.b false)]) .l 0 [])
 (cond (decide (feed < (0 : Int)))
 (KK (.tup [(.i .i64 (0 : Int)), (.b false)]) .l 0 [])
 (cond (decide (feed > (1000000 : Int)))
 (KK (.tup [(.i .i64 (0 : Int)), (.b false)]) .l 0 [])
 (cond (decide (flow < (0 : Int)))
 (KK (.tup [(.i .i64 (0 : Int)), (.b false)]) .l 0 [])
 (cond (decide (flow > (1000000 : Int)))
 (KK (.tup [(.i .i64 (0 : Int)), (.b false)]) .l 0 [])
 (cond (decide (slip < (0 : Int)))
 (KK (.tup [(.i .i64 (0 : Int)), (.b false)]) .l 0 [])
 (cond (decide (slip > (1000 : Int)))
 (KK (.tup [(.i .i64 (0 : Int)), (.b false)]) .l 0 [])
 (InK .i64 (slip * c) ∧ (cond (decide (flow ≤ (slip * c)))
 (KK (.tup [(.i .i64 (0 : Int)), (.b false)]) .l 0 [])
 (InK .i64 ((1000 : Int) * feed) ∧ (InK .i64 (slip * c) ∧ (InK .i64 (flow - (slip * c)) ∧ ((0 : Int) ≤ ((1000 : Int) * feed) ∧ (((1000 : Int) * feed) ≤ (4611686018427387903 : Int) ∧ ((1 : Int) ≤ (flow - (slip * c)) ∧ ((flow - (slip * c)) ≤ (4611686018427387904 : Int) ∧ (KK (.tup [(.i .i64 (minL (1000 : Int) (cdiv ((1000 : Int) * feed) (flow - (slip * c))))), (.b true)]) .l 0 [])))))))))))))))))
 (KK (.tup [(.i .i64 (0 : Int)), (.b false)]) .l 0 []))
 (KK (.tup [(.i .i64 (0 : Int)), (.b false)]) .l 0 []))
 (KK (.tup [(.i .i64 (0 : Int)), (.b false)]) .l 0 []))
 (KK (.tup [(.i .i64 (0 : Int)), (.b false)]) .l 0 []))
 (KK (.tup [(.i .i64 (0 : Int)), (.b false)]) .l 0 []))
 (KK (.tup [(.i .i64 (0 : Int)), (.b false)]) .l 0 []))
 (KK (.tup [(.i .i64 (0 : Int)), (.b false)]) .l 0 [])) := by kernel_rfl
end Go.Proofs.Ytgjnkdedknpniaa
