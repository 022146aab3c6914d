/-
  FluidCuttings by the symbolic run.
-/
import Derived.Test.YtgjnkdedknpniaaFc
set_option linter.unusedSimpArgs false
set_option linter.unusedVariables false
namespace Go.Proofs.Ytgjnkdedknpniaa
open Go Go.Rx

abbrev fs2 : Fs where
  i := fun n ls xs => match n, ls, xs with | 1, [], [k, p, q] => freeI k p q | 2, [], [w, r, l] => mixedI w r l | 3, [], [a, b, c, e, f, g, h] => loadI a b c e f g h | _, _, _ => 0
  b := fun n ls xs => match n, ls, xs with | 4, [], [a, b, c, e, f, g, h] => decide (loadOk a b c e f g h) | _, _, _ => false
  l := fun _ _ _ => []
abbrev freeS {A : Go.Rx.Alg} : List (Go.Rx.SV A) → Go.Rx.SH A → Nat → Go.Rx.KS A → A.R := fun args M snx KK => match args with
  | [.agg [.i .i64 k, .i .i64 p], .i .i64 q] => KK (.i .i64 (A.app 1 [] [k, p, q])) M snx []
  | _ => A.fail "free"
abbrev mixedS {A : Go.Rx.Alg} : List (Go.Rx.SV A) → Go.Rx.SH A → Nat → Go.Rx.KS A → A.R := fun args M snx KK => match args with
  | [.i .i64 w, .i .i64 r, .i .i64 l] => KK (.i .i64 (A.app 2 [] [w, r, l])) M snx []
  | _ => A.fail "mixed"
abbrev loadS {A : Go.Rx.Alg} : List (Go.Rx.SV A) → Go.Rx.SH A → Nat → Go.Rx.KS A → A.R := fun args M snx KK => match args with
  | [.agg [.i .i64 a, .i .i64 b, .i .i64 c, .i .i64 e], .i .i64 f, .i .i64 g, .i .i64 h] => KK (.tup [.i .i64 (A.app 3 [] [a, b, c, e, f, g, h]), .b (A.appB 4 [] [a, b, c, e, f, g, h])]) M snx []
  | _ => A.fail "load"
abbrev sp2 {A : Go.Rx.Alg} : Go.Rx.SpL A := [(AW, Go.Rx.awakeS), (35, freeS), (36, freeS), (41, mixedS), (42, mixedS), (39, loadS), (40, loadS)]
theorem sp2_ok {ov : Bool} {d : Nat} (hd : 200 ≤ d) : SpOK (fs := fs2) (ov := ov) Try.prog AW d sp2 := by
  refine SpOK.cons awake_ok (SpOK.cons ?_ (SpOK.cons ?_ (SpOK.cons ?_ (SpOK.cons ?_ (SpOK.cons ?_ (SpOK.cons ?_ SpOK.nil))))))
  · intro m hm args M snx K h ν largs H nx ha hM
    unfold freeS at h
    split at h
    · obtain ⟨x, r, rfl, ⟨l, rfl, x1, r1, rfl, rfl, x2, r2, rfl, rfl, rfl⟩, y, r3, rfl, rfl, rfl⟩ := ha
      exact pure_got (free_pure (by omega) _ _ _) hM (v := .i .i64 _) rfl h
    · exact h.elim
  · intro m hm args M snx K h ν largs H nx ha hM
    unfold freeS at h
    split at h
    · obtain ⟨x, r, rfl, ⟨l, rfl, x1, r1, rfl, rfl, x2, r2, rfl, rfl, rfl⟩, y, r3, rfl, rfl, rfl⟩ := ha
      exact pure_got (rfree_pure (by omega) _ _ _) hM (v := .i .i64 _) rfl h
    · exact h.elim
  · intro m hm args M snx K h ν largs H nx ha hM
    unfold mixedS at h
    split at h
    · obtain ⟨x, r, rfl, rfl, x1, r1, rfl, rfl, x2, r2, rfl, rfl, rfl⟩ := ha
      exact pure_got (mixed_pure (by omega) _ _ _) hM (v := .i .i64 _) rfl h
    · exact h.elim
  · intro m hm args M snx K h ν largs H nx ha hM
    unfold mixedS at h
    split at h
    · obtain ⟨x, r, rfl, rfl, x1, r1, rfl, rfl, x2, r2, rfl, rfl, rfl⟩ := ha
      exact pure_got (rmixed_pure (by omega) _ _ _) hM (v := .i .i64 _) rfl h
    · exact h.elim
  · intro m hm args M snx K h ν largs H nx ha hM
    unfold loadS at h
    split at h
    · obtain ⟨x, r, rfl, ⟨l, rfl, x1, r1, rfl, rfl, x2, r2, rfl, rfl, x3, r3, rfl, rfl, x4, r4, rfl, rfl, rfl⟩, y, r5, rfl, rfl, y1, r6, rfl, rfl, y2, r7, rfl, rfl, rfl⟩ := ha
      exact pure_got (load_pure (by omega) _ _ _ _ _ _ _) hM (v := .tup [.i .i64 _, .b _]) ⟨_, rfl, VSL.cons rfl (VSL.cons rfl rfl)⟩ h
    · exact h.elim
  · intro m hm args M snx K h ν largs H nx ha hM
    unfold loadS at h
    split at h
    · obtain ⟨x, r, rfl, ⟨l, rfl, x1, r1, rfl, rfl, x2, r2, rfl, rfl, x3, r3, rfl, rfl, x4, r4, rfl, rfl, rfl⟩, y, r5, rfl, rfl, y1, r6, rfl, rfl, y2, r7, rfl, rfl, rfl⟩ := ha
      exact pure_got (rload_pure (by omega) _ _ _ _ _ _ _) hM (v := .tup [.i .i64 _, .b _]) ⟨_, rfl, VSL.cons rfl (VSL.cons rfl rfl)⟩ h
    · exact h.elim
theorem sp2_aw {fs : Fs} {ov : Bool} : (spOf (A := stdA fs ov) sp2 AW).isSome = true := rfl
theorem cut_eq (a b c e feed flow slip weight rock load : Int) (KK : KS (stdA fs2 true)) : sFunc Try.prog 30 (sCall Try.prog 30 (spOf sp2) noLoop 20) noLoop 7 [.agg [.i .i64 a, .i .i64 b, .i .i64 c, .i .i64 e], .i .i64 feed, .i .i64 flow, .i .i64 slip, .i .i64 weight, .i .i64 rock, .i .i64 load] .l 0 KK =
  (cond (decide ((loadI a b c e feed flow slip) = (loadI a b c e feed flow slip)))
 (cond ((decide (loadOk a b c e feed flow slip)) == (decide (loadOk a b c e feed flow slip)))
 (cond (decide ((mixedI weight rock load) = (mixedI weight rock load)))
 (KK (.b true) .l 0 [])
 (KK (.b false) .l 0 []))
 (KK (.b false) .l 0 []))
 (KK (.b false) .l 0 [])) := by kernel_rfl
theorem cut_pure {m : Nat} (hm : 300 ≤ m) {H : Hp} {nx : Nat} (a b c e feed flow slip weight rock load : Int) : Pure Try.prog AW m 7 [.agg [.i .i64 a, .i .i64 b, .i .i64 c, .i .i64 e], .i .i64 feed, .i .i64 flow, .i .i64 slip, .i .i64 weight, .i .i64 rock, .i .i64 load] H nx (.b true) := by
  refine pure_of (n := 20) (d := m - 21) (U := 30) (fs := fs2) (ov := true) (sp2_ok (by omega)) sp2_aw noLoop_ok (by decide) (by decide) (by omega) (args := [.agg [.i .i64 a, .i .i64 b, .i .i64 c, .i .i64 e], .i .i64 feed, .i .i64 flow, .i .i64 slip, .i .i64 weight, .i .i64 rock, .i .i64 load]) (M := .l) (snx := 0) ?_ (VSL.cons ⟨_, rfl, VSL.cons rfl (VSL.cons rfl (VSL.cons rfl (VSL.cons rfl rfl)))⟩ (VSL.cons rfl (VSL.cons rfl (VSL.cons rfl (VSL.cons rfl (VSL.cons rfl (VSL.cons rfl rfl))))))) hs_empty
  rw [cut_eq]
  simp
  exact end_b rfl
end Go.Proofs.Ytgjnkdedknpniaa
