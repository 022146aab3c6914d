/-
  Layer 3: gas: space, bubble point; FluidGas' and FluidBubbles' calls.
-/
import Derived.Test.YtgjnkdedknpniaaFe
set_option linter.unusedSimpArgs false
set_option linter.unusedVariables false
namespace Go.Proofs.Ytgjnkdedknpniaa
open Go Go.Rx

def spaceLo (k pw p : Int) : Int := if freeOk k pw p then freeI k pw p / p else 0
def spaceHi (k pw p : Int) : Int := if freeOk k pw p then cdiv (freeI k pw p) p else 0
abbrev fs4 : Fs where
  i := fun n ls xs => match n, ls, xs with | 1, [], [a, b] => a / b | 2, [], [a, b] => cdiv a b | 3, [], [k, p, q] => freeI k p q | _, _, _ => 0
  b := fun _ _ _ => false
  l := fun _ _ _ => []
abbrev fs5 : Fs where
  i := fun n ls xs => match n, ls, xs with | 3, [], [k, p, q] => freeI k p q | 4, [], [k, p, q] => spaceLo k p q | 5, [], [k, p, q] => spaceHi k p q | 6, [], [k, p] => bubI k p | 8, [], [a, b] => a % b | _, _, _ => 0
  b := fun n ls xs => match n, ls, xs with | 7, [], [k, p] => decide (bubOk k p) | _, _, _ => false
  l := fun _ _ _ => []
abbrev free4S {A : Go.Rx.Alg} : List (Go.Rx.SV A) → Go.Rx.SH A → Nat → Go.Rx.KS A → A.R := fun args M snx KK => match args with
  | [.agg [.i .i64 k, .i .i64 p], .i .i64 q] => KK (.i .i64 (A.app 3 [] [k, p, q])) M snx []
  | _ => A.fail "free"
abbrev sp4 {A : Go.Rx.Alg} : Go.Rx.SpL A := [(AW, Go.Rx.awakeS), (35, free4S), (36, free4S), (65, downS), (66, upS), (67, rupS)]
abbrev spaceS {A : Go.Rx.Alg} : List (Go.Rx.SV A) → Go.Rx.SH A → Nat → Go.Rx.KS A → A.R := fun args M snx KK => match args with
  | [.agg [.i .i64 k, .i .i64 p], .i .i64 q] => KK (.agg [.i .i64 (A.app 4 [] [k, p, q]), .i .i64 (A.app 5 [] [k, p, q])]) M snx []
  | _ => A.fail "space"
abbrev bubS {A : Go.Rx.Alg} : List (Go.Rx.SV A) → Go.Rx.SH A → Nat → Go.Rx.KS A → A.R := fun args M snx KK => match args with
  | [.agg [.i .i64 k, .i .i64 p]] => KK (.tup [.i .i64 (A.app 6 [] [k, p]), .b (A.appB 7 [] [k, p])]) M snx []
  | _ => A.fail "bubble"
abbrev mod64S {A : Go.Rx.Alg} : List (Go.Rx.SV A) → Go.Rx.SH A → Nat → Go.Rx.KS A → A.R := fun args M snx KK => match args with
  | [.i .i64 a, .i .i64 b] => A.need .leq (A.lit 1) b (A.need .leq b (A.lit 9223372036854775807) (KK (.i .i64 (A.app 8 [] [a, b])) M snx []))
  | _ => A.fail "mod64"
abbrev sp5 {A : Go.Rx.Alg} : Go.Rx.SpL A := [(AW, Go.Rx.awakeS), (35, free4S), (36, free4S), (37, spaceS), (38, spaceS), (33, bubS), (34, bubS), (45, mod64S)]
theorem free4_ok {fs : Fs} {ov : Bool} {d g : Nat} (hf : ∀ k p q, fs.i 3 [] [k, p, q] = freeI k p q) (hp : ∀ m, d ≤ m → ∀ H nx k p q, Pure Try.prog AW m g [.agg [.i .i64 k, .i .i64 p], .i .i64 q] H nx (.i .i64 (freeI k p q))) : SpecOK (fs := fs) (ov := ov) Try.prog AW d g free4S := by
  intro m hm args M snx K h ν largs H nx ha hM
  unfold free4S at h
  split at h
  · obtain ⟨x, r, rfl, ⟨l, rfl, x1, r1, rfl, rfl, x2, r2, rfl, rfl, rfl⟩, y, r3, rfl, rfl, rfl⟩ := ha
    exact pure_got (hp m hm _ _ _ _ _) hM (v := .i .i64 _) (by show LV.i _ _ = LV.i _ _; rw [← hf]) h
  · exact h.elim
theorem sp4_ok {ov : Bool} {d : Nat} (hd : 200 ≤ d) : SpOK (fs := fs4) (ov := ov) Try.prog AW d sp4 := by
  refine SpOK.cons awake_ok (SpOK.cons (free4_ok (fun _ _ _ => rfl) fun m hm _ _ k p q => free_pure (by omega) k p q) (SpOK.cons (free4_ok (fun _ _ _ => rfl) fun m hm _ _ k p q => rfree_pure (by omega) k p q) (SpOK.cons ?_ (SpOK.cons ?_ (SpOK.cons ?_ SpOK.nil)))))
  · intro m hm args M snx K h ν largs H nx ha hM
    unfold downS at h
    split at h
    · obtain ⟨h1, h2, h3, h4⟩ := h
      obtain ⟨x, r, rfl, rfl, y, r2, rfl, rfl, rfl⟩ := ha
      exact pure_got (down_pure (by omega) _ _ h1 h2 h3) hM (v := .i .i64 _) rfl h4
    · exact h.elim
  · intro m hm args M snx K h ν largs H nx ha hM
    unfold upS at h
    split at h
    · obtain ⟨h1, h2, h3, h4⟩ := h
      obtain ⟨x, r, rfl, rfl, y, r2, rfl, rfl, rfl⟩ := ha
      exact pure_got (up_pure (by omega) _ _ h1 h2 h3) hM (v := .i .i64 _) rfl h4
    · exact h.elim
  · intro m hm args M snx K h ν largs H nx ha hM
    unfold rupS at h
    split at h
    · rename_i a b
      obtain ⟨h1, h2, h3, h5, h4⟩ := h
      obtain ⟨x, r, rfl, rfl, y, r2, rfl, rfl, rfl⟩ := ha
      have h1 : (0 : Int) ≤ a := h1
      have h2 : @LE.le Int _ a 4611686018427387903 := h2
      have h3 : (1 : Int) ≤ b := h3
      have h5 : @LE.le Int _ b 4611686018427387904 := h5
      exact pure_got (rup_pure (by omega) _ _ h1 (by omega) h3) hM (v := .i .i64 _) rfl h4
    · exact h.elim
theorem sp4_aw {fs : Fs} {ov : Bool} : (spOf (A := stdA fs ov) sp4 AW).isSome = true := rfl
theorem space_eq (K P p : Int) (KK : KS (stdA fs4 true)) : sFunc Try.prog 30 (sCall Try.prog 30 (spOf sp4) noLoop 20) noLoop 37 [.agg [.i .i64 K, .i .i64 P], .i .i64 p] .l 0 KK =
  (cond (decide (K ≥ (0 : Int)))
 (cond (decide (K ≤ (1152921504606846976 : Int)))
 (cond (decide (P ≥ (0 : Int)))
 (cond (decide (P ≤ (1099511627776 : Int)))
 (cond (decide (p ≥ (1 : Int)))
 (cond (!(decide (p ≤ (68719476736 : Int))))
 (KK (.agg [(.i .i64 (0 : Int)), (.i .i64 (0 : Int))]) .l 0 [])
 ((-9223372036854775808 : Int) ≤ (freeI K P p) ∧ ((freeI K P p) ≤ (9223372036854775807 : Int) ∧ ((1 : Int) ≤ p ∧ ((-9223372036854775808 : Int) ≤ (freeI K P p) ∧ ((freeI K P p) ≤ (9223372036854775806 : Int) ∧ ((1 : Int) ≤ p ∧ (KK (.agg [(.i .i64 ((freeI K P p) / p)), (.i .i64 (cdiv (freeI K P p) p))]) .l 0 []))))))))
 (KK (.agg [(.i .i64 (0 : Int)), (.i .i64 (0 : Int))]) .l 0 []))
 (KK (.agg [(.i .i64 (0 : Int)), (.i .i64 (0 : Int))]) .l 0 []))
 (KK (.agg [(.i .i64 (0 : Int)), (.i .i64 (0 : Int))]) .l 0 []))
 (KK (.agg [(.i .i64 (0 : Int)), (.i .i64 (0 : Int))]) .l 0 []))
 (KK (.agg [(.i .i64 (0 : Int)), (.i .i64 (0 : Int))]) .l 0 [])) := by kernel_rfl
theorem rspace_eq (K P p : Int) (KK : KS (stdA fs4 true)) : sFunc Try.prog 30 (sCall Try.prog 30 (spOf sp4) noLoop 20) noLoop 38 [.agg [.i .i64 K, .i .i64 P], .i .i64 p] .l 0 KK =
  (cond (decide (K ≥ (0 : Int)))
 (cond (decide (K ≤ (1152921504606846976 : Int)))
 (cond (decide (P ≥ (0 : Int)))
 (cond (!(decide (P ≤ (1099511627776 : Int))))
 (KK (.agg [(.i .i64 (0 : Int)), (.i .i64 (0 : Int))]) .l 0 [])
 (cond (decide (p < (1 : Int)))
 (KK (.agg [(.i .i64 (0 : Int)), (.i .i64 (0 : Int))]) .l 0 [])
 (cond (decide (p > (68719476736 : Int)))
 (KK (.agg [(.i .i64 (0 : Int)), (.i .i64 (0 : Int))]) .l 0 [])
 (p ≠ 0 ∧ (InK .i64 (Int.tdiv (freeI K P p) p) ∧ ((0 : Int) ≤ (freeI K P p) ∧ ((freeI K P p) ≤ (4611686018427387903 : Int) ∧ ((1 : Int) ≤ p ∧ (p ≤ (4611686018427387904 : Int) ∧ (KK (.agg [(.i .i64 (Int.tdiv (freeI K P p) p)), (.i .i64 (cdiv (freeI K P p) p))]) .l 0 []))))))))))
 (KK (.agg [(.i .i64 (0 : Int)), (.i .i64 (0 : Int))]) .l 0 []))
 (KK (.agg [(.i .i64 (0 : Int)), (.i .i64 (0 : Int))]) .l 0 []))
 (KK (.agg [(.i .i64 (0 : Int)), (.i .i64 (0 : Int))]) .l 0 [])) := by kernel_rfl
theorem freeI_bound {k pw p : Int} : 0 ≤ freeI k pw p ∧ freeI k pw p ≤ 1152921504606846976 := by
  unfold freeI
  split
  · rename_i h
    obtain ⟨a, b, c, d, e, f⟩ := h
    have := mul_bound c d (show 0 ≤ p / 1048576 by omega) (show p / 1048576 ≤ 65536 by omega)
    rw [maxL_eq]
    split <;> omega
  · omega
section
variable {m : Nat} {H : Hp} {nx : Nat}
theorem space_pure (hm : 300 ≤ m) (K P p : Int) : Pure Try.prog AW m 37 [.agg [.i .i64 K, .i .i64 P], .i .i64 p] H nx (.agg [.i .i64 (spaceLo K P p), .i .i64 (spaceHi K P p)]) := by
  refine pure_of (n := 20) (d := m - 21) (U := 30) (fs := fs4) (ov := true) (sp4_ok (by omega)) sp4_aw noLoop_ok (by decide) (by decide) (by omega) (args := [.agg [.i .i64 K, .i .i64 P], .i .i64 p]) (M := .l) (snx := 0) ?_ (VSL.cons ⟨_, rfl, VSL.cons rfl (VSL.cons rfl rfl)⟩ (VSL.cons rfl rfl)) hs_empty
  rw [space_eq]
  simp only [cond_iff, cond_not, InK64]
  have hb := freeI_bound (k := K) (pw := P) (p := p)
  by_cases hv : freeOk K P p
  · rw [show spaceLo K P p = freeI K P p / p from if_pos hv, show spaceHi K P p = cdiv (freeI K P p) p from if_pos hv]
    obtain ⟨v1, v2, v3, v4, v5, v6⟩ := id hv
    generalize freeI K P p = t at *
    repeat' (first | apply And.intro | intro _)
    all_goals first
      | omega
      | (exfalso; omega)
      | exact end_ii rfl rfl
  · rw [show spaceLo K P p = 0 from if_neg hv, show spaceHi K P p = 0 from if_neg hv]
    unfold freeOk at hv
    generalize freeI K P p = t at *
    repeat' (first | apply And.intro | intro _)
    all_goals first
      | exact end_ii rfl rfl
      | (exfalso; omega)
theorem rspace_pure (hm : 300 ≤ m) (K P p : Int) : Pure Try.prog AW m 38 [.agg [.i .i64 K, .i .i64 P], .i .i64 p] H nx (.agg [.i .i64 (spaceLo K P p), .i .i64 (spaceHi K P p)]) := by
  refine pure_of (n := 20) (d := m - 21) (U := 30) (fs := fs4) (ov := true) (sp4_ok (by omega)) sp4_aw noLoop_ok (by decide) (by decide) (by omega) (args := [.agg [.i .i64 K, .i .i64 P], .i .i64 p]) (M := .l) (snx := 0) ?_ (VSL.cons ⟨_, rfl, VSL.cons rfl (VSL.cons rfl rfl)⟩ (VSL.cons rfl rfl)) hs_empty
  rw [rspace_eq]
  simp only [cond_iff, cond_not, InK64]
  have hb := freeI_bound (k := K) (pw := P) (p := p)
  by_cases hv : freeOk K P p
  · rw [show spaceLo K P p = freeI K P p / p from if_pos hv, show spaceHi K P p = cdiv (freeI K P p) p from if_pos hv]
    obtain ⟨v1, v2, v3, v4, v5, v6⟩ := id hv
    generalize freeI K P p = t at *
    have e := Int.tdiv_eq_ediv_of_nonneg hb.1 (b := p)
    have e2 := Int.ediv_nonneg hb.1 (show 0 ≤ p by omega)
    have e3 := Int.ediv_le_self p hb.1
    rw [e]
    repeat' (first | apply And.intro | intro _)
    all_goals first
      | omega
      | (exfalso; omega)
      | exact end_ii rfl rfl
  · rw [show spaceLo K P p = 0 from if_neg hv, show spaceHi K P p = 0 from if_neg hv]
    unfold freeOk at hv
    generalize freeI K P p = t at *
    repeat' (first | apply And.intro | intro _)
    all_goals first
      | exact end_ii rfl rfl
      | (exfalso; omega)
theorem bub_pure (hm : 400 ≤ m) (k pw : Int) : Pure Try.prog AW m 33 [.agg [.i .i64 k, .i .i64 pw]] H nx (.tup [.i .i64 (bubI k pw), .b (decide (bubOk k pw))]) := by
  refine pure_of (n := 20) (d := m - 21) (U := 30) (fs := fs3) (ov := true) (sp3_ok (by omega)) sp3_aw (lp3_ok (by omega)) (by decide) (by decide) (by omega) (args := [.agg [.i .i64 k, .i .i64 pw]]) (M := .l) (snx := 0) ?_ (VSL.cons ⟨_, rfl, VSL.cons rfl (VSL.cons rfl rfl)⟩ rfl) hs_empty
  rw [bub_eq]
  simp only [cond_iff, cond_not, InK64]
  by_cases hv : bubOk k pw
  · rw [show bubI k pw = bubP k pw from if_pos hv, decide_eq_true hv]
    obtain ⟨⟨v1, v2, v3, v4⟩, v5⟩ := hv
    repeat' (first | apply And.intro | intro _)
    all_goals first
      | trivial
      | omega
      | (exfalso; omega)
      | exact end_ib rfl rfl
  · rw [show bubI k pw = 0 from if_neg hv, decide_eq_false hv]
    unfold bubOk gasOk at hv
    repeat' (first | apply And.intro | intro _)
    all_goals first
      | trivial
      | exact end_ib rfl rfl
      | omega
      | (exfalso; omega)
theorem rbub_pure (hm : 400 ≤ m) (k pw : Int) : Pure Try.prog AW m 34 [.agg [.i .i64 k, .i .i64 pw]] H nx (.tup [.i .i64 (bubI k pw), .b (decide (bubOk k pw))]) := by
  refine pure_of (n := 20) (d := m - 21) (U := 30) (fs := fs3) (ov := true) (sp3_ok (by omega)) sp3_aw (lp3_ok (by omega)) (by decide) (by decide) (by omega) (args := [.agg [.i .i64 k, .i .i64 pw]]) (M := .l) (snx := 0) ?_ (VSL.cons ⟨_, rfl, VSL.cons rfl (VSL.cons rfl rfl)⟩ rfl) hs_empty
  rw [rbub_eq]
  simp only [cond_iff, cond_not, InK64]
  have hk0 : k = 0 → bubP k pw = 1 := fun h => by unfold bubP; rw [if_pos h]
  by_cases hv : bubOk k pw
  · rw [show bubI k pw = bubP k pw from if_pos hv, decide_eq_true hv]
    obtain ⟨⟨v1, v2, v3, v4⟩, v5⟩ := hv
    repeat' (first | apply And.intro | intro _)
    all_goals first
      | trivial
      | omega
      | (exfalso; omega)
      | exact end_ib rfl rfl
      | exact end_ib (hk0 (by assumption)).symm rfl
  · rw [show bubI k pw = 0 from if_neg hv, decide_eq_false hv]
    have hk0' : k = 0 → bubP k pw = 1 := hk0
    unfold bubOk gasOk at hv
    repeat' (first | apply And.intro | intro _)
    all_goals first
      | trivial
      | exact end_ib rfl rfl
      | omega
      | (exfalso; omega)
end
theorem sp5_ok {ov : Bool} {d : Nat} (hd : 400 ≤ d) : SpOK (fs := fs5) (ov := ov) Try.prog AW d sp5 := by
  refine SpOK.cons awake_ok (SpOK.cons (free4_ok (fun _ _ _ => rfl) fun m hm _ _ k p q => free_pure (by omega) k p q) (SpOK.cons (free4_ok (fun _ _ _ => rfl) fun m hm _ _ k p q => rfree_pure (by omega) k p q) (SpOK.cons ?_ (SpOK.cons ?_ (SpOK.cons ?_ (SpOK.cons ?_ (SpOK.cons ?_ SpOK.nil)))))))
  · intro m hm args M snx K h ν largs H nx ha hM
    unfold spaceS at h
    split at h
    · obtain ⟨x, r, rfl, ⟨l, rfl, x1, r1, rfl, rfl, x2, r2, rfl, rfl, rfl⟩, y, r3, rfl, rfl, rfl⟩ := ha
      exact pure_got (space_pure (by omega) _ _ _) hM (v := .agg [.i .i64 _, .i .i64 _]) ⟨_, rfl, VSL.cons rfl (VSL.cons rfl rfl)⟩ h
    · exact h.elim
  · intro m hm args M snx K h ν largs H nx ha hM
    unfold spaceS at h
    split at h
    · obtain ⟨x, r, rfl, ⟨l, rfl, x1, r1, rfl, rfl, x2, r2, rfl, rfl, rfl⟩, y, r3, rfl, rfl, rfl⟩ := ha
      exact pure_got (rspace_pure (by omega) _ _ _) hM (v := .agg [.i .i64 _, .i .i64 _]) ⟨_, rfl, VSL.cons rfl (VSL.cons rfl rfl)⟩ h
    · exact h.elim
  · intro m hm args M snx K h ν largs H nx ha hM
    unfold bubS at h
    split at h
    · obtain ⟨x, r, rfl, ⟨l, rfl, x1, r1, rfl, rfl, x2, r2, rfl, rfl, rfl⟩, rfl⟩ := ha
      exact pure_got (bub_pure (by omega) _ _) hM (v := .tup [.i .i64 _, .b _]) ⟨_, rfl, VSL.cons rfl (VSL.cons rfl rfl)⟩ h
    · exact h.elim
  · intro m hm args M snx K h ν largs H nx ha hM
    unfold bubS at h
    split at h
    · obtain ⟨x, r, rfl, ⟨l, rfl, x1, r1, rfl, rfl, x2, r2, rfl, rfl, rfl⟩, rfl⟩ := ha
      exact pure_got (rbub_pure (by omega) _ _) hM (v := .tup [.i .i64 _, .b _]) ⟨_, rfl, VSL.cons rfl (VSL.cons rfl rfl)⟩ h
    · exact h.elim
  · intro m hm args M snx K h ν largs H nx ha hM
    unfold mod64S at h
    split at h
    · obtain ⟨h1, h2, h3⟩ := h
      obtain ⟨x, r, rfl, rfl, y, r2, rfl, rfl, rfl⟩ := ha
      exact pure_got (mod64_pure (by omega) _ _ h1 h2) hM (v := .i .i64 _) rfl h3
    · exact h.elim
theorem sp5_aw {fs : Fs} {ov : Bool} : (spOf (A := stdA fs ov) sp5 AW).isSome = true := rfl
theorem gas_eq (k pw p : Int) (KK : KS (stdA fs5 true)) : sFunc Try.prog 30 (sCall Try.prog 30 (spOf sp5) noLoop 20) noLoop 6 [.agg [.i .i64 k, .i .i64 pw], .i .i64 p] .l 0 KK =
  (cond (decide ((freeI k pw p) = (freeI k pw p)))
 (cond ((decide ((spaceLo k pw p) = (spaceLo k pw p))) && (decide ((spaceHi k pw p) = (spaceHi k pw p))))
 (cond (decide ((bubI k pw) = (bubI k pw)))
 (cond ((decide (bubOk k pw)) == (decide (bubOk k pw)))
 (KK (.b true) .l 0 [])
 (KK (.b false) .l 0 []))
 (KK (.b false) .l 0 []))
 (KK (.b false) .l 0 []))
 (KK (.b false) .l 0 [])) := by kernel_rfl
theorem bubs_eq (k pw p more : Int) (KK : KS (stdA fs5 true)) : sFunc Try.prog 30 (sCall Try.prog 30 (spOf sp5) noLoop 20) noLoop 12 [.agg [.i .i64 k, .i .i64 pw], .i .i64 p, .i .i64 more] .l 0 KK =
  ((1 : Int) ≤ (1152921504606846976 : Int) ∧ ((1152921504606846976 : Int) ≤ (9223372036854775807 : Int) ∧ ((1 : Int) ≤ (1099511627776 : Int) ∧ ((1099511627776 : Int) ≤ (9223372036854775807 : Int) ∧ ((1 : Int) ≤ (34359738368 : Int) ∧ ((34359738368 : Int) ≤ (9223372036854775807 : Int) ∧ (InK .i64 ((1 : Int) + (p % (34359738368 : Int))) ∧ ((1 : Int) ≤ (34359738368 : Int) ∧ ((34359738368 : Int) ≤ (9223372036854775807 : Int) ∧ (InK .i64 (((1 : Int) + (p % (34359738368 : Int))) + (more % (34359738368 : Int))) ∧ (InK .i64 (((1 : Int) + (p % (34359738368 : Int))) + (more % (34359738368 : Int))) ∧ (cond (decide ((freeI (k % (1152921504606846976 : Int)) (pw % (1099511627776 : Int)) (((1 : Int) + (p % (34359738368 : Int))) + (more % (34359738368 : Int)))) > (freeI (k % (1152921504606846976 : Int)) (pw % (1099511627776 : Int)) ((1 : Int) + (p % (34359738368 : Int))))))
 (KK (.b false) .l 0 [])
 (cond (decide ((spaceLo (k % (1152921504606846976 : Int)) (pw % (1099511627776 : Int)) (((1 : Int) + (p % (34359738368 : Int))) + (more % (34359738368 : Int)))) > (spaceLo (k % (1152921504606846976 : Int)) (pw % (1099511627776 : Int)) ((1 : Int) + (p % (34359738368 : Int))))))
 (KK (.b false) .l 0 [])
 (cond (decide ((spaceHi (k % (1152921504606846976 : Int)) (pw % (1099511627776 : Int)) (((1 : Int) + (p % (34359738368 : Int))) + (more % (34359738368 : Int)))) > (spaceHi (k % (1152921504606846976 : Int)) (pw % (1099511627776 : Int)) ((1 : Int) + (p % (34359738368 : Int))))))
 (KK (.b false) .l 0 [])
 (InK .i64 ((spaceHi (k % (1152921504606846976 : Int)) (pw % (1099511627776 : Int)) ((1 : Int) + (p % (34359738368 : Int)))) - (spaceLo (k % (1152921504606846976 : Int)) (pw % (1099511627776 : Int)) ((1 : Int) + (p % (34359738368 : Int))))) ∧ (cond (decide (((spaceHi (k % (1152921504606846976 : Int)) (pw % (1099511627776 : Int)) ((1 : Int) + (p % (34359738368 : Int)))) - (spaceLo (k % (1152921504606846976 : Int)) (pw % (1099511627776 : Int)) ((1 : Int) + (p % (34359738368 : Int))))) > (1 : Int)))
 (KK (.b false) .l 0 [])
 (cond (decide ((spaceHi (k % (1152921504606846976 : Int)) (pw % (1099511627776 : Int)) ((1 : Int) + (p % (34359738368 : Int)))) < (spaceLo (k % (1152921504606846976 : Int)) (pw % (1099511627776 : Int)) ((1 : Int) + (p % (34359738368 : Int))))))
 (KK (.b false) .l 0 [])
 (cond (decide ((freeI (k % (1152921504606846976 : Int)) (pw % (1099511627776 : Int)) ((1 : Int) + (p % (34359738368 : Int)))) > (k % (1152921504606846976 : Int))))
 (KK (.b false) .l 0 [])
 (cond (!(decide (bubOk (k % (1152921504606846976 : Int)) (pw % (1099511627776 : Int)))))
 (cond (decide ((freeI (k % (1152921504606846976 : Int)) (pw % (1099511627776 : Int)) (68719476736 : Int)) > (0 : Int)))
 (KK (.b true) .l 0 [])
 (KK (.b false) .l 0 []))
 (cond (decide ((freeI (k % (1152921504606846976 : Int)) (pw % (1099511627776 : Int)) (bubI (k % (1152921504606846976 : Int)) (pw % (1099511627776 : Int)))) = (0 : Int)))
 (InK .i64 ((bubI (k % (1152921504606846976 : Int)) (pw % (1099511627776 : Int))) + (more % (34359738368 : Int))) ∧ (cond (decide ((freeI (k % (1152921504606846976 : Int)) (pw % (1099511627776 : Int)) (minL (68719476736 : Int) ((bubI (k % (1152921504606846976 : Int)) (pw % (1099511627776 : Int))) + (more % (34359738368 : Int))))) = (0 : Int)))
 (cond (decide ((bubI (k % (1152921504606846976 : Int)) (pw % (1099511627776 : Int))) = (1 : Int)))
 (KK (.b true) .l 0 [])
 (InK .i64 ((bubI (k % (1152921504606846976 : Int)) (pw % (1099511627776 : Int))) - (1 : Int)) ∧ (cond (decide ((freeI (k % (1152921504606846976 : Int)) (pw % (1099511627776 : Int)) ((bubI (k % (1152921504606846976 : Int)) (pw % (1099511627776 : Int))) - (1 : Int))) > (0 : Int)))
 (KK (.b true) .l 0 [])
 (KK (.b false) .l 0 []))))
 (KK (.b false) .l 0 [])))
 (KK (.b false) .l 0 []))))))))))))))))))))) := by kernel_rfl
theorem gas_pure {m : Nat} (hm : 500 ≤ m) {H : Hp} {nx : Nat} (k pw p : Int) : Pure Try.prog AW m 6 [.agg [.i .i64 k, .i .i64 pw], .i .i64 p] H nx (.b true) := by
  refine pure_of (n := 20) (d := m - 21) (U := 30) (fs := fs5) (ov := true) (sp5_ok (by omega)) sp5_aw noLoop_ok (by decide) (by decide) (by omega) (args := [.agg [.i .i64 k, .i .i64 pw], .i .i64 p]) (M := .l) (snx := 0) ?_ (VSL.cons ⟨_, rfl, VSL.cons rfl (VSL.cons rfl rfl)⟩ (VSL.cons rfl rfl)) hs_empty
  rw [gas_eq]
  simp
  exact end_b rfl
theorem free_anti {k pw p q : Int} (h : gasOk k pw) (h1 : 1 ≤ p) (h2 : p ≤ q) (h3 : q ≤ 68719476736) : freeI k pw q ≤ freeI k pw p := by
  obtain ⟨a, b, c, d⟩ := h
  have := Int.mul_le_mul_of_nonneg_left (show p / 1048576 ≤ q / 1048576 by omega) c
  unfold freeI
  rw [if_pos ⟨a, b, c, d, by omega, h3⟩, if_pos ⟨a, b, c, d, h1, by omega⟩, maxL_eq, maxL_eq]
  split <;> split <;> omega
theorem ediv_anti {a b p q : Int} (ha : 0 ≤ a) (hab : a ≤ b) (hp : 1 ≤ p) (hpq : p ≤ q) : a / q ≤ b / p := by
  refine Int.le_ediv_of_mul_le (by omega) ?_
  have h1 := Int.ediv_nonneg ha (show 0 ≤ q by omega)
  have h2 := Int.mul_le_mul_of_nonneg_left hpq h1
  have h3 : a / q * q ≤ a := Int.ediv_mul_le a (by omega)
  omega
theorem cdiv_le {a q c : Int} (hq : 1 ≤ q) (h : a ≤ q * c) : cdiv a q ≤ c := by
  unfold cdiv
  have : -c ≤ (-a) / q := Int.le_ediv_of_mul_le (by omega) (by rw [Int.neg_mul, Int.mul_comm]; omega)
  omega
theorem cdiv_ge {a q : Int} (hq : 1 ≤ q) : a ≤ q * cdiv a q := by
  have e := Int.mul_ediv_add_emod (-a) q
  have r0 := Int.emod_nonneg (-a) (show q ≠ 0 by omega)
  have e3 : q * cdiv a q = -(q * ((-a) / q)) := Int.mul_neg _ _
  omega
theorem cdiv_nonneg {a q : Int} (ha : 0 ≤ a) (hq : 1 ≤ q) : 0 ≤ cdiv a q := by
  unfold cdiv
  have : (-a) / q ≤ 0 := by
    by_cases h : a = 0
    · subst h; simp
    · exact Int.le_of_lt (Int.ediv_neg_of_neg_of_pos (by omega) (by omega))
  omega
theorem cdiv_anti {a b p q : Int} (ha : 0 ≤ a) (hab : a ≤ b) (hp : 1 ≤ p) (hpq : p ≤ q) : cdiv a q ≤ cdiv b p := by
  refine cdiv_le (by omega) ?_
  have h1 := cdiv_ge (a := b) hp
  have h2 := Int.mul_le_mul_of_nonneg_right hpq (cdiv_nonneg (show 0 ≤ b by omega) hp)
  omega
theorem lo_hi {a q : Int} (hq : 1 ≤ q) : a / q ≤ cdiv a q ∧ cdiv a q ≤ a / q + 1 := by
  have e := Int.mul_ediv_add_emod a q
  have r0 := Int.emod_nonneg a (show q ≠ 0 by omega)
  have r1 := Int.emod_lt_of_pos a (show 0 < q by omega)
  refine ⟨?_, cdiv_le hq (by rw [Int.mul_add, Int.mul_one]; omega)⟩
  have h1 := cdiv_ge (a := a) hq
  by_cases h : a / q ≤ cdiv a q
  · exact h
  · have := Int.mul_le_mul_of_nonneg_left (show cdiv a q + 1 ≤ a / q by omega) (show 0 ≤ q by omega)
    rw [Int.mul_add, Int.mul_one] at this
    omega
theorem bubs_pure {m : Nat} (hm : 500 ≤ m) {H : Hp} {nx : Nat} (k pw p more : Int) : Pure Try.prog AW m 12 [.agg [.i .i64 k, .i .i64 pw], .i .i64 p, .i .i64 more] H nx (.b true) := by
  refine pure_of (n := 20) (d := m - 21) (U := 30) (fs := fs5) (ov := true) (sp5_ok (by omega)) sp5_aw noLoop_ok (by decide) (by decide) (by omega) (args := [.agg [.i .i64 k, .i .i64 pw], .i .i64 p, .i .i64 more]) (M := .l) (snx := 0) ?_ (VSL.cons ⟨_, rfl, VSL.cons rfl (VSL.cons rfl rfl)⟩ (VSL.cons rfl (VSL.cons rfl rfl))) hs_empty
  rw [bubs_eq]
  simp only [cond_iff, cond_not, InK64]
  have hg : gasOk (k % 1152921504606846976) (pw % 1099511627776) := ⟨by omega, by omega, by omega, by omega⟩
  have q1 : 1 ≤ 1 + p % 34359738368 ∧ 1 + p % 34359738368 ≤ 34359738368 := by omega
  have m1 : 0 ≤ more % 34359738368 ∧ more % 34359738368 < 34359738368 := by omega
  generalize k % 1152921504606846976 = K at *
  generalize pw % 1099511627776 = P at *
  generalize 1 + p % 34359738368 = q at *
  generalize more % 34359738368 = x at *
  have f1 := free_anti hg q1.1 (show q ≤ q + x by omega) (by omega)
  have b0 := freeI_bound (k := K) (pw := P) (p := q)
  have b1 := freeI_bound (k := K) (pw := P) (p := q + x)
  have o1 : freeOk K P q := ⟨hg.1, hg.2.1, hg.2.2.1, hg.2.2.2, by omega, by omega⟩
  have o2 : freeOk K P (q + x) := ⟨hg.1, hg.2.1, hg.2.2.1, hg.2.2.2, by omega, by omega⟩
  have s1 : spaceLo K P q = freeI K P q / q := if_pos o1
  have s2 : spaceHi K P q = cdiv (freeI K P q) q := if_pos o1
  have s3 : spaceLo K P (q + x) = freeI K P (q + x) / (q + x) := if_pos o2
  have s4 : spaceHi K P (q + x) = cdiv (freeI K P (q + x)) (q + x) := if_pos o2
  have f2 : spaceLo K P (q + x) ≤ spaceLo K P q := by rw [s1, s3]; exact ediv_anti b1.1 f1 q1.1 (by omega)
  have f3 : spaceHi K P (q + x) ≤ spaceHi K P q := by rw [s2, s4]; exact cdiv_anti b1.1 f1 q1.1 (by omega)
  have f4 : spaceLo K P q ≤ spaceHi K P q ∧ spaceHi K P q ≤ spaceLo K P q + 1 := by rw [s1, s2]; exact lo_hi q1.1
  have f5 : 0 ≤ spaceLo K P q ∧ spaceLo K P q ≤ 1152921504606846976 := by
    rw [s1]; exact ⟨Int.ediv_nonneg b0.1 (by omega), Int.le_trans (Int.ediv_le_self q b0.1) b0.2⟩
  have f6 : freeI K P q ≤ K := by
    have h0 := Int.mul_nonneg hg.2.2.1 (show 0 ≤ q / 1048576 by omega)
    have := hg.1
    unfold freeI; rw [if_pos o1, maxL_eq]; split <;> omega
  obtain ⟨c1, c2, c3, c4⟩ := bubP_is hg
  have f7 : ¬ bubOk K P → freeI K P 68719476736 > 0 := fun h => by
    have : bubP K P = 68719476737 := by
      by_cases e : bubP K P ≤ 68719476736
      · exact absurd ⟨hg, e⟩ h
      · omega
    have := c3 68719476736 (by omega) (by omega)
    have := (freeI_bound (k := K) (pw := P) (p := 68719476736)).1
    omega
  have f8 : bubOk K P → bubI K P = bubP K P ∧ 1 ≤ bubP K P ∧ bubP K P ≤ 68719476736 ∧ freeI K P (bubP K P) = 0 := fun h => ⟨if_pos h, c1, h.2, c4.resolve_left (by have := h.2; omega)⟩
  have f9 : bubOk K P → freeI K P (minL 68719476736 (bubI K P + x)) = 0 := fun h => by
    obtain ⟨e1, e2, e3, e4⟩ := f8 h
    rw [e1]
    have h1 : bubP K P ≤ minL 68719476736 (bubP K P + x) ∧ minL 68719476736 (bubP K P + x) ≤ 68719476736 := by rw [minL_eq]; split <;> omega
    have := free_anti hg e2 h1.1 h1.2
    have := (freeI_bound (k := K) (pw := P) (p := minL 68719476736 (bubP K P + x))).1
    omega
  have f10 : bubOk K P → bubI K P ≠ 1 → freeI K P (bubI K P - 1) > 0 := fun h hn => by
    obtain ⟨e1, e2, e3, e4⟩ := f8 h
    rw [e1] at hn ⊢
    have := c3 (bubP K P - 1) (by omega) (by omega)
    have := (freeI_bound (k := K) (pw := P) (p := bubP K P - 1)).1
    omega
  have f11 : bubOk K P → freeI K P (bubI K P) = 0 ∧ 1 ≤ bubI K P ∧ bubI K P ≤ 68719476736 := fun h => by
    obtain ⟨e1, e2, e3, e4⟩ := f8 h
    rw [e1]; exact ⟨e4, e2, e3⟩
  clear s1 s2 s3 s4 o1 o2 c1 c2 c3 c4 f8 hg
  by_cases hv : bubOk K P
  · have f9 := f9 hv; have f10 := f10 hv; have f11 := f11 hv
    generalize bubI K P = B at *
    generalize freeI K P (minL 68719476736 (B + x)) = F1 at *
    generalize freeI K P (B - 1) = F2 at *
    generalize freeI K P B = F3 at *
    repeat' (first | apply And.intro | intro _)
    all_goals first
      | trivial
      | exact end_b rfl
      | omega
      | (exfalso; omega)
      | (exfalso; exact absurd hv (by assumption))
  · have f7 := f7 hv
    repeat' (first | apply And.intro | intro _)
    all_goals first
      | trivial
      | exact end_b rfl
      | omega
      | (exfalso; omega)
      | (exfalso; exact absurd (by assumption) hv)
end Go.Proofs.Ytgjnkdedknpniaa
