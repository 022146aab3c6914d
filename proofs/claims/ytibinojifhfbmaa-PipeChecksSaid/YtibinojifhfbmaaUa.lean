/-
  Layer 4: which strings are valid, their lengths and weights.
-/
import Derived.Test.YtibinojifhfbmaaKx
import Derived.Test.YtibinojifhfbmaaUm
set_option linter.unusedSimpArgs false
set_option linter.unusedVariables false
set_option maxRecDepth 100000
namespace Go.Proofs.Ytibinojifhfbmaa
open Go Go.Rx

abbrev AW : Nat := 5
/-- Only the call of the examples is told of. -/
abbrev sp0 {A : Go.Rx.Alg} : Go.Rx.SpL A := [(AW, Go.Rx.awakeS)]
abbrev fsu : Fs where
  i := fun n ls xs => match n, ls, xs with | 1, [l], [] => lenI l | 2, [l], [mud] => sumI (tubeWt l mud) l.length | 3, [], [a, s, mud] => wetI a s mud | 4, [l], [] => chkI l | 5, [l], [] => lengthI l | 6, [l], [mud] => weightI l mud | 7, [], [f, b, a] => f + b * a | 11, [a, b], [] => (min a.length b.length : Nat) | 9, [l], [i] => Ll.get l i 0 | 10, [l], [i] => Ll.get l i 1 | 8, [g], [lo, hi] => nearI g lo hi | _, _, _ => 0
  b := fun n ls xs => match n, ls, xs with | 36, [a, b], [] => sameB a b | 37, [a, b], [] => sameLB a b | 38, [a, b], [] => decide (diffI a b < a.length) | 39, [a, b], [] => decide (diffL a b < (min a.length b.length : Nat)) | 33, [g], [lo, hi] => nearB g lo hi | 34, [l], [] => decide (chkI l = 0) | 35, [l], [lo, hi] => nearB (jointsL l) lo hi | 30, [], [a, b, c, d, e, f, g, h, k] => decide (TubeP a b c d e f g h k) | 31, [l], [] => decide (fbad l < l.length) | 32, [l], [] => OkB l | _, _, _ => false
  l := fun n ls xs => match n, ls, xs with | 51, [], [f, b, a] => [[0]] ++ jBlock f b a.toNat | 52, [g], [f, b, a] => g ++ jBlock f b a.toNat | 53, [l], [] => jT l l.length | 54, [l], [] => jointsL l | _, _, _ => []
theorem sp0_ok {fs : Fs} {ov : Bool} {d : Nat} : SpOK (fs := fs) (ov := ov) Try.prog AW d sp0 := SpOK.cons awake_ok SpOK.nil
theorem sp0_aw {fs : Fs} {ov : Bool} : (spOf (A := stdA fs ov) sp0 AW).isSome = true := rfl
theorem tub_eq (a b c d e f g h k : Int) (KK : KS (stdA fsu true)) : sFunc Try.prog 30 (sCall Try.prog 30 (spOf sp0) noLoop 20) noLoop 29 [.agg [.i .i64 a, .i .i64 b, .i .i64 c, .i .i64 d, .i .i64 e, .i .i64 f, .i .i64 g, .i .i64 h, .i .i64 k]] .l 0 KK =
  (cond (decide ((1 : Int) ≤ a))
 (cond (decide (a ≤ (400 : Int)))
 (cond (decide ((100 : Int) ≤ b))
 (cond (decide (b ≤ (4000 : Int)))
 (cond (decide ((1 : Int) ≤ c))
 (cond (decide (c ≤ (4000000 : Int)))
 (cond (decide ((1 : Int) ≤ d))
 (cond (decide (d ≤ (400 : Int)))
 (cond (decide ((2 : Int) ≤ e))
 (cond (decide (e ≤ (90 : Int)))
 (cond (decide ((1 : Int) ≤ f))
 (cond (decide (f ≤ (4398046511104 : Int)))
 (cond (decide ((1 : Int) ≤ g))
 (cond (decide (g ≤ (281474976710656 : Int)))
 (cond (decide ((0 : Int) ≤ h))
 (cond (decide (h ≤ (17179869184 : Int)))
 (cond (decide ((0 : Int) ≤ k))
 (KK (.b (decide (k ≤ (1099511627776 : Int)))) .l 0 [])
 (KK (.b false) .l 0 []))
 (KK (.b false) .l 0 []))
 (KK (.b false) .l 0 []))
 (KK (.b false) .l 0 []))
 (KK (.b false) .l 0 []))
 (KK (.b false) .l 0 []))
 (KK (.b false) .l 0 []))
 (KK (.b false) .l 0 []))
 (KK (.b false) .l 0 []))
 (KK (.b false) .l 0 []))
 (KK (.b false) .l 0 []))
 (KK (.b false) .l 0 []))
 (KK (.b false) .l 0 []))
 (KK (.b false) .l 0 []))
 (KK (.b false) .l 0 []))
 (KK (.b false) .l 0 []))
 (KK (.b false) .l 0 [])) := by kernel_rfl
theorem tub_pure {m : Nat} (hm : 100 ≤ m) {H : Hp} {nx : Nat} (a b c d e f g h k : Int) : Pure Try.prog AW m 29 [.agg [.i .i64 a, .i .i64 b, .i .i64 c, .i .i64 d, .i .i64 e, .i .i64 f, .i .i64 g, .i .i64 h, .i .i64 k]] H nx (.b (decide (TubeP a b c d e f g h k))) := by
  refine pure_of (n := 20) (d := m - 21) (U := 30) (fs := fsu) (ov := true) sp0_ok sp0_aw noLoop_ok (by decide) (by decide) (by omega) (args := [.agg [.i .i64 a, .i .i64 b, .i .i64 c, .i .i64 d, .i .i64 e, .i .i64 f, .i .i64 g, .i .i64 h, .i .i64 k]]) (M := .l) (snx := 0) ?_ (VSL.cons ⟨_, rfl, (VSL.cons rfl (VSL.cons rfl (VSL.cons rfl (VSL.cons rfl (VSL.cons rfl (VSL.cons rfl (VSL.cons rfl (VSL.cons rfl (VSL.cons rfl rfl)))))))))⟩ rfl) hs_empty
  rw [tub_eq]
  have hD : decide (TubeP a b c d e f g h k) = true ↔ (1 ≤ a ∧ a ≤ 400 ∧ 100 ≤ b ∧ b ≤ 4000 ∧ 1 ≤ c ∧ c ≤ 4000000 ∧ 1 ≤ d ∧ d ≤ 400 ∧ 2 ≤ e ∧ e ≤ 90 ∧ 1 ≤ f ∧ f ≤ 4398046511104 ∧ 1 ≤ g ∧ g ≤ 281474976710656 ∧ 0 ≤ h ∧ h ≤ 17179869184 ∧ 0 ≤ k ∧ k ≤ 1099511627776) := by rw [decide_eq_true_iff]; exact Iff.rfl
  generalize decide (TubeP a b c d e f g h k) = D at *
  have fin : ∀ {p : Prop} [Decidable p], (D = true ↔ p) → decide p = D := fun {p} _ h => by
    by_cases hp : p
    · rw [decide_eq_true hp, h.2 hp]
    · rw [decide_eq_false hp]; cases D
      · rfl
      · exact absurd (h.1 rfl) hp
  have no : (¬ (1 ≤ a ∧ a ≤ 400 ∧ 100 ≤ b ∧ b ≤ 4000 ∧ 1 ≤ c ∧ c ≤ 4000000 ∧ 1 ≤ d ∧ d ≤ 400 ∧ 2 ≤ e ∧ e ≤ 90 ∧ 1 ≤ f ∧ f ≤ 4398046511104 ∧ 1 ≤ g ∧ g ≤ 281474976710656 ∧ 0 ≤ h ∧ h ≤ 17179869184 ∧ 0 ≤ k ∧ k ≤ 1099511627776)) → false = D := fun h => by
    cases D
    · rfl
    · exact absurd (hD.1 rfl) h
  simp only [cond_iff, cond_not, InK64, ge_iff_le]
  repeat' (first | apply And.intro | intro _)
  all_goals first
    | omega
    | exact end_b (no (by omega))
    | exact end_b (fin (hD.trans ⟨fun h => by omega, fun h => by omega⟩))
abbrev tubS {A : Go.Rx.Alg} : List (Go.Rx.SV A) → Go.Rx.SH A → Nat → Go.Rx.KS A → A.R := fun args_ M_ snx_ K_ => match args_ with
  | [.agg [.i .i64 a, .i .i64 b, .i .i64 c, .i .i64 d, .i .i64 e, .i .i64 f, .i .i64 g, .i .i64 h, .i .i64 k]] => (K_ (.b (A.appB 30 [] [a, b, c, d, e, f, g, h, k])) M_ snx_ [])
  | _ => A.fail "tub"
theorem tubS_ok {ov : Bool} {d : Nat} (hd : 100 ≤ d) : SpecOK (fs := fsu) (ov := ov) Try.prog AW d 29 tubS := by
  intro m_ hm_ args_ M_ snx_ K_ h_ ν_ largs_ H_ nx_ ha_ hM_
  unfold tubS at h_
  split at h_
  · rename_i a b c d e f g h k
    obtain ⟨y1, r1, rfl, ⟨l1, rfl, ⟨y2, r2, rfl, rfl, ⟨y3, r3, rfl, rfl, ⟨y4, r4, rfl, rfl, ⟨y5, r5, rfl, rfl, ⟨y6, r6, rfl, rfl, ⟨y7, r7, rfl, rfl, ⟨y8, r8, rfl, rfl, ⟨y9, r9, rfl, rfl, ⟨y10, r10, rfl, rfl, rfl⟩⟩⟩⟩⟩⟩⟩⟩⟩⟩, rfl⟩ := ha_
    exact pure_got (tub_pure (by omega) a b c d e f g h k) hM_ (v := .b _) rfl h_
  · exact h_.elim
theorem rtub_eq (a b c d e f g h k : Int) (KK : KS (stdA fsu true)) : sFunc Try.prog 30 (sCall Try.prog 30 (spOf sp0) noLoop 20) noLoop 31 [.agg [.i .i64 a, .i .i64 b, .i .i64 c, .i .i64 d, .i .i64 e, .i .i64 f, .i .i64 g, .i .i64 h, .i .i64 k]] .l 0 KK =
  (cond (decide (a ≥ (1 : Int)))
 (cond (decide (a ≤ (400 : Int)))
 (cond (decide (b ≥ (100 : Int)))
 (cond (decide (b ≤ (4000 : Int)))
 (cond (decide (c ≥ (1 : Int)))
 (cond (decide (c ≤ (4000000 : Int)))
 (cond (decide (d ≥ (1 : Int)))
 (cond (decide (d ≤ (400 : Int)))
 (cond (decide (e ≥ (2 : Int)))
 (cond (decide (e ≤ (90 : Int)))
 (cond (decide (f ≥ (1 : Int)))
 (cond (decide (f ≤ (4398046511104 : Int)))
 (cond (decide (g ≥ (1 : Int)))
 (cond (decide (g ≤ (281474976710656 : Int)))
 (cond (decide (h ≥ (0 : Int)))
 (cond (decide (h ≤ (17179869184 : Int)))
 (cond (decide (k ≥ (0 : Int)))
 (KK (.b (decide (k ≤ (1099511627776 : Int)))) .l 0 [])
 (KK (.b false) .l 0 []))
 (KK (.b false) .l 0 []))
 (KK (.b false) .l 0 []))
 (KK (.b false) .l 0 []))
 (KK (.b false) .l 0 []))
 (KK (.b false) .l 0 []))
 (KK (.b false) .l 0 []))
 (KK (.b false) .l 0 []))
 (KK (.b false) .l 0 []))
 (KK (.b false) .l 0 []))
 (KK (.b false) .l 0 []))
 (KK (.b false) .l 0 []))
 (KK (.b false) .l 0 []))
 (KK (.b false) .l 0 []))
 (KK (.b false) .l 0 []))
 (KK (.b false) .l 0 []))
 (KK (.b false) .l 0 [])) := by kernel_rfl
theorem rtub_pure {m : Nat} (hm : 100 ≤ m) {H : Hp} {nx : Nat} (a b c d e f g h k : Int) : Pure Try.prog AW m 31 [.agg [.i .i64 a, .i .i64 b, .i .i64 c, .i .i64 d, .i .i64 e, .i .i64 f, .i .i64 g, .i .i64 h, .i .i64 k]] H nx (.b (decide (TubeP a b c d e f g h k))) := by
  refine pure_of (n := 20) (d := m - 21) (U := 30) (fs := fsu) (ov := true) sp0_ok sp0_aw noLoop_ok (by decide) (by decide) (by omega) (args := [.agg [.i .i64 a, .i .i64 b, .i .i64 c, .i .i64 d, .i .i64 e, .i .i64 f, .i .i64 g, .i .i64 h, .i .i64 k]]) (M := .l) (snx := 0) ?_ (VSL.cons ⟨_, rfl, (VSL.cons rfl (VSL.cons rfl (VSL.cons rfl (VSL.cons rfl (VSL.cons rfl (VSL.cons rfl (VSL.cons rfl (VSL.cons rfl (VSL.cons rfl rfl)))))))))⟩ rfl) hs_empty
  rw [rtub_eq]
  have hD : decide (TubeP a b c d e f g h k) = true ↔ (1 ≤ a ∧ a ≤ 400 ∧ 100 ≤ b ∧ b ≤ 4000 ∧ 1 ≤ c ∧ c ≤ 4000000 ∧ 1 ≤ d ∧ d ≤ 400 ∧ 2 ≤ e ∧ e ≤ 90 ∧ 1 ≤ f ∧ f ≤ 4398046511104 ∧ 1 ≤ g ∧ g ≤ 281474976710656 ∧ 0 ≤ h ∧ h ≤ 17179869184 ∧ 0 ≤ k ∧ k ≤ 1099511627776) := by rw [decide_eq_true_iff]; exact Iff.rfl
  generalize decide (TubeP a b c d e f g h k) = D at *
  have fin : ∀ {p : Prop} [Decidable p], (D = true ↔ p) → decide p = D := fun {p} _ h => by
    by_cases hp : p
    · rw [decide_eq_true hp, h.2 hp]
    · rw [decide_eq_false hp]; cases D
      · rfl
      · exact absurd (h.1 rfl) hp
  have no : (¬ (1 ≤ a ∧ a ≤ 400 ∧ 100 ≤ b ∧ b ≤ 4000 ∧ 1 ≤ c ∧ c ≤ 4000000 ∧ 1 ≤ d ∧ d ≤ 400 ∧ 2 ≤ e ∧ e ≤ 90 ∧ 1 ≤ f ∧ f ≤ 4398046511104 ∧ 1 ≤ g ∧ g ≤ 281474976710656 ∧ 0 ≤ h ∧ h ≤ 17179869184 ∧ 0 ≤ k ∧ k ≤ 1099511627776)) → false = D := fun h => by
    cases D
    · rfl
    · exact absurd (hD.1 rfl) h
  simp only [cond_iff, cond_not, InK64, ge_iff_le]
  repeat' (first | apply And.intro | intro _)
  all_goals first
    | omega
    | exact end_b (no (by omega))
    | exact end_b (fin (hD.trans ⟨fun h => by omega, fun h => by omega⟩))
abbrev rtubS {A : Go.Rx.Alg} : List (Go.Rx.SV A) → Go.Rx.SH A → Nat → Go.Rx.KS A → A.R := fun args_ M_ snx_ K_ => match args_ with
  | [.agg [.i .i64 a, .i .i64 b, .i .i64 c, .i .i64 d, .i .i64 e, .i .i64 f, .i .i64 g, .i .i64 h, .i .i64 k]] => (K_ (.b (A.appB 30 [] [a, b, c, d, e, f, g, h, k])) M_ snx_ [])
  | _ => A.fail "rtub"
theorem rtubS_ok {ov : Bool} {d : Nat} (hd : 100 ≤ d) : SpecOK (fs := fsu) (ov := ov) Try.prog AW d 31 rtubS := by
  intro m_ hm_ args_ M_ snx_ K_ h_ ν_ largs_ H_ nx_ ha_ hM_
  unfold rtubS at h_
  split at h_
  · rename_i a b c d e f g h k
    obtain ⟨y1, r1, rfl, ⟨l1, rfl, ⟨y2, r2, rfl, rfl, ⟨y3, r3, rfl, rfl, ⟨y4, r4, rfl, rfl, ⟨y5, r5, rfl, rfl, ⟨y6, r6, rfl, rfl, ⟨y7, r7, rfl, rfl, ⟨y8, r8, rfl, rfl, ⟨y9, r9, rfl, rfl, ⟨y10, r10, rfl, rfl, rfl⟩⟩⟩⟩⟩⟩⟩⟩⟩⟩, rfl⟩ := ha_
    exact pure_got (rtub_pure (by omega) a b c d e f g h k) hM_ (v := .b _) rfl h_
  · exact h_.elim
theorem wet_eq (a b c d e f g h k mud : Int) (KK : KS (stdA fsu true)) : sFunc Try.prog 30 (sCall Try.prog 30 (spOf sp0) noLoop 20) noLoop 13 [.agg [.i .i64 a, .i .i64 b, .i .i64 c, .i .i64 d, .i .i64 e, .i .i64 f, .i .i64 g, .i .i64 h, .i .i64 k], .i .i64 mud] .l 0 KK =
  (cond (decide ((0 : Int) ≤ c))
 (cond (!(decide (c ≤ (1000000000 : Int))))
 (KK (.i .i64 (0 : Int)) .l 0 [])
 (cond (decide ((0 : Int) ≤ d))
 (cond (!(decide (d ≤ (1000000000 : Int))))
 (KK (.i .i64 (0 : Int)) .l 0 [])
 (cond (decide ((0 : Int) ≤ mud))
 (cond (!(decide (mud ≤ (1000000000 : Int))))
 (KK (.i .i64 (0 : Int)) .l 0 [])
 (InK .i64 (mud * d) ∧ (InK .i64 (c - (mud * d)) ∧ (KK (.i .i64 (c - (mud * d))) .l 0 []))))
 (KK (.i .i64 (0 : Int)) .l 0 [])))
 (KK (.i .i64 (0 : Int)) .l 0 [])))
 (KK (.i .i64 (0 : Int)) .l 0 [])) := by kernel_rfl
theorem wet_pure {m : Nat} (hm : 100 ≤ m) {H : Hp} {nx : Nat} (a b c d e f g h k mud : Int) : Pure Try.prog AW m 13 [.agg [.i .i64 a, .i .i64 b, .i .i64 c, .i .i64 d, .i .i64 e, .i .i64 f, .i .i64 g, .i .i64 h, .i .i64 k], .i .i64 mud] H nx (.i .i64 (wetI c d mud)) := by
  refine pure_of (n := 20) (d := m - 21) (U := 30) (fs := fsu) (ov := true) sp0_ok sp0_aw noLoop_ok (by decide) (by decide) (by omega) (args := [.agg [.i .i64 a, .i .i64 b, .i .i64 c, .i .i64 d, .i .i64 e, .i .i64 f, .i .i64 g, .i .i64 h, .i .i64 k], .i .i64 mud]) (M := .l) (snx := 0) ?_ (VSL.cons ⟨_, rfl, (VSL.cons rfl (VSL.cons rfl (VSL.cons rfl (VSL.cons rfl (VSL.cons rfl (VSL.cons rfl (VSL.cons rfl (VSL.cons rfl (VSL.cons rfl rfl)))))))))⟩ (VSL.cons rfl rfl)) hs_empty
  rw [wet_eq]
  have hw : wetI c d mud = if 0 ≤ c ∧ c ≤ 1000000000 ∧ 0 ≤ d ∧ d ≤ 1000000000 ∧ 0 ≤ mud ∧ mud ≤ 1000000000 then c - mud * d else 0 := rfl
  have hz : ¬ (0 ≤ c ∧ c ≤ 1000000000 ∧ 0 ≤ d ∧ d ≤ 1000000000 ∧ 0 ≤ mud ∧ mud ≤ 1000000000) → (0 : Int) = wetI c d mud := fun h => by rw [hw, if_neg h]
  have hp : (0 ≤ c ∧ c ≤ 1000000000 ∧ 0 ≤ d ∧ d ≤ 1000000000 ∧ 0 ≤ mud ∧ mud ≤ 1000000000) → (c - mud * d = wetI c d mud ∧ 0 ≤ mud * d ∧ mud * d ≤ 1000000000000000000) := fun h => ⟨by rw [hw, if_pos h], mul_bd (X := 1000000000) (Y := 1000000000) (by omega) (by omega) (by omega) (by omega)⟩
  generalize wetI c d mud = W at *
  generalize mud * d = md at *
  simp only [cond_iff, cond_not, InK64, ge_iff_le]
  repeat' (first | apply And.intro | intro _)
  all_goals first
    | omega
    | exact end_i (hz (by omega))
    | exact end_i (hp (by omega)).1
    | (have hp2 := hp (by omega); omega)
abbrev wetS {A : Go.Rx.Alg} : List (Go.Rx.SV A) → Go.Rx.SH A → Nat → Go.Rx.KS A → A.R := fun args_ M_ snx_ K_ => match args_ with
  | [.agg [.i .i64 a, .i .i64 b, .i .i64 c, .i .i64 d, .i .i64 e, .i .i64 f, .i .i64 g, .i .i64 h, .i .i64 k], .i .i64 mud] => (K_ (.i .i64 (A.app 3 [] [c, d, mud])) M_ snx_ [])
  | _ => A.fail "wet"
theorem wetS_ok {ov : Bool} {d : Nat} (hd : 100 ≤ d) : SpecOK (fs := fsu) (ov := ov) Try.prog AW d 13 wetS := by
  intro m_ hm_ args_ M_ snx_ K_ h_ ν_ largs_ H_ nx_ ha_ hM_
  unfold wetS at h_
  split at h_
  · rename_i a b c d e f g h k mud
    obtain ⟨y1, r1, rfl, ⟨l1, rfl, ⟨y2, r2, rfl, rfl, ⟨y3, r3, rfl, rfl, ⟨y4, r4, rfl, rfl, ⟨y5, r5, rfl, rfl, ⟨y6, r6, rfl, rfl, ⟨y7, r7, rfl, rfl, ⟨y8, r8, rfl, rfl, ⟨y9, r9, rfl, rfl, ⟨y10, r10, rfl, rfl, rfl⟩⟩⟩⟩⟩⟩⟩⟩⟩⟩, ⟨y11, r11, rfl, rfl, rfl⟩⟩ := ha_
    exact pure_got (wet_pure (by omega) a b c d e f g h k mud) hM_ (v := .i .i64 _) rfl h_
  · exact h_.elim
theorem rwet_eq (a b c d e f g h k mud : Int) (KK : KS (stdA fsu true)) : sFunc Try.prog 30 (sCall Try.prog 30 (spOf sp0) noLoop 20) noLoop 14 [.agg [.i .i64 a, .i .i64 b, .i .i64 c, .i .i64 d, .i .i64 e, .i .i64 f, .i .i64 g, .i .i64 h, .i .i64 k], .i .i64 mud] .l 0 KK =
  (cond (decide (c ≥ (0 : Int)))
 (cond (!(decide (c ≤ (1000000000 : Int))))
 (KK (.i .i64 (0 : Int)) .l 0 [])
 (cond (decide (d ≥ (0 : Int)))
 (cond (!(decide (d ≤ (1000000000 : Int))))
 (KK (.i .i64 (0 : Int)) .l 0 [])
 (cond (decide (mud ≥ (0 : Int)))
 (cond (!(decide (mud ≤ (1000000000 : Int))))
 (KK (.i .i64 (0 : Int)) .l 0 [])
 (InK .i64 (mud * d) ∧ (InK .i64 (c - (mud * d)) ∧ (KK (.i .i64 (c - (mud * d))) .l 0 []))))
 (KK (.i .i64 (0 : Int)) .l 0 [])))
 (KK (.i .i64 (0 : Int)) .l 0 [])))
 (KK (.i .i64 (0 : Int)) .l 0 [])) := by kernel_rfl
theorem rwet_pure {m : Nat} (hm : 100 ≤ m) {H : Hp} {nx : Nat} (a b c d e f g h k mud : Int) : Pure Try.prog AW m 14 [.agg [.i .i64 a, .i .i64 b, .i .i64 c, .i .i64 d, .i .i64 e, .i .i64 f, .i .i64 g, .i .i64 h, .i .i64 k], .i .i64 mud] H nx (.i .i64 (wetI c d mud)) := by
  refine pure_of (n := 20) (d := m - 21) (U := 30) (fs := fsu) (ov := true) sp0_ok sp0_aw noLoop_ok (by decide) (by decide) (by omega) (args := [.agg [.i .i64 a, .i .i64 b, .i .i64 c, .i .i64 d, .i .i64 e, .i .i64 f, .i .i64 g, .i .i64 h, .i .i64 k], .i .i64 mud]) (M := .l) (snx := 0) ?_ (VSL.cons ⟨_, rfl, (VSL.cons rfl (VSL.cons rfl (VSL.cons rfl (VSL.cons rfl (VSL.cons rfl (VSL.cons rfl (VSL.cons rfl (VSL.cons rfl (VSL.cons rfl rfl)))))))))⟩ (VSL.cons rfl rfl)) hs_empty
  rw [rwet_eq]
  have hw : wetI c d mud = if 0 ≤ c ∧ c ≤ 1000000000 ∧ 0 ≤ d ∧ d ≤ 1000000000 ∧ 0 ≤ mud ∧ mud ≤ 1000000000 then c - mud * d else 0 := rfl
  have hz : ¬ (0 ≤ c ∧ c ≤ 1000000000 ∧ 0 ≤ d ∧ d ≤ 1000000000 ∧ 0 ≤ mud ∧ mud ≤ 1000000000) → (0 : Int) = wetI c d mud := fun h => by rw [hw, if_neg h]
  have hp : (0 ≤ c ∧ c ≤ 1000000000 ∧ 0 ≤ d ∧ d ≤ 1000000000 ∧ 0 ≤ mud ∧ mud ≤ 1000000000) → (c - mud * d = wetI c d mud ∧ 0 ≤ mud * d ∧ mud * d ≤ 1000000000000000000) := fun h => ⟨by rw [hw, if_pos h], mul_bd (X := 1000000000) (Y := 1000000000) (by omega) (by omega) (by omega) (by omega)⟩
  generalize wetI c d mud = W at *
  generalize mud * d = md at *
  simp only [cond_iff, cond_not, InK64, ge_iff_le]
  repeat' (first | apply And.intro | intro _)
  all_goals first
    | omega
    | exact end_i (hz (by omega))
    | exact end_i (hp (by omega)).1
    | (have hp2 := hp (by omega); omega)
abbrev rwetS {A : Go.Rx.Alg} : List (Go.Rx.SV A) → Go.Rx.SH A → Nat → Go.Rx.KS A → A.R := fun args_ M_ snx_ K_ => match args_ with
  | [.agg [.i .i64 a, .i .i64 b, .i .i64 c, .i .i64 d, .i .i64 e, .i .i64 f, .i .i64 g, .i .i64 h, .i .i64 k], .i .i64 mud] => (K_ (.i .i64 (A.app 3 [] [c, d, mud])) M_ snx_ [])
  | _ => A.fail "rwet"
theorem rwetS_ok {ov : Bool} {d : Nat} (hd : 100 ≤ d) : SpecOK (fs := fsu) (ov := ov) Try.prog AW d 14 rwetS := by
  intro m_ hm_ args_ M_ snx_ K_ h_ ν_ largs_ H_ nx_ ha_ hM_
  unfold rwetS at h_
  split at h_
  · rename_i a b c d e f g h k mud
    obtain ⟨y1, r1, rfl, ⟨l1, rfl, ⟨y2, r2, rfl, rfl, ⟨y3, r3, rfl, rfl, ⟨y4, r4, rfl, rfl, ⟨y5, r5, rfl, rfl, ⟨y6, r6, rfl, rfl, ⟨y7, r7, rfl, rfl, ⟨y8, r8, rfl, rfl, ⟨y9, r9, rfl, rfl, ⟨y10, r10, rfl, rfl, rfl⟩⟩⟩⟩⟩⟩⟩⟩⟩⟩, ⟨y11, r11, rfl, rfl, rfl⟩⟩ := ha_
    exact pure_got (rwet_pure (by omega) a b c d e f g h k mud) hM_ (v := .i .i64 _) rfl h_
  · exact h_.elim
abbrev spT {A : Go.Rx.Alg} : Go.Rx.SpL A := [(AW, Go.Rx.awakeS), (29, tubS), (31, rtubS), (13, wetS), (14, rwetS)]
theorem spT_ok {ov : Bool} {d : Nat} (hd : 100 ≤ d) : SpOK (fs := fsu) (ov := ov) Try.prog AW d spT := SpOK.cons awake_ok (SpOK.cons (tubS_ok (by omega)) (SpOK.cons (rtubS_ok (by omega)) (SpOK.cons (wetS_ok (by omega)) (SpOK.cons (rwetS_ok (by omega)) SpOK.nil))))
theorem spT_aw {fs : Fs} {ov : Bool} : (spOf (A := stdA fs ov) spT AW).isSome = true := rfl
theorem len_eq (i s : Int) (l : Ll) (T : Al (SV (stdA fsu true))) (M : Al (SO (stdA fsu true))) (KK : Ex → List (SV (stdA fsu true)) → List (SO (stdA fsu true)) → List Ll → Prop) : sCode Try.prog (sCall Try.prog 30 (spOf sp0) noLoop 20) (noLoop 30) 30 (false :: [false, true, false, true, true]) (bodyAt Try.prog 30 [false, true, false, true, true]) (hdL (bodyAt Try.prog 30 [false, true, false, true, true]) T M 22 2 [(7, .ls false 0 (Ll.len l)), (8, .i .i64 (Ll.len l))] [(0, .list 0 [.int .i64, .int .i64, .int .i64, .int .i64, .int .i64, .int .i64, .int .i64, .int .i64, .int .i64] false l), (1, .row 24 [.ls false 0 (Ll.len l)])] [(9, .i .i64 i), (3, .i .i64 s)] [] [] [] []) (outL 2 (tsOf [9, 3] []) [] [] [] KK) =
  (cond (decide (i < (Ll.len l)))
 ((0 : Int) ≤ i ∧ (i < (Ll.len l) ∧ (i < (Ll.len l) ∧ (InK .i64 ((Ll.get l i 0) * (Ll.get l i 1)) ∧ (InK .i64 (s + ((Ll.get l i 0) * (Ll.get l i 1))) ∧ (InK .i64 (i + (1 : Int)) ∧ (KK .normal [(.i .i64 (i + (1 : Int))), (.i .i64 (s + ((Ll.get l i 0) * (Ll.get l i 1))))] [] [])))))))
 (KK (.exit 0) [(.i .i64 i), (.i .i64 s)] [] [])) := by kernel_rfl
theorem len_go (l : Ll) (i : Int) (s : Int) (i_0 : Int) (s_0 : Int) (r1 : i_0 = (0 : Int)) (r2 : s_0 = (0 : Int)) (T : Al (SV (stdA fsu true))) (M : Al (SO (stdA fsu true))) (KK : Ex → List (SV (stdA fsu true)) → List (SO (stdA fsu true)) → List Ll → Prop) (p1 : (OkB l) = true) (hI : 0 ≤ i ∧ i ≤ Ll.len l ∧ s = sumI (tubeLen l) i.toNat) (hn : ∀ (i' : Int) (s' : Int), 0 ≤ i' ∧ i' ≤ Ll.len l ∧ s' = sumI (tubeLen l) i'.toNat → (24 - i').toNat < (24 - i).toNat → KK .normal [.i .i64 i', .i .i64 s'] [] []) (hx1 : KK (.exit 0) [.i .i64 (Ll.len l), .i .i64 (lenI l)] [] []) :
    sCode Try.prog (sCall Try.prog 30 (spOf sp0) noLoop 20) (noLoop 30) 30 (false :: [false, true, false, true, true]) (bodyAt Try.prog 30 [false, true, false, true, true]) (hdL (bodyAt Try.prog 30 [false, true, false, true, true]) T M 22 2 [(7, .ls false 0 (Ll.len l)), (8, .i .i64 (Ll.len l))] [(0, .list 0 [.int .i64, .int .i64, .int .i64, .int .i64, .int .i64, .int .i64, .int .i64, .int .i64, .int .i64] false l), (1, .row 24 [.ls false 0 (Ll.len l)])] [(9, .i .i64 i), (3, .i .i64 s)] [] [] [] []) (outL 2 (tsOf [9, 3] []) [] [] [] KK) := by
  refine Eq.mpr (len_eq i s l T M KK) ?_
  have hl : Ll.len l = (l.length : Int) := rfl
  obtain ⟨o1, o2⟩ := ok_of p1
  obtain ⟨i0, i1, rfl⟩ := hI
  by_cases h : i < Ll.len l
  · rw [decide_eq_true h]
    have ht := fbad_ok i0 (show i < fbad l by omega)
    have hb := len_bd ht
    have hq := sumI_bd (f := tubeLen l) (A := 0) (B := 1600000) i.toNat fun j a b => by have := len_bd (fbad_ok a (show j < fbad l by omega)); omega
    have hs := sumI_succ (tubeLen l) i0
    have e : Ll.get l i 0 * Ll.get l i 1 = tubeLen l i := rfl
    rw [e]
    have hn' := hn (i + 1) _ ⟨by omega, by omega, rfl⟩ (by omega)
    rw [hs] at hn'
    simp only [InK64]
    first
      | exact ⟨i0, h, h, by omega, by omega, by omega, hn'⟩
      | exact ⟨i0, h, h, i0, h, h, by omega, by omega, by omega, hn'⟩
  · rw [decide_eq_false h]
    obtain rfl : i = Ll.len l := by omega
    exact hx1
abbrev lenF {A : Go.Rx.Alg} : Code → Go.Rx.SS A → (Go.Rx.Ex → Go.Rx.SS A → A.R) → A.R := fun c_ s_ K_ => match s_.T.get 7, s_.T.get 8, s_.H.get 0, s_.H.get 1, s_.T.get 9, s_.T.get 3 with
  | some (.ls false 0 m1), some (.i .i64 m2), some (.list t3 k3 false l), some (.row t4 [.ls false 0 m5]), some (.i .i64 i), some (.i .i64 s) => bif ((((Nat.beq s_.N 22 && Nat.beq s_.nx 2) && Nat.beq t3 0) && decide (k3 = [.int .i64, .int .i64, .int .i64, .int .i64, .int .i64, .int .i64, .int .i64, .int .i64, .int .i64])) && Nat.beq t4 24) then (A.need .eql m1 (A.len l) (A.need .eql m2 (A.len l) (A.need .eql m5 (A.len l) (A.need .eql i (A.lit 0) (A.need .eql s (A.lit 0) (A.br (A.appB 32 [l] []) (fun _ => (K_ (.exit 0) (Go.Rx.hdL c_ s_.T (Go.Rx.kills [] s_.H) 22 2 [(7, .ls false 0 (A.len l)), (8, .i .i64 (A.len l))] [(0, .list 0 [.int .i64, .int .i64, .int .i64, .int .i64, .int .i64, .int .i64, .int .i64, .int .i64, .int .i64] false l), (1, .row 24 [.ls false 0 (A.len l)])] [(9, .i .i64 (A.len l)), (3, .i .i64 (A.app 1 [l] []))] [] [] [] (Go.Rx.addW ([] ++ []) s_.wr)))) (fun _ => A.fail "pre"))))))) else A.fail "frame of len"
  | _, _, _, _, _, _ => A.fail "len"
theorem lenF_ok {d : Nat} (hd : 100 ≤ d) : LoopOK (fs := fsu) (ov := true) Try.prog AW d 30 [false, true, false, true, true] lenF := by
  intro m_ hm_ fn_ c0_ hfn_ hb_ c_ ro_ hc_ s_ K_ W_ ν_ S_ h_ hs_
  obtain rfl := body_of hfn_ hb_ hc_
  simp only [lenF] at h_
  split at h_
  · rename_i m1_0 m2_0 t3 k3 l_0 t4 m5_0 i_0_0 s_0_0 g0 g1 g2 g3 g4 g5
    obtain ⟨m1, rfl⟩ : ∃ q : Int, q = m1_0 := ⟨m1_0, rfl⟩
    obtain ⟨m2, rfl⟩ : ∃ q : Int, q = m2_0 := ⟨m2_0, rfl⟩
    obtain ⟨l, rfl⟩ : ∃ q : Ll, q = l_0 := ⟨l_0, rfl⟩
    obtain ⟨m5, rfl⟩ : ∃ q : Int, q = m5_0 := ⟨m5_0, rfl⟩
    obtain ⟨i_0, rfl⟩ : ∃ q : Int, q = i_0_0 := ⟨i_0_0, rfl⟩
    obtain ⟨s_0, rfl⟩ : ∃ q : Int, q = s_0_0 := ⟨s_0_0, rfl⟩
    obtain ⟨T_, FN_, M_, snx_, wr_⟩ := s_
    have hN : ((((Nat.beq FN_ 22 && Nat.beq snx_ 2) && Nat.beq t3 0) && decide (k3 = [.int .i64, .int .i64, .int .i64, .int .i64, .int .i64, .int .i64, .int .i64, .int .i64, .int .i64])) && Nat.beq t4 24) = true := by
      cases hq : (((((Nat.beq FN_ 22 && Nat.beq snx_ 2) && Nat.beq t3 0) && decide (k3 = [.int .i64, .int .i64, .int .i64, .int .i64, .int .i64, .int .i64, .int .i64, .int .i64, .int .i64])) && Nat.beq t4 24) : Bool) with
      | true => rfl
      | false => (rw [hq] at h_; exact h_.elim)
    rw [hN, cond_true] at h_
    simp only [Bool.and_eq_true, beq_iff, decide_eq_true_eq] at hN
    obtain ⟨⟨⟨⟨rfl, rfl⟩, rfl⟩, rfl⟩, rfl⟩ := hN
    obtain ⟨q0, h_⟩ := h_
    obtain rfl : m1 = (Ll.len l) := q0
    obtain ⟨q0, h_⟩ := h_
    obtain rfl : m2 = (Ll.len l) := q0
    obtain ⟨q0, h_⟩ := h_
    obtain rfl : m5 = (Ll.len l) := q0
    obtain ⟨q1, h_⟩ := h_
    have q1 : i_0 = (0 : Int) := q1
    obtain ⟨q2, h_⟩ := h_
    have q2 : s_0 = (0 : Int) := q2
    obtain ⟨q3, h_⟩ := br_pre (fs := fsu) (ov := true) h_
    have q3 : (OkB l) = true := q3
    replace h_ : K_ (.exit 0) (hdL (bodyAt Try.prog 30 [false, true, false, true, true]) T_ (kills [] M_) 22 2 [(7, .ls false 0 (Ll.len l)), (8, .i .i64 (Ll.len l))] [(0, .list 0 [.int .i64, .int .i64, .int .i64, .int .i64, .int .i64, .int .i64, .int .i64, .int .i64, .int .i64] false l), (1, .row 24 [.ls false 0 (Ll.len l)])] [(9, .i .i64 (Ll.len l)), (3, .i .i64 (lenI l))] [] [] [] (addW ([] ++ []) wr_)) := h_
    have hx1 : K_ (.exit 0) (hdL (bodyAt Try.prog 30 [false, true, false, true, true]) T_ (kills [] M_) 22 2 [(7, .ls false 0 (Ll.len l)), (8, .i .i64 (Ll.len l))] [(0, .list 0 [.int .i64, .int .i64, .int .i64, .int .i64, .int .i64, .int .i64, .int .i64, .int .i64, .int .i64] false l), (1, .row 24 [.ls false 0 (Ll.len l)])] [(9, .i .i64 (Ll.len l)), (3, .i .i64 (lenI l))] [] [] [] (addW ([] ++ []) wr_)) := by
      have h2 := h_
      exact h2
    refine loop_ruleL (fs := fsu) (ov := true) (s := ⟨T_, 22, M_, 2, wr_⟩) (X := Int × Int) (B := []) (mv := []) (kt := [(7, .ls false 0 (Ll.len l)), (8, .i .i64 (Ll.len l))]) (kr := [(0, .list 0 [.int .i64, .int .i64, .int .i64, .int .i64, .int .i64, .int .i64, .int .i64, .int .i64, .int .i64] false l), (1, .row 24 [.ls false 0 (Ll.len l)])]) (ty := []) (x := (i_0, s_0))
      (Inv := (fun x : Int × Int => match x with | (i, s) => 0 ≤ i ∧ i ≤ Ll.len l ∧ s = sumI (tubeLen l) i.toNat)) (μ := (fun x : Int × Int => match x with | (i, s) => (24 - i).toNat)) (ts := tsOf [9, 3] []) (sl := (fun x : Int × Int => match x with | (i, s) => [.i .i64 i, .i .i64 s])) (bl := (fun x : Int × Int => match x with | (i, s) => [])) (ll := (fun x : Int × Int => match x with | (i, s) => [])) (Q := fun e_ vs_ os_ hs_ => K_ e_ (hdL (bodyAt Try.prog 30 [false, true, false, true, true]) T_ (kills [] M_) 22 2 [(7, .ls false 0 (Ll.len l)), (8, .i .i64 (Ll.len l))] [(0, .list 0 [.int .i64, .int .i64, .int .i64, .int .i64, .int .i64, .int .i64, .int .i64, .int .i64, .int .i64] false l), (1, .row 24 [.ls false 0 (Ll.len l)])] (((tsOf [9, 3] []) e_).zip vs_) ([].zip os_) [] hs_ (addW ([] ++ []) wr_)))
      (L := LL) (U := 30) (cs := sCall Try.prog 30 (spOf sp0) noLoop 20) (call := CN Try.prog AW m_) (lp := noLoop 30) (root := c0_) (p := [false, true, false, true, true])
      (show CallSOK _ _ from by
        have := sCall_ok (P := Try.prog) (d := m_ - 20) (U := 30) (lp := noLoop) (sp0_ok (fs := fsu) (ov := true) (d := m_ - 20)) (sp0_aw (fs := fsu) (ov := true)) (noLoop_ok) (by decide) 20
        rwa [show 20 + (m_ - 20) = m_ by omega] at this) (fun p f h => by cases h) (by decide) hc_
      (fun x o ho => by cases ho)
      (fun x hx => by cases hx) (fun x hx => by cases hx) (fun x hx => by cases hx)
      (fun x hx => by
        simp only [List.mem_cons, List.not_mem_nil, or_false] at hx
        rcases hx with rfl | rfl
        · exact g0
        · exact g1) (fun x hx => by
        simp only [List.mem_cons, List.not_mem_nil, or_false] at hx
        rcases hx with rfl | rfl
        · exact ⟨g2, by simp⟩
        · exact ⟨g3, by simp⟩) ?_ (fun _ _ _ _ _ h => h) ?_ ?_ ?_ hs_
    · rintro ⟨i, s⟩ hI
      exact len_go l i s i_0 s_0 q1 q2 T_ (kills [] M_) _ q3 hI (fun i' s' ha hb => ⟨(i', s'), ha, hb, rfl, rfl, rfl⟩) (⟨by simp [SO.mine], hx1⟩)
    · show 0 ≤ i_0 ∧ i_0 ≤ Ll.len l ∧ s_0 = sumI (tubeLen l) i_0.toNat
      exact ⟨by omega, by have : (0 : Int) ≤ Ll.len l := Int.natCast_nonneg _; omega, by rw [q1, q2]; rfl⟩
    · show (24 - i_0).toNat < LL
      exact Nat.lt_of_le_of_lt (show _ ≤ 1000 by omega) (by decide)
    · exact ⟨⟨[.i .i64 i_0, .i .i64 s_0], [], [], [], by simp [gets, tsOf, g0, g1, g2, g3, g4, g5], by simp [gets, g0, g1, g2, g3, g4, g5], rfl, rfl, by simp [listsOf] <;> rfl⟩⟩
  · exact h_.elim
abbrev lpLen {A : Go.Rx.Alg} : Nat → Go.Rx.LoopS A := Go.Rx.lpOf [(30, [false, true, false, true, true], lenF)]
theorem lpLen_ok {d : Nat} (hd : 100 ≤ d) : LoopsAll (fs := fsu) (ov := true) Try.prog AW d lpLen := lpOf_ok fun x hx => by
  simp only [List.mem_cons, List.not_mem_nil, or_false] at hx
  rcases hx with rfl
  · exact lenF_ok (by omega)
theorem rlen_eq (i s : Int) (l : Ll) (T : Al (SV (stdA fsu true))) (M : Al (SO (stdA fsu true))) (KK : Ex → List (SV (stdA fsu true)) → List (SO (stdA fsu true)) → List Ll → Prop) : sCode Try.prog (sCall Try.prog 30 (spOf sp0) noLoop 20) (noLoop 32) 30 (false :: [false, true, false, true, true]) (bodyAt Try.prog 32 [false, true, false, true, true]) (hdL (bodyAt Try.prog 32 [false, true, false, true, true]) T M 28 2 [(1, .p 1 0)] [(0, .list 0 [.int .i64, .int .i64, .int .i64, .int .i64, .int .i64, .int .i64, .int .i64, .int .i64, .int .i64] false l), (1, .row 24 [.ls false 0 (Ll.len l)])] [(4, .i .i64 i), (3, .i .i64 s)] [] [] [] []) (outL 2 (tsOf [4, 3] []) [] [] [] KK) =
  (cond (decide (i < (Ll.len l)))
 ((0 : Int) ≤ i ∧ (i < (Ll.len l) ∧ (i < (Ll.len l) ∧ ((0 : Int) ≤ i ∧ (i < (Ll.len l) ∧ (i < (Ll.len l) ∧ (InK .i64 ((Ll.get l i 0) * (Ll.get l i 1)) ∧ (InK .i64 (s + ((Ll.get l i 0) * (Ll.get l i 1))) ∧ (InK .i64 (i + (1 : Int)) ∧ (KK .normal [(.i .i64 (i + (1 : Int))), (.i .i64 (s + ((Ll.get l i 0) * (Ll.get l i 1))))] [] []))))))))))
 (KK (.exit 0) [(.i .i64 i), (.i .i64 s)] [] [])) := by kernel_rfl
theorem rlen_go (l : Ll) (i : Int) (s : Int) (i_0 : Int) (s_0 : Int) (r1 : i_0 = (0 : Int)) (r2 : s_0 = (0 : Int)) (T : Al (SV (stdA fsu true))) (M : Al (SO (stdA fsu true))) (KK : Ex → List (SV (stdA fsu true)) → List (SO (stdA fsu true)) → List Ll → Prop) (p1 : (OkB l) = true) (hI : 0 ≤ i ∧ i ≤ Ll.len l ∧ s = sumI (tubeLen l) i.toNat) (hn : ∀ (i' : Int) (s' : Int), 0 ≤ i' ∧ i' ≤ Ll.len l ∧ s' = sumI (tubeLen l) i'.toNat → (24 - i').toNat < (24 - i).toNat → KK .normal [.i .i64 i', .i .i64 s'] [] []) (hx1 : KK (.exit 0) [.i .i64 (Ll.len l), .i .i64 (lenI l)] [] []) :
    sCode Try.prog (sCall Try.prog 30 (spOf sp0) noLoop 20) (noLoop 32) 30 (false :: [false, true, false, true, true]) (bodyAt Try.prog 32 [false, true, false, true, true]) (hdL (bodyAt Try.prog 32 [false, true, false, true, true]) T M 28 2 [(1, .p 1 0)] [(0, .list 0 [.int .i64, .int .i64, .int .i64, .int .i64, .int .i64, .int .i64, .int .i64, .int .i64, .int .i64] false l), (1, .row 24 [.ls false 0 (Ll.len l)])] [(4, .i .i64 i), (3, .i .i64 s)] [] [] [] []) (outL 2 (tsOf [4, 3] []) [] [] [] KK) := by
  refine Eq.mpr (rlen_eq i s l T M KK) ?_
  have hl : Ll.len l = (l.length : Int) := rfl
  obtain ⟨o1, o2⟩ := ok_of p1
  obtain ⟨i0, i1, rfl⟩ := hI
  by_cases h : i < Ll.len l
  · rw [decide_eq_true h]
    have ht := fbad_ok i0 (show i < fbad l by omega)
    have hb := len_bd ht
    have hq := sumI_bd (f := tubeLen l) (A := 0) (B := 1600000) i.toNat fun j a b => by have := len_bd (fbad_ok a (show j < fbad l by omega)); omega
    have hs := sumI_succ (tubeLen l) i0
    have e : Ll.get l i 0 * Ll.get l i 1 = tubeLen l i := rfl
    rw [e]
    have hn' := hn (i + 1) _ ⟨by omega, by omega, rfl⟩ (by omega)
    rw [hs] at hn'
    simp only [InK64]
    first
      | exact ⟨i0, h, h, by omega, by omega, by omega, hn'⟩
      | exact ⟨i0, h, h, i0, h, h, by omega, by omega, by omega, hn'⟩
  · rw [decide_eq_false h]
    obtain rfl : i = Ll.len l := by omega
    exact hx1
abbrev rlenF {A : Go.Rx.Alg} : Code → Go.Rx.SS A → (Go.Rx.Ex → Go.Rx.SS A → A.R) → A.R := fun c_ s_ K_ => match s_.T.get 1, s_.H.get 0, s_.H.get 1, s_.T.get 4, s_.T.get 3 with
  | some (.p 1 0), some (.list t1 k1 false l), some (.row t2 [.ls false 0 m3]), some (.i .i64 i), some (.i .i64 s) => bif ((((Nat.beq s_.N 28 && Nat.beq s_.nx 2) && Nat.beq t1 0) && decide (k1 = [.int .i64, .int .i64, .int .i64, .int .i64, .int .i64, .int .i64, .int .i64, .int .i64, .int .i64])) && Nat.beq t2 24) then (A.need .eql m3 (A.len l) (A.need .eql i (A.lit 0) (A.need .eql s (A.lit 0) (A.br (A.appB 32 [l] []) (fun _ => (K_ (.exit 0) (Go.Rx.hdL c_ s_.T (Go.Rx.kills [] s_.H) 28 2 [(1, .p 1 0)] [(0, .list 0 [.int .i64, .int .i64, .int .i64, .int .i64, .int .i64, .int .i64, .int .i64, .int .i64, .int .i64] false l), (1, .row 24 [.ls false 0 (A.len l)])] [(4, .i .i64 (A.len l)), (3, .i .i64 (A.app 1 [l] []))] [] [] [] (Go.Rx.addW ([] ++ []) s_.wr)))) (fun _ => A.fail "pre"))))) else A.fail "frame of rlen"
  | _, _, _, _, _ => A.fail "rlen"
theorem rlenF_ok {d : Nat} (hd : 100 ≤ d) : LoopOK (fs := fsu) (ov := true) Try.prog AW d 32 [false, true, false, true, true] rlenF := by
  intro m_ hm_ fn_ c0_ hfn_ hb_ c_ ro_ hc_ s_ K_ W_ ν_ S_ h_ hs_
  obtain rfl := body_of hfn_ hb_ hc_
  simp only [rlenF] at h_
  split at h_
  · rename_i t1 k1 l_0 t2 m3_0 i_0_0 s_0_0 g0 g1 g2 g3 g4
    obtain ⟨l, rfl⟩ : ∃ q : Ll, q = l_0 := ⟨l_0, rfl⟩
    obtain ⟨m3, rfl⟩ : ∃ q : Int, q = m3_0 := ⟨m3_0, rfl⟩
    obtain ⟨i_0, rfl⟩ : ∃ q : Int, q = i_0_0 := ⟨i_0_0, rfl⟩
    obtain ⟨s_0, rfl⟩ : ∃ q : Int, q = s_0_0 := ⟨s_0_0, rfl⟩
    obtain ⟨T_, FN_, M_, snx_, wr_⟩ := s_
    have hN : ((((Nat.beq FN_ 28 && Nat.beq snx_ 2) && Nat.beq t1 0) && decide (k1 = [.int .i64, .int .i64, .int .i64, .int .i64, .int .i64, .int .i64, .int .i64, .int .i64, .int .i64])) && Nat.beq t2 24) = true := by
      cases hq : (((((Nat.beq FN_ 28 && Nat.beq snx_ 2) && Nat.beq t1 0) && decide (k1 = [.int .i64, .int .i64, .int .i64, .int .i64, .int .i64, .int .i64, .int .i64, .int .i64, .int .i64])) && Nat.beq t2 24) : Bool) with
      | true => rfl
      | false => (rw [hq] at h_; exact h_.elim)
    rw [hN, cond_true] at h_
    simp only [Bool.and_eq_true, beq_iff, decide_eq_true_eq] at hN
    obtain ⟨⟨⟨⟨rfl, rfl⟩, rfl⟩, rfl⟩, rfl⟩ := hN
    obtain ⟨q0, h_⟩ := h_
    obtain rfl : m3 = (Ll.len l) := q0
    obtain ⟨q1, h_⟩ := h_
    have q1 : i_0 = (0 : Int) := q1
    obtain ⟨q2, h_⟩ := h_
    have q2 : s_0 = (0 : Int) := q2
    obtain ⟨q3, h_⟩ := br_pre (fs := fsu) (ov := true) h_
    have q3 : (OkB l) = true := q3
    replace h_ : K_ (.exit 0) (hdL (bodyAt Try.prog 32 [false, true, false, true, true]) T_ (kills [] M_) 28 2 [(1, .p 1 0)] [(0, .list 0 [.int .i64, .int .i64, .int .i64, .int .i64, .int .i64, .int .i64, .int .i64, .int .i64, .int .i64] false l), (1, .row 24 [.ls false 0 (Ll.len l)])] [(4, .i .i64 (Ll.len l)), (3, .i .i64 (lenI l))] [] [] [] (addW ([] ++ []) wr_)) := h_
    have hx1 : K_ (.exit 0) (hdL (bodyAt Try.prog 32 [false, true, false, true, true]) T_ (kills [] M_) 28 2 [(1, .p 1 0)] [(0, .list 0 [.int .i64, .int .i64, .int .i64, .int .i64, .int .i64, .int .i64, .int .i64, .int .i64, .int .i64] false l), (1, .row 24 [.ls false 0 (Ll.len l)])] [(4, .i .i64 (Ll.len l)), (3, .i .i64 (lenI l))] [] [] [] (addW ([] ++ []) wr_)) := by
      have h2 := h_
      exact h2
    refine loop_ruleL (fs := fsu) (ov := true) (s := ⟨T_, 28, M_, 2, wr_⟩) (X := Int × Int) (B := []) (mv := []) (kt := [(1, .p 1 0)]) (kr := [(0, .list 0 [.int .i64, .int .i64, .int .i64, .int .i64, .int .i64, .int .i64, .int .i64, .int .i64, .int .i64] false l), (1, .row 24 [.ls false 0 (Ll.len l)])]) (ty := []) (x := (i_0, s_0))
      (Inv := (fun x : Int × Int => match x with | (i, s) => 0 ≤ i ∧ i ≤ Ll.len l ∧ s = sumI (tubeLen l) i.toNat)) (μ := (fun x : Int × Int => match x with | (i, s) => (24 - i).toNat)) (ts := tsOf [4, 3] []) (sl := (fun x : Int × Int => match x with | (i, s) => [.i .i64 i, .i .i64 s])) (bl := (fun x : Int × Int => match x with | (i, s) => [])) (ll := (fun x : Int × Int => match x with | (i, s) => [])) (Q := fun e_ vs_ os_ hs_ => K_ e_ (hdL (bodyAt Try.prog 32 [false, true, false, true, true]) T_ (kills [] M_) 28 2 [(1, .p 1 0)] [(0, .list 0 [.int .i64, .int .i64, .int .i64, .int .i64, .int .i64, .int .i64, .int .i64, .int .i64, .int .i64] false l), (1, .row 24 [.ls false 0 (Ll.len l)])] (((tsOf [4, 3] []) e_).zip vs_) ([].zip os_) [] hs_ (addW ([] ++ []) wr_)))
      (L := LL) (U := 30) (cs := sCall Try.prog 30 (spOf sp0) noLoop 20) (call := CN Try.prog AW m_) (lp := noLoop 32) (root := c0_) (p := [false, true, false, true, true])
      (show CallSOK _ _ from by
        have := sCall_ok (P := Try.prog) (d := m_ - 20) (U := 30) (lp := noLoop) (sp0_ok (fs := fsu) (ov := true) (d := m_ - 20)) (sp0_aw (fs := fsu) (ov := true)) (noLoop_ok) (by decide) 20
        rwa [show 20 + (m_ - 20) = m_ by omega] at this) (fun p f h => by cases h) (by decide) hc_
      (fun x o ho => by cases ho)
      (fun x hx => by cases hx) (fun x hx => by cases hx) (fun x hx => by cases hx)
      (fun x hx => by
        simp only [List.mem_cons, List.not_mem_nil, or_false] at hx
        rcases hx with rfl
        · exact g0) (fun x hx => by
        simp only [List.mem_cons, List.not_mem_nil, or_false] at hx
        rcases hx with rfl | rfl
        · exact ⟨g1, by simp⟩
        · exact ⟨g2, by simp⟩) ?_ (fun _ _ _ _ _ h => h) ?_ ?_ ?_ hs_
    · rintro ⟨i, s⟩ hI
      exact rlen_go l i s i_0 s_0 q1 q2 T_ (kills [] M_) _ q3 hI (fun i' s' ha hb => ⟨(i', s'), ha, hb, rfl, rfl, rfl⟩) (⟨by simp [SO.mine], hx1⟩)
    · show 0 ≤ i_0 ∧ i_0 ≤ Ll.len l ∧ s_0 = sumI (tubeLen l) i_0.toNat
      exact ⟨by omega, by have : (0 : Int) ≤ Ll.len l := Int.natCast_nonneg _; omega, by rw [q1, q2]; rfl⟩
    · show (24 - i_0).toNat < LL
      exact Nat.lt_of_le_of_lt (show _ ≤ 1000 by omega) (by decide)
    · exact ⟨⟨[.i .i64 i_0, .i .i64 s_0], [], [], [], by simp [gets, tsOf, g0, g1, g2, g3, g4], by simp [gets, g0, g1, g2, g3, g4], rfl, rfl, by simp [listsOf] <;> rfl⟩⟩
  · exact h_.elim
abbrev lpRlen {A : Go.Rx.Alg} : Nat → Go.Rx.LoopS A := Go.Rx.lpOf [(32, [false, true, false, true, true], rlenF)]
theorem lpRlen_ok {d : Nat} (hd : 100 ≤ d) : LoopsAll (fs := fsu) (ov := true) Try.prog AW d lpRlen := lpOf_ok fun x hx => by
  simp only [List.mem_cons, List.not_mem_nil, or_false] at hx
  rcases hx with rfl
  · exact rlenF_ok (by omega)
theorem lengthF_eq (l : Ll) (KK : KS (stdA fsu true)) : sFunc Try.prog 30 (sCall Try.prog 30 (spOf sp0) lpLen 20) lpLen 30 [.agg [.ls false 0 (Ll.len l)]] (lsMem 0 [([.int .i64, .int .i64, .int .i64, .int .i64, .int .i64, .int .i64, .int .i64, .int .i64, .int .i64], l)]) 1 KK =
  ((Ll.len l) = (Ll.len l) ∧ ((Ll.len l) = (Ll.len l) ∧ ((Ll.len l) = (Ll.len l) ∧ ((0 : Int) = (0 : Int) ∧ ((0 : Int) = (0 : Int) ∧ (cond (OkB l)
 (KK (.i .i64 (lenI l)) (lsMem 0 [([.int .i64, .int .i64, .int .i64, .int .i64, .int .i64, .int .i64, .int .i64, .int .i64, .int .i64], l)]) 1 [])
 False)))))) := by kernel_rfl
theorem lengthF_pure {m : Nat} (hm : 200 ≤ m) {H : Hp} {nx : Nat} {v_l : LV} {l : Ll} (hl_l : IsL H nx [.int .i64, .int .i64, .int .i64, .int .i64, .int .i64, .int .i64, .int .i64, .int .i64, .int .i64] l v_l) (p1 : (OkB l) = true) : Pure Try.prog AW m 30 [.agg [v_l]] H nx (.i .i64 (lenI l)) := by
  obtain ⟨ν, n1, n2, n3, n4⟩ := ls_in (fs := fsu) (ov := true) (l := [([.int .i64, .int .i64, .int .i64, .int .i64, .int .i64, .int .i64, .int .i64, .int .i64, .int .i64], l)]) (lvs := [v_l]) 0 (fun i x lv e1 e2 => by
    cases i with
    | zero => simp at e1 e2; subst e1 e2; exact hl_l
    | succ i =>
      simp at e1) rfl
  refine pure_of (n := 20) (d := m - 21) (U := 30) (fs := fsu) (ov := true) sp0_ok sp0_aw (lpLen_ok (by omega)) (by decide) (by decide) (by omega) (args := [.agg [.ls false 0 (Ll.len l)]]) (M := lsMem 0 [([.int .i64, .int .i64, .int .i64, .int .i64, .int .i64, .int .i64, .int .i64, .int .i64, .int .i64], l)]) (snx := 1) ?_ (VSL.cons ⟨_, rfl, (VSL.cons (n4 0 _ _ rfl rfl) rfl)⟩ rfl) (hs_in n2 n3)
  rw [lengthF_eq]
  rw [p1]
  first | exact ⟨by trivial, by trivial, by trivial, by trivial, by trivial, end_i rfl⟩ | exact ⟨by trivial, by trivial, by trivial, end_i rfl⟩
abbrev lengthFS {A : Go.Rx.Alg} : List (Go.Rx.SV A) → Go.Rx.SH A → Nat → Go.Rx.KS A → A.R := fun args_ M_ snx_ K_ => match args_ with
  | [.agg [x_l]] => (match Go.Rx.lsArg M_ [.int .i64, .int .i64, .int .i64, .int .i64, .int .i64, .int .i64, .int .i64, .int .i64, .int .i64] x_l with | some (l, n_l) => (A.need .eql n_l (A.len l) (A.br (A.appB 32 [l] []) (fun _ => (K_ (.i .i64 (A.app 1 [l] [])) M_ snx_ [])) (fun _ => A.fail "pre"))) | none => A.fail "lengthF")
  | _ => A.fail "lengthF"
theorem lengthFS_ok {ov : Bool} {d : Nat} (hd : 200 ≤ d) : SpecOK (fs := fsu) (ov := ov) Try.prog AW d 30 lengthFS := by
  intro m_ hm_ args_ M_ snx_ K_ h_ ν_ largs_ H_ nx_ ha_ hM_
  unfold lengthFS at h_
  split at h_
  · rename_i x_l
    obtain ⟨y1, r1, rfl, ⟨l1, rfl, ⟨v_l, r2, rfl, hx_l, rfl⟩⟩, rfl⟩ := ha_
    split at h_
    · rename_i l n_l q_l
      obtain ⟨e_l, h_⟩ := h_
      obtain ⟨p1, h_⟩ := br_pre (fs := fsu) (ov := ov) h_
      have p1 : (OkB l) = true := p1
      exact pure_got (lengthF_pure (by omega) (lsArg_ok hM_ hx_l q_l e_l) p1) hM_ (v := .i .i64 _) rfl h_
    · exact h_.elim
  · exact h_.elim
theorem rlengthF_eq (l : Ll) (KK : KS (stdA fsu true)) : sFunc Try.prog 30 (sCall Try.prog 30 (spOf sp0) lpRlen 20) lpRlen 32 [.agg [.ls false 0 (Ll.len l)]] (lsMem 0 [([.int .i64, .int .i64, .int .i64, .int .i64, .int .i64, .int .i64, .int .i64, .int .i64, .int .i64], l)]) 1 KK =
  ((Ll.len l) = (Ll.len l) ∧ ((0 : Int) = (0 : Int) ∧ ((0 : Int) = (0 : Int) ∧ (cond (OkB l)
 (KK (.i .i64 (lenI l)) (lsMem 0 [([.int .i64, .int .i64, .int .i64, .int .i64, .int .i64, .int .i64, .int .i64, .int .i64, .int .i64], l)]) 1 [])
 False)))) := by kernel_rfl
theorem rlengthF_pure {m : Nat} (hm : 200 ≤ m) {H : Hp} {nx : Nat} {v_l : LV} {l : Ll} (hl_l : IsL H nx [.int .i64, .int .i64, .int .i64, .int .i64, .int .i64, .int .i64, .int .i64, .int .i64, .int .i64] l v_l) (p1 : (OkB l) = true) : Pure Try.prog AW m 32 [.agg [v_l]] H nx (.i .i64 (lenI l)) := by
  obtain ⟨ν, n1, n2, n3, n4⟩ := ls_in (fs := fsu) (ov := true) (l := [([.int .i64, .int .i64, .int .i64, .int .i64, .int .i64, .int .i64, .int .i64, .int .i64, .int .i64], l)]) (lvs := [v_l]) 0 (fun i x lv e1 e2 => by
    cases i with
    | zero => simp at e1 e2; subst e1 e2; exact hl_l
    | succ i =>
      simp at e1) rfl
  refine pure_of (n := 20) (d := m - 21) (U := 30) (fs := fsu) (ov := true) sp0_ok sp0_aw (lpRlen_ok (by omega)) (by decide) (by decide) (by omega) (args := [.agg [.ls false 0 (Ll.len l)]]) (M := lsMem 0 [([.int .i64, .int .i64, .int .i64, .int .i64, .int .i64, .int .i64, .int .i64, .int .i64, .int .i64], l)]) (snx := 1) ?_ (VSL.cons ⟨_, rfl, (VSL.cons (n4 0 _ _ rfl rfl) rfl)⟩ rfl) (hs_in n2 n3)
  rw [rlengthF_eq]
  rw [p1]
  first | exact ⟨by trivial, by trivial, by trivial, by trivial, by trivial, end_i rfl⟩ | exact ⟨by trivial, by trivial, by trivial, end_i rfl⟩
abbrev rlengthFS {A : Go.Rx.Alg} : List (Go.Rx.SV A) → Go.Rx.SH A → Nat → Go.Rx.KS A → A.R := fun args_ M_ snx_ K_ => match args_ with
  | [.agg [x_l]] => (match Go.Rx.lsArg M_ [.int .i64, .int .i64, .int .i64, .int .i64, .int .i64, .int .i64, .int .i64, .int .i64, .int .i64] x_l with | some (l, n_l) => (A.need .eql n_l (A.len l) (A.br (A.appB 32 [l] []) (fun _ => (K_ (.i .i64 (A.app 1 [l] [])) M_ snx_ [])) (fun _ => A.fail "pre"))) | none => A.fail "rlengthF")
  | _ => A.fail "rlengthF"
theorem rlengthFS_ok {ov : Bool} {d : Nat} (hd : 200 ≤ d) : SpecOK (fs := fsu) (ov := ov) Try.prog AW d 32 rlengthFS := by
  intro m_ hm_ args_ M_ snx_ K_ h_ ν_ largs_ H_ nx_ ha_ hM_
  unfold rlengthFS at h_
  split at h_
  · rename_i x_l
    obtain ⟨y1, r1, rfl, ⟨l1, rfl, ⟨v_l, r2, rfl, hx_l, rfl⟩⟩, rfl⟩ := ha_
    split at h_
    · rename_i l n_l q_l
      obtain ⟨e_l, h_⟩ := h_
      obtain ⟨p1, h_⟩ := br_pre (fs := fsu) (ov := ov) h_
      have p1 : (OkB l) = true := p1
      exact pure_got (rlengthF_pure (by omega) (lsArg_ok hM_ hx_l q_l e_l) p1) hM_ (v := .i .i64 _) rfl h_
    · exact h_.elim
  · exact h_.elim
abbrev spC {A : Go.Rx.Alg} : Go.Rx.SpL A := [(AW, Go.Rx.awakeS), (29, tubS), (31, rtubS), (13, wetS), (14, rwetS), (30, lengthFS), (32, rlengthFS)]
theorem spC_ok {ov : Bool} {d : Nat} (hd : 200 ≤ d) : SpOK (fs := fsu) (ov := ov) Try.prog AW d spC := SpOK.cons awake_ok (SpOK.cons (tubS_ok (by omega)) (SpOK.cons (rtubS_ok (by omega)) (SpOK.cons (wetS_ok (by omega)) (SpOK.cons (rwetS_ok (by omega)) (SpOK.cons (lengthFS_ok (by omega)) (SpOK.cons (rlengthFS_ok (by omega)) SpOK.nil))))))
theorem spC_aw {fs : Fs} {ov : Bool} : (spOf (A := stdA fs ov) spC AW).isSome = true := rfl
theorem chk_eq (i : Int) (l : Ll) (T : Al (SV (stdA fsu true))) (M : Al (SO (stdA fsu true))) (KK : Ex → List (SV (stdA fsu true)) → List (SO (stdA fsu true)) → List Ll → Prop) : sCode Try.prog (sCall Try.prog 30 (spOf spC) noLoop 20) (noLoop 7) 30 (false :: [false, true, false, true, true, true]) (bodyAt Try.prog 7 [false, true, false, true, true, true]) (hdL (bodyAt Try.prog 7 [false, true, false, true, true, true]) T M 27 2 [(14, .ls false 0 (Ll.len l)), (15, .i .i64 (Ll.len l))] [(0, .list 0 [.int .i64, .int .i64, .int .i64, .int .i64, .int .i64, .int .i64, .int .i64, .int .i64, .int .i64] false l), (1, .row 24 [.ls false 0 (Ll.len l)])] [(16, .i .i64 i)] [] [] [] []) (outL 2 (tsOf [16] [2]) [] [] [] KK) =
  (cond (decide (i < (Ll.len l)))
 ((0 : Int) ≤ i ∧ (i < (Ll.len l) ∧ (i < (Ll.len l) ∧ (cond (!(decide (TubeP (Ll.get l i 0) (Ll.get l i 1) (Ll.get l i 2) (Ll.get l i 3) (Ll.get l i 4) (Ll.get l i 5) (Ll.get l i 6) (Ll.get l i 7) (Ll.get l i 8))))
 (KK .ret [(.i .i64 (2 : Int))] [] [])
 (InK .i64 (i + (1 : Int)) ∧ (KK .normal [(.i .i64 (i + (1 : Int)))] [] []))))))
 (KK (.exit 0) [(.i .i64 i)] [] [])) := by kernel_rfl
theorem chk_go (l : Ll) (i : Int) (i_0 : Int) (r1 : i_0 = (0 : Int)) (T : Al (SV (stdA fsu true))) (M : Al (SO (stdA fsu true))) (KK : Ex → List (SV (stdA fsu true)) → List (SO (stdA fsu true)) → List Ll → Prop) (p1 : (Ll.len l) ≤ (8 : Int)) (hI : 0 ≤ i ∧ i ≤ fbad l) (hn : ∀ (i' : Int), 0 ≤ i' ∧ i' ≤ fbad l → (24 - i').toNat < (24 - i).toNat → KK .normal [.i .i64 i'] [] []) (hx1 : (decide (fbad l < l.length)) = true → KK .ret [.i .i64 (2 : Int)] [] []) (hx2 : (decide (fbad l < l.length)) = false → KK (.exit 0) [.i .i64 (Ll.len l)] [] []) :
    sCode Try.prog (sCall Try.prog 30 (spOf spC) noLoop 20) (noLoop 7) 30 (false :: [false, true, false, true, true, true]) (bodyAt Try.prog 7 [false, true, false, true, true, true]) (hdL (bodyAt Try.prog 7 [false, true, false, true, true, true]) T M 27 2 [(14, .ls false 0 (Ll.len l)), (15, .i .i64 (Ll.len l))] [(0, .list 0 [.int .i64, .int .i64, .int .i64, .int .i64, .int .i64, .int .i64, .int .i64, .int .i64, .int .i64] false l), (1, .row 24 [.ls false 0 (Ll.len l)])] [(16, .i .i64 i)] [] [] [] []) (outL 2 (tsOf [16] [2]) [] [] [] KK) := by
  refine Eq.mpr (chk_eq i l T M KK) ?_
  have hl : Ll.len l = (l.length : Int) := rfl
  have hf := fbad_b l
  obtain ⟨i0, i1⟩ := hI
  by_cases h : i < Ll.len l
  · have hs := leastN_step (p := pbad l) (k := l.length) i0 i1 (by omega)
    have hx : pbad l i = !decide (TubeP (Ll.get l i 0) (Ll.get l i 1) (Ll.get l i 2) (Ll.get l i 3) (Ll.get l i 4) (Ll.get l i 5) (Ll.get l i 6) (Ll.get l i 7) (Ll.get l i 8)) := rfl
    rw [decide_eq_true h, ← hx]
    refine ⟨i0, h, h, ?_⟩
    cases hb : pbad l i with
    | true => exact hx1 (decide_eq_true (by have : fbad l = i := hs.1 hb; omega))
    | false => exact ⟨by rw [InK64]; omega, hn (i + 1) ⟨by omega, hs.2 hb⟩ (by omega)⟩
  · rw [decide_eq_false h]
    obtain rfl : i = Ll.len l := by omega
    exact hx2 (decide_eq_false (by omega))
abbrev chkF {A : Go.Rx.Alg} : Code → Go.Rx.SS A → (Go.Rx.Ex → Go.Rx.SS A → A.R) → A.R := fun c_ s_ K_ => match s_.T.get 14, s_.T.get 15, s_.H.get 0, s_.H.get 1, s_.T.get 16 with
  | some (.ls false 0 m1), some (.i .i64 m2), some (.list t3 k3 false l), some (.row t4 [.ls false 0 m5]), some (.i .i64 i) => bif ((((Nat.beq s_.N 27 && Nat.beq s_.nx 2) && Nat.beq t3 0) && decide (k3 = [.int .i64, .int .i64, .int .i64, .int .i64, .int .i64, .int .i64, .int .i64, .int .i64, .int .i64])) && Nat.beq t4 24) then (A.need .eql m1 (A.len l) (A.need .eql m2 (A.len l) (A.need .eql m5 (A.len l) (A.need .eql i (A.lit 0) (A.need .leq (A.len l) (A.lit 8) ((A.br (A.appB 31 [l] []) (fun _ => K_ .ret (Go.Rx.hdL c_ s_.T (Go.Rx.kills [] s_.H) 27 2 [(14, .ls false 0 (A.len l)), (15, .i .i64 (A.len l))] [(0, .list 0 [.int .i64, .int .i64, .int .i64, .int .i64, .int .i64, .int .i64, .int .i64, .int .i64, .int .i64] false l), (1, .row 24 [.ls false 0 (A.len l)])] [(2, .i .i64 (A.lit 2))] [] [] [] (Go.Rx.addW ([] ++ []) s_.wr))) (fun _ => K_ (.exit 0) (Go.Rx.hdL c_ s_.T (Go.Rx.kills [] s_.H) 27 2 [(14, .ls false 0 (A.len l)), (15, .i .i64 (A.len l))] [(0, .list 0 [.int .i64, .int .i64, .int .i64, .int .i64, .int .i64, .int .i64, .int .i64, .int .i64, .int .i64] false l), (1, .row 24 [.ls false 0 (A.len l)])] [(16, .i .i64 (A.len l))] [] [] [] (Go.Rx.addW ([] ++ []) s_.wr)))))))))) else A.fail "frame of chk"
  | _, _, _, _, _ => A.fail "chk"
theorem chkF_ok {d : Nat} (hd : 300 ≤ d) : LoopOK (fs := fsu) (ov := true) Try.prog AW d 7 [false, true, false, true, true, true] chkF := by
  intro m_ hm_ fn_ c0_ hfn_ hb_ c_ ro_ hc_ s_ K_ W_ ν_ S_ h_ hs_
  obtain rfl := body_of hfn_ hb_ hc_
  simp only [chkF] at h_
  split at h_
  · rename_i m1_0 m2_0 t3 k3 l_0 t4 m5_0 i_0_0 g0 g1 g2 g3 g4
    obtain ⟨m1, rfl⟩ : ∃ q : Int, q = m1_0 := ⟨m1_0, rfl⟩
    obtain ⟨m2, rfl⟩ : ∃ q : Int, q = m2_0 := ⟨m2_0, rfl⟩
    obtain ⟨l, rfl⟩ : ∃ q : Ll, q = l_0 := ⟨l_0, rfl⟩
    obtain ⟨m5, rfl⟩ : ∃ q : Int, q = m5_0 := ⟨m5_0, rfl⟩
    obtain ⟨i_0, rfl⟩ : ∃ q : Int, q = i_0_0 := ⟨i_0_0, rfl⟩
    obtain ⟨T_, FN_, M_, snx_, wr_⟩ := s_
    have hN : ((((Nat.beq FN_ 27 && Nat.beq snx_ 2) && Nat.beq t3 0) && decide (k3 = [.int .i64, .int .i64, .int .i64, .int .i64, .int .i64, .int .i64, .int .i64, .int .i64, .int .i64])) && Nat.beq t4 24) = true := by
      cases hq : (((((Nat.beq FN_ 27 && Nat.beq snx_ 2) && Nat.beq t3 0) && decide (k3 = [.int .i64, .int .i64, .int .i64, .int .i64, .int .i64, .int .i64, .int .i64, .int .i64, .int .i64])) && Nat.beq t4 24) : Bool) with
      | true => rfl
      | false => (rw [hq] at h_; exact h_.elim)
    rw [hN, cond_true] at h_
    simp only [Bool.and_eq_true, beq_iff, decide_eq_true_eq] at hN
    obtain ⟨⟨⟨⟨rfl, rfl⟩, rfl⟩, rfl⟩, rfl⟩ := hN
    obtain ⟨q0, h_⟩ := h_
    obtain rfl : m1 = (Ll.len l) := q0
    obtain ⟨q0, h_⟩ := h_
    obtain rfl : m2 = (Ll.len l) := q0
    obtain ⟨q0, h_⟩ := h_
    obtain rfl : m5 = (Ll.len l) := q0
    obtain ⟨q1, h_⟩ := h_
    have q1 : i_0 = (0 : Int) := q1
    obtain ⟨q2, h_⟩ := h_
    have q2 : (Ll.len l) ≤ (8 : Int) := q2
    replace h_ : cond (decide (fbad l < l.length)) (K_ .ret (hdL (bodyAt Try.prog 7 [false, true, false, true, true, true]) T_ (kills [] M_) 27 2 [(14, .ls false 0 (Ll.len l)), (15, .i .i64 (Ll.len l))] [(0, .list 0 [.int .i64, .int .i64, .int .i64, .int .i64, .int .i64, .int .i64, .int .i64, .int .i64, .int .i64] false l), (1, .row 24 [.ls false 0 (Ll.len l)])] [(2, .i .i64 (2 : Int))] [] [] [] (addW ([] ++ []) wr_))) (K_ (.exit 0) (hdL (bodyAt Try.prog 7 [false, true, false, true, true, true]) T_ (kills [] M_) 27 2 [(14, .ls false 0 (Ll.len l)), (15, .i .i64 (Ll.len l))] [(0, .list 0 [.int .i64, .int .i64, .int .i64, .int .i64, .int .i64, .int .i64, .int .i64, .int .i64, .int .i64] false l), (1, .row 24 [.ls false 0 (Ll.len l)])] [(16, .i .i64 (Ll.len l))] [] [] [] (addW ([] ++ []) wr_))) := h_
    have hx1 : (decide (fbad l < l.length)) = true → K_ .ret (hdL (bodyAt Try.prog 7 [false, true, false, true, true, true]) T_ (kills [] M_) 27 2 [(14, .ls false 0 (Ll.len l)), (15, .i .i64 (Ll.len l))] [(0, .list 0 [.int .i64, .int .i64, .int .i64, .int .i64, .int .i64, .int .i64, .int .i64, .int .i64, .int .i64] false l), (1, .row 24 [.ls false 0 (Ll.len l)])] [(2, .i .i64 (2 : Int))] [] [] [] (addW ([] ++ []) wr_)) := fun e1 => by
      have h2 := h_
      rw [e1] at h2; simp only [cond_true, cond_false] at h2; exact h2
    have hx2 : (decide (fbad l < l.length)) = false → K_ (.exit 0) (hdL (bodyAt Try.prog 7 [false, true, false, true, true, true]) T_ (kills [] M_) 27 2 [(14, .ls false 0 (Ll.len l)), (15, .i .i64 (Ll.len l))] [(0, .list 0 [.int .i64, .int .i64, .int .i64, .int .i64, .int .i64, .int .i64, .int .i64, .int .i64, .int .i64] false l), (1, .row 24 [.ls false 0 (Ll.len l)])] [(16, .i .i64 (Ll.len l))] [] [] [] (addW ([] ++ []) wr_)) := fun e1 => by
      have h2 := h_
      rw [e1] at h2; simp only [cond_true, cond_false] at h2; exact h2
    refine loop_ruleL (fs := fsu) (ov := true) (s := ⟨T_, 27, M_, 2, wr_⟩) (X := Int) (B := []) (mv := []) (kt := [(14, .ls false 0 (Ll.len l)), (15, .i .i64 (Ll.len l))]) (kr := [(0, .list 0 [.int .i64, .int .i64, .int .i64, .int .i64, .int .i64, .int .i64, .int .i64, .int .i64, .int .i64] false l), (1, .row 24 [.ls false 0 (Ll.len l)])]) (ty := []) (x := (i_0))
      (Inv := (fun x : Int => match x with | (i) => 0 ≤ i ∧ i ≤ fbad l)) (μ := (fun x : Int => match x with | (i) => (24 - i).toNat)) (ts := tsOf [16] [2]) (sl := (fun x : Int => match x with | (i) => [.i .i64 i])) (bl := (fun x : Int => match x with | (i) => [])) (ll := (fun x : Int => match x with | (i) => [])) (Q := fun e_ vs_ os_ hs_ => K_ e_ (hdL (bodyAt Try.prog 7 [false, true, false, true, true, true]) T_ (kills [] M_) 27 2 [(14, .ls false 0 (Ll.len l)), (15, .i .i64 (Ll.len l))] [(0, .list 0 [.int .i64, .int .i64, .int .i64, .int .i64, .int .i64, .int .i64, .int .i64, .int .i64, .int .i64] false l), (1, .row 24 [.ls false 0 (Ll.len l)])] (((tsOf [16] [2]) e_).zip vs_) ([].zip os_) [] hs_ (addW ([] ++ []) wr_)))
      (L := LL) (U := 30) (cs := sCall Try.prog 30 (spOf spC) noLoop 20) (call := CN Try.prog AW m_) (lp := noLoop 7) (root := c0_) (p := [false, true, false, true, true, true])
      (show CallSOK _ _ from by
        have := sCall_ok (P := Try.prog) (d := m_ - 20) (U := 30) (lp := noLoop) (spC_ok (ov := true) (d := m_ - 20) (by omega)) (spC_aw (fs := fsu) (ov := true)) (noLoop_ok) (by decide) 20
        rwa [show 20 + (m_ - 20) = m_ by omega] at this) (fun p f h => by cases h) (by decide) hc_
      (fun x o ho => by cases ho)
      (fun x hx => by cases hx) (fun x hx => by cases hx) (fun x hx => by cases hx)
      (fun x hx => by
        simp only [List.mem_cons, List.not_mem_nil, or_false] at hx
        rcases hx with rfl | rfl
        · exact g0
        · exact g1) (fun x hx => by
        simp only [List.mem_cons, List.not_mem_nil, or_false] at hx
        rcases hx with rfl | rfl
        · exact ⟨g2, by simp⟩
        · exact ⟨g3, by simp⟩) ?_ (fun _ _ _ _ _ h => h) ?_ ?_ ?_ hs_
    · rintro i hI
      exact chk_go l i i_0 q1 T_ (kills [] M_) _ q2 hI (fun i' ha hb => ⟨(i'), ha, hb, rfl, rfl, rfl⟩) (fun e1 => ⟨by simp [SO.mine], hx1 e1⟩) (fun e1 => ⟨by simp [SO.mine], hx2 e1⟩)
    · show 0 ≤ i_0 ∧ i_0 ≤ fbad l
      exact ⟨by omega, by have := fbad_b l; omega⟩
    · show (24 - i_0).toNat < LL
      exact Nat.lt_of_le_of_lt (show _ ≤ 1000 by omega) (by decide)
    · exact ⟨⟨[.i .i64 i_0], [], [], [], by simp [gets, tsOf, g0, g1, g2, g3, g4], by simp [gets, g0, g1, g2, g3, g4], rfl, rfl, by simp [listsOf] <;> rfl⟩⟩
  · exact h_.elim
abbrev lpChk {A : Go.Rx.Alg} : Nat → Go.Rx.LoopS A := Go.Rx.lpOf [(7, [false, true, false, true, true, true], chkF)]
theorem lpChk_ok {d : Nat} (hd : 300 ≤ d) : LoopsAll (fs := fsu) (ov := true) Try.prog AW d lpChk := lpOf_ok fun x hx => by
  simp only [List.mem_cons, List.not_mem_nil, or_false] at hx
  rcases hx with rfl
  · exact chkF_ok (by omega)
theorem rchk_eq (i : Int) (l : Ll) (T : Al (SV (stdA fsu true))) (M : Al (SO (stdA fsu true))) (KK : Ex → List (SV (stdA fsu true)) → List (SO (stdA fsu true)) → List Ll → Prop) : sCode Try.prog (sCall Try.prog 30 (spOf spC) noLoop 20) (noLoop 8) 30 (false :: [false, true, false, true, true, true]) (bodyAt Try.prog 8 [false, true, false, true, true, true]) (hdL (bodyAt Try.prog 8 [false, true, false, true, true, true]) T M 29 2 [(1, .p 1 0)] [(0, .list 0 [.int .i64, .int .i64, .int .i64, .int .i64, .int .i64, .int .i64, .int .i64, .int .i64, .int .i64] false l), (1, .row 24 [.ls false 0 (Ll.len l)])] [(3, .i .i64 i)] [] [] [] []) (outL 2 (tsOf [3] [2]) [] [] [] KK) =
  (cond (decide (i < (Ll.len l)))
 ((0 : Int) ≤ i ∧ (i < (Ll.len l) ∧ (i < (Ll.len l) ∧ (cond (!(decide (TubeP (Ll.get l i 0) (Ll.get l i 1) (Ll.get l i 2) (Ll.get l i 3) (Ll.get l i 4) (Ll.get l i 5) (Ll.get l i 6) (Ll.get l i 7) (Ll.get l i 8))))
 (KK .ret [(.i .i64 (2 : Int))] [] [])
 (InK .i64 (i + (1 : Int)) ∧ (KK .normal [(.i .i64 (i + (1 : Int)))] [] []))))))
 (KK (.exit 0) [(.i .i64 i)] [] [])) := by kernel_rfl
theorem rchk_go (l : Ll) (i : Int) (i_0 : Int) (r1 : i_0 = (0 : Int)) (T : Al (SV (stdA fsu true))) (M : Al (SO (stdA fsu true))) (KK : Ex → List (SV (stdA fsu true)) → List (SO (stdA fsu true)) → List Ll → Prop) (p1 : (Ll.len l) ≤ (8 : Int)) (hI : 0 ≤ i ∧ i ≤ fbad l) (hn : ∀ (i' : Int), 0 ≤ i' ∧ i' ≤ fbad l → (24 - i').toNat < (24 - i).toNat → KK .normal [.i .i64 i'] [] []) (hx1 : (decide (fbad l < l.length)) = true → KK .ret [.i .i64 (2 : Int)] [] []) (hx2 : (decide (fbad l < l.length)) = false → KK (.exit 0) [.i .i64 (Ll.len l)] [] []) :
    sCode Try.prog (sCall Try.prog 30 (spOf spC) noLoop 20) (noLoop 8) 30 (false :: [false, true, false, true, true, true]) (bodyAt Try.prog 8 [false, true, false, true, true, true]) (hdL (bodyAt Try.prog 8 [false, true, false, true, true, true]) T M 29 2 [(1, .p 1 0)] [(0, .list 0 [.int .i64, .int .i64, .int .i64, .int .i64, .int .i64, .int .i64, .int .i64, .int .i64, .int .i64] false l), (1, .row 24 [.ls false 0 (Ll.len l)])] [(3, .i .i64 i)] [] [] [] []) (outL 2 (tsOf [3] [2]) [] [] [] KK) := by
  refine Eq.mpr (rchk_eq i l T M KK) ?_
  have hl : Ll.len l = (l.length : Int) := rfl
  have hf := fbad_b l
  obtain ⟨i0, i1⟩ := hI
  by_cases h : i < Ll.len l
  · have hs := leastN_step (p := pbad l) (k := l.length) i0 i1 (by omega)
    have hx : pbad l i = !decide (TubeP (Ll.get l i 0) (Ll.get l i 1) (Ll.get l i 2) (Ll.get l i 3) (Ll.get l i 4) (Ll.get l i 5) (Ll.get l i 6) (Ll.get l i 7) (Ll.get l i 8)) := rfl
    rw [decide_eq_true h, ← hx]
    refine ⟨i0, h, h, ?_⟩
    cases hb : pbad l i with
    | true => exact hx1 (decide_eq_true (by have : fbad l = i := hs.1 hb; omega))
    | false => exact ⟨by rw [InK64]; omega, hn (i + 1) ⟨by omega, hs.2 hb⟩ (by omega)⟩
  · rw [decide_eq_false h]
    obtain rfl : i = Ll.len l := by omega
    exact hx2 (decide_eq_false (by omega))
abbrev rchkF {A : Go.Rx.Alg} : Code → Go.Rx.SS A → (Go.Rx.Ex → Go.Rx.SS A → A.R) → A.R := fun c_ s_ K_ => match s_.T.get 1, s_.H.get 0, s_.H.get 1, s_.T.get 3 with
  | some (.p 1 0), some (.list t1 k1 false l), some (.row t2 [.ls false 0 m3]), some (.i .i64 i) => bif ((((Nat.beq s_.N 29 && Nat.beq s_.nx 2) && Nat.beq t1 0) && decide (k1 = [.int .i64, .int .i64, .int .i64, .int .i64, .int .i64, .int .i64, .int .i64, .int .i64, .int .i64])) && Nat.beq t2 24) then (A.need .eql m3 (A.len l) (A.need .eql i (A.lit 0) (A.need .leq (A.len l) (A.lit 8) ((A.br (A.appB 31 [l] []) (fun _ => K_ .ret (Go.Rx.hdL c_ s_.T (Go.Rx.kills [] s_.H) 29 2 [(1, .p 1 0)] [(0, .list 0 [.int .i64, .int .i64, .int .i64, .int .i64, .int .i64, .int .i64, .int .i64, .int .i64, .int .i64] false l), (1, .row 24 [.ls false 0 (A.len l)])] [(2, .i .i64 (A.lit 2))] [] [] [] (Go.Rx.addW ([] ++ []) s_.wr))) (fun _ => K_ (.exit 0) (Go.Rx.hdL c_ s_.T (Go.Rx.kills [] s_.H) 29 2 [(1, .p 1 0)] [(0, .list 0 [.int .i64, .int .i64, .int .i64, .int .i64, .int .i64, .int .i64, .int .i64, .int .i64, .int .i64] false l), (1, .row 24 [.ls false 0 (A.len l)])] [(3, .i .i64 (A.len l))] [] [] [] (Go.Rx.addW ([] ++ []) s_.wr)))))))) else A.fail "frame of rchk"
  | _, _, _, _ => A.fail "rchk"
theorem rchkF_ok {d : Nat} (hd : 300 ≤ d) : LoopOK (fs := fsu) (ov := true) Try.prog AW d 8 [false, true, false, true, true, true] rchkF := by
  intro m_ hm_ fn_ c0_ hfn_ hb_ c_ ro_ hc_ s_ K_ W_ ν_ S_ h_ hs_
  obtain rfl := body_of hfn_ hb_ hc_
  simp only [rchkF] at h_
  split at h_
  · rename_i t1 k1 l_0 t2 m3_0 i_0_0 g0 g1 g2 g3
    obtain ⟨l, rfl⟩ : ∃ q : Ll, q = l_0 := ⟨l_0, rfl⟩
    obtain ⟨m3, rfl⟩ : ∃ q : Int, q = m3_0 := ⟨m3_0, rfl⟩
    obtain ⟨i_0, rfl⟩ : ∃ q : Int, q = i_0_0 := ⟨i_0_0, rfl⟩
    obtain ⟨T_, FN_, M_, snx_, wr_⟩ := s_
    have hN : ((((Nat.beq FN_ 29 && Nat.beq snx_ 2) && Nat.beq t1 0) && decide (k1 = [.int .i64, .int .i64, .int .i64, .int .i64, .int .i64, .int .i64, .int .i64, .int .i64, .int .i64])) && Nat.beq t2 24) = true := by
      cases hq : (((((Nat.beq FN_ 29 && Nat.beq snx_ 2) && Nat.beq t1 0) && decide (k1 = [.int .i64, .int .i64, .int .i64, .int .i64, .int .i64, .int .i64, .int .i64, .int .i64, .int .i64])) && Nat.beq t2 24) : Bool) with
      | true => rfl
      | false => (rw [hq] at h_; exact h_.elim)
    rw [hN, cond_true] at h_
    simp only [Bool.and_eq_true, beq_iff, decide_eq_true_eq] at hN
    obtain ⟨⟨⟨⟨rfl, rfl⟩, rfl⟩, rfl⟩, rfl⟩ := hN
    obtain ⟨q0, h_⟩ := h_
    obtain rfl : m3 = (Ll.len l) := q0
    obtain ⟨q1, h_⟩ := h_
    have q1 : i_0 = (0 : Int) := q1
    obtain ⟨q2, h_⟩ := h_
    have q2 : (Ll.len l) ≤ (8 : Int) := q2
    replace h_ : cond (decide (fbad l < l.length)) (K_ .ret (hdL (bodyAt Try.prog 8 [false, true, false, true, true, true]) T_ (kills [] M_) 29 2 [(1, .p 1 0)] [(0, .list 0 [.int .i64, .int .i64, .int .i64, .int .i64, .int .i64, .int .i64, .int .i64, .int .i64, .int .i64] false l), (1, .row 24 [.ls false 0 (Ll.len l)])] [(2, .i .i64 (2 : Int))] [] [] [] (addW ([] ++ []) wr_))) (K_ (.exit 0) (hdL (bodyAt Try.prog 8 [false, true, false, true, true, true]) T_ (kills [] M_) 29 2 [(1, .p 1 0)] [(0, .list 0 [.int .i64, .int .i64, .int .i64, .int .i64, .int .i64, .int .i64, .int .i64, .int .i64, .int .i64] false l), (1, .row 24 [.ls false 0 (Ll.len l)])] [(3, .i .i64 (Ll.len l))] [] [] [] (addW ([] ++ []) wr_))) := h_
    have hx1 : (decide (fbad l < l.length)) = true → K_ .ret (hdL (bodyAt Try.prog 8 [false, true, false, true, true, true]) T_ (kills [] M_) 29 2 [(1, .p 1 0)] [(0, .list 0 [.int .i64, .int .i64, .int .i64, .int .i64, .int .i64, .int .i64, .int .i64, .int .i64, .int .i64] false l), (1, .row 24 [.ls false 0 (Ll.len l)])] [(2, .i .i64 (2 : Int))] [] [] [] (addW ([] ++ []) wr_)) := fun e1 => by
      have h2 := h_
      rw [e1] at h2; simp only [cond_true, cond_false] at h2; exact h2
    have hx2 : (decide (fbad l < l.length)) = false → K_ (.exit 0) (hdL (bodyAt Try.prog 8 [false, true, false, true, true, true]) T_ (kills [] M_) 29 2 [(1, .p 1 0)] [(0, .list 0 [.int .i64, .int .i64, .int .i64, .int .i64, .int .i64, .int .i64, .int .i64, .int .i64, .int .i64] false l), (1, .row 24 [.ls false 0 (Ll.len l)])] [(3, .i .i64 (Ll.len l))] [] [] [] (addW ([] ++ []) wr_)) := fun e1 => by
      have h2 := h_
      rw [e1] at h2; simp only [cond_true, cond_false] at h2; exact h2
    refine loop_ruleL (fs := fsu) (ov := true) (s := ⟨T_, 29, M_, 2, wr_⟩) (X := Int) (B := []) (mv := []) (kt := [(1, .p 1 0)]) (kr := [(0, .list 0 [.int .i64, .int .i64, .int .i64, .int .i64, .int .i64, .int .i64, .int .i64, .int .i64, .int .i64] false l), (1, .row 24 [.ls false 0 (Ll.len l)])]) (ty := []) (x := (i_0))
      (Inv := (fun x : Int => match x with | (i) => 0 ≤ i ∧ i ≤ fbad l)) (μ := (fun x : Int => match x with | (i) => (24 - i).toNat)) (ts := tsOf [3] [2]) (sl := (fun x : Int => match x with | (i) => [.i .i64 i])) (bl := (fun x : Int => match x with | (i) => [])) (ll := (fun x : Int => match x with | (i) => [])) (Q := fun e_ vs_ os_ hs_ => K_ e_ (hdL (bodyAt Try.prog 8 [false, true, false, true, true, true]) T_ (kills [] M_) 29 2 [(1, .p 1 0)] [(0, .list 0 [.int .i64, .int .i64, .int .i64, .int .i64, .int .i64, .int .i64, .int .i64, .int .i64, .int .i64] false l), (1, .row 24 [.ls false 0 (Ll.len l)])] (((tsOf [3] [2]) e_).zip vs_) ([].zip os_) [] hs_ (addW ([] ++ []) wr_)))
      (L := LL) (U := 30) (cs := sCall Try.prog 30 (spOf spC) noLoop 20) (call := CN Try.prog AW m_) (lp := noLoop 8) (root := c0_) (p := [false, true, false, true, true, true])
      (show CallSOK _ _ from by
        have := sCall_ok (P := Try.prog) (d := m_ - 20) (U := 30) (lp := noLoop) (spC_ok (ov := true) (d := m_ - 20) (by omega)) (spC_aw (fs := fsu) (ov := true)) (noLoop_ok) (by decide) 20
        rwa [show 20 + (m_ - 20) = m_ by omega] at this) (fun p f h => by cases h) (by decide) hc_
      (fun x o ho => by cases ho)
      (fun x hx => by cases hx) (fun x hx => by cases hx) (fun x hx => by cases hx)
      (fun x hx => by
        simp only [List.mem_cons, List.not_mem_nil, or_false] at hx
        rcases hx with rfl
        · exact g0) (fun x hx => by
        simp only [List.mem_cons, List.not_mem_nil, or_false] at hx
        rcases hx with rfl | rfl
        · exact ⟨g1, by simp⟩
        · exact ⟨g2, by simp⟩) ?_ (fun _ _ _ _ _ h => h) ?_ ?_ ?_ hs_
    · rintro i hI
      exact rchk_go l i i_0 q1 T_ (kills [] M_) _ q2 hI (fun i' ha hb => ⟨(i'), ha, hb, rfl, rfl, rfl⟩) (fun e1 => ⟨by simp [SO.mine], hx1 e1⟩) (fun e1 => ⟨by simp [SO.mine], hx2 e1⟩)
    · show 0 ≤ i_0 ∧ i_0 ≤ fbad l
      exact ⟨by omega, by have := fbad_b l; omega⟩
    · show (24 - i_0).toNat < LL
      exact Nat.lt_of_le_of_lt (show _ ≤ 1000 by omega) (by decide)
    · exact ⟨⟨[.i .i64 i_0], [], [], [], by simp [gets, tsOf, g0, g1, g2, g3], by simp [gets, g0, g1, g2, g3], rfl, rfl, by simp [listsOf] <;> rfl⟩⟩
  · exact h_.elim
abbrev lpRchk {A : Go.Rx.Alg} : Nat → Go.Rx.LoopS A := Go.Rx.lpOf [(8, [false, true, false, true, true, true], rchkF)]
theorem lpRchk_ok {d : Nat} (hd : 300 ≤ d) : LoopsAll (fs := fsu) (ov := true) Try.prog AW d lpRchk := lpOf_ok fun x hx => by
  simp only [List.mem_cons, List.not_mem_nil, or_false] at hx
  rcases hx with rfl
  · exact rchkF_ok (by omega)
theorem check_eq (l : Ll) (KK : KS (stdA fsu true)) : sFunc Try.prog 30 (sCall Try.prog 30 (spOf spC) lpChk 20) lpChk 7 [.agg [.ls false 0 (Ll.len l)]] (lsMem 0 [([.int .i64, .int .i64, .int .i64, .int .i64, .int .i64, .int .i64, .int .i64, .int .i64, .int .i64], l)]) 1 KK =
  (cond (decide ((Ll.len l) = (0 : Int)))
 (KK (.i .i64 (6 : Int)) (lsMem 0 [([.int .i64, .int .i64, .int .i64, .int .i64, .int .i64, .int .i64, .int .i64, .int .i64, .int .i64], l)]) 1 [])
 (cond (decide ((Ll.len l) > (8 : Int)))
 (KK (.i .i64 (8 : Int)) (lsMem 0 [([.int .i64, .int .i64, .int .i64, .int .i64, .int .i64, .int .i64, .int .i64, .int .i64, .int .i64], l)]) 1 [])
 ((Ll.len l) = (Ll.len l) ∧ ((Ll.len l) = (Ll.len l) ∧ ((Ll.len l) = (Ll.len l) ∧ ((0 : Int) = (0 : Int) ∧ ((Ll.len l) ≤ (8 : Int) ∧ (cond (decide (fbad l < l.length))
 (KK (.i .i64 (2 : Int)) (lsMem 0 [([.int .i64, .int .i64, .int .i64, .int .i64, .int .i64, .int .i64, .int .i64, .int .i64, .int .i64], l)]) 1 [])
 ((Ll.len l) = (Ll.len l) ∧ (cond (OkB l)
 (cond (decide ((lenI l) > (1048576 : Int)))
 (KK (.i .i64 (5 : Int)) (lsMem 0 [([.int .i64, .int .i64, .int .i64, .int .i64, .int .i64, .int .i64, .int .i64, .int .i64, .int .i64], l)]) 1 [])
 (KK (.i .i64 (0 : Int)) (lsMem 0 [([.int .i64, .int .i64, .int .i64, .int .i64, .int .i64, .int .i64, .int .i64, .int .i64, .int .i64], l)]) 1 []))
 False)))))))))) := by kernel_rfl
theorem check_pure {m : Nat} (hm : 400 ≤ m) {H : Hp} {nx : Nat} {v_l : LV} {l : Ll} (hl_l : IsL H nx [.int .i64, .int .i64, .int .i64, .int .i64, .int .i64, .int .i64, .int .i64, .int .i64, .int .i64] l v_l) : Pure Try.prog AW m 7 [.agg [v_l]] H nx (.i .i64 (chkI l)) := by
  obtain ⟨ν, n1, n2, n3, n4⟩ := ls_in (fs := fsu) (ov := true) (l := [([.int .i64, .int .i64, .int .i64, .int .i64, .int .i64, .int .i64, .int .i64, .int .i64, .int .i64], l)]) (lvs := [v_l]) 0 (fun i x lv e1 e2 => by
    cases i with
    | zero => simp at e1 e2; subst e1 e2; exact hl_l
    | succ i =>
      simp at e1) rfl
  refine pure_of (n := 20) (d := m - 21) (U := 30) (fs := fsu) (ov := true) (spC_ok (by omega)) spC_aw (lpChk_ok (by omega)) (by decide) (by decide) (by omega) (args := [.agg [.ls false 0 (Ll.len l)]]) (M := lsMem 0 [([.int .i64, .int .i64, .int .i64, .int .i64, .int .i64, .int .i64, .int .i64, .int .i64, .int .i64], l)]) (snx := 1) ?_ (VSL.cons ⟨_, rfl, (VSL.cons (n4 0 _ _ rfl rfl) rfl)⟩ rfl) (hs_in n2 n3)
  rw [check_eq]
  have hl : Ll.len l = (l.length : Int) := rfl
  have hf := fbad_b l
  have c0 : chkI l = if l.length = 0 then 6 else if 8 < l.length then 8 else if fbad l < l.length then 2 else if 1048576 < lenI l then 5 else 0 := rfl
  simp only [cond_iff, cond_not]
  refine ⟨fun h => end_i ?_, fun h => ⟨fun h2 => end_i ?_, fun h2 => ?_⟩⟩
  · rw [c0, if_pos (by omega)]
  · rw [c0, if_neg (by omega), if_pos (by omega)]
  · have h3 : ¬ 8 < l.length := by omega
    rw [if_neg (show ¬ l.length = 0 by omega), if_neg h3] at c0
    have fin : (fbad l < l.length → doneK (fs := fsu) (ov := true) (.i .i64 (chkI l)) 1 (.i .i64 2) (lsMem 0 [([.int .i64, .int .i64, .int .i64, .int .i64, .int .i64, .int .i64, .int .i64, .int .i64, .int .i64], l)]) 1 []) ∧ (¬ fbad l < l.length → OkB l = true ∧ (lenI l > 1048576 → doneK (fs := fsu) (ov := true) (.i .i64 (chkI l)) 1 (.i .i64 5) (lsMem 0 [([.int .i64, .int .i64, .int .i64, .int .i64, .int .i64, .int .i64, .int .i64, .int .i64, .int .i64], l)]) 1 []) ∧ (¬ lenI l > 1048576 → doneK (fs := fsu) (ov := true) (.i .i64 (chkI l)) 1 (.i .i64 0) (lsMem 0 [([.int .i64, .int .i64, .int .i64, .int .i64, .int .i64, .int .i64, .int .i64, .int .i64, .int .i64], l)]) 1 [])) := by
      refine ⟨fun h4 => end_i (by rw [c0, if_pos h4]), fun h4 => ⟨by simp [OkB]; omega, fun h5 => end_i (by rw [c0, if_neg h4, if_pos h5]), fun h5 => end_i (by rw [c0, if_neg h4, if_neg h5])⟩⟩
    have f2 := fin.2
    have br : ∀ {p : Prop} (b : Bool), b = true → p → cond b p False := fun b hb hp => by rw [hb]; exact hp
    first
      | exact ⟨by trivial, by trivial, by trivial, by trivial, by omega, fin.1, fun h4 => ⟨by trivial, br _ (f2 h4).1 (f2 h4).2⟩⟩
      | exact ⟨by trivial, by trivial, by omega, fin.1, fun h4 => ⟨by trivial, br _ (f2 h4).1 (f2 h4).2⟩⟩
abbrev checkS {A : Go.Rx.Alg} : List (Go.Rx.SV A) → Go.Rx.SH A → Nat → Go.Rx.KS A → A.R := fun args_ M_ snx_ K_ => match args_ with
  | [.agg [x_l]] => (match Go.Rx.lsArg M_ [.int .i64, .int .i64, .int .i64, .int .i64, .int .i64, .int .i64, .int .i64, .int .i64, .int .i64] x_l with | some (l, n_l) => (A.need .eql n_l (A.len l) (K_ (.i .i64 (A.app 4 [l] [])) M_ snx_ [])) | none => A.fail "check")
  | _ => A.fail "check"
theorem checkS_ok {ov : Bool} {d : Nat} (hd : 400 ≤ d) : SpecOK (fs := fsu) (ov := ov) Try.prog AW d 7 checkS := by
  intro m_ hm_ args_ M_ snx_ K_ h_ ν_ largs_ H_ nx_ ha_ hM_
  unfold checkS at h_
  split at h_
  · rename_i x_l
    obtain ⟨y1, r1, rfl, ⟨l1, rfl, ⟨v_l, r2, rfl, hx_l, rfl⟩⟩, rfl⟩ := ha_
    split at h_
    · rename_i l n_l q_l
      obtain ⟨e_l, h_⟩ := h_
      exact pure_got (check_pure (by omega) (lsArg_ok hM_ hx_l q_l e_l)) hM_ (v := .i .i64 _) rfl h_
    · exact h_.elim
  · exact h_.elim
theorem rcheck_eq (l : Ll) (KK : KS (stdA fsu true)) : sFunc Try.prog 30 (sCall Try.prog 30 (spOf spC) lpRchk 20) lpRchk 8 [.agg [.ls false 0 (Ll.len l)]] (lsMem 0 [([.int .i64, .int .i64, .int .i64, .int .i64, .int .i64, .int .i64, .int .i64, .int .i64, .int .i64], l)]) 1 KK =
  (cond (decide ((Ll.len l) = (0 : Int)))
 (KK (.i .i64 (6 : Int)) (lsMem 0 [([.int .i64, .int .i64, .int .i64, .int .i64, .int .i64, .int .i64, .int .i64, .int .i64, .int .i64], l)]) 1 [])
 (cond (decide ((Ll.len l) > (8 : Int)))
 (KK (.i .i64 (8 : Int)) (lsMem 0 [([.int .i64, .int .i64, .int .i64, .int .i64, .int .i64, .int .i64, .int .i64, .int .i64, .int .i64], l)]) 1 [])
 ((Ll.len l) = (Ll.len l) ∧ ((0 : Int) = (0 : Int) ∧ ((Ll.len l) ≤ (8 : Int) ∧ (cond (decide (fbad l < l.length))
 (KK (.i .i64 (2 : Int)) (lsMem 0 [([.int .i64, .int .i64, .int .i64, .int .i64, .int .i64, .int .i64, .int .i64, .int .i64, .int .i64], l)]) 1 [])
 ((Ll.len l) = (Ll.len l) ∧ (cond (OkB l)
 (cond (decide ((lenI l) > (1048576 : Int)))
 (KK (.i .i64 (5 : Int)) (lsMem 0 [([.int .i64, .int .i64, .int .i64, .int .i64, .int .i64, .int .i64, .int .i64, .int .i64, .int .i64], l)]) 1 [])
 (KK (.i .i64 (0 : Int)) (lsMem 0 [([.int .i64, .int .i64, .int .i64, .int .i64, .int .i64, .int .i64, .int .i64, .int .i64, .int .i64], l)]) 1 []))
 False)))))))) := by kernel_rfl
theorem rcheck_pure {m : Nat} (hm : 400 ≤ m) {H : Hp} {nx : Nat} {v_l : LV} {l : Ll} (hl_l : IsL H nx [.int .i64, .int .i64, .int .i64, .int .i64, .int .i64, .int .i64, .int .i64, .int .i64, .int .i64] l v_l) : Pure Try.prog AW m 8 [.agg [v_l]] H nx (.i .i64 (chkI l)) := by
  obtain ⟨ν, n1, n2, n3, n4⟩ := ls_in (fs := fsu) (ov := true) (l := [([.int .i64, .int .i64, .int .i64, .int .i64, .int .i64, .int .i64, .int .i64, .int .i64, .int .i64], l)]) (lvs := [v_l]) 0 (fun i x lv e1 e2 => by
    cases i with
    | zero => simp at e1 e2; subst e1 e2; exact hl_l
    | succ i =>
      simp at e1) rfl
  refine pure_of (n := 20) (d := m - 21) (U := 30) (fs := fsu) (ov := true) (spC_ok (by omega)) spC_aw (lpRchk_ok (by omega)) (by decide) (by decide) (by omega) (args := [.agg [.ls false 0 (Ll.len l)]]) (M := lsMem 0 [([.int .i64, .int .i64, .int .i64, .int .i64, .int .i64, .int .i64, .int .i64, .int .i64, .int .i64], l)]) (snx := 1) ?_ (VSL.cons ⟨_, rfl, (VSL.cons (n4 0 _ _ rfl rfl) rfl)⟩ rfl) (hs_in n2 n3)
  rw [rcheck_eq]
  have hl : Ll.len l = (l.length : Int) := rfl
  have hf := fbad_b l
  have c0 : chkI l = if l.length = 0 then 6 else if 8 < l.length then 8 else if fbad l < l.length then 2 else if 1048576 < lenI l then 5 else 0 := rfl
  simp only [cond_iff, cond_not]
  refine ⟨fun h => end_i ?_, fun h => ⟨fun h2 => end_i ?_, fun h2 => ?_⟩⟩
  · rw [c0, if_pos (by omega)]
  · rw [c0, if_neg (by omega), if_pos (by omega)]
  · have h3 : ¬ 8 < l.length := by omega
    rw [if_neg (show ¬ l.length = 0 by omega), if_neg h3] at c0
    have fin : (fbad l < l.length → doneK (fs := fsu) (ov := true) (.i .i64 (chkI l)) 1 (.i .i64 2) (lsMem 0 [([.int .i64, .int .i64, .int .i64, .int .i64, .int .i64, .int .i64, .int .i64, .int .i64, .int .i64], l)]) 1 []) ∧ (¬ fbad l < l.length → OkB l = true ∧ (lenI l > 1048576 → doneK (fs := fsu) (ov := true) (.i .i64 (chkI l)) 1 (.i .i64 5) (lsMem 0 [([.int .i64, .int .i64, .int .i64, .int .i64, .int .i64, .int .i64, .int .i64, .int .i64, .int .i64], l)]) 1 []) ∧ (¬ lenI l > 1048576 → doneK (fs := fsu) (ov := true) (.i .i64 (chkI l)) 1 (.i .i64 0) (lsMem 0 [([.int .i64, .int .i64, .int .i64, .int .i64, .int .i64, .int .i64, .int .i64, .int .i64, .int .i64], l)]) 1 [])) := by
      refine ⟨fun h4 => end_i (by rw [c0, if_pos h4]), fun h4 => ⟨by simp [OkB]; omega, fun h5 => end_i (by rw [c0, if_neg h4, if_pos h5]), fun h5 => end_i (by rw [c0, if_neg h4, if_neg h5])⟩⟩
    have f2 := fin.2
    have br : ∀ {p : Prop} (b : Bool), b = true → p → cond b p False := fun b hb hp => by rw [hb]; exact hp
    first
      | exact ⟨by trivial, by trivial, by trivial, by trivial, by omega, fin.1, fun h4 => ⟨by trivial, br _ (f2 h4).1 (f2 h4).2⟩⟩
      | exact ⟨by trivial, by trivial, by omega, fin.1, fun h4 => ⟨by trivial, br _ (f2 h4).1 (f2 h4).2⟩⟩
abbrev rcheckS {A : Go.Rx.Alg} : List (Go.Rx.SV A) → Go.Rx.SH A → Nat → Go.Rx.KS A → A.R := fun args_ M_ snx_ K_ => match args_ with
  | [.agg [x_l]] => (match Go.Rx.lsArg M_ [.int .i64, .int .i64, .int .i64, .int .i64, .int .i64, .int .i64, .int .i64, .int .i64, .int .i64] x_l with | some (l, n_l) => (A.need .eql n_l (A.len l) (K_ (.i .i64 (A.app 4 [l] [])) M_ snx_ [])) | none => A.fail "rcheck")
  | _ => A.fail "rcheck"
theorem rcheckS_ok {ov : Bool} {d : Nat} (hd : 400 ≤ d) : SpecOK (fs := fsu) (ov := ov) Try.prog AW d 8 rcheckS := by
  intro m_ hm_ args_ M_ snx_ K_ h_ ν_ largs_ H_ nx_ ha_ hM_
  unfold rcheckS at h_
  split at h_
  · rename_i x_l
    obtain ⟨y1, r1, rfl, ⟨l1, rfl, ⟨v_l, r2, rfl, hx_l, rfl⟩⟩, rfl⟩ := ha_
    split at h_
    · rename_i l n_l q_l
      obtain ⟨e_l, h_⟩ := h_
      exact pure_got (rcheck_pure (by omega) (lsArg_ok hM_ hx_l q_l e_l)) hM_ (v := .i .i64 _) rfl h_
    · exact h_.elim
  · exact h_.elim
end Go.Proofs.Ytibinojifhfbmaa
