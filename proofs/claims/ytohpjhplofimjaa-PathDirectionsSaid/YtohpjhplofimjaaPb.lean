/-
  Layer 1: lowest terms.
-/
import Derived.Test.YtohpjhplofimjaaPa
set_option linter.unusedSimpArgs false
set_option linter.unusedVariables false
namespace Go.Proofs.Ytohpjhplofimjaa
open Go Go.Rx
abbrev fsg : Fs where
  i := fun n ls xs => match n, ls, xs with | 1, [], [a, b] => gcdI a b | _, _, _ => 0
  b := fun _ _ _ => false
  l := fun _ _ _ => []
abbrev lowF {A : Go.Rx.Alg} : Code → Go.Rx.SS A → (Go.Rx.Ex → Go.Rx.SS A → A.R) → A.R := fun c s K => match s.T.get 5, s.T.get 6 with
  | some (.i .i64 a), some (.i .i64 b) => bif Nat.beq s.N 22 && Nat.beq s.nx 1 then
      A.need .leq (A.lit 0) a (A.need .leq (A.lit 0) b (A.need .leq b (A.lit 17179869184)
        (K (.exit 0) (Go.Rx.hdS c ⟨s.T, s.N, s.H, s.nx, s.wr⟩ [(5, .i .i64 (A.app 1 [] [a, b])), (6, .i .i64 (A.lit 0))] [] s.wr))))
    else A.fail "frame"
  | _, _ => A.fail "low"
abbrev lpL {A : Go.Rx.Alg} : Nat → Go.Rx.LoopS A := Go.Rx.lpOf [(10, [false, false, true, true], lowF)]
theorem lowL_eq (a b : Int) (T : Al (SV (stdA fsg true))) (H : Al (SO (stdA fsg true))) (wr : List Nat) (KK : Ex → List (SV (stdA fsg true)) → List (SO (stdA fsg true)) → Prop) : sCode Try.prog (sCall Try.prog 30 (spOf sp0) noLoop 20) (noLoop 10) 30 (false :: [false, false, true, true]) (bodyAt Try.prog 10 [false, false, true, true]) (hdS (bodyAt Try.prog 10 [false, false, true, true]) ⟨push [] T, 22, push [] H, 1, wr⟩ [(5, .i .i64 a), (6, .i .i64 b)] [] []) (outK 1 (tsOf [5, 6] []) [] KK) =
  (cond (decide (b ≠ (0 : Int)))
 (b ≠ 0 ∧ (KK .normal [(.i .i64 b), (.i .i64 (Int.tmod a b))] []))
 (KK (.exit 0) [(.i .i64 a), (.i .i64 b)] [])) := by kernel_rfl
theorem lowF_ok {d : Nat} (hd : 100 ≤ d) : LoopOK (fs := fsg) (ov := true) Try.prog AW d 10 [false, false, true, true] lowF := by
  intro m hm fn c0 hfn hb c ro hc s K W ν S h hs
  have hbody := body_of hfn hb hc
  simp only [lowF] at h
  split at h
  · rename_i u0 v0 g0 g1
    obtain ⟨u, rfl⟩ : ∃ k : Int, k = u0 := ⟨u0, rfl⟩
    obtain ⟨v, rfl⟩ : ∃ k : Int, k = v0 := ⟨v0, rfl⟩
    obtain ⟨T, N, M, snx, wr⟩ := s
    cases hN : (Nat.beq N 22 && Nat.beq snx 1)
    · rw [hN] at h; exact h.elim
    · rw [hN] at h
      simp only [Bool.and_eq_true, beq_iff] at hN
      obtain ⟨rfl, rfl⟩ := hN
      obtain ⟨q3, q4, q5, h⟩ := h
      have q3 : (0 : Int) ≤ u := q3
      have q4 : (0 : Int) ≤ v := q4
      have q5 : v ≤ (17179869184 : Int) := q5
      refine goC_push (kt := []) (kr := []) ?_
      have hs' := sim_push (kt := []) (kr := []) hs (by simp) (by simp)
      refine loop_rule (X := Int × Int) (B := []) (x := (u, v)) (Inv := fun x => 0 ≤ x.1 ∧ 0 ≤ x.2 ∧ gcdI x.1 x.2 = gcdI u v) (μ := fun x => x.2.toNat)
        (ts := tsOf [5, 6] []) (sl := fun x => [.i .i64 x.1, .i .i64 x.2]) (bl := fun _ => []) (Q := fun e vs os => e = .exit 0 ∧ vs = [.i .i64 (gcdI u v), .i .i64 (0 : Int)] ∧ os = []) (L := LL) (U := 30) (cs := sCall Try.prog 30 (spOf sp0) noLoop 20)
        (call := CN Try.prog AW m) (lp := noLoop 10) (root := c0) (p := [false, false, true, true]) (show CallSOK _ _ from by
          have := sCall_ok (P := Try.prog) (d := m - 20) (U := 30) (lp := noLoop) (sp0_ok (fs := fsg) (ov := true) (d := m - 20)) (sp0_aw (fs := fsg) (ov := true)) noLoop_ok (by decide) 20
          rwa [show 20 + (m - 20) = m by omega] at this) (fun p f h => by cases h) (by decide) hc (fun x => ⟨rfl, by simp⟩) (by simp) ?_ ?_ ⟨q3, q4, rfl⟩ (by dsimp only; show _ < LL; have : LL = 18446744073709551616 := rfl; omega) ?_ (by simp) hs'
      · rintro ⟨a, b⟩ ⟨i1, i2, i3⟩
        rw [← hbody]
        refine Eq.mpr (lowL_eq a b T M wr _) ?_
        simp only [cond_iff, InK64]
        have i1 : 0 ≤ a := i1
        have i2 : 0 ≤ b := i2
        have i3 : gcdI a b = gcdI u v := i3
        refine ⟨fun hz => ⟨hz, (b, Int.tmod a b), ?_, ?_, by trivial, by trivial⟩, fun hz => ⟨by trivial, by simp, by trivial, ?_, by trivial⟩⟩
        · rw [Int.tmod_eq_emod_of_nonneg i1]
          exact ⟨i2, Int.emod_nonneg a hz, (gcdI_step i1 i2).trans i3⟩
        · rw [Int.tmod_eq_emod_of_nonneg i1]
          have := Int.emod_lt_of_pos a (show 0 < b by omega)
          dsimp only
          omega
        · have e : b = 0 := Decidable.not_not.1 hz
          subst e
          rw [← i3, gcdI_zero i1]
      · rintro e vs os _ ⟨rfl, rfl, rfl⟩
        exact h
      · intro y hy
        simp [tsOf] at hy
        rcases hy with rfl | rfl
        · exact ⟨g0, rfl⟩
        · exact ⟨g1, rfl⟩
  · exact h.elim
theorem lpL_ok {d : Nat} (hd : 100 ≤ d) : LoopsAll (fs := fsg) (ov := true) Try.prog AW d lpL := lpOf_ok fun x hx => by
  rcases List.mem_cons.1 hx with rfl | hx
  · exact lowF_ok hd
  · cases hx
theorem low_eq (n d : Int) (KK : KS (stdA fsg true)) : sFunc Try.prog 30 (sCall Try.prog 30 (spOf sp0) lpL 20) lpL 10 [.i .i64 n, .i .i64 d] .l 0 KK =
  ((0 : Int) ≤ n ∧ ((0 : Int) ≤ d ∧ (d ≤ (17179869184 : Int) ∧ ((gcdI n d) ≠ 0 ∧ (InK .i64 (Int.tdiv n (gcdI n d)) ∧ ((gcdI n d) ≠ 0 ∧ (InK .i64 (Int.tdiv d (gcdI n d)) ∧ (KK (.agg [(.i .i64 (Int.tdiv n (gcdI n d))), (.i .i64 (Int.tdiv d (gcdI n d)))]) .l 0 [])))))))) := by kernel_rfl
theorem low_pure {m : Nat} (hm : 200 ≤ m) {H : Hp} {nx : Nat} (n d : Int) (h0 : 0 ≤ n) (h1 : n ≤ 9223372036854775807) (h2 : 1 ≤ d) (h3 : d ≤ 17179869184) : Pure Try.prog AW m 10 [.i .i64 n, .i .i64 d] H nx (.agg [.i .i64 (n / gcdI n d), .i .i64 (d / gcdI n d)]) := by
  refine pure_of (n := 20) (d := m - 21) (U := 30) (fs := fsg) (ov := true) sp0_ok sp0_aw (lpL_ok (by omega)) (by decide) (by decide) (by omega) (args := [.i .i64 n, .i .i64 d]) (M := .l) (snx := 0) ?_ (VSL.cons rfl (VSL.cons rfl rfl)) hs_empty
  rw [low_eq]
  simp only [InK64]
  have g1 := gcdI_pos (a := n) h2
  rw [Int.tdiv_eq_ediv_of_nonneg h0, Int.tdiv_eq_ediv_of_nonneg (show 0 ≤ d by omega)]
  have a0 := Int.ediv_nonneg h0 (show 0 ≤ gcdI n d by omega)
  have a1 := Int.ediv_le_self (gcdI n d) h0
  have b0 := Int.ediv_nonneg (show 0 ≤ d by omega) (show 0 ≤ gcdI n d by omega)
  have b1 := Int.ediv_le_self (gcdI n d) (show 0 ≤ d by omega)
  exact ⟨h0, by omega, h3, by omega, by omega, by omega, by omega, end_ii rfl rfl⟩
end Go.Proofs.Ytohpjhplofimjaa
