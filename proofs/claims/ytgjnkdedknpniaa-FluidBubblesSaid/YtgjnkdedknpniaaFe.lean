/-
  Layer 3: the bubble point.
-/
import Derived.Test.YtgjnkdedknpniaaFd
import Derived.Test.YtgjnkdedknpniaaYn
set_option linter.unusedSimpArgs false
set_option linter.unusedVariables false
namespace Go.Proofs.Ytgjnkdedknpniaa
open Go Go.Rx

def gasOk (k pw : Int) : Prop := 0 ≤ k ∧ k ≤ 1152921504606846976 ∧ 0 ≤ pw ∧ pw ≤ 1099511627776
instance (k pw : Int) : Decidable (gasOk k pw) := by unfold gasOk; infer_instance
def bubP (k pw : Int) : Int := if k = 0 then 1 else if pw * 65536 ≥ k then cdiv k pw * 1048576 else 68719476737
def bubOk (k pw : Int) : Prop := gasOk k pw ∧ bubP k pw ≤ 68719476736
instance (k pw : Int) : Decidable (bubOk k pw) := by unfold bubOk; infer_instance
def bubI (k pw : Int) : Int := if bubOk k pw then bubP k pw else 0
theorem free_zero {k pw p : Int} (h : gasOk k pw) (h1 : 1 ≤ p) (h2 : p ≤ 68719476736) : freeI k pw p = 0 ↔ k ≤ pw * (p / 1048576) := by
  obtain ⟨a, b, c, d⟩ := h
  unfold freeI
  rw [if_pos ⟨a, b, c, d, h1, h2⟩, maxL_eq]
  split <;> omega
theorem cdiv_props {k pw : Int} (hk : 1 ≤ k) (hp : 1 ≤ pw) : k ≤ pw * cdiv k pw ∧ pw * (cdiv k pw - 1) < k ∧ 1 ≤ cdiv k pw := by
  have e := Int.mul_ediv_add_emod (-k) pw
  have r0 := Int.emod_nonneg (-k) (show pw ≠ 0 by omega)
  have r1 := Int.emod_lt_of_pos (-k) (show 0 < pw by omega)
  have e3 : pw * cdiv k pw = -(pw * ((-k) / pw)) := Int.mul_neg _ _
  have e4 : pw * (cdiv k pw - 1) = pw * cdiv k pw - pw := by rw [Int.mul_sub, Int.mul_one]
  refine ⟨by omega, by omega, ?_⟩
  have : (-k) / pw < 0 := Int.ediv_neg_of_neg_of_pos (by omega) (by omega)
  unfold cdiv; omega
theorem bubP_is {k pw : Int} (h : gasOk k pw) : 1 ≤ bubP k pw ∧ bubP k pw ≤ 68719476737 ∧ (∀ p, 1 ≤ p → p < bubP k pw → freeI k pw p ≠ 0) ∧ (bubP k pw = 68719476737 ∨ freeI k pw (bubP k pw) = 0) := by
  have h' := h
  obtain ⟨a, b, c, d⟩ := h'
  unfold bubP
  by_cases hk : k = 0
  · rw [if_pos hk]
    refine ⟨by omega, by omega, fun p h1 h2 => by omega, .inr ?_⟩
    rw [free_zero h (by omega) (by omega), hk]
    exact Int.mul_nonneg c (by omega)
  · rw [if_neg hk]
    by_cases hp : pw * 65536 ≥ k
    · rw [if_pos hp]
      have hp1 : 1 ≤ pw := by
        by_cases e : pw = 0
        · subst e; omega
        · omega
      obtain ⟨c1, c2, c3⟩ := cdiv_props (show 1 ≤ k by omega) hp1
      have c4 : cdiv k pw ≤ 65536 := by
        by_cases e : cdiv k pw ≤ 65536
        · exact e
        · have := Int.mul_le_mul_of_nonneg_left (show 65536 ≤ cdiv k pw - 1 by omega) c
          omega
      refine ⟨by omega, by omega, fun p h1 h2 => ?_, .inr ?_⟩
      · rw [Ne, free_zero h h1 (by omega)]
        have hq : p / 1048576 ≤ cdiv k pw - 1 := by omega
        have := Int.mul_le_mul_of_nonneg_left hq c
        omega
      · rw [free_zero h (by omega) (by omega), show cdiv k pw * 1048576 / 1048576 = cdiv k pw by omega]
        exact c1
    · rw [if_neg hp]
      refine ⟨by omega, by omega, fun p h1 h2 => ?_, .inl rfl⟩
      rw [Ne, free_zero h h1 (by omega)]
      have := Int.mul_le_mul_of_nonneg_left (show p / 1048576 ≤ 65536 by omega) c
      omega
theorem bub_unique {k pw r : Int} (h : gasOk k pw) (h1 : 1 ≤ r) (h2 : r ≤ 68719476737) (h3 : ∀ p, 1 ≤ p → p < r → freeI k pw p ≠ 0) (h4 : r = 68719476737 ∨ freeI k pw r = 0) : r = bubP k pw := by
  obtain ⟨b1, b2, b3, b4⟩ := bubP_is h
  rcases Int.lt_trichotomy r (bubP k pw) with e | e | e
  · rcases h4 with h4 | h4
    · omega
    · exact absurd h4 (b3 r h1 e)
  · exact e
  · rcases b4 with b4 | b4
    · omega
    · exact absurd b4 (h3 _ b1 e)
abbrev fs3 : Fs where
  i := fun n ls xs => match n, ls, xs with | 1, [], [k, p, q] => freeI k p q | 2, [], [k, p] => bubP k p | _, _, _ => 0
  b := fun _ _ _ => false
  l := fun _ _ _ => []
abbrev sp3 {A : Go.Rx.Alg} : Go.Rx.SpL A := [(AW, Go.Rx.awakeS), (35, freeS), (36, freeS)]
abbrev firstF {A : Go.Rx.Alg} : Code → Go.Rx.SS A → (Go.Rx.Ex → Go.Rx.SS A → A.R) → A.R := fun c s K => match s.T.get 0, s.T.get 1, s.T.get 2, s.H.get 0 with
  | some (.i .i64 lo), some (.i .i64 hi), some (.fn 69 [] [.p 0 0]), some (.row 56 [.i .i64 k, .i .i64 pw]) => bif Nat.beq s.N 26 && Nat.beq s.nx 1 then
      A.need .eql lo (A.lit 1) (A.need .eql hi (A.lit 68719476737) (A.need .leq (A.lit 0) k (A.need .leq k (A.lit 1152921504606846976) (A.need .leq (A.lit 0) pw (A.need .leq pw (A.lit 1099511627776)
        (K (.exit 0) (Go.Rx.hdS c ⟨Go.Rx.push [(2, .fn 69 [] [.p 0 0])] s.T, s.N, Go.Rx.push [(0, .row 56 [.i .i64 k, .i .i64 pw])] s.H, s.nx, s.wr⟩ [(0, .i .i64 (A.app 2 [] [k, pw])), (1, .i .i64 (A.app 2 [] [k, pw]))] [] s.wr)))))))
    else A.fail "frame"
  | _, _, _, _ => A.fail "first"
abbrev rbubF {A : Go.Rx.Alg} : Code → Go.Rx.SS A → (Go.Rx.Ex → Go.Rx.SS A → A.R) → A.R := fun c s K => match s.T.get 4, s.T.get 1, s.H.get 0 with
  | some (.i .i64 n), some (.p 0 0), some (.row 56 [.i .i64 k, .i .i64 pw]) => bif Nat.beq s.N 24 && Nat.beq s.nx 1 then
      A.need .eql n (A.lit 1) (A.need .leq (A.lit 1) k (A.need .leq k (A.lit 1152921504606846976) (A.need .leq (A.lit 0) pw (A.need .leq pw (A.lit 1099511627776)
        (A.br (A.cmp .leq (A.app 2 [] [k, pw]) (A.lit 68719476736))
          (fun _ => K .ret (Go.Rx.hdS c ⟨Go.Rx.push [(1, .p 0 0)] s.T, s.N, Go.Rx.push [(0, .row 56 [.i .i64 k, .i .i64 pw])] s.H, s.nx, s.wr⟩ [(2, .i .i64 (A.app 2 [] [k, pw])), (3, .b (A.ofB true))] [] s.wr))
          (fun _ => K (.exit 0) (Go.Rx.hdS c ⟨Go.Rx.push [(1, .p 0 0)] s.T, s.N, Go.Rx.push [(0, .row 56 [.i .i64 k, .i .i64 pw])] s.H, s.nx, s.wr⟩ [(4, .i .i64 (A.lit 65537))] [] s.wr)))))))
    else A.fail "frame"
  | _, _, _ => A.fail "bubble"
abbrev lp3 {A : Go.Rx.Alg} : Nat → Go.Rx.LoopS A := Go.Rx.lpOf [(60, [false, false, true, true], firstF), (34, [false, true, false, true, true, true], rbubF)]
theorem sp3_ok {ov : Bool} {d : Nat} (hd : 200 ≤ d) : SpOK (fs := fs3) (ov := ov) Try.prog AW d sp3 := by
  refine SpOK.cons awake_ok (SpOK.cons ?_ (SpOK.cons ?_ SpOK.nil))
  · intro m hm args M snx K h ν largs H nx ha hM
    unfold freeS at h
    split at h
    · obtain ⟨x, r, rfl, ⟨l, rfl, x1, r1, rfl, rfl, x2, r2, rfl, rfl, rfl⟩, y, r3, rfl, rfl, rfl⟩ := ha
      exact pure_got (free_pure (by omega) _ _ _) hM (v := .i .i64 _) rfl h
    · exact h.elim
  · intro m hm args M snx K h ν largs H nx ha hM
    unfold freeS at h
    split at h
    · obtain ⟨x, r, rfl, ⟨l, rfl, x1, r1, rfl, rfl, x2, r2, rfl, rfl, rfl⟩, y, r3, rfl, rfl, rfl⟩ := ha
      exact pure_got (rfree_pure (by omega) _ _ _) hM (v := .i .i64 _) rfl h
    · exact h.elim
theorem sp3_aw {fs : Fs} {ov : Bool} : (spOf (A := stdA fs ov) sp3 AW).isSome = true := rfl
theorem firstL_eq (lo hi k pw : Int) (T : Al (SV (stdA fs3 true))) (H : Al (SO (stdA fs3 true))) (wr : List Nat) (KK : Ex → List (SV (stdA fs3 true)) → List (SO (stdA fs3 true)) → Prop) : sCode Try.prog (sCall Try.prog 30 (spOf sp3) noLoop 20) (noLoop 60) 30 (false :: [false, false, true, true]) (bodyAt Try.prog 60 [false, false, true, true]) (hdS (bodyAt Try.prog 60 [false, false, true, true]) ⟨push [(2, .fn 69 [] [.p 0 0])] T, 26, push [(0, .row 56 [.i .i64 k, .i .i64 pw])] H, 1, wr⟩ [(0, .i .i64 lo), (1, .i .i64 hi)] [] []) (outK 1 (tsOf [0, 1] []) [] KK) =
  (cond (decide (lo < hi))
 (InK .i64 (hi - lo) ∧ ((2 : Int) ≠ 0 ∧ (InK .i64 (Int.tdiv (hi - lo) (2 : Int)) ∧ (InK .i64 (lo + (Int.tdiv (hi - lo) (2 : Int))) ∧ (cond (decide ((freeI k pw (lo + (Int.tdiv (hi - lo) (2 : Int)))) = (0 : Int)))
 (KK .normal [(.i .i64 lo), (.i .i64 (lo + (Int.tdiv (hi - lo) (2 : Int))))] [])
 (InK .i64 ((lo + (Int.tdiv (hi - lo) (2 : Int))) + (1 : Int)) ∧ (KK .normal [(.i .i64 ((lo + (Int.tdiv (hi - lo) (2 : Int))) + (1 : Int))), (.i .i64 hi)] [])))))))
 (KK (.exit 0) [(.i .i64 lo), (.i .i64 hi)] [])) := by kernel_rfl
theorem rbubL_eq (n k pw : Int) (T : Al (SV (stdA fs3 true))) (H : Al (SO (stdA fs3 true))) (wr : List Nat) (KK : Ex → List (SV (stdA fs3 true)) → List (SO (stdA fs3 true)) → Prop) : sCode Try.prog (sCall Try.prog 30 (spOf sp3) noLoop 20) (noLoop 34) 30 (false :: [false, true, false, true, true, true]) (bodyAt Try.prog 34 [false, true, false, true, true, true]) (hdS (bodyAt Try.prog 34 [false, true, false, true, true, true]) ⟨push [(1, .p 0 0)] T, 24, push [(0, .row 56 [.i .i64 k, .i .i64 pw])] H, 1, wr⟩ [(4, .i .i64 n)] [] []) (outK 1 (tsOf [4] [2, 3]) [] KK) =
  (cond (decide (n ≤ (65536 : Int)))
 (InK .i64 (pw * n) ∧ (cond (decide ((pw * n) ≥ k))
 (0 ≤ (20 : Int) ∧ (KK .ret [(.i .i64 (shI .shl .i64 n (20 : Int))), (.b true)] []))
 (InK .i64 (n + (1 : Int)) ∧ (KK .normal [(.i .i64 (n + (1 : Int)))] []))))
 (KK (.exit 0) [(.i .i64 n)] [])) := by kernel_rfl
theorem firstF_ok {d : Nat} (hd : 300 ≤ d) : LoopOK (fs := fs3) (ov := true) Try.prog AW d 60 [false, false, true, true] firstF := by
  intro m hm fn c0 hfn hb c ro hc s K W ν S h hs
  have hbody := body_of hfn hb hc
  simp only [firstF] at h
  split at h
  · rename_i lo hi k0 pw0 g0 g1 g2 g3
    obtain ⟨k, rfl⟩ : ∃ k : Int, k = k0 := ⟨k0, rfl⟩
    obtain ⟨pw, rfl⟩ : ∃ k : Int, k = pw0 := ⟨pw0, rfl⟩
    obtain ⟨T, N, M, snx, wr⟩ := s
    cases hN : (Nat.beq N 26 && Nat.beq snx 1)
    · rw [hN] at h; exact h.elim
    · rw [hN] at h
      simp only [Bool.and_eq_true, beq_iff] at hN
      obtain ⟨rfl, rfl⟩ := hN
      obtain ⟨q1, q2, q3, q4, q5, q6, h⟩ := h
      have hg : gasOk k pw := ⟨q3, q4, q5, q6⟩
      refine goC_push (kt := [(2, .fn 69 [] [.p 0 0])]) (kr := [(0, .row 56 [.i .i64 k, .i .i64 pw])]) ?_
      have hs' := sim_push (kt := [(2, .fn 69 [] [.p 0 0])]) (kr := [(0, .row 56 [.i .i64 k, .i .i64 pw])]) hs (by simpa using g2) (by simpa using g3)
      refine loop_rule (X := Int × Int) (B := []) (x := (1, 68719476737)) (Inv := fun x => 1 ≤ x.1 ∧ x.1 ≤ x.2 ∧ x.2 ≤ 68719476737 ∧ (∀ p, 1 ≤ p → p < x.1 → freeI k pw p ≠ 0) ∧ (x.2 = 68719476737 ∨ freeI k pw x.2 = 0)) (μ := fun x => (x.2 - x.1).toNat)
        (ts := tsOf [0, 1] []) (sl := fun x => [.i .i64 x.1, .i .i64 x.2]) (bl := fun _ => []) (Q := fun e vs os => e = .exit 0 ∧ vs = [.i .i64 (bubP k pw), .i .i64 (bubP k pw)] ∧ os = []) (L := LL) (U := 30) (cs := sCall Try.prog 30 (spOf sp3) noLoop 20)
        (call := CN Try.prog AW m) (lp := noLoop 60) (root := c0) (p := [false, false, true, true]) (show CallSOK _ _ from by
          have := sCall_ok (P := Try.prog) (d := m - 20) (U := 30) (lp := noLoop) (sp3_ok (ov := true) (d := m - 20) (by omega)) sp3_aw noLoop_ok (by decide) 20
          rwa [show 20 + (m - 20) = m by omega] at this) (fun p f h => by cases h) (by decide) hc (fun x => ⟨rfl, by simp⟩) (by simp) ?_ ?_ ⟨by omega, by omega, by omega, fun p h1 h2 => by omega, .inl rfl⟩ (by decide) ?_ (by simp) hs'
      · rintro ⟨lo, hi⟩ ⟨i1, i2, i3, i4, i5⟩
        rw [← hbody]
        refine Eq.mpr (firstL_eq lo hi k pw T M wr _) ?_
        simp only [cond_iff, InK64]
        have e2 : Int.tdiv (hi - lo) 2 = (hi - lo) / 2 := Int.tdiv_eq_ediv_of_nonneg (by omega)
        simp only [e2]
        refine ⟨fun hlt => ⟨by omega, by omega, by omega, by omega, fun hz => ⟨(lo, lo + (hi - lo) / 2), ⟨i1, by dsimp only; omega, by dsimp only; omega, i4, .inr hz⟩, by dsimp only; omega, by trivial, by trivial⟩, fun hz => ⟨by omega, (lo + (hi - lo) / 2 + 1, hi), ⟨by dsimp only; omega, by dsimp only; omega, i3, fun p h1 h2 => ?_, i5⟩, by dsimp only; omega, by trivial, by trivial⟩⟩, fun hge => ⟨by trivial, by simp, by trivial, ?_, by trivial⟩⟩
        · dsimp only at h2
          rw [free_zero hg (by omega) (by omega)] at hz
          rw [Ne, free_zero hg (by omega) (by omega)]
          have := Int.mul_le_mul_of_nonneg_left (show p / 1048576 ≤ (lo + (hi - lo) / 2) / 1048576 by omega) q5
          omega
        · have e : lo = hi := by dsimp only at i2; omega
          subst e
          rw [← bub_unique hg i1 i3 i4 i5]
      · rintro e vs os _ ⟨rfl, rfl, rfl⟩
        exact h
      · intro y hy
        simp [tsOf] at hy
        rcases hy with rfl | rfl
        · exact ⟨by rw [show (push [(2, (SV.fn 69 [] [.p 0 0] : SV (stdA fs3 true)))] T).get 0 = T.get 0 from rfl, g0, q1], rfl⟩
        · exact ⟨by rw [show (push [(2, (SV.fn 69 [] [.p 0 0] : SV (stdA fs3 true)))] T).get 1 = T.get 1 from rfl, g1, q2], rfl⟩
  · exact h.elim
theorem rbubF_ok {d : Nat} (hd : 300 ≤ d) : LoopOK (fs := fs3) (ov := true) Try.prog AW d 34 [false, true, false, true, true, true] rbubF := by
  intro m hm fn c0 hfn hb c ro hc s K W ν S h hs
  have hbody := body_of hfn hb hc
  simp only [rbubF] at h
  split at h
  · rename_i n0 k0 pw0 g0 g1 g3
    obtain ⟨k, rfl⟩ : ∃ k : Int, k = k0 := ⟨k0, rfl⟩
    obtain ⟨pw, rfl⟩ : ∃ k : Int, k = pw0 := ⟨pw0, rfl⟩
    obtain ⟨T, N, M, snx, wr⟩ := s
    cases hN : (Nat.beq N 24 && Nat.beq snx 1)
    · rw [hN] at h; exact h.elim
    · rw [hN] at h
      simp only [Bool.and_eq_true, beq_iff] at hN
      obtain ⟨rfl, rfl⟩ := hN
      obtain ⟨q1, q3, q4, q5, q6, h⟩ := h
      have q3 : (1 : Int) ≤ k := q3
      have hg : gasOk k pw := ⟨by omega, q4, q5, q6⟩
      obtain ⟨b1, b2, b3, b4⟩ := bubP_is hg
      refine goC_push (kt := [(1, .p 0 0)]) (kr := [(0, .row 56 [.i .i64 k, .i .i64 pw])]) ?_
      have hs' := sim_push (kt := [(1, .p 0 0)]) (kr := [(0, .row 56 [.i .i64 k, .i .i64 pw])]) hs (by simpa using g1) (by simpa using g3)
      refine loop_rule (X := Int) (B := []) (x := 1) (Inv := fun n => 1 ≤ n ∧ n ≤ 65537 ∧ ∀ j, 1 ≤ j → j < n → pw * j < k) (μ := fun n => (65537 - n).toNat)
        (ts := tsOf [4] [2, 3]) (sl := fun n => [.i .i64 n]) (bl := fun _ => []) (Q := fun e vs os => os = [] ∧ ((e = .exit 0 ∧ vs = [.i .i64 (65537 : Int)] ∧ ¬ bubP k pw ≤ 68719476736) ∨ (e = .ret ∧ vs = [.i .i64 (bubP k pw), .b true] ∧ bubP k pw ≤ 68719476736))) (L := LL) (U := 30) (cs := sCall Try.prog 30 (spOf sp3) noLoop 20)
        (call := CN Try.prog AW m) (lp := noLoop 34) (root := c0) (p := [false, true, false, true, true, true]) (show CallSOK _ _ from by
          have := sCall_ok (P := Try.prog) (d := m - 20) (U := 30) (lp := noLoop) (sp3_ok (ov := true) (d := m - 20) (by omega)) sp3_aw noLoop_ok (by decide) 20
          rwa [show 20 + (m - 20) = m by omega] at this) (fun p f h => by cases h) (by decide) hc (fun x => ⟨rfl, by simp⟩) (by simp) ?_ ?_ ⟨by omega, by omega, fun p h1 h2 => by omega⟩ (by decide) ?_ (by simp) hs'
      · rintro n ⟨i1, i2, i3⟩
        rw [← hbody]
        refine Eq.mpr (rbubL_eq n k pw T M wr _) ?_
        simp only [cond_iff, InK64]
        have hb2 : n ≤ 65536 → 0 ≤ pw * n ∧ pw * n ≤ 1099511627776 * 65536 := fun h => mul_bound q5 q6 (by omega) h
        refine ⟨fun hle => ⟨by have := hb2 hle; omega, fun hge => ⟨by omega, by trivial, by simp, by trivial, .inr ⟨by trivial, ?_, ?_⟩⟩, fun hlt => ⟨by omega, n + 1, ⟨by omega, by omega, fun j h1 h2 => ?_⟩, by omega, by trivial, by trivial⟩⟩, fun hgt => ⟨by trivial, by simp, by trivial, .inl ⟨by trivial, ?_, ?_⟩⟩⟩
        · have e : bubP k pw = n * 1048576 := by
            refine (bub_unique hg (by omega) (by omega) (fun p h1 h2 => ?_) (.inr ?_)).symm
            · rw [Ne, free_zero hg h1 (by omega)]
              by_cases hp : p / 1048576 = 0
              · rw [hp]; omega
              · have := i3 (p / 1048576) (by omega) (by omega); omega
            · rw [free_zero hg (by omega) (by omega), show n * 1048576 / 1048576 = n by omega]; exact hge
          have e2 : shI .shl .i64 n 20 = n * 1048576 := by
            show IntKind.i64.wrap (n * 2 ^ (min (20 : Int).toNat 64)) = _
            rw [show n * 2 ^ (min (20 : Int).toNat 64) = n * 1048576 from rfl]
            exact wrap_small (n := n * 1048576) (by omega) (by omega)
          rw [e, e2]
        · have e : bubP k pw = n * 1048576 := by
            refine (bub_unique hg (by omega) (by omega) (fun p h1 h2 => ?_) (.inr ?_)).symm
            · rw [Ne, free_zero hg h1 (by omega)]
              by_cases hp : p / 1048576 = 0
              · rw [hp]; omega
              · have := i3 (p / 1048576) (by omega) (by omega); omega
            · rw [free_zero hg (by omega) (by omega), show n * 1048576 / 1048576 = n by omega]; exact hge
          omega
        · by_cases e : j = n
          · subst e; omega
          · exact i3 j h1 (by omega)
        · rw [show n = 65537 by omega]
        · have hlt := i3 65536 (by omega) (by omega)
          have : bubP k pw = 68719476737 := by
            unfold bubP
            rw [if_neg (by omega), if_neg (by omega)]
          omega
      · rintro e vs os _ ⟨rfl, ⟨rfl, rfl, hb⟩ | ⟨rfl, rfl, hb⟩⟩
        · have h' : cond (decide (bubP k pw ≤ 68719476736)) _ _ := h
          rw [decide_eq_false hb] at h'
          exact h'
        · have h' : cond (decide (bubP k pw ≤ 68719476736)) _ _ := h
          rw [decide_eq_true hb] at h'
          exact h'
      · intro y hy
        simp [tsOf] at hy
        subst hy
        exact ⟨by rw [show (push [(1, (SV.p 0 0 : SV (stdA fs3 true)))] T).get 4 = T.get 4 from rfl, g0, q1], rfl⟩
  · exact h.elim
theorem lp3_ok {d : Nat} (hd : 300 ≤ d) : LoopsAll (fs := fs3) (ov := true) Try.prog AW d lp3 := lpOf_ok fun x hx => by
  rcases List.mem_cons.1 hx with rfl | hx
  · exact firstF_ok hd
  · rcases List.mem_cons.1 hx with rfl | hx
    · exact rbubF_ok hd
    · cases hx
theorem bub_eq (k pw : Int) (KK : KS (stdA fs3 true)) : sFunc Try.prog 30 (sCall Try.prog 30 (spOf sp3) lp3 20) lp3 33 [.agg [.i .i64 k, .i .i64 pw]] .l 0 KK =
  (cond (decide (k ≥ (0 : Int)))
 (cond (decide (k ≤ (1152921504606846976 : Int)))
 (cond (decide (pw ≥ (0 : Int)))
 (cond (!(decide (pw ≤ (1099511627776 : Int))))
 (KK (.tup [(.i .i64 (0 : Int)), (.b false)]) .l 0 [])
 (InK .i64 (68719476737 : Int) ∧ ((1 : Int) = (1 : Int) ∧ ((68719476737 : Int) = (68719476737 : Int) ∧ ((0 : Int) ≤ k ∧ (k ≤ (1152921504606846976 : Int) ∧ ((0 : Int) ≤ pw ∧ (pw ≤ (1099511627776 : Int) ∧ (cond (decide ((bubP k pw) > (68719476736 : Int)))
 (KK (.tup [(.i .i64 (0 : Int)), (.b false)]) .l 0 [])
 (KK (.tup [(.i .i64 (bubP k pw)), (.b true)]) .l 0 []))))))))))
 (KK (.tup [(.i .i64 (0 : Int)), (.b false)]) .l 0 []))
 (KK (.tup [(.i .i64 (0 : Int)), (.b false)]) .l 0 []))
 (KK (.tup [(.i .i64 (0 : Int)), (.b false)]) .l 0 [])) := by kernel_rfl
theorem rbub_eq (k pw : Int) (KK : KS (stdA fs3 true)) : sFunc Try.prog 30 (sCall Try.prog 30 (spOf sp3) lp3 20) lp3 34 [.agg [.i .i64 k, .i .i64 pw]] .l 0 KK =
  (cond (decide (k ≥ (0 : Int)))
 (cond (decide (k ≤ (1152921504606846976 : Int)))
 (cond (decide (pw ≥ (0 : Int)))
 (cond (!(decide (pw ≤ (1099511627776 : Int))))
 (KK (.tup [(.i .i64 (0 : Int)), (.b false)]) .l 0 [])
 (cond (decide (k = (0 : Int)))
 (KK (.tup [(.i .i64 (1 : Int)), (.b true)]) .l 0 [])
 ((1 : Int) = (1 : Int) ∧ ((1 : Int) ≤ k ∧ (k ≤ (1152921504606846976 : Int) ∧ ((0 : Int) ≤ pw ∧ (pw ≤ (1099511627776 : Int) ∧ (cond (decide ((bubP k pw) ≤ (68719476736 : Int)))
 (KK (.tup [(.i .i64 (bubP k pw)), (.b true)]) .l 0 [])
 (KK (.tup [(.i .i64 (0 : Int)), (.b false)]) .l 0 [])))))))))
 (KK (.tup [(.i .i64 (0 : Int)), (.b false)]) .l 0 []))
 (KK (.tup [(.i .i64 (0 : Int)), (.b false)]) .l 0 []))
 (KK (.tup [(.i .i64 (0 : Int)), (.b false)]) .l 0 [])) := by kernel_rfl
end Go.Proofs.Ytgjnkdedknpniaa
