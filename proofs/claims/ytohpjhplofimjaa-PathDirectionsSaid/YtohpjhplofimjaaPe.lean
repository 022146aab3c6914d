/-
  PathDirections by the symbolic run.
-/
import Derived.Test.YtohpjhplofimjaaPd
import Derived.Test.YtohpjhplofimjaaPn
set_option linter.unusedSimpArgs false
set_option linter.unusedVariables false
namespace Go.Proofs.Ytohpjhplofimjaa
open Go Go.Rx
abbrev fsl : Fs where
  i := fun n ls xs => match n, ls, xs with | 1, [], [a, b] => a % b | 2, [], [n] => dirX n | 3, [], [n] => dirY n | 4, [], [n] => dirZ n | 6, [], [x, y, z, u, v, w] => pN x y z u v w | 7, [], [x, y, z, u, v, w] => pD x y z u v w | _, _, _ => 0
  b := fun n ls xs => match n, ls, xs with | 5, [], [x, y, z, u, v, w] => decide (okT x y z u v w) | _, _, _ => false
  l := fun _ _ _ => []
abbrev dirS {A : Go.Rx.Alg} : List (Go.Rx.SV A) → Go.Rx.SH A → Nat → Go.Rx.KS A → A.R := fun args M snx KK => match args with
  | [.i .i64 n] => KK (.agg [.i .i64 (A.app 2 [] [n]), .i .i64 (A.app 3 [] [n]), .i .i64 (A.app 4 [] [n])]) M snx []
  | _ => A.fail "dir"
abbrev turnS {A : Go.Rx.Alg} : List (Go.Rx.SV A) → Go.Rx.SH A → Nat → Go.Rx.KS A → A.R := fun args M snx KK => match args with
  | [.agg [.i .i64 x, .i .i64 y, .i .i64 z], .agg [.i .i64 u, .i .i64 v, .i .i64 w]] => A.br (A.appB 5 [] [x, y, z, u, v, w]) (fun _ => KK (.tup [.agg [.i .i64 (A.app 6 [] [x, y, z, u, v, w]), .i .i64 (A.app 7 [] [x, y, z, u, v, w])], .i .i64 (A.lit 0)]) M snx []) (fun _ => A.fail "turn")
  | _ => A.fail "turn"
abbrev spW {A : Go.Rx.Alg} : Go.Rx.SpL A := [(AW, Go.Rx.awakeS), (4, dirS), (5, modS), (6, turnS)]
theorem law_eq (a b k l : Int) (KK : KS (stdA fsl true)) : sFunc Try.prog 30 (sCall Try.prog 30 (spOf spW) noLoop 20) noLoop 3 [.i .i64 a, .i .i64 b, .i .i64 k, .i .i64 l] .l 0 KK =
  ((1 : Int) ≤ (5000 : Int) ∧ ((5000 : Int) ≤ (9223372036854775807 : Int) ∧ (InK .i64 ((1 : Int) + (k % (5000 : Int))) ∧ ((1 : Int) ≤ (5000 : Int) ∧ ((5000 : Int) ≤ (9223372036854775807 : Int) ∧ (InK .i64 ((1 : Int) + (l % (5000 : Int))) ∧ (cond (decide (okT (dirX a) (dirY a) (dirZ a) (dirX b) (dirY b) (dirZ b)))
 (InK .i64 ((dirX b) * ((1 : Int) + (k % (5000 : Int)))) ∧ (InK .i64 ((dirY b) * ((1 : Int) + (k % (5000 : Int)))) ∧ (InK .i64 ((dirZ b) * ((1 : Int) + (k % (5000 : Int)))) ∧ (InK .i64 ((dirX a) * ((1 : Int) + (l % (5000 : Int)))) ∧ (InK .i64 ((dirY a) * ((1 : Int) + (l % (5000 : Int)))) ∧ (InK .i64 ((dirZ a) * ((1 : Int) + (l % (5000 : Int)))) ∧ (cond (decide (okT ((dirX b) * ((1 : Int) + (k % (5000 : Int)))) ((dirY b) * ((1 : Int) + (k % (5000 : Int)))) ((dirZ b) * ((1 : Int) + (k % (5000 : Int)))) ((dirX a) * ((1 : Int) + (l % (5000 : Int)))) ((dirY a) * ((1 : Int) + (l % (5000 : Int)))) ((dirZ a) * ((1 : Int) + (l % (5000 : Int))))))
 (cond (!((decide ((pN (dirX a) (dirY a) (dirZ a) (dirX b) (dirY b) (dirZ b)) = (pN ((dirX b) * ((1 : Int) + (k % (5000 : Int)))) ((dirY b) * ((1 : Int) + (k % (5000 : Int)))) ((dirZ b) * ((1 : Int) + (k % (5000 : Int)))) ((dirX a) * ((1 : Int) + (l % (5000 : Int)))) ((dirY a) * ((1 : Int) + (l % (5000 : Int)))) ((dirZ a) * ((1 : Int) + (l % (5000 : Int))))))) && (decide ((pD (dirX a) (dirY a) (dirZ a) (dirX b) (dirY b) (dirZ b)) = (pD ((dirX b) * ((1 : Int) + (k % (5000 : Int)))) ((dirY b) * ((1 : Int) + (k % (5000 : Int)))) ((dirZ b) * ((1 : Int) + (k % (5000 : Int)))) ((dirX a) * ((1 : Int) + (l % (5000 : Int)))) ((dirY a) * ((1 : Int) + (l % (5000 : Int)))) ((dirZ a) * ((1 : Int) + (l % (5000 : Int)))))))))
 (KK (.b false) .l 0 [])
 (cond (decide ((pD (dirX a) (dirY a) (dirZ a) (dirX b) (dirY b) (dirZ b)) < (1 : Int)))
 (KK (.b false) .l 0 [])
 (cond (decide ((pN (dirX a) (dirY a) (dirZ a) (dirX b) (dirY b) (dirZ b)) < (0 : Int)))
 (KK (.b false) .l 0 [])
 (InK .i64 ((2 : Int) * (pD (dirX a) (dirY a) (dirZ a) (dirX b) (dirY b) (dirZ b))) ∧ (cond (decide ((pN (dirX a) (dirY a) (dirZ a) (dirX b) (dirY b) (dirZ b)) > ((2 : Int) * (pD (dirX a) (dirY a) (dirZ a) (dirX b) (dirY b) (dirZ b)))))
 (KK (.b false) .l 0 [])
 (InK .i64 ((dirY a) * (dirZ b)) ∧ (InK .i64 ((dirZ a) * (dirY b)) ∧ (cond (decide (((dirY a) * (dirZ b)) = ((dirZ a) * (dirY b))))
 (InK .i64 ((dirZ a) * (dirX b)) ∧ (InK .i64 ((dirX a) * (dirZ b)) ∧ (cond (decide (((dirZ a) * (dirX b)) = ((dirX a) * (dirZ b))))
 (InK .i64 ((dirX a) * (dirY b)) ∧ (InK .i64 ((dirY a) * (dirX b)) ∧ (cond (decide (((dirX a) * (dirY b)) = ((dirY a) * (dirX b))))
 (InK .i64 ((dirX a) * (dirX b)) ∧ (InK .i64 ((dirY a) * (dirY b)) ∧ (InK .i64 (((dirX a) * (dirX b)) + ((dirY a) * (dirY b))) ∧ (InK .i64 ((dirZ a) * (dirZ b)) ∧ (InK .i64 ((((dirX a) * (dirX b)) + ((dirY a) * (dirY b))) + ((dirZ a) * (dirZ b))) ∧ (cond ((decide ((pN (dirX a) (dirY a) (dirZ a) (dirX b) (dirY b) (dirZ b)) = (0 : Int))) == (decide (((((dirX a) * (dirX b)) + ((dirY a) * (dirY b))) + ((dirZ a) * (dirZ b))) > (0 : Int))))
 (InK .i64 ((dirX a) * (dirX b)) ∧ (InK .i64 ((dirY a) * (dirY b)) ∧ (InK .i64 (((dirX a) * (dirX b)) + ((dirY a) * (dirY b))) ∧ (InK .i64 ((dirZ a) * (dirZ b)) ∧ (InK .i64 ((((dirX a) * (dirX b)) + ((dirY a) * (dirY b))) + ((dirZ a) * (dirZ b))) ∧ (cond ((decide ((pN (dirX a) (dirY a) (dirZ a) (dirX b) (dirY b) (dirZ b)) = (pD (dirX a) (dirY a) (dirZ a) (dirX b) (dirY b) (dirZ b)))) == (decide (((((dirX a) * (dirX b)) + ((dirY a) * (dirY b))) + ((dirZ a) * (dirZ b))) = (0 : Int))))
 (KK (.b true) .l 0 [])
 (KK (.b false) .l 0 [])))))))
 (KK (.b false) .l 0 [])))))))
 (cond ((decide ((pN (dirX a) (dirY a) (dirZ a) (dirX b) (dirY b) (dirZ b)) = (0 : Int))) == false)
 (InK .i64 ((dirX a) * (dirX b)) ∧ (InK .i64 ((dirY a) * (dirY b)) ∧ (InK .i64 (((dirX a) * (dirX b)) + ((dirY a) * (dirY b))) ∧ (InK .i64 ((dirZ a) * (dirZ b)) ∧ (InK .i64 ((((dirX a) * (dirX b)) + ((dirY a) * (dirY b))) + ((dirZ a) * (dirZ b))) ∧ (cond ((decide ((pN (dirX a) (dirY a) (dirZ a) (dirX b) (dirY b) (dirZ b)) = (pD (dirX a) (dirY a) (dirZ a) (dirX b) (dirY b) (dirZ b)))) == (decide (((((dirX a) * (dirX b)) + ((dirY a) * (dirY b))) + ((dirZ a) * (dirZ b))) = (0 : Int))))
 (KK (.b true) .l 0 [])
 (KK (.b false) .l 0 [])))))))
 (KK (.b false) .l 0 [])))))
 (cond ((decide ((pN (dirX a) (dirY a) (dirZ a) (dirX b) (dirY b) (dirZ b)) = (0 : Int))) == false)
 (InK .i64 ((dirX a) * (dirX b)) ∧ (InK .i64 ((dirY a) * (dirY b)) ∧ (InK .i64 (((dirX a) * (dirX b)) + ((dirY a) * (dirY b))) ∧ (InK .i64 ((dirZ a) * (dirZ b)) ∧ (InK .i64 ((((dirX a) * (dirX b)) + ((dirY a) * (dirY b))) + ((dirZ a) * (dirZ b))) ∧ (cond ((decide ((pN (dirX a) (dirY a) (dirZ a) (dirX b) (dirY b) (dirZ b)) = (pD (dirX a) (dirY a) (dirZ a) (dirX b) (dirY b) (dirZ b)))) == (decide (((((dirX a) * (dirX b)) + ((dirY a) * (dirY b))) + ((dirZ a) * (dirZ b))) = (0 : Int))))
 (KK (.b true) .l 0 [])
 (KK (.b false) .l 0 [])))))))
 (KK (.b false) .l 0 [])))))
 (cond ((decide ((pN (dirX a) (dirY a) (dirZ a) (dirX b) (dirY b) (dirZ b)) = (0 : Int))) == false)
 (InK .i64 ((dirX a) * (dirX b)) ∧ (InK .i64 ((dirY a) * (dirY b)) ∧ (InK .i64 (((dirX a) * (dirX b)) + ((dirY a) * (dirY b))) ∧ (InK .i64 ((dirZ a) * (dirZ b)) ∧ (InK .i64 ((((dirX a) * (dirX b)) + ((dirY a) * (dirY b))) + ((dirZ a) * (dirZ b))) ∧ (cond ((decide ((pN (dirX a) (dirY a) (dirZ a) (dirX b) (dirY b) (dirZ b)) = (pD (dirX a) (dirY a) (dirZ a) (dirX b) (dirY b) (dirZ b)))) == (decide (((((dirX a) * (dirX b)) + ((dirY a) * (dirY b))) + ((dirZ a) * (dirZ b))) = (0 : Int))))
 (KK (.b true) .l 0 [])
 (KK (.b false) .l 0 [])))))))
 (KK (.b false) .l 0 []))))))))))
 False)))))))
 False))))))) := by kernel_rfl
theorem spW_ok {ov : Bool} {d : Nat} (hd : 700 ≤ d) : SpOK (fs := fsl) (ov := ov) Try.prog AW d spW := by
  refine SpOK.cons awake_ok (SpOK.cons ?_ (SpOK.cons (modS_ok (fun _ _ => rfl) fun m hm _ _ a b h1 h2 => mod64_pure (by omega) a b h1 h2) (SpOK.cons ?_ SpOK.nil)))
  · intro m hm args M snx K h ν largs H nx ha hM
    unfold dirS at h
    split at h
    · obtain ⟨x, r, rfl, rfl, rfl⟩ := ha
      exact pure_got (dir_pure (by omega) _) hM (v := .agg [.i .i64 _, .i .i64 _, .i .i64 _]) ⟨_, rfl, VSL.cons rfl (VSL.cons rfl (VSL.cons rfl rfl))⟩ h
    · exact h.elim
  · intro m hm args M snx K h ν largs H nx ha hM
    unfold turnS at h
    split at h
    · rename_i x0 y0 z0 u0 v0 w0
      obtain ⟨x, rfl⟩ : ∃ k : Int, k = x0 := ⟨x0, rfl⟩
      obtain ⟨y, rfl⟩ : ∃ k : Int, k = y0 := ⟨y0, rfl⟩
      obtain ⟨z, rfl⟩ : ∃ k : Int, k = z0 := ⟨z0, rfl⟩
      obtain ⟨u, rfl⟩ : ∃ k : Int, k = u0 := ⟨u0, rfl⟩
      obtain ⟨v, rfl⟩ : ∃ k : Int, k = v0 := ⟨v0, rfl⟩
      obtain ⟨w, rfl⟩ : ∃ k : Int, k = w0 := ⟨w0, rfl⟩
      have h' : cond (decide (okT x y z u v w)) (K (.tup [.agg [.i .i64 (pN x y z u v w), .i .i64 (pD x y z u v w)], .i .i64 (0 : Int)]) M snx []) False := h
      by_cases hv : okT x y z u v w
      · rw [decide_eq_true hv] at h'
        obtain ⟨x, r, rfl, ⟨l, rfl, x1, r1, rfl, rfl, x2, r2, rfl, rfl, x3, r3, rfl, rfl, rfl⟩, y, r4, rfl, ⟨l2, rfl, y1, s1, rfl, rfl, y2, s2, rfl, rfl, y3, s3, rfl, rfl, rfl⟩, rfl⟩ := ha
        exact pure_got (turn_pure (by omega) _ _ _ _ _ _ hv) hM (v := .tup [.agg [.i .i64 _, .i .i64 _], .i .i64 _]) ⟨_, rfl, VSL.cons ⟨_, rfl, VSL.cons rfl (VSL.cons rfl rfl)⟩ (VSL.cons rfl rfl)⟩ h'
      · rw [decide_eq_false hv] at h'
        exact h'.elim
    · exact h.elim
theorem spW_aw {fs : Fs} {ov : Bool} : (spOf (A := stdA fs ov) spW AW).isSome = true := rfl
/-- What is to be shown of a pair of directions. -/
def goodD (x y z u v w : Int) : Bool :=
  (-10 ≤ x && x ≤ 10) && (-10 ≤ y && y ≤ 10) && (-10 ≤ z && z ≤ 24) && (-10 ≤ u && u ≤ 10) && (-10 ≤ v && v ≤ 10) && (-10 ≤ w && w ≤ 24)
  && decide (okT x y z u v w) && decide (len3 x y z ≤ 26) && decide (len3 u v w ≤ 26)
  && decide (1 ≤ pD x y z u v w) && decide (pD x y z u v w ≤ 1000) && decide (0 ≤ pN x y z u v w) && decide (pN x y z u v w ≤ 2 * pD x y z u v w)
  && ((decide (pN x y z u v w = 0)) == (decide (y * w = z * v) && decide (z * u = x * w) && decide (x * v = y * u) && decide (x * u + y * v + z * w > 0)))
  && ((decide (pN x y z u v w = pD x y z u v w)) == decide (x * u + y * v + z * w = 0))
def goodAll : Bool := (List.range 13).all fun i => (List.range 4).all fun p => (List.range 13).all fun j => (List.range 4).all fun q => goodD (eX p i) (eY p i) (dZ i) (eX q j) (eY q j) (dZ j)
theorem goodAll_is : goodAll = true := by decide +kernel
theorem good_dir (a b : Int) : goodD (dirX a) (dirY a) (dirZ a) (dirX b) (dirY b) (dirZ b) = true := by
  have h := goodAll_is
  unfold goodAll at h
  simp only [List.all_eq_true, List.mem_range] at h
  have key : ∀ n : Int, ∃ q j : Nat, q < 4 ∧ j < 13 ∧ Int.tdiv (n % 52) 13 = (q : Int) ∧ n % 13 = (j : Int) := by
    intro n
    rw [Int.tdiv_eq_ediv_of_nonneg (by omega)]
    exact ⟨(n % 52 / 13).toNat, (n % 13).toNat, by omega, by omega, by omega, by omega⟩
  obtain ⟨p, i, p1, i1, ep, ei⟩ := key a
  obtain ⟨q, j, q1, j1, eq, ej⟩ := key b
  unfold dirX dirY dirZ
  rw [ep, ei, eq, ej]
  exact h i i1 p p1 j j1 q q1
theorem law_pure {m : Nat} (hm : 1000 ≤ m) {H : Hp} {nx : Nat} (a b k l : Int) : Pure Try.prog AW m 3 [.i .i64 a, .i .i64 b, .i .i64 k, .i .i64 l] H nx (.b true) := by
  refine pure_of (n := 20) (d := m - 21) (U := 30) (fs := fsl) (ov := true) (spW_ok (by omega)) spW_aw noLoop_ok (by decide) (by decide) (by omega) (args := [.i .i64 a, .i .i64 b, .i .i64 k, .i .i64 l]) (M := .l) (snx := 0) ?_ (VSL.cons rfl (VSL.cons rfl (VSL.cons rfl (VSL.cons rfl rfl)))) hs_empty
  rw [law_eq]
  have g := good_dir a b
  generalize dirX a = x at *
  generalize dirY a = y at *
  generalize dirZ a = z at *
  generalize dirX b = u at *
  generalize dirY b = v at *
  generalize dirZ b = w at *
  obtain ⟨K, hK⟩ : ∃ K, K = 1 + k % 5000 := ⟨_, rfl⟩
  obtain ⟨L, hL⟩ : ∃ L, L = 1 + l % 5000 := ⟨_, rfl⟩
  rw [← hK, ← hL]
  have K0 : 1 ≤ K := by omega
  have K1 : K ≤ 5000 := by omega
  have L0 : 1 ≤ L := by omega
  have L1 : L ≤ 5000 := by omega
  clear hK hL
  unfold goodD at g
  simp only [Bool.and_eq_true, decide_eq_true_eq, beq_iff_eq] at g
  obtain ⟨⟨⟨⟨⟨⟨⟨⟨⟨⟨⟨⟨⟨⟨⟨x0, x1⟩, y0, y1⟩, z0, z1⟩, u0, u1⟩, v0, v1⟩, w0, w1⟩, ok⟩, l1⟩, l2⟩, d1⟩, d2⟩, n1⟩, n2⟩, same⟩, right⟩ := g
  obtain ⟨ok2, eN, eD⟩ := turn_mul ok (by omega) (by omega) (by omega) (by omega) (by omega) (by omega) (by omega) (by omega) (by omega) (by omega) (by omega) (by omega) l1 l2 K0 K1 L0 L1
  rw [eN, eD, decide_eq_true ok, decide_eq_true ok2]
  have B : ∀ p q : Int, -24 ≤ p → p ≤ 24 → 1 ≤ q → q ≤ 5000 → -9223372036854775808 ≤ p * q ∧ p * q ≤ 9223372036854775807 := fun p q p0 p1 q0 q1 => by
    have := mul_abs (B := 5000) (x := p) (u := q) (by omega) (by omega) (by omega) (by omega); omega
  have C : ∀ p q : Int, -24 ≤ p → p ≤ 24 → -24 ≤ q → q ≤ 24 → -576 ≤ p * q ∧ p * q ≤ 576 := fun p q p0 p1 q0 q1 => by
    have := mul_abs (B := 24) (x := p) (u := q) (by omega) (by omega) (by omega) (by omega); omega
  have B1 := B u K (by omega) (by omega) K0 K1
  have B2 := B v K (by omega) (by omega) K0 K1
  have B3 := B w K (by omega) (by omega) K0 K1
  have B4 := B x L (by omega) (by omega) L0 L1
  have B5 := B y L (by omega) (by omega) L0 L1
  have B6 := B z L (by omega) (by omega) L0 L1
  have C1 := C x u (by omega) (by omega) (by omega) (by omega)
  have C2 := C y v (by omega) (by omega) (by omega) (by omega)
  have C3 := C z w (by omega) (by omega) (by omega) (by omega)
  have C4 := C y w (by omega) (by omega) (by omega) (by omega)
  have C5 := C z v (by omega) (by omega) (by omega) (by omega)
  have C6 := C z u (by omega) (by omega) (by omega) (by omega)
  have C7 := C x w (by omega) (by omega) (by omega) (by omega)
  have C8 := C x v (by omega) (by omega) (by omega) (by omega)
  have C9 := C y u (by omega) (by omega) (by omega) (by omega)
  clear B C eN eD ok ok2
  generalize pN x y z u v w = N at *
  generalize pD x y z u v w = D at *
  rw [same, right]
  generalize u * K = b1 at *
  generalize v * K = b2 at *
  generalize w * K = b3 at *
  generalize x * L = b4 at *
  generalize y * L = b5 at *
  generalize z * L = b6 at *
  generalize x * u = c1 at *
  generalize y * v = c2 at *
  generalize z * w = c3 at *
  generalize y * w = c4 at *
  generalize z * v = c5 at *
  generalize z * u = c6 at *
  generalize x * w = c7 at *
  generalize x * v = c8 at *
  generalize y * u = c9 at *
  have e1 : ∀ z : Bool, (z == z) = true := by decide
  simp only [e1, decide_true, Bool.and_self, Bool.not_true, cond_false, cond_true, InK64]
  rw [decide_eq_false (show ¬ D < 1 by omega), decide_eq_false (show ¬ N < 0 by omega), decide_eq_false (show ¬ N > 2 * D by omega)]
  simp only [cond_false]
  refine ⟨by omega, by omega, by omega, by omega, by omega, by omega, by omega, by omega, by omega, by omega, by omega, by omega, by omega, by omega, by omega, ?_⟩
  have fin : doneK (fs := fsl) (ov := true) (.b true) 0 (.b true) .l 0 [] := end_b rfl
  by_cases h1 : c4 = c5
  · rw [decide_eq_true h1]
    refine ⟨by omega, by omega, ?_⟩
    by_cases h2 : c6 = c7
    · rw [decide_eq_true h2]
      refine ⟨by omega, by omega, ?_⟩
      by_cases h3 : c8 = c9
      · rw [decide_eq_true h3]
        simp only [Bool.true_and, e1, cond_true]
        exact ⟨by omega, by omega, by omega, by omega, by omega, by omega, by omega, by omega, by omega, by omega, fin⟩
      · rw [decide_eq_false h3]
        simp only [Bool.true_and, Bool.and_false, Bool.false_and, e1, cond_true, cond_false]
        exact ⟨by omega, by omega, by omega, by omega, by omega, fin⟩
    · rw [decide_eq_false h2]
      simp only [Bool.true_and, Bool.and_false, Bool.false_and, e1, cond_true, cond_false]
      exact ⟨by omega, by omega, by omega, by omega, by omega, fin⟩
  · rw [decide_eq_false h1]
    simp only [Bool.true_and, Bool.and_false, Bool.false_and, e1, cond_true, cond_false]
    exact ⟨by omega, by omega, by omega, by omega, by omega, fin⟩
end Go.Proofs.Ytohpjhplofimjaa
