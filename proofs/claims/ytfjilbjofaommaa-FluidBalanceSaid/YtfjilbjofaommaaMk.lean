/-
  Numbers of the kit; holes made of numbers.
-/
import Derived.Test.YtfjilbjofaommaaMb
import Derived.Test.YtfjilbjofaommaaMa
set_option linter.unusedSimpArgs false
set_option linter.unusedVariables false
set_option maxRecDepth 100000
namespace Go.Proofs.Ytfjilbjofaommaa
open Go Go.Rx

noncomputable abbrev fsk : Fs where
  i := fun n ls xs => match n, ls, xs with | 1, [], [a, b] => a % b | 2, [l], [a] => pickI l a | 3, [l], [] => (annK l : Int) | _, _, _ => 0
  b := fun _ _ _ => false
  l := fun n ls xs => match n, ls, xs with | 50, [l], [] => annL l | _, _, _ => []
  rng := rngAt Try.prog
theorem m64_eq (a b : Int) (KK : KS (stdA fsk true)) : sFunc Try.prog 30 (sCall Try.prog 30 (spOf sp0) noLoop 20) noLoop 12 [.i .i64 a, .i .i64 b] .l 0 KK =
  (b ≠ 0 ∧ (cond (decide ((Int.tmod a b) < (0 : Int)))
 (InK .i64 ((Int.tmod a b) + b) ∧ (KK (.i .i64 ((Int.tmod a b) + b)) .l 0 []))
 (KK (.i .i64 (Int.tmod a b)) .l 0 []))) := by kernel_rfl
theorem m64_pure {m : Nat} (hm : 100 ≤ m) {H : Hp} {nx : Nat} (a b : Int) (p1 : (1 : Int) ≤ b) (p2 : b ≤ (9223372036854775807 : Int)) : Pure Try.prog AW m 12 [.i .i64 a, .i .i64 b] H nx (.i .i64 (a % b)) := by
  refine pure_of (n := 20) (d := m - 21) (U := 30) (fs := fsk) (ov := true) sp0_ok sp0_aw noLoop_ok (by decide) (by decide) (by omega) (args := [.i .i64 a, .i .i64 b]) (M := .l) (snx := 0) ?_ (VSL.cons rfl (VSL.cons rfl rfl)) hs_empty
  rw [m64_eq]
  simp only [cond_iff, InK64]
  have e0 := Int.emod_nonneg a (show b ≠ 0 by omega)
  have e1 := Int.emod_lt_of_pos a (show 0 < b by omega)
  rcases tmod_cases a b (by omega) with ⟨e, h⟩ | ⟨h, e⟩
  · exact ⟨by omega, fun h => absurd h (by omega), fun h => end_i (by omega)⟩
  · exact ⟨by omega, fun h => ⟨by omega, end_i (by omega)⟩, fun h => absurd h (by omega)⟩
abbrev m64S {A : Go.Rx.Alg} : List (Go.Rx.SV A) → Go.Rx.SH A → Nat → Go.Rx.KS A → A.R := fun args_ M_ snx_ K_ => match args_ with
  | [.i .i64 a, .i .i64 b] => (A.need .leq (A.lit 1) b (A.need .leq b (A.lit 9223372036854775807) (K_ (.i .i64 (A.app 1 [] [a, b])) M_ snx_ [])))
  | _ => A.fail "m64"
theorem m64S_ok {ov : Bool} {d : Nat} (hd : 100 ≤ d) : SpecOK (fs := fsk) (ov := ov) Try.prog AW d 12 m64S := by
  intro m_ hm_ args_ M_ snx_ K_ h_ ν_ largs_ H_ nx_ ha_ hM_
  unfold m64S at h_
  split at h_
  · rename_i a b
    obtain ⟨y1, r1, rfl, rfl, ⟨y2, r2, rfl, rfl, rfl⟩⟩ := ha_
    obtain ⟨p1, h_⟩ := h_
    obtain ⟨p2, h_⟩ := h_
    exact pure_got (m64_pure (by omega) a b p1 p2) hM_ (v := .i .i64 _) rfl h_
  · exact h_.elim
abbrev spKa {A : Go.Rx.Alg} : Go.Rx.SpL A := [(AW, Go.Rx.awakeS), (12, m64S)]
theorem spKa_ok {ov : Bool} {d : Nat} (hd : 100 ≤ d) : SpOK (fs := fsk) (ov := ov) Try.prog AW d spKa := SpOK.cons awake_ok (SpOK.cons (m64S_ok (by omega)) SpOK.nil)
theorem spKa_aw {fs : Fs} {ov : Bool} : (spOf (A := stdA fs ov) spKa AW).isSome = true := rfl
theorem pick_eq (i : Int) (l : Ll) (KK : KS (stdA fsk true)) : sFunc Try.prog 30 (sCall Try.prog 30 (spOf spKa) noLoop 20) noLoop 27 [.ls false 0 (Ll.len l), .i .i64 i] (lsMem 0 [([.int .i64], l)]) 1 KK =
  (cond (decide ((Ll.len l) = (0 : Int)))
 (KK (.i .i64 (0 : Int)) (lsMem 0 [([.int .i64], l)]) 1 [])
 ((Ll.len l) ≠ 0 ∧ ((0 : Int) ≤ (Int.tmod i (Ll.len l)) ∧ ((Int.tmod i (Ll.len l)) < (Ll.len l) ∧ ((Int.tmod i (Ll.len l)) < (Ll.len l) ∧ ((1 : Int) ≤ (1099511627776 : Int) ∧ ((1099511627776 : Int) ≤ (9223372036854775807 : Int) ∧ (KK (.i .i64 ((Ll.get l (Int.tmod i (Ll.len l)) 0) % (1099511627776 : Int))) (lsMem 0 [([.int .i64], l)]) 1 [])))))))) := by kernel_rfl
theorem pick_pure {m : Nat} (hm : 200 ≤ m) {H : Hp} {nx : Nat} (i : Int) {v_l : LV} {l : Ll} (hl_l : IsL H nx [.int .i64] l v_l) (p1 : (0 : Int) ≤ i) : Pure Try.prog AW m 27 [v_l, .i .i64 i] H nx (.i .i64 (pickI l i)) := by
  obtain ⟨ν, n1, n2, n3, n4⟩ := ls_in (fs := fsk) (ov := true) (l := [([.int .i64], l)]) (lvs := [v_l]) 0 (fun i x lv e1 e2 => by
    cases i with
    | zero => simp at e1 e2; subst e1 e2; exact hl_l
    | succ i =>
      simp at e1) rfl
  refine pure_of (n := 20) (d := m - 21) (U := 30) (fs := fsk) (ov := true) (spKa_ok (by omega)) spKa_aw noLoop_ok (by decide) (by decide) (by omega) (args := [.ls false 0 (Ll.len l), .i .i64 i]) (M := lsMem 0 [([.int .i64], l)]) (snx := 1) ?_ (VSL.cons (n4 0 _ _ rfl rfl) (VSL.cons rfl rfl)) (hs_in n2 n3)
  rw [pick_eq]
  simp only [cond_iff, InK64]
  have hl : Ll.len l = (l.length : Int) := rfl
  refine ⟨fun h => end_i (by rw [pickI, if_pos (by omega)]), fun h => ?_⟩
  have e := Int.tmod_eq_emod_of_nonneg p1 (b := Ll.len l)
  have e0 := Int.emod_nonneg i h
  have e1 := Int.emod_lt_of_pos i (show 0 < Ll.len l by omega)
  rw [e]
  exact ⟨h, e0, e1, e1, by omega, by omega, end_i (by rw [pickI, if_neg (by omega)]; rfl)⟩
abbrev pickS {A : Go.Rx.Alg} : List (Go.Rx.SV A) → Go.Rx.SH A → Nat → Go.Rx.KS A → A.R := fun args_ M_ snx_ K_ => match args_ with
  | [x_l, .i .i64 i] => (match Go.Rx.lsArg M_ [.int .i64] x_l with | some (l, n_l) => (A.need .eql n_l (A.len l) (A.need .leq (A.lit 0) i (K_ (.i .i64 (A.app 2 [l] [i])) M_ snx_ []))) | none => A.fail "pick")
  | _ => A.fail "pick"
theorem pickS_ok {ov : Bool} {d : Nat} (hd : 200 ≤ d) : SpecOK (fs := fsk) (ov := ov) Try.prog AW d 27 pickS := by
  intro m_ hm_ args_ M_ snx_ K_ h_ ν_ largs_ H_ nx_ ha_ hM_
  unfold pickS at h_
  split at h_
  · rename_i x_l i
    obtain ⟨v_l, r1, rfl, hx_l, ⟨y2, r2, rfl, rfl, rfl⟩⟩ := ha_
    split at h_
    · rename_i l n_l q_l
      obtain ⟨e_l, h_⟩ := h_
      obtain ⟨p1, h_⟩ := h_
      exact pure_got (pick_pure (by omega) i (lsArg_ok hM_ hx_l q_l e_l) p1) hM_ (v := .i .i64 _) rfl h_
    · exact h_.elim
  · exact h_.elim
abbrev spKb {A : Go.Rx.Alg} : Go.Rx.SpL A := [(AW, Go.Rx.awakeS), (12, m64S), (27, pickS)]
theorem spKb_ok {ov : Bool} {d : Nat} (hd : 200 ≤ d) : SpOK (fs := fsk) (ov := ov) Try.prog AW d spKb := SpOK.cons awake_ok (SpOK.cons (m64S_ok (by omega)) (SpOK.cons (pickS_ok (by omega)) SpOK.nil))
theorem spKb_aw {fs : Fs} {ov : Bool} : (spOf (A := stdA fs ov) spKb AW).isSome = true := rfl
theorem ann_eq (i : Int) (l g : Ll) (T : Al (SV (stdA fsk true))) (M : Al (SO (stdA fsk true))) (KK : Ex → List (SV (stdA fsk true)) → List (SO (stdA fsk true)) → List Ll → Prop) : sCode Try.prog (sCall Try.prog 30 (spOf spKb) noLoop 20) ⟨9, false, noLoop 9⟩ 30 (false :: [false, true, false, true, true]) (bodyAt Try.prog 9 [false, true, false, true, true]) (hdL (bodyAt Try.prog 9 [false, true, false, true, true]) T M 44 3 [(0, .ls false 0 (Ll.len l)), (3, .p 2 0)] [(0, .list 0 [.int .i64] false l)] [(4, .i .i64 i)] [(2, .row 25 [.ls true 3 (Ll.len g)])] [(42, [.int .i64, .int .i64, .int .i64, .int .i64])] [g] []) (outL 3 (tsOf [4] []) [2] [] [(42, [.int .i64, .int .i64, .int .i64, .int .i64])] KK) =
  (cond (decide (i < (maxL (1 : Int) (minL (Ll.len l) (5 : Int)))))
 ((Ll.len l) = (Ll.len l) ∧ ((0 : Int) ≤ i ∧ ((100000 : Int) ≠ 0 ∧ (InK .i64 ((1 : Int) + (Int.tmod (pickI l i) (100000 : Int))) ∧ ((3 : Int) ≠ 0 ∧ (InK .i64 (Int.tdiv (pickI l i) (3 : Int)) ∧ ((1500 : Int) ≠ 0 ∧ (InK .i64 ((1 : Int) + (Int.tmod (Int.tdiv (pickI l i) (3 : Int)) (1500 : Int))) ∧ ((7 : Int) ≠ 0 ∧ (InK .i64 (Int.tdiv (pickI l i) (7 : Int)) ∧ ((200 : Int) ≠ 0 ∧ (InK .i64 ((1 : Int) + (Int.tmod (Int.tdiv (pickI l i) (7 : Int)) (200 : Int))) ∧ ((11 : Int) ≠ 0 ∧ (InK .i64 (Int.tdiv (pickI l i) (11 : Int)) ∧ (InK .i64 (((1 : Int) + (Int.tmod (pickI l i) (100000 : Int))) + (1 : Int)) ∧ ((((1 : Int) + (Int.tmod (pickI l i) (100000 : Int))) + (1 : Int)) ≠ 0 ∧ ((Ll.len g) = (Ll.len g) ∧ ((Ll.len (g ++ [[((1 : Int) + (Int.tmod (pickI l i) (100000 : Int))), (Int.tmod (Int.tdiv (pickI l i) (11 : Int)) (((1 : Int) + (Int.tmod (pickI l i) (100000 : Int))) + (1 : Int))), ((1 : Int) + (Int.tmod (Int.tdiv (pickI l i) (3 : Int)) (1500 : Int))), ((1 : Int) + (Int.tmod (Int.tdiv (pickI l i) (7 : Int)) (200 : Int)))]])) ≤ (1000000 : Int) ∧ (InK .i64 (i + (1 : Int)) ∧ (KK .normal [(.i .i64 (i + (1 : Int)))] [(.row 25 [(.ls true 3 (Ll.len (g ++ [[((1 : Int) + (Int.tmod (pickI l i) (100000 : Int))), (Int.tmod (Int.tdiv (pickI l i) (11 : Int)) (((1 : Int) + (Int.tmod (pickI l i) (100000 : Int))) + (1 : Int))), ((1 : Int) + (Int.tmod (Int.tdiv (pickI l i) (3 : Int)) (1500 : Int))), ((1 : Int) + (Int.tmod (Int.tdiv (pickI l i) (7 : Int)) (200 : Int)))]])))])] [(g ++ [[((1 : Int) + (Int.tmod (pickI l i) (100000 : Int))), (Int.tmod (Int.tdiv (pickI l i) (11 : Int)) (((1 : Int) + (Int.tmod (pickI l i) (100000 : Int))) + (1 : Int))), ((1 : Int) + (Int.tmod (Int.tdiv (pickI l i) (3 : Int)) (1500 : Int))), ((1 : Int) + (Int.tmod (Int.tdiv (pickI l i) (7 : Int)) (200 : Int)))]])]))))))))))))))))))))
 (KK (.exit 0) [(.i .i64 i)] [(.row 25 [(.ls true 3 (Ll.len g))])] [g])) := by kernel_rfl
theorem ann_go (l : Ll) (i : Int) (g : Ll) (i_0 : Int) (r1 : i_0 = (0 : Int)) (T : Al (SV (stdA fsk true))) (M : Al (SO (stdA fsk true))) (KK : Ex → List (SV (stdA fsk true)) → List (SO (stdA fsk true)) → List Ll → Prop) (hI : 0 ≤ i ∧ i ≤ (annK l : Int) ∧ g = annP l i.toNat) (hn : ∀ (i' : Int) (g' : Ll), 0 ≤ i' ∧ i' ≤ (annK l : Int) ∧ g' = annP l i'.toNat → (10 - i').toNat < (10 - i).toNat → KK .normal [.i .i64 i'] [.row 25 [.ls true 3 (Ll.len g')]] [g']) (hx1 : KK (.exit 0) [.i .i64 ((annK l : Int))] [.row 25 [.ls true 3 (Ll.len (annL l))]] [(annL l)]) :
    sCode Try.prog (sCall Try.prog 30 (spOf spKb) noLoop 20) ⟨9, false, noLoop 9⟩ 30 (false :: [false, true, false, true, true]) (bodyAt Try.prog 9 [false, true, false, true, true]) (hdL (bodyAt Try.prog 9 [false, true, false, true, true]) T M 44 3 [(0, .ls false 0 (Ll.len l)), (3, .p 2 0)] [(0, .list 0 [.int .i64] false l)] [(4, .i .i64 i)] [(2, .row 25 [.ls true 3 (Ll.len g)])] [(42, [.int .i64, .int .i64, .int .i64, .int .i64])] [g] []) (outL 3 (tsOf [4] []) [2] [] [(42, [.int .i64, .int .i64, .int .i64, .int .i64])] KK) := by
  refine Eq.mpr (ann_eq i l g T M KK) ?_
  simp only [cond_iff, InK64]
  obtain ⟨i0, i1, rfl⟩ := hI
  obtain ⟨k0, k1⟩ := annK_b l
  obtain ⟨b0, b1⟩ := pick_b l i
  have hk : maxL 1 (minL (Ll.len l) 5) = (annK l : Int) := annK_eq l
  rw [hk]
  have es : annP l (i.toNat + 1) = annP l i.toNat ++ [segRow (pickI l i)] := by rw [annP_succ, Int.toNat_of_nonneg i0]
  generalize hp : pickI l i = n at *
  have d1 := Int.tmod_eq_emod_of_nonneg b0 (b := 100000)
  have d2 := Int.tdiv_eq_ediv_of_nonneg b0 (b := 3)
  have d3 := Int.tdiv_eq_ediv_of_nonneg b0 (b := 7)
  have d4 := Int.tdiv_eq_ediv_of_nonneg b0 (b := 11)
  have d5 := Int.tmod_eq_emod_of_nonneg (show 0 ≤ n / 3 by omega) (b := 1500)
  have d6 := Int.tmod_eq_emod_of_nonneg (show 0 ≤ n / 7 by omega) (b := 200)
  have d7 := Int.tmod_eq_emod_of_nonneg (show 0 ≤ n / 11 by omega) (b := 1 + n % 100000 + 1)
  rw [d1, d2, d3, d4, d5, d6, d7]
  refine ⟨fun h => ⟨by trivial, by omega, by omega, by omega, by omega, by omega, by omega, by omega, by omega, by omega, by omega, by omega, by omega, by omega, by omega, by omega, by trivial, ?_, by omega, ?_⟩, fun h => ?_⟩
  · show (((annP l i.toNat ++ [segRow n] : Ll).length : Nat) : Int) ≤ 1000000
    rw [← es, annP_len]; omega
  · have := hn (i + 1) (annP l i.toNat ++ [segRow n]) ⟨by omega, by omega, by rw [← es]; congr 1; omega⟩ (by omega)
    exact this
  · obtain rfl : i = (annK l : Int) := by omega
    have := hx1
    simp only [annL] at this
    exact this
abbrev annF {A : Go.Rx.Alg} : Code → Go.Rx.SS A → (Go.Rx.Ex → Go.Rx.SS A → A.R) → A.R := fun c_ s_ K_ => match s_.T.get 0, s_.T.get 3, s_.H.get 0, s_.T.get 4, s_.H.get 2 with
  | some (.ls false 0 m1), some (.p 2 0), some (.list t2 k2 false l), some (.i .i64 i), some (.row t3 [.nils]) => bif ((((Nat.beq s_.N 44 && Nat.beq s_.nx 3) && Nat.beq t2 0) && decide (k2 = [.int .i64])) && Nat.beq t3 25) then (A.need .eql m1 (A.len l) (A.need .eql i (A.lit 0) (K_ (.exit 0) (Go.Rx.hdL c_ s_.T (Go.Rx.kills [] s_.H) 44 3 [(0, .ls false 0 (A.len l)), (3, .p 2 0)] [(0, .list 0 [.int .i64] false l)] [(4, .i .i64 (A.app 3 [l] []))] [(2, .row 25 [.ls true 3 (A.len (A.appL 50 [l] []))])] [(42, [.int .i64, .int .i64, .int .i64, .int .i64])] [(A.appL 50 [l] [])] (Go.Rx.addW ([] ++ [2]) s_.wr))))) else A.fail "frame of ann"
  | _, _, _, _, _ => A.fail "ann"
theorem annF_ok {d : Nat} (hd : 300 ≤ d) : LoopOK (fs := fsk) (ov := true) Try.prog AW d 9 [false, true, false, true, true] false annF := by
  intro m_ hm_ fn_ c0_ hfn_ hb_ c_ ro_ hro_ hc_ s_ K_ W_ ν_ S_ h_ hs_
  obtain rfl := body_of hfn_ hb_ hc_
  unfold annF at h_
  split at h_
  · rename_i m1_0 t2 k2 l_0 i_0_0 t3 g0 g1 g2 g3 g4
    obtain ⟨m1, rfl⟩ : ∃ q : Int, q = m1_0 := ⟨m1_0, rfl⟩
    obtain ⟨l, rfl⟩ : ∃ q : Ll, q = l_0 := ⟨l_0, rfl⟩
    obtain ⟨i_0, rfl⟩ : ∃ q : Int, q = i_0_0 := ⟨i_0_0, rfl⟩
    obtain ⟨T_, FN_, M_, snx_, wr_⟩ := s_
    have hN : ((((Nat.beq FN_ 44 && Nat.beq snx_ 3) && Nat.beq t2 0) && decide (k2 = [.int .i64])) && Nat.beq t3 25) = true := by
      cases hq : (((((Nat.beq FN_ 44 && Nat.beq snx_ 3) && Nat.beq t2 0) && decide (k2 = [.int .i64])) && Nat.beq t3 25) : Bool) with
      | true => rfl
      | false => (rw [hq] at h_; exact h_.elim)
    rw [hN, cond_true] at h_
    simp only [Bool.and_eq_true, beq_iff, decide_eq_true_eq] at hN
    obtain ⟨⟨⟨⟨rfl, rfl⟩, rfl⟩, rfl⟩, rfl⟩ := hN
    obtain ⟨q0, h_⟩ := h_
    obtain rfl : m1 = (Ll.len l) := q0
    obtain ⟨q1, h_⟩ := h_
    have q1 : i_0 = (0 : Int) := q1
    replace h_ : K_ (.exit 0) (hdL (bodyAt Try.prog 9 [false, true, false, true, true]) T_ (kills [] M_) 44 3 [(0, .ls false 0 (Ll.len l)), (3, .p 2 0)] [(0, .list 0 [.int .i64] false l)] [(4, .i .i64 ((annK l : Int)))] [(2, .row 25 [.ls true 3 (Ll.len (annL l))])] [(42, [.int .i64, .int .i64, .int .i64, .int .i64])] [(annL l)] (addW ([] ++ [2]) wr_)) := h_
    have hx1 : K_ (.exit 0) (hdL (bodyAt Try.prog 9 [false, true, false, true, true]) T_ (kills [] M_) 44 3 [(0, .ls false 0 (Ll.len l)), (3, .p 2 0)] [(0, .list 0 [.int .i64] false l)] [(4, .i .i64 ((annK l : Int)))] [(2, .row 25 [.ls true 3 (Ll.len (annL l))])] [(42, [.int .i64, .int .i64, .int .i64, .int .i64])] [(annL l)] (addW ([] ++ [2]) wr_)) := by
      have h2 := h_
      exact h2
    refine loop_ruleL (fs := fsk) (ov := true) (s := ⟨T_, 44, M_, 3, wr_⟩) (X := Int × Ll) (B := [2]) (mv := []) (kt := [(0, .ls false 0 (Ll.len l)), (3, .p 2 0)]) (kr := [(0, .list 0 [.int .i64] false l)]) (ty := [(42, [.int .i64, .int .i64, .int .i64, .int .i64])]) (x := (i_0, []))
      (Inv := (fun x_ : Int × Ll => match x_ with | (i, g) => 0 ≤ i ∧ i ≤ (annK l : Int) ∧ g = annP l i.toNat)) (μ := (fun x_ : Int × Ll => match x_ with | (i, g) => (10 - i).toNat)) (ts := tsOf [4] []) (sl := (fun x_ : Int × Ll => match x_ with | (i, g) => [.i .i64 i])) (bl := (fun x_ : Int × Ll => match x_ with | (i, g) => [.row 25 [.ls true 3 (Ll.len g)]])) (ll := (fun x_ : Int × Ll => match x_ with | (i, g) => [g])) (Q := fun e_ vs_ os_ hs_ => K_ e_ (hdL (bodyAt Try.prog 9 [false, true, false, true, true]) T_ (kills [] M_) 44 3 [(0, .ls false 0 (Ll.len l)), (3, .p 2 0)] [(0, .list 0 [.int .i64] false l)] (((tsOf [4] []) e_).zip vs_) ([2].zip os_) [(42, [.int .i64, .int .i64, .int .i64, .int .i64])] hs_ (addW ([] ++ [2]) wr_)))
      (L := LL) (U := 30) (cs := sCall Try.prog 30 (spOf spKb) noLoop 20) (call := CN Try.prog AW m_) (lp := ⟨9, false, noLoop 9⟩) (root := c0_) (p := [false, true, false, true, true])
      (show CallSOK _ _ from by
        have := sCall_ok (P := Try.prog) (d := m_ - 20) (U := 30) (lp := noLoop) (spKb_ok (ov := true) (d := m_ - 20) (by omega)) (spKb_aw (fs := fsk) (ov := true)) (noLoop_ok) (by decide) rfl 20
        rwa [show 20 + (m_ - 20) = m_ by omega] at this) (ctx_of (g := 9) (rg := false) (at_ := noLoop 9) (fun p rg f h => by cases h) hfn_ hb_ hro_) (by decide) hc_
      (by
        rintro ⟨i, g⟩ o ho
        simp only [List.mem_cons, List.not_mem_nil, or_false] at ho
        rcases ho with rfl
        · rfl)
      (fun x hx => by
        simp only [List.mem_cons, List.not_mem_nil, or_false] at hx
        rcases hx with rfl
        · exact ⟨_, g4, rfl⟩) (fun x hx => by cases hx) (fun x hx => by
        simp only [List.mem_cons, List.not_mem_nil, or_false] at hx
        rcases hx with rfl
        · simp)
      (fun x hx => by
        simp only [List.mem_cons, List.not_mem_nil, or_false] at hx
        rcases hx with rfl | rfl
        · exact g0
        · exact g1) (fun x hx => by
        simp only [List.mem_cons, List.not_mem_nil, or_false] at hx
        rcases hx with rfl
        · exact ⟨g2, by simp⟩) ?_ (fun _ _ _ _ _ h => h) ?_ ?_ ?_ hs_
    · rintro ⟨i, g⟩ hI
      exact ann_go l i g i_0 q1 T_ (kills [] M_) _  hI (fun i' g' ha hb => ⟨(i', g'), ha, hb, rfl, rfl, rfl⟩) (⟨by simp [SO.mine], hx1⟩)
    · show 0 ≤ i_0 ∧ i_0 ≤ (annK l : Int) ∧ ([] : Ll) = annP l i_0.toNat
      exact ⟨by omega, by have := annK_b l; omega, by rw [q1]; rfl⟩
    · show (10 - i_0).toNat < LL
      exact Nat.lt_of_le_of_lt (show _ ≤ 1000 by omega) (by decide)
    · exact ⟨⟨[.i .i64 i_0], [.row 25 [.nils]], [], [none], by simp [gets, tsOf, g0, g1, g2, g3, g4], by simp [gets, g0, g1, g2, g3, g4], rfl, rfl, by simp [listsOf] <;> rfl⟩⟩
  · exact h_.elim
abbrev lpAnn {A : Go.Rx.Alg} : Nat → Go.Rx.LoopS A := Go.Rx.lpOf [(9, [false, true, false, true, true], false, annF)]
theorem lpAnn_ok {d : Nat} (hd : 300 ≤ d) : LoopsAll (fs := fsk) (ov := true) Try.prog AW d lpAnn := lpOf_ok fun x hx => by
  simp only [List.mem_cons, List.not_mem_nil, or_false] at hx
  rcases hx with rfl
  · exact annF_ok (by omega)
theorem annulus_eq (l : Ll) (KK : KS (stdA fsk true)) : sFunc Try.prog 30 (sCall Try.prog 30 (spOf spKb) lpAnn 20) lpAnn 9 [.ls false 0 (Ll.len l)] (lsMem 0 [([.int .i64], l)]) 1 KK =
  ((Ll.len l) = (Ll.len l) ∧ ((0 : Int) = (0 : Int) ∧ ((Ll.len (annL l)) = (Ll.len (annL l)) ∧ (KK (.agg [(.ls true 1 (Ll.len (annL l)))]) (Al.set (lsMem 0 [([.int .i64], l)]) 1 (some (.list 42 [.int .i64, .int .i64, .int .i64, .int .i64] true (annL l)))) 2 [])))) := by kernel_rfl
theorem annulus_gives {m : Nat} (hm : 400 ≤ m) {H : Hp} {nx : Nat} {v_l : LV} {l : Ll} (hl_l : IsL H nx [.int .i64] l v_l) : Gives Try.prog AW m 9 [v_l] H nx true 42 [.int .i64, .int .i64, .int .i64, .int .i64] (annL l) := by
  obtain ⟨ν, n1, n2, n3, n4⟩ := ls_in (fs := fsk) (ov := true) (l := [([.int .i64], l)]) (lvs := [v_l]) 0 (fun i x lv e1 e2 => by
    cases i with
    | zero => simp at e1 e2; subst e1 e2; exact hl_l
    | succ i =>
      simp at e1) rfl
  refine gives_of (n := 20) (d := m - 21) (U := 30) (fs := fsk) (ov := true) (spKb_ok (by omega)) spKb_aw (lpAnn_ok (by omega)) (by decide) (by decide) (by omega) (args := [.ls false 0 (Ll.len l)]) (M := lsMem 0 [([.int .i64], l)]) (snx := 1) ?_ ?_ (VSL.cons (n4 0 _ _ rfl rfl) rfl) (hs_in n2 n3)
  rw [annulus_eq]
  · exact ⟨by trivial, by trivial, by trivial, end_l (w := true) rfl⟩
  · exact annP_rows _ _
abbrev annulusS {A : Go.Rx.Alg} : List (Go.Rx.SV A) → Go.Rx.SH A → Nat → Go.Rx.KS A → A.R := fun args_ M_ snx_ K_ => match args_ with
  | [x_l] => (match Go.Rx.lsArg M_ [.int .i64] x_l with | some (l, n_l) => (A.need .eql n_l (A.len l) ((M_.set snx_ (some (.list 42 [.int .i64, .int .i64, .int .i64, .int .i64] true (A.appL 50 [l] [])))).force fun M_ => K_ (.agg [.ls true snx_ (A.len (A.appL 50 [l] []))]) M_ (snx_ + 1) [])) | none => A.fail "annulus")
  | _ => A.fail "annulus"
theorem annulusS_ok {ov : Bool} {d : Nat} (hd : 400 ≤ d) : SpecOK (fs := fsk) (ov := ov) Try.prog AW d 9 annulusS := by
  intro m_ hm_ args_ M_ snx_ K_ h_ ν_ largs_ H_ nx_ ha_ hM_
  unfold annulusS at h_
  split at h_
  · rename_i x_l
    obtain ⟨v_l, r1, rfl, hx_l, rfl⟩ := ha_
    split at h_
    · rename_i l n_l q_l
      obtain ⟨e_l, h_⟩ := h_
      exact gives_got (annulus_gives (by omega) (lsArg_ok hM_ hx_l q_l e_l)) hM_ h_
    · exact h_.elim
  · exact h_.elim
end Go.Proofs.Ytfjilbjofaommaa
