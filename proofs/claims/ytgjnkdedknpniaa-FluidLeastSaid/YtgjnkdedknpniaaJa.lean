/-
  Layer 3: holes made of numbers.
-/
import Derived.Test.YtgjnkdedknpniaaFc
import Derived.Test.YtgjnkdedknpniaaJm
set_option linter.unusedSimpArgs false
set_option linter.unusedVariables false
set_option maxRecDepth 100000
namespace Go.Proofs.Ytgjnkdedknpniaa
open Go Go.Rx

abbrev fsj : Fs where
  i := fun n ls xs => match n, ls, xs with | 1, [], [a, b] => a % b | 2, [l], [a] => pickI l a | 3, [l], [] => (annK l : Int) | 4, [], [a, b] => a / b | 5, [], [a, b] => cdiv a b | 6, [], [a, b, c, e, f, g, h] => loadI a b c e f g h | 7, [], [w, r, l] => mixedI w r l | 8, [], [a, b] => a * b / 18446744073709551616 | 9, [], [a, b] => a * b % 18446744073709551616 | 10, [], [c, e, y, v, f] => gradI c e y v f | 11, [], [c, e, y, v, f] => if gradI c e y v f ≤ 20000 then gradI c e y v f else 0 | _, _, _ => 0
  b := fun n ls xs => match n, ls, xs with | 31, [], [p, q, r, s] => decide (r * 18446744073709551616 + s ≤ p * 18446744073709551616 + q) | 32, [], [g, f, c, e, y, v] => decide (FlowsP g f c e y v) | 33, [], [a, b, c, e, y, v, f] => decide (CanP a b c e y v f) | 34, [], [g, f, c, e, y, v] => decide (0 ≤ g ∧ g ≤ 20000 ∧ FlowsP g f c e y v) | 35, [], [c, e, y, v, f] => decide (gradI c e y v f ≤ 20000) | 30, [], [a, b, c, e, f, g, h] => decide (loadOk a b c e f g h) | _, _, _ => false
  l := fun n ls xs => match n, ls, xs with | 50, [l], [] => annL l | _, _, _ => []
abbrev m64S {A : Go.Rx.Alg} : List (Go.Rx.SV A) → Go.Rx.SH A → Nat → Go.Rx.KS A → A.R := fun args_ M_ snx_ K_ => match args_ with
  | [.i .i64 a, .i .i64 b] => (A.need .leq (A.lit 1) b (A.need .leq b (A.lit 9223372036854775807) (K_ (.i .i64 (A.app 1 [] [a, b])) M_ snx_ [])))
  | _ => A.fail "m64"
theorem m64S_ok {ov : Bool} {d : Nat} (hd : 100 ≤ d) : SpecOK (fs := fsj) (ov := ov) Try.prog AW d 45 m64S := by
  intro m_ hm_ args_ M_ snx_ K_ h_ ν_ largs_ H_ nx_ ha_ hM_
  unfold m64S at h_
  split at h_
  · rename_i a b
    obtain ⟨y1, r1, rfl, rfl, ⟨y2, r2, rfl, rfl, rfl⟩⟩ := ha_
    obtain ⟨p1, h_⟩ := h_
    obtain ⟨p2, h_⟩ := h_
    exact pure_got (mod64_pure (by omega) a b p1 p2) hM_ (v := .i .i64 _) rfl h_
  · exact h_.elim
abbrev dn4S {A : Go.Rx.Alg} : List (Go.Rx.SV A) → Go.Rx.SH A → Nat → Go.Rx.KS A → A.R := fun args_ M_ snx_ K_ => match args_ with
  | [.i .i64 a, .i .i64 b] => (A.need .leq (A.lit (-9223372036854775808)) a (A.need .leq a (A.lit 9223372036854775807) (A.need .leq (A.lit 1) b (K_ (.i .i64 (A.app 4 [] [a, b])) M_ snx_ []))))
  | _ => A.fail "dn4"
theorem dn4S_ok {ov : Bool} {d : Nat} (hd : 100 ≤ d) : SpecOK (fs := fsj) (ov := ov) Try.prog AW d 65 dn4S := by
  intro m_ hm_ args_ M_ snx_ K_ h_ ν_ largs_ H_ nx_ ha_ hM_
  unfold dn4S at h_
  split at h_
  · rename_i a b
    obtain ⟨y1, r1, rfl, rfl, ⟨y2, r2, rfl, rfl, rfl⟩⟩ := ha_
    obtain ⟨p1, h_⟩ := h_
    obtain ⟨p2, h_⟩ := h_
    obtain ⟨p3, h_⟩ := h_
    exact pure_got (down_pure (by omega) a b p1 p2 p3) hM_ (v := .i .i64 _) rfl h_
  · exact h_.elim
abbrev up4S {A : Go.Rx.Alg} : List (Go.Rx.SV A) → Go.Rx.SH A → Nat → Go.Rx.KS A → A.R := fun args_ M_ snx_ K_ => match args_ with
  | [.i .i64 a, .i .i64 b] => (A.need .leq (A.lit (-9223372036854775808)) a (A.need .leq a (A.lit 9223372036854775806) (A.need .leq (A.lit 1) b (K_ (.i .i64 (A.app 5 [] [a, b])) M_ snx_ []))))
  | _ => A.fail "up4"
theorem up4S_ok {ov : Bool} {d : Nat} (hd : 100 ≤ d) : SpecOK (fs := fsj) (ov := ov) Try.prog AW d 66 up4S := by
  intro m_ hm_ args_ M_ snx_ K_ h_ ν_ largs_ H_ nx_ ha_ hM_
  unfold up4S at h_
  split at h_
  · rename_i a b
    obtain ⟨y1, r1, rfl, rfl, ⟨y2, r2, rfl, rfl, rfl⟩⟩ := ha_
    obtain ⟨p1, h_⟩ := h_
    obtain ⟨p2, h_⟩ := h_
    obtain ⟨p3, h_⟩ := h_
    exact pure_got (up_pure (by omega) a b p1 p2 p3) hM_ (v := .i .i64 _) rfl h_
  · exact h_.elim
abbrev ldS {A : Go.Rx.Alg} : List (Go.Rx.SV A) → Go.Rx.SH A → Nat → Go.Rx.KS A → A.R := fun args_ M_ snx_ K_ => match args_ with
  | [.agg [.i .i64 a, .i .i64 b, .i .i64 c, .i .i64 e], .i .i64 feed, .i .i64 flow, .i .i64 slip] => (K_ (.tup [.i .i64 (A.app 6 [] [a, b, c, e, feed, flow, slip]), .b (A.appB 30 [] [a, b, c, e, feed, flow, slip])]) M_ snx_ [])
  | _ => A.fail "ld"
theorem ldS_ok {ov : Bool} {d : Nat} (hd : 200 ≤ d) : SpecOK (fs := fsj) (ov := ov) Try.prog AW d 39 ldS := by
  intro m_ hm_ args_ M_ snx_ K_ h_ ν_ largs_ H_ nx_ ha_ hM_
  unfold ldS at h_
  split at h_
  · rename_i a b c e feed flow slip
    obtain ⟨y1, r1, rfl, ⟨l1, rfl, ⟨y2, r2, rfl, rfl, ⟨y3, r3, rfl, rfl, ⟨y4, r4, rfl, rfl, ⟨y5, r5, rfl, rfl, rfl⟩⟩⟩⟩⟩, ⟨y6, r6, rfl, rfl, ⟨y7, r7, rfl, rfl, ⟨y8, r8, rfl, rfl, rfl⟩⟩⟩⟩ := ha_
    exact pure_got (load_pure (by omega) a b c e feed flow slip) hM_ (v := .tup [.i .i64 _, .b _]) ⟨_, rfl, (VSL.cons rfl (VSL.cons rfl rfl))⟩ h_
  · exact h_.elim
abbrev mixS {A : Go.Rx.Alg} : List (Go.Rx.SV A) → Go.Rx.SH A → Nat → Go.Rx.KS A → A.R := fun args_ M_ snx_ K_ => match args_ with
  | [.i .i64 w, .i .i64 r, .i .i64 l] => (K_ (.i .i64 (A.app 7 [] [w, r, l])) M_ snx_ [])
  | _ => A.fail "mix"
theorem mixS_ok {ov : Bool} {d : Nat} (hd : 200 ≤ d) : SpecOK (fs := fsj) (ov := ov) Try.prog AW d 41 mixS := by
  intro m_ hm_ args_ M_ snx_ K_ h_ ν_ largs_ H_ nx_ ha_ hM_
  unfold mixS at h_
  split at h_
  · rename_i w r l
    obtain ⟨y1, r1, rfl, rfl, ⟨y2, r2, rfl, rfl, ⟨y3, r3, rfl, rfl, rfl⟩⟩⟩ := ha_
    exact pure_got (mixed_pure (by omega) w r l) hM_ (v := .i .i64 _) rfl h_
  · exact h_.elim
abbrev spA {A : Go.Rx.Alg} : Go.Rx.SpL A := [(AW, Go.Rx.awakeS), (45, m64S)]
theorem spA_ok {ov : Bool} {d : Nat} (hd : 100 ≤ d) : SpOK (fs := fsj) (ov := ov) Try.prog AW d spA := SpOK.cons awake_ok (SpOK.cons (m64S_ok (by omega)) SpOK.nil)
theorem spA_aw {fs : Fs} {ov : Bool} : (spOf (A := stdA fs ov) spA AW).isSome = true := rfl
theorem pick_eq (i : Int) (l : Ll) (KK : KS (stdA fsj true)) : sFunc Try.prog 30 (sCall Try.prog 30 (spOf spA) noLoop 20) noLoop 75 [.ls false 0 (Ll.len l), .i .i64 i] (lsMem 0 [([.int .i64], l)]) 1 KK =
  (cond (decide ((Ll.len l) = (0 : Int)))
 (KK (.i .i64 (0 : Int)) (lsMem 0 [([.int .i64], l)]) 1 [])
 ((Ll.len l) ≠ 0 ∧ ((0 : Int) ≤ (Int.tmod i (Ll.len l)) ∧ ((Int.tmod i (Ll.len l)) < (Ll.len l) ∧ ((Int.tmod i (Ll.len l)) < (Ll.len l) ∧ ((1 : Int) ≤ (1099511627776 : Int) ∧ ((1099511627776 : Int) ≤ (9223372036854775807 : Int) ∧ (KK (.i .i64 ((Ll.get l (Int.tmod i (Ll.len l)) 0) % (1099511627776 : Int))) (lsMem 0 [([.int .i64], l)]) 1 [])))))))) := by kernel_rfl
theorem pick_pure {m : Nat} (hm : 200 ≤ m) {H : Hp} {nx : Nat} (i : Int) {v_l : LV} {l : Ll} (hl_l : IsL H nx [.int .i64] l v_l) (p1 : (0 : Int) ≤ i) : Pure Try.prog AW m 75 [v_l, .i .i64 i] H nx (.i .i64 (pickI l i)) := by
  obtain ⟨ν, n1, n2, n3, n4⟩ := ls_in (fs := fsj) (ov := true) (l := [([.int .i64], l)]) (lvs := [v_l]) 0 (fun i x lv e1 e2 => by
    cases i with
    | zero => simp at e1 e2; subst e1 e2; exact hl_l
    | succ i =>
      simp at e1) rfl
  refine pure_of (n := 20) (d := m - 21) (U := 30) (fs := fsj) (ov := true) (spA_ok (by omega)) spA_aw noLoop_ok (by decide) (by decide) (by omega) (args := [.ls false 0 (Ll.len l), .i .i64 i]) (M := lsMem 0 [([.int .i64], l)]) (snx := 1) ?_ (VSL.cons (n4 0 _ _ rfl rfl) (VSL.cons rfl rfl)) (hs_in n2 n3)
  rw [pick_eq]
  simp only [cond_iff, InK64]
  have hl : Ll.len l = (l.length : Int) := rfl
  refine ⟨fun h => end_i (by rw [pickI, if_pos (by omega)]), fun h => ?_⟩
  have e := Int.tmod_eq_emod_of_nonneg p1 (b := Ll.len l)
  have e0 := Int.emod_nonneg i h
  have e1 := Int.emod_lt_of_pos i (show 0 < Ll.len l by omega)
  rw [e]
  exact ⟨h, e0, e1, e1, by omega, by omega, end_i (by rw [pickI, if_neg (by omega)]; rfl)⟩
abbrev pickS {A : Go.Rx.Alg} : List (Go.Rx.SV A) → Go.Rx.SH A → Nat → Go.Rx.KS A → A.R := fun args_ M_ snx_ K_ => match args_ with
  | [x_l, .i .i64 i] => (match Go.Rx.lsArg M_ [.int .i64] x_l with | some (l, n_l) => (A.need .eql n_l (A.len l) (A.need .leq (A.lit 0) i (K_ (.i .i64 (A.app 2 [l] [i])) M_ snx_ []))) | none => A.fail "pick")
  | _ => A.fail "pick"
theorem pickS_ok {ov : Bool} {d : Nat} (hd : 200 ≤ d) : SpecOK (fs := fsj) (ov := ov) Try.prog AW d 75 pickS := by
  intro m_ hm_ args_ M_ snx_ K_ h_ ν_ largs_ H_ nx_ ha_ hM_
  unfold pickS at h_
  split at h_
  · rename_i x_l i
    obtain ⟨v_l, r1, rfl, hx_l, ⟨y2, r2, rfl, rfl, rfl⟩⟩ := ha_
    split at h_
    · rename_i l n_l q_l
      obtain ⟨e_l, h_⟩ := h_
      obtain ⟨p1, h_⟩ := h_
      exact pure_got (pick_pure (by omega) i (lsArg_ok hM_ hx_l q_l e_l) p1) hM_ (v := .i .i64 _) rfl h_
    · exact h_.elim
  · exact h_.elim
abbrev spB {A : Go.Rx.Alg} : Go.Rx.SpL A := [(AW, Go.Rx.awakeS), (45, m64S), (75, pickS)]
theorem spB_ok {ov : Bool} {d : Nat} (hd : 200 ≤ d) : SpOK (fs := fsj) (ov := ov) Try.prog AW d spB := SpOK.cons awake_ok (SpOK.cons (m64S_ok (by omega)) (SpOK.cons (pickS_ok (by omega)) SpOK.nil))
theorem spB_aw {fs : Fs} {ov : Bool} : (spOf (A := stdA fs ov) spB AW).isSome = true := rfl
theorem ann_eq (i : Int) (l g : Ll) (T : Al (SV (stdA fsj true))) (M : Al (SO (stdA fsj true))) (KK : Ex → List (SV (stdA fsj true)) → List (SO (stdA fsj true)) → List Ll → Prop) : sCode Try.prog (sCall Try.prog 30 (spOf spB) noLoop 20) (noLoop 43) 30 (false :: [false, true, false, true, true]) (bodyAt Try.prog 43 [false, true, false, true, true]) (hdL (bodyAt Try.prog 43 [false, true, false, true, true]) T M 44 3 [(0, .ls false 0 (Ll.len l)), (3, .p 2 0)] [(0, .list 0 [.int .i64] false l)] [(4, .i .i64 i)] [(2, .row 24 [.ls true 3 (Ll.len g)])] [(44, [.int .i64, .int .i64, .int .i64, .int .i64])] [g] []) (outL 3 (tsOf [4] []) [2] [(44, [.int .i64, .int .i64, .int .i64, .int .i64])] KK) =
  (cond (decide (i < (maxL (1 : Int) (minL (Ll.len l) (5 : Int)))))
 ((Ll.len l) = (Ll.len l) ∧ ((0 : Int) ≤ i ∧ ((100000 : Int) ≠ 0 ∧ (InK .i64 ((1 : Int) + (Int.tmod (pickI l i) (100000 : Int))) ∧ ((3 : Int) ≠ 0 ∧ (InK .i64 (Int.tdiv (pickI l i) (3 : Int)) ∧ ((1500 : Int) ≠ 0 ∧ (InK .i64 ((1 : Int) + (Int.tmod (Int.tdiv (pickI l i) (3 : Int)) (1500 : Int))) ∧ ((7 : Int) ≠ 0 ∧ (InK .i64 (Int.tdiv (pickI l i) (7 : Int)) ∧ ((200 : Int) ≠ 0 ∧ (InK .i64 ((1 : Int) + (Int.tmod (Int.tdiv (pickI l i) (7 : Int)) (200 : Int))) ∧ ((11 : Int) ≠ 0 ∧ (InK .i64 (Int.tdiv (pickI l i) (11 : Int)) ∧ (InK .i64 (((1 : Int) + (Int.tmod (pickI l i) (100000 : Int))) + (1 : Int)) ∧ ((((1 : Int) + (Int.tmod (pickI l i) (100000 : Int))) + (1 : Int)) ≠ 0 ∧ ((Ll.len g) = (Ll.len g) ∧ ((Ll.len (g ++ [[((1 : Int) + (Int.tmod (pickI l i) (100000 : Int))), (Int.tmod (Int.tdiv (pickI l i) (11 : Int)) (((1 : Int) + (Int.tmod (pickI l i) (100000 : Int))) + (1 : Int))), ((1 : Int) + (Int.tmod (Int.tdiv (pickI l i) (3 : Int)) (1500 : Int))), ((1 : Int) + (Int.tmod (Int.tdiv (pickI l i) (7 : Int)) (200 : Int)))]])) ≤ (1000000 : Int) ∧ (InK .i64 (i + (1 : Int)) ∧ (KK .normal [(.i .i64 (i + (1 : Int)))] [(.row 24 [(.ls true 3 (Ll.len (g ++ [[((1 : Int) + (Int.tmod (pickI l i) (100000 : Int))), (Int.tmod (Int.tdiv (pickI l i) (11 : Int)) (((1 : Int) + (Int.tmod (pickI l i) (100000 : Int))) + (1 : Int))), ((1 : Int) + (Int.tmod (Int.tdiv (pickI l i) (3 : Int)) (1500 : Int))), ((1 : Int) + (Int.tmod (Int.tdiv (pickI l i) (7 : Int)) (200 : Int)))]])))])] [(g ++ [[((1 : Int) + (Int.tmod (pickI l i) (100000 : Int))), (Int.tmod (Int.tdiv (pickI l i) (11 : Int)) (((1 : Int) + (Int.tmod (pickI l i) (100000 : Int))) + (1 : Int))), ((1 : Int) + (Int.tmod (Int.tdiv (pickI l i) (3 : Int)) (1500 : Int))), ((1 : Int) + (Int.tmod (Int.tdiv (pickI l i) (7 : Int)) (200 : Int)))]])]))))))))))))))))))))
 (KK (.exit 0) [(.i .i64 i)] [(.row 24 [(.ls true 3 (Ll.len g))])] [g])) := by kernel_rfl
theorem ann_go (l : Ll) (i : Int) (g : Ll) (T : Al (SV (stdA fsj true))) (M : Al (SO (stdA fsj true))) (KK : Ex → List (SV (stdA fsj true)) → List (SO (stdA fsj true)) → List Ll → Prop) (hI : 0 ≤ i ∧ i ≤ (annK l : Int) ∧ g = annP l i.toNat) (hn : ∀ (i' : Int) (g' : Ll), 0 ≤ i' ∧ i' ≤ (annK l : Int) ∧ g' = annP l i'.toNat → (10 - i').toNat < (10 - i).toNat → KK .normal [.i .i64 i'] [.row 24 [.ls true 3 (Ll.len g')]] [g']) (hx1 : KK (.exit 0) [.i .i64 ((annK l : Int))] [.row 24 [.ls true 3 (Ll.len (annL l))]] [(annL l)]) :
    sCode Try.prog (sCall Try.prog 30 (spOf spB) noLoop 20) (noLoop 43) 30 (false :: [false, true, false, true, true]) (bodyAt Try.prog 43 [false, true, false, true, true]) (hdL (bodyAt Try.prog 43 [false, true, false, true, true]) T M 44 3 [(0, .ls false 0 (Ll.len l)), (3, .p 2 0)] [(0, .list 0 [.int .i64] false l)] [(4, .i .i64 i)] [(2, .row 24 [.ls true 3 (Ll.len g)])] [(44, [.int .i64, .int .i64, .int .i64, .int .i64])] [g] []) (outL 3 (tsOf [4] []) [2] [(44, [.int .i64, .int .i64, .int .i64, .int .i64])] KK) := by
  refine Eq.mpr (ann_eq i l g T M KK) ?_
  simp only [cond_iff, InK64]
  obtain ⟨i0, i1, rfl⟩ := hI
  obtain ⟨k0, k1⟩ := annK_b l
  obtain ⟨b0, b1⟩ := pick_b l i
  have hk : maxL 1 (minL (Ll.len l) 5) = (annK l : Int) := annK_eq l
  rw [hk]
  have es : annP l (i.toNat + 1) = annP l i.toNat ++ [segRow (pickI l i)] := by rw [annP_succ, Int.toNat_of_nonneg i0]
  generalize hp : pickI l i = n at *
  have d1 := Int.tmod_eq_emod_of_nonneg b0 (b := 100000)
  have d2 := Int.tdiv_eq_ediv_of_nonneg b0 (b := 3)
  have d3 := Int.tdiv_eq_ediv_of_nonneg b0 (b := 7)
  have d4 := Int.tdiv_eq_ediv_of_nonneg b0 (b := 11)
  have d5 := Int.tmod_eq_emod_of_nonneg (show 0 ≤ n / 3 by omega) (b := 1500)
  have d6 := Int.tmod_eq_emod_of_nonneg (show 0 ≤ n / 7 by omega) (b := 200)
  have d7 := Int.tmod_eq_emod_of_nonneg (show 0 ≤ n / 11 by omega) (b := 1 + n % 100000 + 1)
  rw [d1, d2, d3, d4, d5, d6, d7]
  refine ⟨fun h => ⟨by trivial, by omega, by omega, by omega, by omega, by omega, by omega, by omega, by omega, by omega, by omega, by omega, by omega, by omega, by omega, by omega, by trivial, ?_, by omega, ?_⟩, fun h => ?_⟩
  · show (((annP l i.toNat ++ [segRow n] : Ll).length : Nat) : Int) ≤ 1000000
    rw [← es, annP_len]; omega
  · have := hn (i + 1) (annP l i.toNat ++ [segRow n]) ⟨by omega, by omega, by rw [← es]; congr 1; omega⟩ (by omega)
    exact this
  · obtain rfl : i = (annK l : Int) := by omega
    have := hx1
    simp only [annL] at this
    exact this
abbrev annF {A : Go.Rx.Alg} : Code → Go.Rx.SS A → (Go.Rx.Ex → Go.Rx.SS A → A.R) → A.R := fun c_ s_ K_ => match s_.T.get 0, s_.T.get 3, s_.H.get 0, s_.T.get 4, s_.H.get 2 with
  | some (.ls false 0 m1), some (.p 2 0), some (.list t2 k2 false l), some (.i .i64 i), some (.row t3 [.nils]) => bif ((((Nat.beq s_.N 44 && Nat.beq s_.nx 3) && Nat.beq t2 0) && decide (k2 = [.int .i64])) && Nat.beq t3 24) then (A.need .eql m1 (A.len l) (A.need .eql i (A.lit 0) (K_ (.exit 0) (Go.Rx.hdL c_ s_.T (Go.Rx.kills [] s_.H) 44 3 [(0, .ls false 0 (A.len l)), (3, .p 2 0)] [(0, .list 0 [.int .i64] false l)] [(4, .i .i64 (A.app 3 [l] []))] [(2, .row 24 [.ls true 3 (A.len (A.appL 50 [l] []))])] [(44, [.int .i64, .int .i64, .int .i64, .int .i64])] [(A.appL 50 [l] [])] (Go.Rx.addW ([] ++ [2]) s_.wr))))) else A.fail "frame of ann"
  | _, _, _, _, _ => A.fail "ann"
theorem annF_ok {d : Nat} (hd : 300 ≤ d) : LoopOK (fs := fsj) (ov := true) Try.prog AW d 43 [false, true, false, true, true] annF := by
  intro m_ hm_ fn_ c0_ hfn_ hb_ c_ ro_ hc_ s_ K_ W_ ν_ S_ h_ hs_
  obtain rfl := body_of hfn_ hb_ hc_
  simp only [annF] at h_
  split at h_
  · rename_i m1_0 t2 k2 l_0 i_0 t3 g0 g1 g2 g3 g4
    obtain ⟨m1, rfl⟩ : ∃ q : Int, q = m1_0 := ⟨m1_0, rfl⟩
    obtain ⟨l, rfl⟩ : ∃ q : Ll, q = l_0 := ⟨l_0, rfl⟩
    obtain ⟨i, rfl⟩ : ∃ q : Int, q = i_0 := ⟨i_0, rfl⟩
    obtain ⟨T_, FN_, M_, snx_, wr_⟩ := s_
    have hN : ((((Nat.beq FN_ 44 && Nat.beq snx_ 3) && Nat.beq t2 0) && decide (k2 = [.int .i64])) && Nat.beq t3 24) = true := by
      cases hq : (((((Nat.beq FN_ 44 && Nat.beq snx_ 3) && Nat.beq t2 0) && decide (k2 = [.int .i64])) && Nat.beq t3 24) : Bool) with
      | true => rfl
      | false => (rw [hq] at h_; exact h_.elim)
    rw [hN, cond_true] at h_
    simp only [Bool.and_eq_true, beq_iff, decide_eq_true_eq] at hN
    obtain ⟨⟨⟨⟨rfl, rfl⟩, rfl⟩, rfl⟩, rfl⟩ := hN
    obtain ⟨q0, h_⟩ := h_
    obtain rfl : m1 = (Ll.len l) := q0
    obtain ⟨q1, h_⟩ := h_
    have q1 : i = (0 : Int) := q1
    replace h_ : K_ (.exit 0) (hdL (bodyAt Try.prog 43 [false, true, false, true, true]) T_ (kills [] M_) 44 3 [(0, .ls false 0 (Ll.len l)), (3, .p 2 0)] [(0, .list 0 [.int .i64] false l)] [(4, .i .i64 ((annK l : Int)))] [(2, .row 24 [.ls true 3 (Ll.len (annL l))])] [(44, [.int .i64, .int .i64, .int .i64, .int .i64])] [(annL l)] (addW ([] ++ [2]) wr_)) := h_
    have hx1 : K_ (.exit 0) (hdL (bodyAt Try.prog 43 [false, true, false, true, true]) T_ (kills [] M_) 44 3 [(0, .ls false 0 (Ll.len l)), (3, .p 2 0)] [(0, .list 0 [.int .i64] false l)] [(4, .i .i64 ((annK l : Int)))] [(2, .row 24 [.ls true 3 (Ll.len (annL l))])] [(44, [.int .i64, .int .i64, .int .i64, .int .i64])] [(annL l)] (addW ([] ++ [2]) wr_)) := by
      have h2 := h_
      exact h2
    refine loop_ruleL (fs := fsj) (ov := true) (s := ⟨T_, 44, M_, 3, wr_⟩) (X := Int × Ll) (B := [2]) (mv := []) (kt := [(0, .ls false 0 (Ll.len l)), (3, .p 2 0)]) (kr := [(0, .list 0 [.int .i64] false l)]) (ty := [(44, [.int .i64, .int .i64, .int .i64, .int .i64])]) (x := (i, []))
      (Inv := (fun x : Int × Ll => match x with | (i, g) => 0 ≤ i ∧ i ≤ (annK l : Int) ∧ g = annP l i.toNat)) (μ := (fun x : Int × Ll => match x with | (i, g) => (10 - i).toNat)) (ts := tsOf [4] []) (sl := (fun x : Int × Ll => match x with | (i, g) => [.i .i64 i])) (bl := (fun x : Int × Ll => match x with | (i, g) => [.row 24 [.ls true 3 (Ll.len g)]])) (ll := (fun x : Int × Ll => match x with | (i, g) => [g])) (Q := fun e_ vs_ os_ hs_ => K_ e_ (hdL (bodyAt Try.prog 43 [false, true, false, true, true]) T_ (kills [] M_) 44 3 [(0, .ls false 0 (Ll.len l)), (3, .p 2 0)] [(0, .list 0 [.int .i64] false l)] (((tsOf [4] []) e_).zip vs_) ([2].zip os_) [(44, [.int .i64, .int .i64, .int .i64, .int .i64])] hs_ (addW ([] ++ [2]) wr_)))
      (L := LL) (U := 30) (cs := sCall Try.prog 30 (spOf spB) noLoop 20) (call := CN Try.prog AW m_) (lp := noLoop 43) (root := c0_) (p := [false, true, false, true, true])
      (show CallSOK _ _ from by
        have := sCall_ok (P := Try.prog) (d := m_ - 20) (U := 30) (lp := noLoop) (spB_ok (ov := true) (d := m_ - 20) (by omega)) (spB_aw (fs := fsj) (ov := true)) (noLoop_ok) (by decide) 20
        rwa [show 20 + (m_ - 20) = m_ by omega] at this) (fun p f h => by cases h) (by decide) hc_
      (by
        rintro ⟨i, g⟩ o ho
        simp only [List.mem_cons, List.not_mem_nil, or_false] at ho
        rcases ho with rfl
        · rfl)
      (fun x hx => by
        simp only [List.mem_cons, List.not_mem_nil, or_false] at hx
        rcases hx with rfl
        · exact ⟨_, g4, rfl⟩) (fun x hx => by cases hx) (fun x hx => by
        simp only [List.mem_cons, List.not_mem_nil, or_false] at hx
        rcases hx with rfl
        · simp)
      (fun x hx => by
        simp only [List.mem_cons, List.not_mem_nil, or_false] at hx
        rcases hx with rfl | rfl
        · exact g0
        · exact g1) (fun x hx => by
        simp only [List.mem_cons, List.not_mem_nil, or_false] at hx
        rcases hx with rfl
        · exact ⟨g2, by simp⟩) ?_ (fun _ _ _ _ _ h => h) ?_ ?_ ?_ hs_
    · rintro ⟨i, g⟩ hI
      exact ann_go l i g T_ (kills [] M_) _  hI (fun i' g' ha hb => ⟨(i', g'), ha, hb, rfl, rfl, rfl⟩) (⟨by simp [SO.mine], hx1⟩)
    · show 0 ≤ i ∧ i ≤ (annK l : Int) ∧ ([] : Ll) = annP l i.toNat
      exact ⟨by omega, by have := annK_b l; omega, by rw [q1]; rfl⟩
    · show (10 - i).toNat < LL
      exact Nat.lt_of_le_of_lt (show _ ≤ 1000 by omega) (by decide)
    · exact ⟨⟨[.i .i64 i], [.row 24 [.nils]], [], [none], by simp [gets, tsOf, g0, g1, g2, g3, g4], by simp [gets, g0, g1, g2, g3, g4], rfl, rfl, by simp [listsOf] <;> rfl⟩⟩
  · exact h_.elim
abbrev lpA {A : Go.Rx.Alg} : Nat → Go.Rx.LoopS A := Go.Rx.lpOf [(43, [false, true, false, true, true], annF)]
theorem lpA_ok {d : Nat} (hd : 300 ≤ d) : LoopsAll (fs := fsj) (ov := true) Try.prog AW d lpA := lpOf_ok fun x hx => by
  simp only [List.mem_cons, List.not_mem_nil, or_false] at hx
  rcases hx with rfl
  · exact annF_ok (by omega)
theorem annulus_eq (l : Ll) (KK : KS (stdA fsj true)) : sFunc Try.prog 30 (sCall Try.prog 30 (spOf spB) lpA 20) lpA 43 [.ls false 0 (Ll.len l)] (lsMem 0 [([.int .i64], l)]) 1 KK =
  ((Ll.len l) = (Ll.len l) ∧ ((0 : Int) = (0 : Int) ∧ ((Ll.len (annL l)) = (Ll.len (annL l)) ∧ (KK (.agg [(.ls true 1 (Ll.len (annL l)))]) (Al.set (lsMem 0 [([.int .i64], l)]) 1 (some (.list 44 [.int .i64, .int .i64, .int .i64, .int .i64] true (annL l)))) 2 [])))) := by kernel_rfl
theorem annulus_gives {m : Nat} (hm : 400 ≤ m) {H : Hp} {nx : Nat} {v_l : LV} {l : Ll} (hl_l : IsL H nx [.int .i64] l v_l) : Gives Try.prog AW m 43 [v_l] H nx true 44 [.int .i64, .int .i64, .int .i64, .int .i64] (annL l) := by
  obtain ⟨ν, n1, n2, n3, n4⟩ := ls_in (fs := fsj) (ov := true) (l := [([.int .i64], l)]) (lvs := [v_l]) 0 (fun i x lv e1 e2 => by
    cases i with
    | zero => simp at e1 e2; subst e1 e2; exact hl_l
    | succ i =>
      simp at e1) rfl
  refine gives_of (n := 20) (d := m - 21) (U := 30) (fs := fsj) (ov := true) (spB_ok (by omega)) spB_aw (lpA_ok (by omega)) (by decide) (by decide) (by omega) (args := [.ls false 0 (Ll.len l)]) (M := lsMem 0 [([.int .i64], l)]) (snx := 1) ?_ ?_ (VSL.cons (n4 0 _ _ rfl rfl) rfl) (hs_in n2 n3)
  rw [annulus_eq]
  · exact ⟨by trivial, by trivial, by trivial, end_l (w := true) rfl⟩
  · exact annP_rows _ _
abbrev annulusS {A : Go.Rx.Alg} : List (Go.Rx.SV A) → Go.Rx.SH A → Nat → Go.Rx.KS A → A.R := fun args_ M_ snx_ K_ => match args_ with
  | [x_l] => (match Go.Rx.lsArg M_ [.int .i64] x_l with | some (l, n_l) => (A.need .eql n_l (A.len l) ((M_.set snx_ (some (.list 44 [.int .i64, .int .i64, .int .i64, .int .i64] true (A.appL 50 [l] [])))).force fun M_ => K_ (.agg [.ls true snx_ (A.len (A.appL 50 [l] []))]) M_ (snx_ + 1) [])) | none => A.fail "annulus")
  | _ => A.fail "annulus"
theorem annulusS_ok {ov : Bool} {d : Nat} (hd : 400 ≤ d) : SpecOK (fs := fsj) (ov := ov) Try.prog AW d 43 annulusS := by
  intro m_ hm_ args_ M_ snx_ K_ h_ ν_ largs_ H_ nx_ ha_ hM_
  unfold annulusS at h_
  split at h_
  · rename_i x_l
    obtain ⟨v_l, r1, rfl, hx_l, rfl⟩ := ha_
    split at h_
    · rename_i l n_l q_l
      obtain ⟨e_l, h_⟩ := h_
      exact gives_got (annulus_gives (by omega) (lsArg_ok hM_ hx_l q_l e_l)) hM_ h_
    · exact h_.elim
  · exact h_.elim
end Go.Proofs.Ytgjnkdedknpniaa
