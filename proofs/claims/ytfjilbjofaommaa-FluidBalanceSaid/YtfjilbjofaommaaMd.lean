/-
  Columns made of numbers, and what they hold.
-/
import Derived.Test.YtfjilbjofaommaaMi
import Derived.Test.YtfjilbjofaommaaMk
import Derived.Test.YtfjilbjofaommaaCo
set_option linter.unusedSimpArgs false
set_option linter.unusedVariables false
set_option maxRecDepth 100000
namespace Go.Proofs.Ytfjilbjofaommaa
open Go Go.Rx

noncomputable abbrev fsd : Fs where
  i := fun n ls xs => match n, ls, xs with | 1, [l], [] => holeE l | 2, [l], [] => holeV l | 3, [x], [a] => pickI x a | 4, [x], [v] => cK x v | 5, [x], [v] => cRoom x v (cK x v).toNat | 6, [c], [] => slN c c.length | _, _, _ => 0
  b := fun n ls xs => match n, ls, xs with | 30, [c], [] => heldB c | _, _, _ => false
  l := fun n ls xs => match n, ls, xs with | 51, [x], [v] => cP x v (cK x v).toNat | 52, [x], [v] => colL x v | _, _, _ => []
  rng := rngAt Try.prog
abbrev dvolS {A : Go.Rx.Alg} : List (Go.Rx.SV A) → Go.Rx.SH A → Nat → Go.Rx.KS A → A.R := fun args_ M_ snx_ K_ => match args_ with
  | [.agg [x_l]] => (match Go.Rx.lsArg M_ [.int .i64, .int .i64, .int .i64, .int .i64] x_l with | some (l, n_l) => (A.need .eql n_l (A.len l) (K_ (.i .i64 (A.app 2 [l] [])) M_ snx_ [])) | none => A.fail "dvol")
  | _ => A.fail "dvol"
theorem dvolS_ok {ov : Bool} {d : Nat} (hd : 1000 ≤ d) : SpecOK (fs := fsd) (ov := ov) Try.prog AW d 28 dvolS := by
  intro m_ hm_ args_ M_ snx_ K_ h_ ν_ largs_ H_ nx_ ha_ hM_
  unfold dvolS at h_
  split at h_
  · rename_i x_l
    obtain ⟨y1, r1, rfl, ⟨l1, rfl, ⟨v_l, r2, rfl, hx_l, rfl⟩⟩, rfl⟩ := ha_
    split at h_
    · rename_i l n_l q_l
      obtain ⟨e_l, h_⟩ := h_
      exact pure_got (rvol_pure (by omega) (lsArg_ok hM_ hx_l q_l e_l)) hM_ (v := .i .i64 _) rfl h_
    · exact h_.elim
  · exact h_.elim
abbrev dpickS {A : Go.Rx.Alg} : List (Go.Rx.SV A) → Go.Rx.SH A → Nat → Go.Rx.KS A → A.R := fun args_ M_ snx_ K_ => match args_ with
  | [x_x, .i .i64 i] => (match Go.Rx.lsArg M_ [.int .i64] x_x with | some (x, n_x) => (A.need .eql n_x (A.len x) (A.need .leq (A.lit 0) i (K_ (.i .i64 (A.app 3 [x] [i])) M_ snx_ []))) | none => A.fail "dpick")
  | _ => A.fail "dpick"
theorem dpickS_ok {ov : Bool} {d : Nat} (hd : 1000 ≤ d) : SpecOK (fs := fsd) (ov := ov) Try.prog AW d 27 dpickS := by
  intro m_ hm_ args_ M_ snx_ K_ h_ ν_ largs_ H_ nx_ ha_ hM_
  unfold dpickS at h_
  split at h_
  · rename_i x_x i
    obtain ⟨v_x, r1, rfl, hx_x, ⟨y2, r2, rfl, rfl, rfl⟩⟩ := ha_
    split at h_
    · rename_i x n_x q_x
      obtain ⟨e_x, h_⟩ := h_
      obtain ⟨p1, h_⟩ := h_
      exact pure_got (pick_pure (by omega) i (lsArg_ok hM_ hx_x q_x e_x) p1) hM_ (v := .i .i64 _) rfl h_
    · exact h_.elim
  · exact h_.elim
abbrev spD1 {A : Go.Rx.Alg} : Go.Rx.SpL A := [(AW, Go.Rx.awakeS), (28, dvolS), (27, dpickS)]
theorem spD1_ok {ov : Bool} {d : Nat} (hd : 1000 ≤ d) : SpOK (fs := fsd) (ov := ov) Try.prog AW d spD1 := SpOK.cons awake_ok (SpOK.cons (dvolS_ok (by omega)) (SpOK.cons (dpickS_ok (by omega)) SpOK.nil))
theorem spD1_aw {fs : Fs} {ov : Bool} : (spOf (A := stdA fs ov) spD1 AW).isSome = true := rfl
theorem dco_eq (i r : Int) (x g : Ll) (T : Al (SV (stdA fsd true))) (M : Al (SO (stdA fsd true))) (KK : Ex → List (SV (stdA fsd true)) → List (SO (stdA fsd true)) → List Ll → Prop) : sCode Try.prog (sCall Try.prog 30 (spOf spD1) noLoop 20) ⟨10, false, noLoop 10⟩ 30 (false :: [false, true, false, true, true, true]) (bodyAt Try.prog 10 [false, true, false, true, true, true]) (hdL (bodyAt Try.prog 10 [false, true, false, true, true, true]) T M 56 3 [(1, .ls false 1 (Ll.len x))] [(1, .list 0 [.int .i64] false x)] [(6, .ls true 3 (Ll.len g)), (7, .i .i64 i), (5, .i .i64 r)] [] [(32, [.int .i64, .int .i64])] [g] []) (outL 3 (tsOf [6, 7, 5] []) [] [] [(32, [.int .i64, .int .i64])] KK) =
  (cond (decide (i < (Ll.len x)))
 (cond (decide (i < (5 : Int)))
 (cond (decide (r > (1 : Int)))
 ((Ll.len x) = (Ll.len x) ∧ ((0 : Int) ≤ i ∧ ((13 : Int) ≠ 0 ∧ (InK .i64 (Int.tdiv (pickI x i) (13 : Int)) ∧ (InK .i64 (r - (1 : Int)) ∧ ((r - (1 : Int)) ≠ 0 ∧ (InK .i64 ((1 : Int) + (Int.tmod (Int.tdiv (pickI x i) (13 : Int)) (r - (1 : Int)))) ∧ ((13001 : Int) ≠ 0 ∧ (InK .i64 ((9000 : Int) + (Int.tmod (pickI x i) (13001 : Int))) ∧ ((Ll.len g) = (Ll.len g) ∧ ((Ll.len (g ++ [[((9000 : Int) + (Int.tmod (pickI x i) (13001 : Int))), ((1 : Int) + (Int.tmod (Int.tdiv (pickI x i) (13 : Int)) (r - (1 : Int))))]])) ≤ (1000000 : Int) ∧ (InK .i64 (r - ((1 : Int) + (Int.tmod (Int.tdiv (pickI x i) (13 : Int)) (r - (1 : Int))))) ∧ (InK .i64 (i + (1 : Int)) ∧ (KK .normal [(.ls true 3 (Ll.len (g ++ [[((9000 : Int) + (Int.tmod (pickI x i) (13001 : Int))), ((1 : Int) + (Int.tmod (Int.tdiv (pickI x i) (13 : Int)) (r - (1 : Int))))]]))), (.i .i64 (i + (1 : Int))), (.i .i64 (r - ((1 : Int) + (Int.tmod (Int.tdiv (pickI x i) (13 : Int)) (r - (1 : Int))))))] [] [(g ++ [[((9000 : Int) + (Int.tmod (pickI x i) (13001 : Int))), ((1 : Int) + (Int.tmod (Int.tdiv (pickI x i) (13 : Int)) (r - (1 : Int))))]])]))))))))))))))
 (KK (.exit 0) [(.ls true 3 (Ll.len g)), (.i .i64 i), (.i .i64 r)] [] [g]))
 (KK (.exit 0) [(.ls true 3 (Ll.len g)), (.i .i64 i), (.i .i64 r)] [] [g]))
 (KK (.exit 0) [(.ls true 3 (Ll.len g)), (.i .i64 i), (.i .i64 r)] [] [g])) := by kernel_rfl
theorem dco_go (x : Ll) (i : Int) (r : Int) (g : Ll) (i_0 : Int) (r_0 : Int) (r1 : i_0 = (0 : Int)) (r2 : (1 : Int) ≤ r_0) (r3 : r_0 ≤ (5242880000 : Int)) (T : Al (SV (stdA fsd true))) (M : Al (SO (stdA fsd true))) (KK : Ex → List (SV (stdA fsd true)) → List (SO (stdA fsd true)) → List Ll → Prop) (hI : 0 ≤ i ∧ i ≤ cK x r_0 ∧ r = cRoom x r_0 i.toNat ∧ g = cP x r_0 i.toNat) (hn : ∀ (i' : Int) (r' : Int) (g' : Ll), 0 ≤ i' ∧ i' ≤ cK x r_0 ∧ r' = cRoom x r_0 i'.toNat ∧ g' = cP x r_0 i'.toNat → (20 - i').toNat < (20 - i).toNat → KK .normal [.ls true 3 (Ll.len g'), .i .i64 i', .i .i64 r'] [] [g']) (hx1 : KK (.exit 0) [.ls true 3 (Ll.len (cP x r_0 (cK x r_0).toNat)), .i .i64 (cK x r_0), .i .i64 (cRoom x r_0 (cK x r_0).toNat)] [] [(cP x r_0 (cK x r_0).toNat)]) :
    sCode Try.prog (sCall Try.prog 30 (spOf spD1) noLoop 20) ⟨10, false, noLoop 10⟩ 30 (false :: [false, true, false, true, true, true]) (bodyAt Try.prog 10 [false, true, false, true, true, true]) (hdL (bodyAt Try.prog 10 [false, true, false, true, true, true]) T M 56 3 [(1, .ls false 1 (Ll.len x))] [(1, .list 0 [.int .i64] false x)] [(6, .ls true 3 (Ll.len g)), (7, .i .i64 i), (5, .i .i64 r)] [] [(32, [.int .i64, .int .i64])] [g] []) (outL 3 (tsOf [6, 7, 5] []) [] [] [(32, [.int .i64, .int .i64])] KK) := by
  refine Eq.mpr (dco_eq i r x g T M KK) ?_
  simp only [cond_iff, InK64]
  have hl : Ll.len x = (x.length : Int) := rfl
  obtain ⟨i0, i1, rfl, rfl⟩ := hI
  obtain ⟨k0, k1, k2, k3⟩ := cK_spec x r_0
  have hb := cRoom_b (x := x) r2 i.toNat (by omega)
  obtain ⟨b0, b1⟩ := pick_b x i
  have eG : Ll.len (cP x r_0 i.toNat) = i := by show ((List.length _ : Nat) : Int) = i; rw [cP_len]; omega
  by_cases h : i < cK x r_0
  · have h1 := k2 i i0 h
    have hs := cStep (x := x) i h1
    have e2 : (i + 1).toNat = i.toNat + 1 := by omega
    have e3 : ((i.toNat : Nat) : Int) = i := Int.toNat_of_nonneg i0
    have hN := hn (i + 1) _ _ ⟨by omega, by omega, rfl, rfl⟩ (by omega)
    rw [e2, cP_succ, cRoom, cRow, e3] at hN
    generalize pickI x i = n at *
    generalize cRoom x r_0 i.toNat = R at *
    have d1 := Int.tdiv_eq_ediv_of_nonneg b0 (b := 13)
    have d2 := Int.tmod_eq_emod_of_nonneg (show 0 ≤ n / 13 by omega) (b := R - 1)
    have d3 := Int.tmod_eq_emod_of_nonneg b0 (b := 13001)
    rw [d1, d2, d3]
    generalize n / 13 % (R - 1) = q at *
    have eL : Ll.len (cP x r_0 i.toNat ++ [[9000 + n % 13001, 1 + q]]) ≤ 1000000 := by
      show ((List.length _ : Nat) : Int) ≤ 1000000
      rw [List.length_append, cP_len]; simp; omega
    generalize cP x r_0 i.toNat = G at *
    repeat' (first | apply And.intro | intro _)
    all_goals first | exact hN | exact eL | omega | trivial
  · obtain rfl : i = cK x r_0 := by omega
    have hX := hx1
    rcases k3 with k3 | k3
    · repeat' (first | apply And.intro | intro _)
      all_goals first | exact hX | omega | trivial
    · repeat' (first | apply And.intro | intro _)
      all_goals first | exact hX | omega | trivial
abbrev dcoF {A : Go.Rx.Alg} : Code → Go.Rx.SS A → (Go.Rx.Ex → Go.Rx.SS A → A.R) → A.R := fun c_ s_ K_ => match s_.T.get 1, s_.H.get 1, s_.T.get 6, s_.T.get 7, s_.T.get 5 with
  | some (.ls false 1 m1), some (.list t2 k2 false x), some (.nils), some (.i .i64 i), some (.i .i64 r) => bif (((Nat.beq s_.N 56 && Nat.beq s_.nx 3) && Nat.beq t2 0) && decide (k2 = [.int .i64])) then (A.need .eql m1 (A.len x) (A.need .eql i (A.lit 0) (A.need .leq (A.lit 1) r (A.need .leq r (A.lit 5242880000) (K_ (.exit 0) (Go.Rx.hdL c_ s_.T (Go.Rx.kills [] s_.H) 56 3 [(1, .ls false 1 (A.len x))] [(1, .list 0 [.int .i64] false x)] [(6, .ls true 3 (A.len (A.appL 51 [x] [r]))), (7, .i .i64 (A.app 4 [x] [r])), (5, .i .i64 (A.app 5 [x] [r]))] [] [(32, [.int .i64, .int .i64])] [(A.appL 51 [x] [r])] (Go.Rx.addW ([] ++ []) s_.wr))))))) else A.fail "frame of dco"
  | _, _, _, _, _ => A.fail "dco"
theorem dcoF_ok {d : Nat} (hd : 1100 ≤ d) : LoopOK (fs := fsd) (ov := true) Try.prog AW d 10 [false, true, false, true, true, true] false dcoF := by
  intro m_ hm_ fn_ c0_ hfn_ hb_ c_ ro_ hro_ hc_ s_ K_ W_ ν_ S_ h_ hs_
  obtain rfl := body_of hfn_ hb_ hc_
  unfold dcoF at h_
  split at h_
  · rename_i m1_0 t2 k2 x_0 i_0_0 r_0_0 g0 g1 g2 g3 g4
    obtain ⟨m1, rfl⟩ : ∃ q : Int, q = m1_0 := ⟨m1_0, rfl⟩
    obtain ⟨x, rfl⟩ : ∃ q : Ll, q = x_0 := ⟨x_0, rfl⟩
    obtain ⟨i_0, rfl⟩ : ∃ q : Int, q = i_0_0 := ⟨i_0_0, rfl⟩
    obtain ⟨r_0, rfl⟩ : ∃ q : Int, q = r_0_0 := ⟨r_0_0, rfl⟩
    obtain ⟨T_, FN_, M_, snx_, wr_⟩ := s_
    have hN : (((Nat.beq FN_ 56 && Nat.beq snx_ 3) && Nat.beq t2 0) && decide (k2 = [.int .i64])) = true := by
      cases hq : ((((Nat.beq FN_ 56 && Nat.beq snx_ 3) && Nat.beq t2 0) && decide (k2 = [.int .i64])) : Bool) with
      | true => rfl
      | false => (rw [hq] at h_; exact h_.elim)
    rw [hN, cond_true] at h_
    simp only [Bool.and_eq_true, beq_iff, decide_eq_true_eq] at hN
    obtain ⟨⟨⟨rfl, rfl⟩, rfl⟩, rfl⟩ := hN
    obtain ⟨q0, h_⟩ := h_
    obtain rfl : m1 = (Ll.len x) := q0
    obtain ⟨q1, h_⟩ := h_
    have q1 : i_0 = (0 : Int) := q1
    obtain ⟨q2, h_⟩ := h_
    have q2 : (1 : Int) ≤ r_0 := q2
    obtain ⟨q3, h_⟩ := h_
    have q3 : r_0 ≤ (5242880000 : Int) := q3
    replace h_ : K_ (.exit 0) (hdL (bodyAt Try.prog 10 [false, true, false, true, true, true]) T_ (kills [] M_) 56 3 [(1, .ls false 1 (Ll.len x))] [(1, .list 0 [.int .i64] false x)] [(6, .ls true 3 (Ll.len (cP x r_0 (cK x r_0).toNat))), (7, .i .i64 (cK x r_0)), (5, .i .i64 (cRoom x r_0 (cK x r_0).toNat))] [] [(32, [.int .i64, .int .i64])] [(cP x r_0 (cK x r_0).toNat)] (addW ([] ++ []) wr_)) := h_
    have hx1 : K_ (.exit 0) (hdL (bodyAt Try.prog 10 [false, true, false, true, true, true]) T_ (kills [] M_) 56 3 [(1, .ls false 1 (Ll.len x))] [(1, .list 0 [.int .i64] false x)] [(6, .ls true 3 (Ll.len (cP x r_0 (cK x r_0).toNat))), (7, .i .i64 (cK x r_0)), (5, .i .i64 (cRoom x r_0 (cK x r_0).toNat))] [] [(32, [.int .i64, .int .i64])] [(cP x r_0 (cK x r_0).toNat)] (addW ([] ++ []) wr_)) := by
      have h2 := h_
      exact h2
    refine loop_ruleL (fs := fsd) (ov := true) (s := ⟨T_, 56, M_, 3, wr_⟩) (X := Int × Int × Ll) (B := []) (mv := []) (kt := [(1, .ls false 1 (Ll.len x))]) (kr := [(1, .list 0 [.int .i64] false x)]) (ty := [(32, [.int .i64, .int .i64])]) (x := (i_0, r_0, []))
      (Inv := (fun x_ : Int × Int × Ll => match x_ with | (i, r, g) => 0 ≤ i ∧ i ≤ cK x r_0 ∧ r = cRoom x r_0 i.toNat ∧ g = cP x r_0 i.toNat)) (μ := (fun x_ : Int × Int × Ll => match x_ with | (i, r, g) => (20 - i).toNat)) (ts := tsOf [6, 7, 5] []) (sl := (fun x_ : Int × Int × Ll => match x_ with | (i, r, g) => [.ls true 3 (Ll.len g), .i .i64 i, .i .i64 r])) (bl := (fun x_ : Int × Int × Ll => match x_ with | (i, r, g) => [])) (ll := (fun x_ : Int × Int × Ll => match x_ with | (i, r, g) => [g])) (Q := fun e_ vs_ os_ hs_ => K_ e_ (hdL (bodyAt Try.prog 10 [false, true, false, true, true, true]) T_ (kills [] M_) 56 3 [(1, .ls false 1 (Ll.len x))] [(1, .list 0 [.int .i64] false x)] (((tsOf [6, 7, 5] []) e_).zip vs_) ([].zip os_) [(32, [.int .i64, .int .i64])] hs_ (addW ([] ++ []) wr_)))
      (L := LL) (U := 30) (cs := sCall Try.prog 30 (spOf spD1) noLoop 20) (call := CN Try.prog AW m_) (lp := ⟨10, false, noLoop 10⟩) (root := c0_) (p := [false, true, false, true, true, true])
      (show CallSOK _ _ from by
        have := sCall_ok (P := Try.prog) (d := m_ - 20) (U := 30) (lp := noLoop) (spD1_ok (ov := true) (d := m_ - 20) (by omega)) (spD1_aw (fs := fsd) (ov := true)) (noLoop_ok) (by decide) rfl 20
        rwa [show 20 + (m_ - 20) = m_ by omega] at this) (ctx_of (g := 10) (rg := false) (at_ := noLoop 10) (fun p rg f h => by cases h) hfn_ hb_ hro_) (by decide) hc_
      (fun x o ho => by cases ho)
      (fun x hx => by cases hx) (fun x hx => by cases hx) (fun x hx => by cases hx)
      (fun x hx => by
        simp only [List.mem_cons, List.not_mem_nil, or_false] at hx
        rcases hx with rfl
        · exact g0) (fun x hx => by
        simp only [List.mem_cons, List.not_mem_nil, or_false] at hx
        rcases hx with rfl
        · exact ⟨g1, by simp⟩) ?_ (fun _ _ _ _ _ h => h) ?_ ?_ ?_ hs_
    · rintro ⟨i, r, g⟩ hI
      exact dco_go x i r g i_0 r_0 q1 q2 q3 T_ (kills [] M_) _  hI (fun i' r' g' ha hb => ⟨(i', r', g'), ha, hb, rfl, rfl, rfl⟩) (⟨by simp [SO.mine], hx1⟩)
    · show 0 ≤ i_0 ∧ i_0 ≤ cK x r_0 ∧ r_0 = cRoom x r_0 i_0.toNat ∧ ([] : Ll) = cP x r_0 i_0.toNat
      exact ⟨by omega, by rw [q1]; exact (cK_spec x r_0).1, by rw [q1]; rfl, by rw [q1]; rfl⟩
    · show (20 - i_0).toNat < LL
      exact Nat.lt_of_le_of_lt (show _ ≤ 1000 by omega) (by decide)
    · exact ⟨⟨[.nils, .i .i64 i_0, .i .i64 r_0], [], [none], [none], by simp [gets, tsOf, g0, g1, g2, g3, g4], by simp [gets, g0, g1, g2, g3, g4], rfl, rfl, by simp [listsOf] <;> rfl⟩⟩
  · exact h_.elim
abbrev lpCol {A : Go.Rx.Alg} : Nat → Go.Rx.LoopS A := Go.Rx.lpOf [(10, [false, true, false, true, true, true], false, dcoF)]
theorem lpCol_ok {d : Nat} (hd : 1100 ≤ d) : LoopsAll (fs := fsd) (ov := true) Try.prog AW d lpCol := lpOf_ok fun x hx => by
  simp only [List.mem_cons, List.not_mem_nil, or_false] at hx
  rcases hx with rfl
  · exact dcoF_ok (by omega)
theorem column_eq (h x : Ll) (KK : KS (stdA fsd true)) : sFunc Try.prog 30 (sCall Try.prog 30 (spOf spD1) lpCol 20) lpCol 10 [.agg [.ls false 0 (Ll.len h)], .ls false 1 (Ll.len x)] (lsMem 0 [([.int .i64, .int .i64, .int .i64, .int .i64], h), ([.int .i64], x)]) 2 KK =
  ((Ll.len h) = (Ll.len h) ∧ ((Ll.len x) = (Ll.len x) ∧ ((0 : Int) = (0 : Int) ∧ ((1 : Int) ≤ (holeV h) ∧ ((holeV h) ≤ (5242880000 : Int) ∧ ((Ll.len x) = (Ll.len x) ∧ ((0 : Int) ≤ (5 : Int) ∧ ((17 : Int) ≠ 0 ∧ (InK .i64 (Int.tdiv (pickI x (5 : Int)) (17 : Int)) ∧ ((13001 : Int) ≠ 0 ∧ (InK .i64 ((9000 : Int) + (Int.tmod (Int.tdiv (pickI x (5 : Int)) (17 : Int)) (13001 : Int))) ∧ ((Ll.len (cP x (holeV h) (cK x (holeV h)).toNat)) = (Ll.len (cP x (holeV h) (cK x (holeV h)).toNat)) ∧ ((Ll.len ((cP x (holeV h) (cK x (holeV h)).toNat) ++ [[((9000 : Int) + (Int.tmod (Int.tdiv (pickI x (5 : Int)) (17 : Int)) (13001 : Int))), (cRoom x (holeV h) (cK x (holeV h)).toNat)]])) ≤ (1000000 : Int) ∧ ((Ll.len ((cP x (holeV h) (cK x (holeV h)).toNat) ++ [[((9000 : Int) + (Int.tmod (Int.tdiv (pickI x (5 : Int)) (17 : Int)) (13001 : Int))), (cRoom x (holeV h) (cK x (holeV h)).toNat)]])) = (Ll.len ((cP x (holeV h) (cK x (holeV h)).toNat) ++ [[((9000 : Int) + (Int.tmod (Int.tdiv (pickI x (5 : Int)) (17 : Int)) (13001 : Int))), (cRoom x (holeV h) (cK x (holeV h)).toNat)]])) ∧ (KK (.ls true 2 (Ll.len ((cP x (holeV h) (cK x (holeV h)).toNat) ++ [[((9000 : Int) + (Int.tmod (Int.tdiv (pickI x (5 : Int)) (17 : Int)) (13001 : Int))), (cRoom x (holeV h) (cK x (holeV h)).toNat)]]))) (Al.set (lsMem 0 [([.int .i64, .int .i64, .int .i64, .int .i64], h), ([.int .i64], x)]) 2 (some (.list 32 [.int .i64, .int .i64] true ((cP x (holeV h) (cK x (holeV h)).toNat) ++ [[((9000 : Int) + (Int.tmod (Int.tdiv (pickI x (5 : Int)) (17 : Int)) (13001 : Int))), (cRoom x (holeV h) (cK x (holeV h)).toNat)]])))) 3 []))))))))))))))) := by kernel_rfl
theorem column_gives {m : Nat} (hm : 1200 ≤ m) {H : Hp} {nx : Nat} {v_h : LV} {h : Ll} (hl_h : IsL H nx [.int .i64, .int .i64, .int .i64, .int .i64] h v_h) {v_x : LV} {x : Ll} (hl_x : IsL H nx [.int .i64] x v_x) (p1 : (holeE h) = (0 : Int)) : Gives Try.prog AW m 10 [.agg [v_h], v_x] H nx false 32 [.int .i64, .int .i64] (colL x (holeV h)) := by
  obtain ⟨ν, n1, n2, n3, n4⟩ := ls_in (fs := fsd) (ov := true) (l := [([.int .i64, .int .i64, .int .i64, .int .i64], h), ([.int .i64], x)]) (lvs := [v_h, v_x]) 0 (fun i x lv e1 e2 => by
    cases i with
    | zero => simp at e1 e2; subst e1 e2; exact hl_h
    | succ i =>
      cases i with
      | zero => simp at e1 e2; subst e1 e2; exact hl_x
      | succ i =>
        simp at e1) rfl
  refine gives_of (n := 20) (d := m - 21) (U := 30) (fs := fsd) (ov := true) (spD1_ok (by omega)) spD1_aw (lpCol_ok (by omega)) (by decide) (by decide) (by omega) (args := [.agg [.ls false 0 (Ll.len h)], .ls false 1 (Ll.len x)]) (M := lsMem 0 [([.int .i64, .int .i64, .int .i64, .int .i64], h), ([.int .i64], x)]) (snx := 2) ?_ ?_ (VSL.cons ⟨_, rfl, (VSL.cons (n4 0 _ _ rfl rfl) rfl)⟩ (VSL.cons (n4 1 _ _ rfl rfl) rfl)) (hs_in n2 n3)
  rw [column_eq]
  · simp only [cond_iff, InK64]
    have p0 := hole_of p1
    have hb := p0.b (n := h.length) (Nat.le_refl _)
    have hlen := p0.len
    have eV : holeV h = volN h h.length := by unfold holeV; rw [if_pos p1]
    rw [eV]
    have hV : 1 ≤ volN h h.length := by omega
    have hV2 : volN h h.length ≤ 5242880000 := by omega
    generalize volN h h.length = V at *
    obtain ⟨k0, k1, k2, k3⟩ := cK_spec x V
    obtain ⟨b0, b1⟩ := pick_b x 5
    have d1 := Int.tdiv_eq_ediv_of_nonneg b0 (b := 17)
    have d2 := Int.tmod_eq_emod_of_nonneg (show 0 ≤ pickI x 5 / 17 by omega) (b := 13001)
    rw [d1, d2]
    have eL : Ll.len (cP x V (cK x V).toNat ++ [[9000 + pickI x 5 / 17 % 13001, cRoom x V (cK x V).toNat]]) ≤ 1000000 := by
      show ((List.length _ : Nat) : Int) ≤ 1000000
      rw [List.length_append, cP_len]; simp; omega
    repeat' (first | exact end_l (w := false) rfl | apply And.intro | intro _)
    all_goals first | exact end_l (w := false) rfl | exact eL | omega | trivial
  · exact colL_rows x _
abbrev columnS {A : Go.Rx.Alg} : List (Go.Rx.SV A) → Go.Rx.SH A → Nat → Go.Rx.KS A → A.R := fun args_ M_ snx_ K_ => match args_ with
  | [.agg [x_h], x_x] => (match Go.Rx.lsArg M_ [.int .i64, .int .i64, .int .i64, .int .i64] x_h with | some (h, n_h) => (A.need .eql n_h (A.len h) (match Go.Rx.lsArg M_ [.int .i64] x_x with | some (x, n_x) => (A.need .eql n_x (A.len x) (A.need .eql (A.app 1 [h] []) (A.lit 0) ((M_.set snx_ (some (.list 32 [.int .i64, .int .i64] true (A.appL 52 [x] [(A.app 2 [h] [])])))).force fun M_ => K_ (.ls true snx_ (A.len (A.appL 52 [x] [(A.app 2 [h] [])]))) M_ (snx_ + 1) []))) | none => A.fail "column")) | none => A.fail "column")
  | _ => A.fail "column"
theorem columnS_ok {ov : Bool} {d : Nat} (hd : 1200 ≤ d) : SpecOK (fs := fsd) (ov := ov) Try.prog AW d 10 columnS := by
  intro m_ hm_ args_ M_ snx_ K_ h_ ν_ largs_ H_ nx_ ha_ hM_
  unfold columnS at h_
  split at h_
  · rename_i x_h x_x
    obtain ⟨y1, r1, rfl, ⟨l1, rfl, ⟨v_h, r2, rfl, hx_h, rfl⟩⟩, ⟨v_x, r3, rfl, hx_x, rfl⟩⟩ := ha_
    split at h_
    · rename_i h n_h q_h
      obtain ⟨e_h, h_⟩ := h_
      split at h_
      · rename_i x n_x q_x
        obtain ⟨e_x, h_⟩ := h_
        obtain ⟨p1, h_⟩ := h_
        exact gives_got (column_gives (by omega) (lsArg_ok hM_ hx_h q_h e_h) (lsArg_ok hM_ hx_x q_x e_x) p1) hM_ h_
      · exact h_.elim
    · exact h_.elim
  · exact h_.elim
theorem dhe_eq (i s : Int) (c : Ll) (T : Al (SV (stdA fsd true))) (M : Al (SO (stdA fsd true))) (KK : Ex → List (SV (stdA fsd true)) → List (SO (stdA fsd true)) → List Ll → Prop) : sCode Try.prog (sCall Try.prog 30 (spOf sp0) noLoop 20) ⟨11, false, noLoop 11⟩ 30 (false :: [false, true, false, true, true]) (bodyAt Try.prog 11 [false, true, false, true, true]) (hdL (bodyAt Try.prog 11 [false, true, false, true, true]) T M 19 1 [(0, .ls false 0 (Ll.len c))] [(0, .list 0 [.int .i64, .int .i64] false c)] [(3, .i .i64 s), (4, .i .i64 i)] [] [] [] []) (outL 1 (tsOf [3, 4] []) [] [] [] KK) =
  (cond (decide (i < (Ll.len c)))
 ((0 : Int) ≤ i ∧ (i < (Ll.len c) ∧ (i < (Ll.len c) ∧ (InK .i64 (s + (Ll.get c i 1)) ∧ (InK .i64 (i + (1 : Int)) ∧ (KK .normal [(.i .i64 (s + (Ll.get c i 1))), (.i .i64 (i + (1 : Int)))] [] []))))))
 (KK (.exit 0) [(.i .i64 s), (.i .i64 i)] [] [])) := by kernel_rfl
theorem dhe_go (c : Ll) (i : Int) (s : Int) (i_0 : Int) (s_0 : Int) (r1 : i_0 = (0 : Int)) (r2 : s_0 = (0 : Int)) (T : Al (SV (stdA fsd true))) (M : Al (SO (stdA fsd true))) (KK : Ex → List (SV (stdA fsd true)) → List (SO (stdA fsd true)) → List Ll → Prop) (p1 : (heldB c) = true) (hI : 0 ≤ i ∧ i ≤ c.length ∧ s = slN c i.toNat) (hn : ∀ (i' : Int) (s' : Int), 0 ≤ i' ∧ i' ≤ c.length ∧ s' = slN c i'.toNat → (2000 - i').toNat < (2000 - i).toNat → KK .normal [.i .i64 s', .i .i64 i'] [] []) (hx1 : KK (.exit 0) [.i .i64 (slN c c.length), .i .i64 (Ll.len c)] [] []) :
    sCode Try.prog (sCall Try.prog 30 (spOf sp0) noLoop 20) ⟨11, false, noLoop 11⟩ 30 (false :: [false, true, false, true, true]) (bodyAt Try.prog 11 [false, true, false, true, true]) (hdL (bodyAt Try.prog 11 [false, true, false, true, true]) T M 19 1 [(0, .ls false 0 (Ll.len c))] [(0, .list 0 [.int .i64, .int .i64] false c)] [(3, .i .i64 s), (4, .i .i64 i)] [] [] [] []) (outL 1 (tsOf [3, 4] []) [] [] [] KK) := by
  refine Eq.mpr (dhe_eq i s c T M KK) ?_
  simp only [cond_iff, InK64]
  have hl : Ll.len c = (c.length : Int) := rfl
  obtain ⟨i0, i1, rfl⟩ := hI
  have hh := heldB_at p1
  have hb := held_b p1 i.toNat (by omega)
  by_cases h : i < Ll.len c
  · have ha := hh.2 i.toNat (by omega)
    rw [Int.toNat_of_nonneg i0] at ha
    have hN := hn (i + 1) _ ⟨by omega, by omega, rfl⟩ (by omega)
    rw [slN_succ i0] at hN
    repeat' (first | apply And.intro | intro _)
    all_goals first | exact hN | omega | trivial
  · obtain rfl : i = c.length := by omega
    repeat' (first | apply And.intro | intro _)
    all_goals first | exact hx1 | omega | trivial
abbrev dheF {A : Go.Rx.Alg} : Code → Go.Rx.SS A → (Go.Rx.Ex → Go.Rx.SS A → A.R) → A.R := fun c_ s_ K_ => match s_.T.get 0, s_.H.get 0, s_.T.get 3, s_.T.get 4 with
  | some (.ls false 0 m1), some (.list t2 k2 false c), some (.i .i64 s), some (.i .i64 i) => bif (((Nat.beq s_.N 19 && Nat.beq s_.nx 1) && Nat.beq t2 0) && decide (k2 = [.int .i64, .int .i64])) then (A.need .eql m1 (A.len c) (A.br (A.appB 30 [c] []) (fun _ => (A.need .eql i (A.lit 0) (A.need .eql s (A.lit 0) (K_ (.exit 0) (Go.Rx.hdL c_ s_.T (Go.Rx.kills [] s_.H) 19 1 [(0, .ls false 0 (A.len c))] [(0, .list 0 [.int .i64, .int .i64] false c)] [(3, .i .i64 (A.app 6 [c] [])), (4, .i .i64 (A.len c))] [] [] [] (Go.Rx.addW ([] ++ []) s_.wr)))))) (fun _ => A.fail "pre"))) else A.fail "frame of dhe"
  | _, _, _, _ => A.fail "dhe"
theorem dheF_ok {d : Nat} (hd : 100 ≤ d) : LoopOK (fs := fsd) (ov := true) Try.prog AW d 11 [false, true, false, true, true] false dheF := by
  intro m_ hm_ fn_ c0_ hfn_ hb_ c_ ro_ hro_ hc_ s_ K_ W_ ν_ S_ h_ hs_
  obtain rfl := body_of hfn_ hb_ hc_
  unfold dheF at h_
  split at h_
  · rename_i m1_0 t2 k2 c_0 s_0_0 i_0_0 g0 g1 g2 g3
    obtain ⟨m1, rfl⟩ : ∃ q : Int, q = m1_0 := ⟨m1_0, rfl⟩
    obtain ⟨c, rfl⟩ : ∃ q : Ll, q = c_0 := ⟨c_0, rfl⟩
    obtain ⟨s_0, rfl⟩ : ∃ q : Int, q = s_0_0 := ⟨s_0_0, rfl⟩
    obtain ⟨i_0, rfl⟩ : ∃ q : Int, q = i_0_0 := ⟨i_0_0, rfl⟩
    obtain ⟨T_, FN_, M_, snx_, wr_⟩ := s_
    have hN : (((Nat.beq FN_ 19 && Nat.beq snx_ 1) && Nat.beq t2 0) && decide (k2 = [.int .i64, .int .i64])) = true := by
      cases hq : ((((Nat.beq FN_ 19 && Nat.beq snx_ 1) && Nat.beq t2 0) && decide (k2 = [.int .i64, .int .i64])) : Bool) with
      | true => rfl
      | false => (rw [hq] at h_; exact h_.elim)
    rw [hN, cond_true] at h_
    simp only [Bool.and_eq_true, beq_iff, decide_eq_true_eq] at hN
    obtain ⟨⟨⟨rfl, rfl⟩, rfl⟩, rfl⟩ := hN
    obtain ⟨q0, h_⟩ := h_
    obtain rfl : m1 = (Ll.len c) := q0
    obtain ⟨q1, h_⟩ := br_pre (fs := fsd) (ov := true) h_
    have q1 : (heldB c) = true := q1
    obtain ⟨q2, h_⟩ := h_
    have q2 : i_0 = (0 : Int) := q2
    obtain ⟨q3, h_⟩ := h_
    have q3 : s_0 = (0 : Int) := q3
    replace h_ : K_ (.exit 0) (hdL (bodyAt Try.prog 11 [false, true, false, true, true]) T_ (kills [] M_) 19 1 [(0, .ls false 0 (Ll.len c))] [(0, .list 0 [.int .i64, .int .i64] false c)] [(3, .i .i64 (slN c c.length)), (4, .i .i64 (Ll.len c))] [] [] [] (addW ([] ++ []) wr_)) := h_
    have hx1 : K_ (.exit 0) (hdL (bodyAt Try.prog 11 [false, true, false, true, true]) T_ (kills [] M_) 19 1 [(0, .ls false 0 (Ll.len c))] [(0, .list 0 [.int .i64, .int .i64] false c)] [(3, .i .i64 (slN c c.length)), (4, .i .i64 (Ll.len c))] [] [] [] (addW ([] ++ []) wr_)) := by
      have h2 := h_
      exact h2
    refine loop_ruleL (fs := fsd) (ov := true) (s := ⟨T_, 19, M_, 1, wr_⟩) (X := Int × Int) (B := []) (mv := []) (kt := [(0, .ls false 0 (Ll.len c))]) (kr := [(0, .list 0 [.int .i64, .int .i64] false c)]) (ty := []) (x := (i_0, s_0))
      (Inv := (fun x_ : Int × Int => match x_ with | (i, s) => 0 ≤ i ∧ i ≤ c.length ∧ s = slN c i.toNat)) (μ := (fun x_ : Int × Int => match x_ with | (i, s) => (2000 - i).toNat)) (ts := tsOf [3, 4] []) (sl := (fun x_ : Int × Int => match x_ with | (i, s) => [.i .i64 s, .i .i64 i])) (bl := (fun x_ : Int × Int => match x_ with | (i, s) => [])) (ll := (fun x_ : Int × Int => match x_ with | (i, s) => [])) (Q := fun e_ vs_ os_ hs_ => K_ e_ (hdL (bodyAt Try.prog 11 [false, true, false, true, true]) T_ (kills [] M_) 19 1 [(0, .ls false 0 (Ll.len c))] [(0, .list 0 [.int .i64, .int .i64] false c)] (((tsOf [3, 4] []) e_).zip vs_) ([].zip os_) [] hs_ (addW ([] ++ []) wr_)))
      (L := LL) (U := 30) (cs := sCall Try.prog 30 (spOf sp0) noLoop 20) (call := CN Try.prog AW m_) (lp := ⟨11, false, noLoop 11⟩) (root := c0_) (p := [false, true, false, true, true])
      (show CallSOK _ _ from by
        have := sCall_ok (P := Try.prog) (d := m_ - 20) (U := 30) (lp := noLoop) (sp0_ok (fs := fsd) (ov := true) (d := m_ - 20)) (sp0_aw (fs := fsd) (ov := true)) (noLoop_ok) (by decide) rfl 20
        rwa [show 20 + (m_ - 20) = m_ by omega] at this) (ctx_of (g := 11) (rg := false) (at_ := noLoop 11) (fun p rg f h => by cases h) hfn_ hb_ hro_) (by decide) hc_
      (fun x o ho => by cases ho)
      (fun x hx => by cases hx) (fun x hx => by cases hx) (fun x hx => by cases hx)
      (fun x hx => by
        simp only [List.mem_cons, List.not_mem_nil, or_false] at hx
        rcases hx with rfl
        · exact g0) (fun x hx => by
        simp only [List.mem_cons, List.not_mem_nil, or_false] at hx
        rcases hx with rfl
        · exact ⟨g1, by simp⟩) ?_ (fun _ _ _ _ _ h => h) ?_ ?_ ?_ hs_
    · rintro ⟨i, s⟩ hI
      exact dhe_go c i s i_0 s_0 q2 q3 T_ (kills [] M_) _ q1 hI (fun i' s' ha hb => ⟨(i', s'), ha, hb, rfl, rfl, rfl⟩) (⟨by simp [SO.mine], hx1⟩)
    · show 0 ≤ i_0 ∧ i_0 ≤ c.length ∧ s_0 = slN c i_0.toNat
      exact ⟨by omega, by omega, by rw [q2, q3]; rfl⟩
    · show (2000 - i_0).toNat < LL
      exact Nat.lt_of_le_of_lt (show _ ≤ 2000 by omega) (by decide)
    · exact ⟨⟨[.i .i64 s_0, .i .i64 i_0], [], [], [], by simp [gets, tsOf, g0, g1, g2, g3], by simp [gets, g0, g1, g2, g3], rfl, rfl, by simp [listsOf] <;> rfl⟩⟩
  · exact h_.elim
abbrev lpHe {A : Go.Rx.Alg} : Nat → Go.Rx.LoopS A := Go.Rx.lpOf [(11, [false, true, false, true, true], false, dheF)]
theorem lpHe_ok {d : Nat} (hd : 100 ≤ d) : LoopsAll (fs := fsd) (ov := true) Try.prog AW d lpHe := lpOf_ok fun x hx => by
  simp only [List.mem_cons, List.not_mem_nil, or_false] at hx
  rcases hx with rfl
  · exact dheF_ok (by omega)
theorem held_eq (c : Ll) (KK : KS (stdA fsd true)) : sFunc Try.prog 30 (sCall Try.prog 30 (spOf sp0) lpHe 20) lpHe 11 [.ls false 0 (Ll.len c)] (lsMem 0 [([.int .i64, .int .i64], c)]) 1 KK =
  ((Ll.len c) = (Ll.len c) ∧ (cond (heldB c)
 ((0 : Int) = (0 : Int) ∧ ((0 : Int) = (0 : Int) ∧ (KK (.i .i64 (slN c c.length)) (lsMem 0 [([.int .i64, .int .i64], c)]) 1 [])))
 False)) := by kernel_rfl
theorem held_pure {m : Nat} (hm : 200 ≤ m) {H : Hp} {nx : Nat} {v_c : LV} {c : Ll} (hl_c : IsL H nx [.int .i64, .int .i64] c v_c) (p1 : (heldB c) = true) : Pure Try.prog AW m 11 [v_c] H nx (.i .i64 (slN c c.length)) := by
  obtain ⟨ν, n1, n2, n3, n4⟩ := ls_in (fs := fsd) (ov := true) (l := [([.int .i64, .int .i64], c)]) (lvs := [v_c]) 0 (fun i x lv e1 e2 => by
    cases i with
    | zero => simp at e1 e2; subst e1 e2; exact hl_c
    | succ i =>
      simp at e1) rfl
  refine pure_of (n := 20) (d := m - 21) (U := 30) (fs := fsd) (ov := true) sp0_ok sp0_aw (lpHe_ok (by omega)) (by decide) (by decide) (by omega) (args := [.ls false 0 (Ll.len c)]) (M := lsMem 0 [([.int .i64, .int .i64], c)]) (snx := 1) ?_ (VSL.cons (n4 0 _ _ rfl rfl) rfl) (hs_in n2 n3)
  rw [held_eq]
  simp only [show heldB c = true from p1, cond_true, cond_iff, InK64]
  repeat' (first | exact end_i rfl | apply And.intro | intro _)
  all_goals first | exact end_i rfl | exact p1 | omega | trivial
abbrev heldS {A : Go.Rx.Alg} : List (Go.Rx.SV A) → Go.Rx.SH A → Nat → Go.Rx.KS A → A.R := fun args_ M_ snx_ K_ => match args_ with
  | [x_c] => (match Go.Rx.lsArg M_ [.int .i64, .int .i64] x_c with | some (c, n_c) => (A.need .eql n_c (A.len c) (A.br (A.appB 30 [c] []) (fun _ => (K_ (.i .i64 (A.app 6 [c] [])) M_ snx_ [])) (fun _ => A.fail "pre"))) | none => A.fail "held")
  | _ => A.fail "held"
theorem heldS_ok {ov : Bool} {d : Nat} (hd : 200 ≤ d) : SpecOK (fs := fsd) (ov := ov) Try.prog AW d 11 heldS := by
  intro m_ hm_ args_ M_ snx_ K_ h_ ν_ largs_ H_ nx_ ha_ hM_
  unfold heldS at h_
  split at h_
  · rename_i x_c
    obtain ⟨v_c, r1, rfl, hx_c, rfl⟩ := ha_
    split at h_
    · rename_i c n_c q_c
      obtain ⟨e_c, h_⟩ := h_
      obtain ⟨p1, h_⟩ := br_pre (fs := fsd) (ov := ov) h_
      have p1 : (heldB c) = true := p1
      exact pure_got (held_pure (by omega) (lsArg_ok hM_ hx_c q_c e_c) p1) hM_ (v := .i .i64 _) rfl h_
    · exact h_.elim
  · exact h_.elim
end Go.Proofs.Ytfjilbjofaommaa
