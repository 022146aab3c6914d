/-
  Layer 3: the law of places in one slug.
-/
import Derived.Test.YtfjilbjofaommaaMc
import Derived.Test.YtfjilbjofaommaaMd
set_option linter.unusedSimpArgs false
set_option linter.unusedVariables false
set_option maxRecDepth 100000
namespace Go.Proofs.Ytfjilbjofaommaa
open Go Go.Rx

noncomputable abbrev fsf : Fs where
  i := fun n ls xs => match n, ls, xs with | 1, [l], [] => holeE l | 2, [l], [] => holeV l | 6, [h, c], [] => colE h c | 7, [c], [] => slN c c.length | 9, [h, c], [top, u] => prE h c top u | 10, [h, c], [top, u] => prLo h c top u | 11, [h, c], [top, u] => prHi h c top u | 21, [c], [u] => kN c u | 22, [c], [u] => slN c (kN c u).toNat | 23, [], [a, b] => a % b | _, _, _ => 0
  b := fun n ls xs => match n, ls, xs with | 30, [c], [] => heldB c | _, _, _ => false
  l := fun n ls xs => match n, ls, xs with | 51, [x], [] => annL x | 52, [x], [v] => colL x v | _, _, _ => []
  rng := rngAt Try.prog
abbrev fannS {A : Go.Rx.Alg} : List (Go.Rx.SV A) → Go.Rx.SH A → Nat → Go.Rx.KS A → A.R := fun args_ M_ snx_ K_ => match args_ with
  | [x_x] => (match Go.Rx.lsArg M_ [.int .i64] x_x with | some (x, n_x) => (A.need .eql n_x (A.len x) ((M_.set snx_ (some (.list 42 [.int .i64, .int .i64, .int .i64, .int .i64] true (A.appL 51 [x] [])))).force fun M_ => K_ (.agg [.ls true snx_ (A.len (A.appL 51 [x] []))]) M_ (snx_ + 1) [])) | none => A.fail "fann")
  | _ => A.fail "fann"
theorem fannS_ok {ov : Bool} {d : Nat} (hd : 3000 ≤ d) : SpecOK (fs := fsf) (ov := ov) Try.prog AW d 9 fannS := by
  intro m_ hm_ args_ M_ snx_ K_ h_ ν_ largs_ H_ nx_ ha_ hM_
  unfold fannS at h_
  split at h_
  · rename_i x_x
    obtain ⟨v_x, r1, rfl, hx_x, rfl⟩ := ha_
    split at h_
    · rename_i x n_x q_x
      obtain ⟨e_x, h_⟩ := h_
      exact gives_got (annulus_gives (by omega) (lsArg_ok hM_ hx_x q_x e_x)) hM_ h_
    · exact h_.elim
  · exact h_.elim
abbrev fm64S {A : Go.Rx.Alg} : List (Go.Rx.SV A) → Go.Rx.SH A → Nat → Go.Rx.KS A → A.R := fun args_ M_ snx_ K_ => match args_ with
  | [.i .i64 a, .i .i64 b] => (A.need .leq (A.lit 1) b (A.need .leq b (A.lit 9223372036854775807) (K_ (.i .i64 (A.app 23 [] [a, b])) M_ snx_ [])))
  | _ => A.fail "fm64"
theorem fm64S_ok {ov : Bool} {d : Nat} (hd : 3000 ≤ d) : SpecOK (fs := fsf) (ov := ov) Try.prog AW d 12 fm64S := by
  intro m_ hm_ args_ M_ snx_ K_ h_ ν_ largs_ H_ nx_ ha_ hM_
  unfold fm64S at h_
  split at h_
  · rename_i a b
    obtain ⟨y1, r1, rfl, rfl, ⟨y2, r2, rfl, rfl, rfl⟩⟩ := ha_
    obtain ⟨p1, h_⟩ := h_
    obtain ⟨p2, h_⟩ := h_
    exact pure_got (m64_pure (by omega) a b p1 p2) hM_ (v := .i .i64 _) rfl h_
  · exact h_.elim
abbrev fcolS {A : Go.Rx.Alg} : List (Go.Rx.SV A) → Go.Rx.SH A → Nat → Go.Rx.KS A → A.R := fun args_ M_ snx_ K_ => match args_ with
  | [.agg [x_h], x_x] => (match Go.Rx.lsArg M_ [.int .i64, .int .i64, .int .i64, .int .i64] x_h with | some (h, n_h) => (A.need .eql n_h (A.len h) (match Go.Rx.lsArg M_ [.int .i64] x_x with | some (x, n_x) => (A.need .eql n_x (A.len x) (A.need .eql (A.app 1 [h] []) (A.lit 0) ((M_.set snx_ (some (.list 32 [.int .i64, .int .i64] true (A.appL 52 [x] [(A.app 2 [h] [])])))).force fun M_ => K_ (.ls true snx_ (A.len (A.appL 52 [x] [(A.app 2 [h] [])]))) M_ (snx_ + 1) []))) | none => A.fail "fcol")) | none => A.fail "fcol")
  | _ => A.fail "fcol"
theorem fcolS_ok {ov : Bool} {d : Nat} (hd : 3000 ≤ d) : SpecOK (fs := fsf) (ov := ov) Try.prog AW d 10 fcolS := by
  intro m_ hm_ args_ M_ snx_ K_ h_ ν_ largs_ H_ nx_ ha_ hM_
  unfold fcolS at h_
  split at h_
  · rename_i x_h x_x
    obtain ⟨y1, r1, rfl, ⟨l1, rfl, ⟨v_h, r2, rfl, hx_h, rfl⟩⟩, ⟨v_x, r3, rfl, hx_x, rfl⟩⟩ := ha_
    split at h_
    · rename_i h n_h q_h
      obtain ⟨e_h, h_⟩ := h_
      split at h_
      · rename_i x n_x q_x
        obtain ⟨e_x, h_⟩ := h_
        obtain ⟨p1, h_⟩ := h_
        exact gives_got (column_gives (by omega) (lsArg_ok hM_ hx_h q_h e_h) (lsArg_ok hM_ hx_x q_x e_x) p1) hM_ h_
      · exact h_.elim
    · exact h_.elim
  · exact h_.elim
abbrev fheldS {A : Go.Rx.Alg} : List (Go.Rx.SV A) → Go.Rx.SH A → Nat → Go.Rx.KS A → A.R := fun args_ M_ snx_ K_ => match args_ with
  | [x_c] => (match Go.Rx.lsArg M_ [.int .i64, .int .i64] x_c with | some (c, n_c) => (A.need .eql n_c (A.len c) (A.br (A.appB 30 [c] []) (fun _ => (K_ (.i .i64 (A.app 7 [c] [])) M_ snx_ [])) (fun _ => A.fail "pre"))) | none => A.fail "fheld")
  | _ => A.fail "fheld"
theorem fheldS_ok {ov : Bool} {d : Nat} (hd : 3000 ≤ d) : SpecOK (fs := fsf) (ov := ov) Try.prog AW d 11 fheldS := by
  intro m_ hm_ args_ M_ snx_ K_ h_ ν_ largs_ H_ nx_ ha_ hM_
  unfold fheldS at h_
  split at h_
  · rename_i x_c
    obtain ⟨v_c, r1, rfl, hx_c, rfl⟩ := ha_
    split at h_
    · rename_i c n_c q_c
      obtain ⟨e_c, h_⟩ := h_
      obtain ⟨p1, h_⟩ := br_pre (fs := fsf) (ov := ov) h_
      have p1 : (heldB c) = true := p1
      exact pure_got (held_pure (by omega) (lsArg_ok hM_ hx_c q_c e_c) p1) hM_ (v := .i .i64 _) rfl h_
    · exact h_.elim
  · exact h_.elim
abbrev fpressS {A : Go.Rx.Alg} : List (Go.Rx.SV A) → Go.Rx.SH A → Nat → Go.Rx.KS A → A.R := fun args_ M_ snx_ K_ => match args_ with
  | [.agg [x_h], x_c, .i .i64 top, .i .i64 u] => (match Go.Rx.lsArg M_ [.int .i64, .int .i64, .int .i64, .int .i64] x_h with | some (h, n_h) => (A.need .eql n_h (A.len h) (match Go.Rx.lsArg M_ [.int .i64, .int .i64] x_c with | some (c, n_c) => (A.need .eql n_c (A.len c) (K_ (.tup [.agg [.i .i64 (A.app 10 [h, c] [top, u]), .i .i64 (A.app 11 [h, c] [top, u])], .i .i64 (A.app 9 [h, c] [top, u])]) M_ snx_ [])) | none => A.fail "fpress")) | none => A.fail "fpress")
  | _ => A.fail "fpress"
theorem fpressS_ok {ov : Bool} {d : Nat} (hd : 3000 ≤ d) : SpecOK (fs := fsf) (ov := ov) Try.prog AW d 13 fpressS := by
  intro m_ hm_ args_ M_ snx_ K_ h_ ν_ largs_ H_ nx_ ha_ hM_
  unfold fpressS at h_
  split at h_
  · rename_i x_h x_c top u
    obtain ⟨y1, r1, rfl, ⟨l1, rfl, ⟨v_h, r2, rfl, hx_h, rfl⟩⟩, ⟨v_c, r3, rfl, hx_c, ⟨y4, r4, rfl, rfl, ⟨y5, r5, rfl, rfl, rfl⟩⟩⟩⟩ := ha_
    split at h_
    · rename_i h n_h q_h
      obtain ⟨e_h, h_⟩ := h_
      split at h_
      · rename_i c n_c q_c
        obtain ⟨e_c, h_⟩ := h_
        exact pure_got (press_pure (by omega) top u (lsArg_ok hM_ hx_h q_h e_h) (lsArg_ok hM_ hx_c q_c e_c)) hM_ (v := .tup [.agg [.i .i64 _, .i .i64 _], .i .i64 _]) ⟨_, rfl, (VSL.cons ⟨_, rfl, (VSL.cons rfl (VSL.cons rfl rfl))⟩ (VSL.cons rfl rfl))⟩ h_
      · exact h_.elim
    · exact h_.elim
  · exact h_.elim
theorem fat_eq (u i s : Int) (h c : Ll) (T : Al (SV (stdA fsf true))) (M : Al (SO (stdA fsf true))) (KK : Ex → List (SV (stdA fsf true)) → List (SO (stdA fsf true)) → List Ll → Prop) : sCode Try.prog (sCall Try.prog 30 (spOf sp0) noLoop 20) ⟨3, false, noLoop 3⟩ 30 (false :: [false, true, false, true, true, true, true, true, true]) (bodyAt Try.prog 3 [false, true, false, true, true, true, true, true, true]) (hdL (bodyAt Try.prog 3 [false, true, false, true, true, true, true, true, true]) T M 149 5 [(14, .ls true 4 (Ll.len c)), (2, .i .i64 u)] [(2, .list 42 [.int .i64, .int .i64, .int .i64, .int .i64] true h), (4, .list 32 [.int .i64, .int .i64] true c)] [(16, .i .i64 s), (17, .i .i64 i)] [] [] [] []) (outL 5 (tsOf [16, 17] []) [] [] [] KK) =
  (cond (decide (i < (Ll.len c)))
 ((0 : Int) ≤ i ∧ (i < (Ll.len c) ∧ (i < (Ll.len c) ∧ (InK .i64 (s + (Ll.get c i 1)) ∧ (cond (decide ((s + (Ll.get c i 1)) ≤ u))
 ((0 : Int) ≤ i ∧ (i < (Ll.len c) ∧ (i < (Ll.len c) ∧ (InK .i64 (s + (Ll.get c i 1)) ∧ (InK .i64 (i + (1 : Int)) ∧ (KK .normal [(.i .i64 (s + (Ll.get c i 1))), (.i .i64 (i + (1 : Int)))] [] []))))))
 (KK (.exit 0) [(.i .i64 s), (.i .i64 i)] [] []))))))
 (KK (.exit 0) [(.i .i64 s), (.i .i64 i)] [] [])) := by kernel_rfl
theorem fat_go (u : Int) (h : Ll) (c : Ll) (i : Int) (s : Int) (i_0 : Int) (s_0 : Int) (r1 : i_0 = (0 : Int)) (r2 : s_0 = (0 : Int)) (T : Al (SV (stdA fsf true))) (M : Al (SO (stdA fsf true))) (KK : Ex → List (SV (stdA fsf true)) → List (SO (stdA fsf true)) → List Ll → Prop) (p1 : (colE h c) = (0 : Int)) (p2 : (0 : Int) ≤ u) (p3 : u < (slN c c.length)) (hI : 0 ≤ i ∧ i ≤ kN c u ∧ s = slN c i.toNat) (hn : ∀ (i' : Int) (s' : Int), 0 ≤ i' ∧ i' ≤ kN c u ∧ s' = slN c i'.toNat → (30 - i').toNat < (30 - i).toNat → KK .normal [.i .i64 s', .i .i64 i'] [] []) (hx1 : KK (.exit 0) [.i .i64 (slN c (kN c u).toNat), .i .i64 (kN c u)] [] []) :
    sCode Try.prog (sCall Try.prog 30 (spOf sp0) noLoop 20) ⟨3, false, noLoop 3⟩ 30 (false :: [false, true, false, true, true, true, true, true, true]) (bodyAt Try.prog 3 [false, true, false, true, true, true, true, true, true]) (hdL (bodyAt Try.prog 3 [false, true, false, true, true, true, true, true, true]) T M 149 5 [(14, .ls true 4 (Ll.len c)), (2, .i .i64 u)] [(2, .list 42 [.int .i64, .int .i64, .int .i64, .int .i64] true h), (4, .list 32 [.int .i64, .int .i64] true c)] [(16, .i .i64 s), (17, .i .i64 i)] [] [] [] []) (outL 5 (tsOf [16, 17] []) [] [] [] KK) := by
  refine Eq.mpr (fat_eq u i s h c T M KK) ?_
  simp only [cond_iff, InK64]
  have hl : Ll.len c = (c.length : Int) := rfl
  obtain ⟨i0, i1, rfl⟩ := hI
  have p0 : ColOK h c := col_of p1
  have hlen := p0.len
  have hsum := p0.sum
  have hv := p0.hole.b (n := h.length) (Nat.le_refl _)
  have p3 : u < slN c c.length := p3
  obtain ⟨a, b, d, f⟩ := leastN_spec (fun j => decide (u < slN c (j.toNat + 1))) c.length 0
  have hk : kN c u < c.length := by
    refine (leastN_lt _ _).2 ⟨c.length - 1, by omega, by omega, ?_⟩
    exact decide_eq_true (by rw [show ((c.length : Int) - 1).toNat + 1 = c.length by omega]; exact p3)
  have hi : i < c.length := by omega
  have hs := leastN_step (p := fun j => decide (u < slN c (j.toNat + 1))) (k := c.length) i0 i1 hi
  have ha := p0.at i0 hi
  have e := slN_succ (c := c) i0
  have e1 : (i + 1).toNat = i.toNat + 1 := by omega
  rw [e1] at e
  rw [e] at hs
  have hm := slN_mono p0.good (k := i.toNat + 1) (by omega)
  have hb := slN_b (fun j hj => p0.good j (by omega) : CGood c i.toNat)
  have hN : slN c i.toNat + Ll.get c i 1 ≤ u → KK .normal [.i .i64 (slN c i.toNat + Ll.get c i 1), .i .i64 (i + 1)] [] [] := fun h2 => hn (i + 1) _ ⟨by omega, hs.2 (decide_eq_false (by omega)), by rw [e1, e]⟩ (by omega)
  have hX : ¬ slN c i.toNat + Ll.get c i 1 ≤ u → KK (.exit 0) [.i .i64 (slN c i.toNat), .i .i64 i] [] [] := fun h2 => by
    have h3 : kN c u = i := hs.1 (decide_eq_true (by omega))
    have := hx1
    rw [h3] at this; exact this
  repeat' (first | apply And.intro | intro _)
  all_goals first | exact hN (by assumption) | exact hX (by assumption) | omega | trivial
abbrev fatF {A : Go.Rx.Alg} : Code → Go.Rx.SS A → (Go.Rx.Ex → Go.Rx.SS A → A.R) → A.R := fun c_ s_ K_ => match s_.T.get 14, s_.T.get 2, s_.H.get 2, s_.H.get 4, s_.T.get 16, s_.T.get 17 with
  | some (.ls true 4 m1), some (.i .i64 u), some (.list t2 k2 true h), some (.list t3 k3 true c), some (.i .i64 s), some (.i .i64 i) => bif (((((Nat.beq s_.N 149 && Nat.beq s_.nx 5) && Nat.beq t2 42) && decide (k2 = [.int .i64, .int .i64, .int .i64, .int .i64])) && Nat.beq t3 32) && decide (k3 = [.int .i64, .int .i64])) then (A.need .eql m1 (A.len c) (A.need .eql (A.app 6 [h, c] []) (A.lit 0) (A.need .leq (A.lit 0) u (A.need .lss u (A.app 7 [c] []) (A.need .eql i (A.lit 0) (A.need .eql s (A.lit 0) (K_ (.exit 0) (Go.Rx.hdL c_ s_.T (Go.Rx.kills [] s_.H) 149 5 [(14, .ls true 4 (A.len c)), (2, .i .i64 u)] [(2, .list 42 [.int .i64, .int .i64, .int .i64, .int .i64] true h), (4, .list 32 [.int .i64, .int .i64] true c)] [(16, .i .i64 (A.app 22 [c] [u])), (17, .i .i64 (A.app 21 [c] [u]))] [] [] [] (Go.Rx.addW ([] ++ []) s_.wr))))))))) else A.fail "frame of fat"
  | _, _, _, _, _, _ => A.fail "fat"
theorem fatF_ok {d : Nat} (hd : 100 ≤ d) : LoopOK (fs := fsf) (ov := true) Try.prog AW d 3 [false, true, false, true, true, true, true, true, true] false fatF := by
  intro m_ hm_ fn_ c0_ hfn_ hb_ c_ ro_ hro_ hc_ s_ K_ W_ ν_ S_ h_ hs_
  obtain rfl := body_of hfn_ hb_ hc_
  unfold fatF at h_
  split at h_
  · rename_i m1_0 u_0 t2 k2 h_0 t3 k3 c_0 s_0_0 i_0_0 g0 g1 g2 g3 g4 g5
    obtain ⟨m1, rfl⟩ : ∃ q : Int, q = m1_0 := ⟨m1_0, rfl⟩
    obtain ⟨u, rfl⟩ : ∃ q : Int, q = u_0 := ⟨u_0, rfl⟩
    obtain ⟨h, rfl⟩ : ∃ q : Ll, q = h_0 := ⟨h_0, rfl⟩
    obtain ⟨c, rfl⟩ : ∃ q : Ll, q = c_0 := ⟨c_0, rfl⟩
    obtain ⟨s_0, rfl⟩ : ∃ q : Int, q = s_0_0 := ⟨s_0_0, rfl⟩
    obtain ⟨i_0, rfl⟩ : ∃ q : Int, q = i_0_0 := ⟨i_0_0, rfl⟩
    obtain ⟨T_, FN_, M_, snx_, wr_⟩ := s_
    have hN : (((((Nat.beq FN_ 149 && Nat.beq snx_ 5) && Nat.beq t2 42) && decide (k2 = [.int .i64, .int .i64, .int .i64, .int .i64])) && Nat.beq t3 32) && decide (k3 = [.int .i64, .int .i64])) = true := by
      cases hq : ((((((Nat.beq FN_ 149 && Nat.beq snx_ 5) && Nat.beq t2 42) && decide (k2 = [.int .i64, .int .i64, .int .i64, .int .i64])) && Nat.beq t3 32) && decide (k3 = [.int .i64, .int .i64])) : Bool) with
      | true => rfl
      | false => (rw [hq] at h_; exact h_.elim)
    rw [hN, cond_true] at h_
    simp only [Bool.and_eq_true, beq_iff, decide_eq_true_eq] at hN
    obtain ⟨⟨⟨⟨⟨rfl, rfl⟩, rfl⟩, rfl⟩, rfl⟩, rfl⟩ := hN
    obtain ⟨q0, h_⟩ := h_
    obtain rfl : m1 = (Ll.len c) := q0
    obtain ⟨q1, h_⟩ := h_
    have q1 : (colE h c) = (0 : Int) := q1
    obtain ⟨q2, h_⟩ := h_
    have q2 : (0 : Int) ≤ u := q2
    obtain ⟨q3, h_⟩ := h_
    have q3 : u < (slN c c.length) := q3
    obtain ⟨q4, h_⟩ := h_
    have q4 : i_0 = (0 : Int) := q4
    obtain ⟨q5, h_⟩ := h_
    have q5 : s_0 = (0 : Int) := q5
    replace h_ : K_ (.exit 0) (hdL (bodyAt Try.prog 3 [false, true, false, true, true, true, true, true, true]) T_ (kills [] M_) 149 5 [(14, .ls true 4 (Ll.len c)), (2, .i .i64 u)] [(2, .list 42 [.int .i64, .int .i64, .int .i64, .int .i64] true h), (4, .list 32 [.int .i64, .int .i64] true c)] [(16, .i .i64 (slN c (kN c u).toNat)), (17, .i .i64 (kN c u))] [] [] [] (addW ([] ++ []) wr_)) := h_
    have hx1 : K_ (.exit 0) (hdL (bodyAt Try.prog 3 [false, true, false, true, true, true, true, true, true]) T_ (kills [] M_) 149 5 [(14, .ls true 4 (Ll.len c)), (2, .i .i64 u)] [(2, .list 42 [.int .i64, .int .i64, .int .i64, .int .i64] true h), (4, .list 32 [.int .i64, .int .i64] true c)] [(16, .i .i64 (slN c (kN c u).toNat)), (17, .i .i64 (kN c u))] [] [] [] (addW ([] ++ []) wr_)) := by
      have h2 := h_
      exact h2
    refine loop_ruleL (fs := fsf) (ov := true) (s := ⟨T_, 149, M_, 5, wr_⟩) (X := Int × Int) (B := []) (mv := []) (kt := [(14, .ls true 4 (Ll.len c)), (2, .i .i64 u)]) (kr := [(2, .list 42 [.int .i64, .int .i64, .int .i64, .int .i64] true h), (4, .list 32 [.int .i64, .int .i64] true c)]) (ty := []) (x := (i_0, s_0))
      (Inv := (fun x_ : Int × Int => match x_ with | (i, s) => 0 ≤ i ∧ i ≤ kN c u ∧ s = slN c i.toNat)) (μ := (fun x_ : Int × Int => match x_ with | (i, s) => (30 - i).toNat)) (ts := tsOf [16, 17] []) (sl := (fun x_ : Int × Int => match x_ with | (i, s) => [.i .i64 s, .i .i64 i])) (bl := (fun x_ : Int × Int => match x_ with | (i, s) => [])) (ll := (fun x_ : Int × Int => match x_ with | (i, s) => [])) (Q := fun e_ vs_ os_ hs_ => K_ e_ (hdL (bodyAt Try.prog 3 [false, true, false, true, true, true, true, true, true]) T_ (kills [] M_) 149 5 [(14, .ls true 4 (Ll.len c)), (2, .i .i64 u)] [(2, .list 42 [.int .i64, .int .i64, .int .i64, .int .i64] true h), (4, .list 32 [.int .i64, .int .i64] true c)] (((tsOf [16, 17] []) e_).zip vs_) ([].zip os_) [] hs_ (addW ([] ++ []) wr_)))
      (L := LL) (U := 30) (cs := sCall Try.prog 30 (spOf sp0) noLoop 20) (call := CN Try.prog AW m_) (lp := ⟨3, false, noLoop 3⟩) (root := c0_) (p := [false, true, false, true, true, true, true, true, true])
      (show CallSOK _ _ from by
        have := sCall_ok (P := Try.prog) (d := m_ - 20) (U := 30) (lp := noLoop) (sp0_ok (fs := fsf) (ov := true) (d := m_ - 20)) (sp0_aw (fs := fsf) (ov := true)) (noLoop_ok) (by decide) rfl 20
        rwa [show 20 + (m_ - 20) = m_ by omega] at this) (ctx_of (g := 3) (rg := false) (at_ := noLoop 3) (fun p rg f h => by cases h) hfn_ hb_ hro_) (by decide) hc_
      (fun x o ho => by cases ho)
      (fun x hx => by cases hx) (fun x hx => by cases hx) (fun x hx => by cases hx)
      (fun x hx => by
        simp only [List.mem_cons, List.not_mem_nil, or_false] at hx
        rcases hx with rfl | rfl
        · exact g0
        · exact g1) (fun x hx => by
        simp only [List.mem_cons, List.not_mem_nil, or_false] at hx
        rcases hx with rfl | rfl
        · exact ⟨g2, by simp⟩
        · exact ⟨g3, by simp⟩) ?_ (fun _ _ _ _ _ h => h) ?_ ?_ ?_ hs_
    · rintro ⟨i, s⟩ hI
      exact fat_go u h c i s i_0 s_0 q4 q5 T_ (kills [] M_) _ q1 q2 q3 hI (fun i' s' ha hb => ⟨(i', s'), ha, hb, rfl, rfl, rfl⟩) (⟨by simp [SO.mine], hx1⟩)
    · show 0 ≤ i_0 ∧ i_0 ≤ kN c u ∧ s_0 = slN c i_0.toNat
      exact ⟨by omega, by rw [q4]; exact (leastN_spec (fun j => decide (u < slN c (j.toNat + 1))) c.length 0).1, by rw [q4, q5]; rfl⟩
    · show (30 - i_0).toNat < LL
      exact Nat.lt_of_le_of_lt (show _ ≤ 1000 by omega) (by decide)
    · exact ⟨⟨[.i .i64 s_0, .i .i64 i_0], [], [], [], by simp [gets, tsOf, g0, g1, g2, g3, g4, g5], by simp [gets, g0, g1, g2, g3, g4, g5], rfl, rfl, by simp [listsOf] <;> rfl⟩⟩
  · exact h_.elim
abbrev lpFat {A : Go.Rx.Alg} : Nat → Go.Rx.LoopS A := Go.Rx.lpOf [(3, [false, true, false, true, true, true, true, true, true], false, fatF)]
theorem lpFat_ok {d : Nat} (hd : 100 ≤ d) : LoopsAll (fs := fsf) (ov := true) Try.prog AW d lpFat := lpOf_ok fun x hx => by
  simp only [List.mem_cons, List.not_mem_nil, or_false] at hx
  rcases hx with rfl
  · exact fatF_ok (by omega)
abbrev spF1 {A : Go.Rx.Alg} : Go.Rx.SpL A := [(AW, Go.Rx.awakeS), (9, fannS), (12, fm64S), (10, fcolS), (11, fheldS), (13, fpressS)]
theorem spF1_ok {ov : Bool} {d : Nat} (hd : 3000 ≤ d) : SpOK (fs := fsf) (ov := ov) Try.prog AW d spF1 := SpOK.cons awake_ok (SpOK.cons (fannS_ok (by omega)) (SpOK.cons (fm64S_ok (by omega)) (SpOK.cons (fcolS_ok (by omega)) (SpOK.cons (fheldS_ok (by omega)) (SpOK.cons (fpressS_ok (by omega)) SpOK.nil)))))
theorem spF1_aw {fs : Fs} {ov : Bool} : (spOf (A := stdA fs ov) spF1 AW).isSome = true := rfl
theorem deeper_eq (u down top more : Int) (x y : Ll) (KK : KS (stdA fsf true)) : sFunc Try.prog 30 (sCall Try.prog 30 (spOf spF1) lpFat 20) lpFat 3 [.ls false 0 (Ll.len x), .ls false 1 (Ll.len y), .i .i64 u, .i .i64 down, .i .i64 top, .i .i64 more] (lsMem 0 [([.int .i64], x), ([.int .i64], y)]) 2 KK =
  ((Ll.len x) = (Ll.len x) ∧ ((Ll.len (annL x)) = (Ll.len (annL x)) ∧ ((Ll.len y) = (Ll.len y) ∧ ((holeE (annL x)) = (0 : Int) ∧ ((Ll.len (colL y (holeV (annL x)))) = (Ll.len (colL y (holeV (annL x)))) ∧ (cond (heldB (colL y (holeV (annL x))))
 ((1 : Int) ≤ (slN (colL y (holeV (annL x))) (colL y (holeV (annL x))).length) ∧ ((slN (colL y (holeV (annL x))) (colL y (holeV (annL x))).length) ≤ (9223372036854775807 : Int) ∧ ((1 : Int) ≤ (17179869184 : Int) ∧ ((17179869184 : Int) ≤ (9223372036854775807 : Int) ∧ ((1 : Int) ≤ (17179869184 : Int) ∧ ((17179869184 : Int) ≤ (9223372036854775807 : Int) ∧ ((Ll.len (colL y (holeV (annL x)))) = (Ll.len (colL y (holeV (annL x)))) ∧ ((colE (annL x) (colL y (holeV (annL x)))) = (0 : Int) ∧ ((0 : Int) ≤ (u % (slN (colL y (holeV (annL x))) (colL y (holeV (annL x))).length)) ∧ ((u % (slN (colL y (holeV (annL x))) (colL y (holeV (annL x))).length)) < (slN (colL y (holeV (annL x))) (colL y (holeV (annL x))).length) ∧ ((0 : Int) = (0 : Int) ∧ ((0 : Int) = (0 : Int) ∧ (InK .i64 ((u % (slN (colL y (holeV (annL x))) (colL y (holeV (annL x))).length)) - (slN (colL y (holeV (annL x))) (kN (colL y (holeV (annL x))) (u % (slN (colL y (holeV (annL x))) (colL y (holeV (annL x))).length))).toNat)) ∧ (InK .i64 (((u % (slN (colL y (holeV (annL x))) (colL y (holeV (annL x))).length)) - (slN (colL y (holeV (annL x))) (kN (colL y (holeV (annL x))) (u % (slN (colL y (holeV (annL x))) (colL y (holeV (annL x))).length))).toNat)) + (1 : Int)) ∧ ((1 : Int) ≤ (((u % (slN (colL y (holeV (annL x))) (colL y (holeV (annL x))).length)) - (slN (colL y (holeV (annL x))) (kN (colL y (holeV (annL x))) (u % (slN (colL y (holeV (annL x))) (colL y (holeV (annL x))).length))).toNat)) + (1 : Int)) ∧ ((((u % (slN (colL y (holeV (annL x))) (colL y (holeV (annL x))).length)) - (slN (colL y (holeV (annL x))) (kN (colL y (holeV (annL x))) (u % (slN (colL y (holeV (annL x))) (colL y (holeV (annL x))).length))).toNat)) + (1 : Int)) ≤ (9223372036854775807 : Int) ∧ (InK .i64 ((slN (colL y (holeV (annL x))) (kN (colL y (holeV (annL x))) (u % (slN (colL y (holeV (annL x))) (colL y (holeV (annL x))).length))).toNat) + (down % (((u % (slN (colL y (holeV (annL x))) (colL y (holeV (annL x))).length)) - (slN (colL y (holeV (annL x))) (kN (colL y (holeV (annL x))) (u % (slN (colL y (holeV (annL x))) (colL y (holeV (annL x))).length))).toNat)) + (1 : Int)))) ∧ ((Ll.len (annL x)) = (Ll.len (annL x)) ∧ ((Ll.len (colL y (holeV (annL x)))) = (Ll.len (colL y (holeV (annL x)))) ∧ ((Ll.len (annL x)) = (Ll.len (annL x)) ∧ ((Ll.len (colL y (holeV (annL x)))) = (Ll.len (colL y (holeV (annL x)))) ∧ (InK .i64 ((top % (17179869184 : Int)) + (more % (17179869184 : Int))) ∧ ((Ll.len (annL x)) = (Ll.len (annL x)) ∧ ((Ll.len (colL y (holeV (annL x)))) = (Ll.len (colL y (holeV (annL x)))) ∧ (cond (decide ((prE (annL x) (colL y (holeV (annL x))) (top % (17179869184 : Int)) (u % (slN (colL y (holeV (annL x))) (colL y (holeV (annL x))).length))) = (0 : Int)))
 (cond (decide ((prE (annL x) (colL y (holeV (annL x))) (top % (17179869184 : Int)) ((slN (colL y (holeV (annL x))) (kN (colL y (holeV (annL x))) (u % (slN (colL y (holeV (annL x))) (colL y (holeV (annL x))).length))).toNat) + (down % (((u % (slN (colL y (holeV (annL x))) (colL y (holeV (annL x))).length)) - (slN (colL y (holeV (annL x))) (kN (colL y (holeV (annL x))) (u % (slN (colL y (holeV (annL x))) (colL y (holeV (annL x))).length))).toNat)) + (1 : Int))))) = (0 : Int)))
 (cond (decide ((prE (annL x) (colL y (holeV (annL x))) ((top % (17179869184 : Int)) + (more % (17179869184 : Int))) (u % (slN (colL y (holeV (annL x))) (colL y (holeV (annL x))).length))) = (0 : Int)))
 (cond (decide ((prLo (annL x) (colL y (holeV (annL x))) (top % (17179869184 : Int)) ((slN (colL y (holeV (annL x))) (kN (colL y (holeV (annL x))) (u % (slN (colL y (holeV (annL x))) (colL y (holeV (annL x))).length))).toNat) + (down % (((u % (slN (colL y (holeV (annL x))) (colL y (holeV (annL x))).length)) - (slN (colL y (holeV (annL x))) (kN (colL y (holeV (annL x))) (u % (slN (colL y (holeV (annL x))) (colL y (holeV (annL x))).length))).toNat)) + (1 : Int))))) ≥ (prLo (annL x) (colL y (holeV (annL x))) (top % (17179869184 : Int)) (u % (slN (colL y (holeV (annL x))) (colL y (holeV (annL x))).length)))))
 (cond (decide ((prHi (annL x) (colL y (holeV (annL x))) (top % (17179869184 : Int)) ((slN (colL y (holeV (annL x))) (kN (colL y (holeV (annL x))) (u % (slN (colL y (holeV (annL x))) (colL y (holeV (annL x))).length))).toNat) + (down % (((u % (slN (colL y (holeV (annL x))) (colL y (holeV (annL x))).length)) - (slN (colL y (holeV (annL x))) (kN (colL y (holeV (annL x))) (u % (slN (colL y (holeV (annL x))) (colL y (holeV (annL x))).length))).toNat)) + (1 : Int))))) ≥ (prHi (annL x) (colL y (holeV (annL x))) (top % (17179869184 : Int)) (u % (slN (colL y (holeV (annL x))) (colL y (holeV (annL x))).length)))))
 (InK .i64 ((prLo (annL x) (colL y (holeV (annL x))) ((top % (17179869184 : Int)) + (more % (17179869184 : Int))) (u % (slN (colL y (holeV (annL x))) (colL y (holeV (annL x))).length))) - (prLo (annL x) (colL y (holeV (annL x))) (top % (17179869184 : Int)) (u % (slN (colL y (holeV (annL x))) (colL y (holeV (annL x))).length)))) ∧ (cond (decide (((prLo (annL x) (colL y (holeV (annL x))) ((top % (17179869184 : Int)) + (more % (17179869184 : Int))) (u % (slN (colL y (holeV (annL x))) (colL y (holeV (annL x))).length))) - (prLo (annL x) (colL y (holeV (annL x))) (top % (17179869184 : Int)) (u % (slN (colL y (holeV (annL x))) (colL y (holeV (annL x))).length)))) = (more % (17179869184 : Int))))
 (InK .i64 ((prHi (annL x) (colL y (holeV (annL x))) ((top % (17179869184 : Int)) + (more % (17179869184 : Int))) (u % (slN (colL y (holeV (annL x))) (colL y (holeV (annL x))).length))) - (prHi (annL x) (colL y (holeV (annL x))) (top % (17179869184 : Int)) (u % (slN (colL y (holeV (annL x))) (colL y (holeV (annL x))).length)))) ∧ (cond (decide (((prHi (annL x) (colL y (holeV (annL x))) ((top % (17179869184 : Int)) + (more % (17179869184 : Int))) (u % (slN (colL y (holeV (annL x))) (colL y (holeV (annL x))).length))) - (prHi (annL x) (colL y (holeV (annL x))) (top % (17179869184 : Int)) (u % (slN (colL y (holeV (annL x))) (colL y (holeV (annL x))).length)))) = (more % (17179869184 : Int))))
 (cond (decide ((prLo (annL x) (colL y (holeV (annL x))) (top % (17179869184 : Int)) (u % (slN (colL y (holeV (annL x))) (colL y (holeV (annL x))).length))) ≤ (prHi (annL x) (colL y (holeV (annL x))) (top % (17179869184 : Int)) (u % (slN (colL y (holeV (annL x))) (colL y (holeV (annL x))).length)))))
 (KK (.b true) (lsMem 0 [([.int .i64], x), ([.int .i64], y)]) 2 [])
 (KK (.b false) (lsMem 0 [([.int .i64], x), ([.int .i64], y)]) 2 []))
 (KK (.b false) (lsMem 0 [([.int .i64], x), ([.int .i64], y)]) 2 [])))
 (KK (.b false) (lsMem 0 [([.int .i64], x), ([.int .i64], y)]) 2 [])))
 (KK (.b false) (lsMem 0 [([.int .i64], x), ([.int .i64], y)]) 2 []))
 (KK (.b false) (lsMem 0 [([.int .i64], x), ([.int .i64], y)]) 2 []))
 (KK (.b false) (lsMem 0 [([.int .i64], x), ([.int .i64], y)]) 2 []))
 (KK (.b false) (lsMem 0 [([.int .i64], x), ([.int .i64], y)]) 2 []))
 (KK (.b false) (lsMem 0 [([.int .i64], x), ([.int .i64], y)]) 2 []))))))))))))))))))))))))))
 False)))))) := by kernel_rfl
theorem deeper_pure {m : Nat} (hm : 3100 ≤ m) {H : Hp} {nx : Nat} (u down top more : Int) {v_x : LV} {x : Ll} (hl_x : IsL H nx [.int .i64] x v_x) {v_y : LV} {y : Ll} (hl_y : IsL H nx [.int .i64] y v_y) : Pure Try.prog AW m 3 [v_x, v_y, .i .i64 u, .i .i64 down, .i .i64 top, .i .i64 more] H nx (.b true) := by
  obtain ⟨ν, n1, n2, n3, n4⟩ := ls_in (fs := fsf) (ov := true) (l := [([.int .i64], x), ([.int .i64], y)]) (lvs := [v_x, v_y]) 0 (fun i x lv e1 e2 => by
    cases i with
    | zero => simp at e1 e2; subst e1 e2; exact hl_x
    | succ i =>
      cases i with
      | zero => simp at e1 e2; subst e1 e2; exact hl_y
      | succ i =>
        simp at e1) rfl
  refine pure_of (n := 20) (d := m - 21) (U := 30) (fs := fsf) (ov := true) (spF1_ok (by omega)) spF1_aw (lpFat_ok (by omega)) (by decide) (by decide) (by omega) (args := [.ls false 0 (Ll.len x), .ls false 1 (Ll.len y), .i .i64 u, .i .i64 down, .i .i64 top, .i .i64 more]) (M := lsMem 0 [([.int .i64], x), ([.int .i64], y)]) (snx := 2) ?_ (VSL.cons (n4 0 _ _ rfl rfl) (VSL.cons (n4 1 _ _ rfl rfl) (VSL.cons rfl (VSL.cons rfl (VSL.cons rfl (VSL.cons rfl rfl)))))) (hs_in n2 n3)
  rw [deeper_eq]
  have hz := hole_zero (ann_ok x)
  have q0 := ann_ok x
  have eV : holeV (annL x) = volN (annL x) (annL x).length := by unfold holeV; rw [if_pos hz]
  have p0 : ColOK (annL x) (colL y (holeV (annL x))) := by rw [eV]; exact colL_ok q0
  have hB := held_col p0
  have hC := col_zero p0
  generalize colL y (holeV (annL x)) = c at *
  generalize annL x = h at *
  have hlen := p0.len
  have hsum := p0.sum
  have hv := p0.hole.b (n := h.length) (Nat.le_refl _)
  have hV : 1 ≤ slN c c.length := by have := p0.hole.len; omega
  have hV2 : slN c c.length ≤ 5242880000 := by omega
  have m0 := Int.emod_nonneg u (show slN c c.length ≠ 0 by omega)
  have m1 := Int.emod_lt_of_pos u (show 0 < slN c c.length by omega)
  have m2 := Int.emod_nonneg top (show (17179869184 : Int) ≠ 0 by omega)
  have m3 := Int.emod_lt_of_pos top (show (0 : Int) < 17179869184 by omega)
  have m4 := Int.emod_nonneg more (show (17179869184 : Int) ≠ 0 by omega)
  have m5 := Int.emod_lt_of_pos more (show (0 : Int) < 17179869184 by omega)
  generalize u % slN c c.length = w at *
  generalize top % 17179869184 = t at *
  generalize more % 17179869184 = mo at *
  obtain ⟨k0, k1, k2, k3⟩ := kU_spec p0 m0
  have hk : kN c w < c.length := by
    refine (leastN_lt _ _).2 ⟨c.length - 1, by omega, by omega, ?_⟩
    exact decide_eq_true (by rw [show ((c.length : Int) - 1).toNat + 1 = c.length by omega]; exact m1)
  have ek : kU c w = kN c w := by unfold kU; rw [if_pos hk]
  rw [← ek]
  have hs0 := slN_b (fun j hj => p0.good j (by omega) : CGood c (kU c w).toNat)
  have m6 := Int.emod_nonneg down (show w - slN c (kU c w).toNat + 1 ≠ 0 by omega)
  have m7 := Int.emod_lt_of_pos down (show 0 < w - slN c (kU c w).toNat + 1 by omega)
  generalize hA : slN c (kU c w).toNat = A at *
  generalize down % (w - A + 1) = z at *
  have same := kU_same p0 (u := w) (v := A + z) (by omega) (by omega) (by omega)
  have pe : ∀ t v, 0 ≤ t → t ≤ 68719476736 → 0 ≤ v → v ≤ slN c c.length → prE h c t v = 0 := fun t v a b d e => by
    unfold prE
    rw [if_neg (fun q => q hC), if_neg (by omega)]
  have E1 := pe t w (by omega) (by omega) (by omega) (by omega)
  have E2 := pe t (A + z) (by omega) (by omega) (by omega) (by omega)
  have E3 := pe (t + mo) w (by omega) (by omega) (by omega) (by omega)
  have ha := p0.at (i := kU c w) (by omega) (by omega)
  have b1 := h_b p0.hole w
  have b2 := h_b p0.hole (A + z)
  have mm := h_mono p0.hole (show A + z ≤ w by omega)
  have tb := t_b (w := -(Ll.get c (kU c w) 0)) (by omega) (by omega) b1.1 b1.2.1 b1.2.2
  have ta := t_anti (w := -(Ll.get c (kU c w) 0)) (by omega) mm.1 mm.2
  have pb := pI_b p0 (top := t) (i := kU c w) (by omega) (by omega)
  have pm := pI_more h c t mo (kU c w)
  have tb2 := t_b (w := -(Ll.get c (kU c w) 0)) (by omega) (by omega) b2.1 b2.2.1 b2.2.2
  have L1 : prLo h c t w = pLoI h c t (kU c w) + tLo (-(Ll.get c (kU c w) 0)) (hLo h w) (hHi h w) := by unfold prLo; rw [if_pos E1]
  have H1 : prHi h c t w = pHiI h c t (kU c w) + tHi (-(Ll.get c (kU c w) 0)) (hLo h w) (hHi h w) := by unfold prHi; rw [if_pos E1]
  have L2 : prLo h c t (A + z) = pLoI h c t (kU c w) + tLo (-(Ll.get c (kU c w) 0)) (hLo h (A + z)) (hHi h (A + z)) := by unfold prLo; rw [if_pos E2, same]
  have H2 : prHi h c t (A + z) = pHiI h c t (kU c w) + tHi (-(Ll.get c (kU c w) 0)) (hLo h (A + z)) (hHi h (A + z)) := by unfold prHi; rw [if_pos E2, same]
  have L3 : prLo h c (t + mo) w = pLoI h c (t + mo) (kU c w) + tLo (-(Ll.get c (kU c w) 0)) (hLo h w) (hHi h w) := by unfold prLo; rw [if_pos E3]
  have H3 : prHi h c (t + mo) w = pHiI h c (t + mo) (kU c w) + tHi (-(Ll.get c (kU c w) 0)) (hLo h w) (hHi h w) := by unfold prHi; rw [if_pos E3]
  rw [pm.1] at L3
  rw [pm.2] at H3
  simp only [E1, E2, E3, L1, H1, L2, H2, L3, H3, hz, hB, hC, cond_true]
  generalize tLo (-(Ll.get c (kU c w) 0)) (hLo h w) (hHi h w) = x1 at *
  generalize tHi (-(Ll.get c (kU c w) 0)) (hLo h w) (hHi h w) = x2 at *
  generalize tLo (-(Ll.get c (kU c w) 0)) (hLo h (A + z)) (hHi h (A + z)) = x3 at *
  generalize tHi (-(Ll.get c (kU c w) 0)) (hLo h (A + z)) (hHi h (A + z)) = x4 at *
  generalize pLoI h c t (kU c w) = x5 at *
  generalize pHiI h c t (kU c w) = x6 at *
  simp only [cond_iff, InK64]
  repeat' (first | exact end_b rfl | apply And.intro | intro _)
  all_goals first | exact end_b rfl | omega | trivial
end Go.Proofs.Ytfjilbjofaommaa
