/-
  Columns of fluids, and their pressures.
-/
import Derived.Test.YtfjilbjofaommaaMi
import Derived.Test.YtfjilbjofaommaaMx
import Derived.Test.YtfjilbjofaommaaPr
set_option linter.unusedSimpArgs false
set_option linter.unusedVariables false
set_option maxRecDepth 100000
namespace Go.Proofs.Ytfjilbjofaommaa
open Go Go.Rx

noncomputable abbrev fsp : Fs where
  i := fun n ls xs => match n, ls, xs with | 1, [l], [] => holeE l | 2, [l], [] => holeV l | 3, [l], [x] => if rightB l = true then valLo l x else 0 | 4, [l], [x] => if rightB l = true then valHi l x else 0 | 5, [c], [] => cI c | 6, [h, c], [] => colE h c | 7, [c], [] => slN c c.length | 8, [h, c], [] => holeV h - slN c c.length | 9, [h, c], [top, u] => prE h c top u | 10, [h, c], [top, u] => prLo h c top u | 11, [h, c], [top, u] => prHi h c top u | 12, [h, c], [top, u] => pLoI h c top (kU c u) | 13, [h, c], [top, u] => pHiI h c top (kU c u) | 14, [c], [u] => kU c u | 15, [c], [u] => Ll.get c (kU c u) 0 | 16, [c], [u] => eU c u | 17, [h, c], [top] => pLoI h c top (c.length - 1) | 18, [h, c], [top] => pHiI h c top (c.length - 1) | 19, [c], [i] => Ll.get c i 0 | 20, [c], [] => c.length - 1 | _, _, _ => 0
  b := fun n ls xs => match n, ls, xs with | 60, [h, H], [] => decide (H = hgtP h h.length) | _, _, _ => false
  l := fun n ls xs => match n, ls, xs with | 50, [l], [] => hgtL l | _, _, _ => []
  rng := rngAt Try.prog
abbrev kchkS {A : Go.Rx.Alg} : List (Go.Rx.SV A) → Go.Rx.SH A → Nat → Go.Rx.KS A → A.R := fun args_ M_ snx_ K_ => match args_ with
  | [.agg [x_l]] => (match Go.Rx.lsArg M_ [.int .i64, .int .i64, .int .i64, .int .i64] x_l with | some (l, n_l) => (A.need .eql n_l (A.len l) (K_ (.i .i64 (A.app 1 [l] [])) M_ snx_ [])) | none => A.fail "kchk")
  | _ => A.fail "kchk"
theorem kchkS_ok {ov : Bool} {d : Nat} (hd : 1000 ≤ d) : SpecOK (fs := fsp) (ov := ov) Try.prog AW d 38 kchkS := by
  intro m_ hm_ args_ M_ snx_ K_ h_ ν_ largs_ H_ nx_ ha_ hM_
  unfold kchkS at h_
  split at h_
  · rename_i x_l
    obtain ⟨y1, r1, rfl, ⟨l1, rfl, ⟨v_l, r2, rfl, hx_l, rfl⟩⟩, rfl⟩ := ha_
    split at h_
    · rename_i l n_l q_l
      obtain ⟨e_l, h_⟩ := h_
      exact pure_got (chk_pure (by omega) (lsArg_ok hM_ hx_l q_l e_l)) hM_ (v := .i .i64 _) rfl h_
    · exact h_.elim
  · exact h_.elim
abbrev kvolS {A : Go.Rx.Alg} : List (Go.Rx.SV A) → Go.Rx.SH A → Nat → Go.Rx.KS A → A.R := fun args_ M_ snx_ K_ => match args_ with
  | [.agg [x_l]] => (match Go.Rx.lsArg M_ [.int .i64, .int .i64, .int .i64, .int .i64] x_l with | some (l, n_l) => (A.need .eql n_l (A.len l) (K_ (.i .i64 (A.app 2 [l] [])) M_ snx_ [])) | none => A.fail "kvol")
  | _ => A.fail "kvol"
theorem kvolS_ok {ov : Bool} {d : Nat} (hd : 1000 ≤ d) : SpecOK (fs := fsp) (ov := ov) Try.prog AW d 20 kvolS := by
  intro m_ hm_ args_ M_ snx_ K_ h_ ν_ largs_ H_ nx_ ha_ hM_
  unfold kvolS at h_
  split at h_
  · rename_i x_l
    obtain ⟨y1, r1, rfl, ⟨l1, rfl, ⟨v_l, r2, rfl, hx_l, rfl⟩⟩, rfl⟩ := ha_
    split at h_
    · rename_i l n_l q_l
      obtain ⟨e_l, h_⟩ := h_
      exact pure_got (vol_pure (by omega) (lsArg_ok hM_ hx_l q_l e_l)) hM_ (v := .i .i64 _) rfl h_
    · exact h_.elim
  · exact h_.elim
abbrev krchkS {A : Go.Rx.Alg} : List (Go.Rx.SV A) → Go.Rx.SH A → Nat → Go.Rx.KS A → A.R := fun args_ M_ snx_ K_ => match args_ with
  | [.agg [x_l]] => (match Go.Rx.lsArg M_ [.int .i64, .int .i64, .int .i64, .int .i64] x_l with | some (l, n_l) => (A.need .eql n_l (A.len l) (K_ (.i .i64 (A.app 1 [l] [])) M_ snx_ [])) | none => A.fail "krchk")
  | _ => A.fail "krchk"
theorem krchkS_ok {ov : Bool} {d : Nat} (hd : 1000 ≤ d) : SpecOK (fs := fsp) (ov := ov) Try.prog AW d 49 krchkS := by
  intro m_ hm_ args_ M_ snx_ K_ h_ ν_ largs_ H_ nx_ ha_ hM_
  unfold krchkS at h_
  split at h_
  · rename_i x_l
    obtain ⟨y1, r1, rfl, ⟨l1, rfl, ⟨v_l, r2, rfl, hx_l, rfl⟩⟩, rfl⟩ := ha_
    split at h_
    · rename_i l n_l q_l
      obtain ⟨e_l, h_⟩ := h_
      exact pure_got (rchk_pure (by omega) (lsArg_ok hM_ hx_l q_l e_l)) hM_ (v := .i .i64 _) rfl h_
    · exact h_.elim
  · exact h_.elim
abbrev krvolS {A : Go.Rx.Alg} : List (Go.Rx.SV A) → Go.Rx.SH A → Nat → Go.Rx.KS A → A.R := fun args_ M_ snx_ K_ => match args_ with
  | [.agg [x_l]] => (match Go.Rx.lsArg M_ [.int .i64, .int .i64, .int .i64, .int .i64] x_l with | some (l, n_l) => (A.need .eql n_l (A.len l) (K_ (.i .i64 (A.app 2 [l] [])) M_ snx_ [])) | none => A.fail "krvol")
  | _ => A.fail "krvol"
theorem krvolS_ok {ov : Bool} {d : Nat} (hd : 1000 ≤ d) : SpecOK (fs := fsp) (ov := ov) Try.prog AW d 28 krvolS := by
  intro m_ hm_ args_ M_ snx_ K_ h_ ν_ largs_ H_ nx_ ha_ hM_
  unfold krvolS at h_
  split at h_
  · rename_i x_l
    obtain ⟨y1, r1, rfl, ⟨l1, rfl, ⟨v_l, r2, rfl, hx_l, rfl⟩⟩, rfl⟩ := ha_
    split at h_
    · rename_i l n_l q_l
      obtain ⟨e_l, h_⟩ := h_
      exact pure_got (rvol_pure (by omega) (lsArg_ok hM_ hx_l q_l e_l)) hM_ (v := .i .i64 _) rfl h_
    · exact h_.elim
  · exact h_.elim
abbrev khgtS {A : Go.Rx.Alg} : List (Go.Rx.SV A) → Go.Rx.SH A → Nat → Go.Rx.KS A → A.R := fun args_ M_ snx_ K_ => match args_ with
  | [.agg [x_l]] => (match Go.Rx.lsArg M_ [.int .i64, .int .i64, .int .i64, .int .i64] x_l with | some (l, n_l) => (A.need .eql n_l (A.len l) ((M_.set snx_ (some (.list 82 [.int .i64, .int .i64] true (A.appL 50 [l] [])))).force fun M_ => K_ (.agg [.ls true snx_ (A.len (A.appL 50 [l] []))]) M_ (snx_ + 1) [])) | none => A.fail "khgt")
  | _ => A.fail "khgt"
theorem khgtS_ok {ov : Bool} {d : Nat} (hd : 1000 ≤ d) : SpecOK (fs := fsp) (ov := ov) Try.prog AW d 29 khgtS := by
  intro m_ hm_ args_ M_ snx_ K_ h_ ν_ largs_ H_ nx_ ha_ hM_
  unfold khgtS at h_
  split at h_
  · rename_i x_l
    obtain ⟨y1, r1, rfl, ⟨l1, rfl, ⟨v_l, r2, rfl, hx_l, rfl⟩⟩, rfl⟩ := ha_
    split at h_
    · rename_i l n_l q_l
      obtain ⟨e_l, h_⟩ := h_
      exact gives_got (height_gives (by omega) (lsArg_ok hM_ hx_l q_l e_l)) hM_ h_
    · exact h_.elim
  · exact h_.elim
abbrev katS {A : Go.Rx.Alg} : List (Go.Rx.SV A) → Go.Rx.SH A → Nat → Go.Rx.KS A → A.R := fun args_ M_ snx_ K_ => match args_ with
  | [.agg [x_l], .i .i64 x] => (match Go.Rx.lsArg M_ [.int .i64, .int .i64] x_l with | some (l, n_l) => (A.need .eql n_l (A.len l) (K_ (.agg [.i .i64 (A.app 3 [l] [x]), .i .i64 (A.app 4 [l] [x])]) M_ snx_ [])) | none => A.fail "kat")
  | _ => A.fail "kat"
theorem katS_ok {ov : Bool} {d : Nat} (hd : 1000 ≤ d) : SpecOK (fs := fsp) (ov := ov) Try.prog AW d 31 katS := by
  intro m_ hm_ args_ M_ snx_ K_ h_ ν_ largs_ H_ nx_ ha_ hM_
  unfold katS at h_
  split at h_
  · rename_i x_l x
    obtain ⟨y1, r1, rfl, ⟨l1, rfl, ⟨v_l, r2, rfl, hx_l, rfl⟩⟩, ⟨y3, r3, rfl, rfl, rfl⟩⟩ := ha_
    split at h_
    · rename_i l n_l q_l
      obtain ⟨e_l, h_⟩ := h_
      exact pure_got (at_pure (by omega) x (lsArg_ok hM_ hx_l q_l e_l)) hM_ (v := .agg [.i .i64 _, .i .i64 _]) ⟨_, rfl, (VSL.cons rfl (VSL.cons rfl rfl))⟩ h_
    · exact h_.elim
  · exact h_.elim
abbrev spP1 {A : Go.Rx.Alg} : Go.Rx.SpL A := [(AW, Go.Rx.awakeS), (38, kchkS), (20, kvolS), (49, krchkS), (28, krvolS)]
theorem spP1_ok {ov : Bool} {d : Nat} (hd : 1000 ≤ d) : SpOK (fs := fsp) (ov := ov) Try.prog AW d spP1 := SpOK.cons awake_ok (SpOK.cons (kchkS_ok (by omega)) (SpOK.cons (kvolS_ok (by omega)) (SpOK.cons (krchkS_ok (by omega)) (SpOK.cons (krvolS_ok (by omega)) SpOK.nil))))
theorem spP1_aw {fs : Fs} {ov : Bool} : (spOf (A := stdA fs ov) spP1 AW).isSome = true := rfl
theorem cca_eq (i : Int) (c : Ll) (T : Al (SV (stdA fsp true))) (M : Al (SO (stdA fsp true))) (KK : Ex → List (SV (stdA fsp true)) → List (SO (stdA fsp true)) → List Ll → Prop) : sCode Try.prog (sCall Try.prog 30 (spOf sp0) noLoop 20) ⟨18, false, noLoop 18⟩ 30 (false :: [false, true, false, true, true, true, true]) (bodyAt Try.prog 18 [false, true, false, true, true, true, true]) (hdL (bodyAt Try.prog 18 [false, true, false, true, true, true, true]) T M 57 3 [(22, .ls false 1 (Ll.len c)), (23, .i .i64 (Ll.len c))] [(1, .list 0 [.int .i64, .int .i64] false c)] [(24, .i .i64 i)] [] [] [] []) (outL 3 (tsOf [24] [4]) [] [] [] KK) =
  (cond (decide (i < (Ll.len c)))
 ((0 : Int) ≤ i ∧ (i < (Ll.len c) ∧ (i < (Ll.len c) ∧ (cond (decide ((Ll.get c i 0) ≥ (0 : Int)))
 (cond (!(decide ((Ll.get c i 0) ≤ (40000 : Int))))
 (KK .ret [(.i .i64 (2 : Int))] [] [])
 (cond (decide ((Ll.get c i 1) < (1 : Int)))
 (KK .ret [(.i .i64 (2 : Int))] [] [])
 (InK .i64 (i + (1 : Int)) ∧ (KK .normal [(.i .i64 (i + (1 : Int)))] [] []))))
 (KK .ret [(.i .i64 (2 : Int))] [] [])))))
 (KK (.exit 0) [(.i .i64 i)] [] [])) := by kernel_rfl
theorem cca_go (c : Ll) (i : Int) (i_0 : Int) (r1 : i_0 = (0 : Int)) (T : Al (SV (stdA fsp true))) (M : Al (SO (stdA fsp true))) (KK : Ex → List (SV (stdA fsp true)) → List (SO (stdA fsp true)) → List Ll → Prop) (p1 : (Ll.len c) ≤ (24 : Int)) (hI : 0 ≤ i ∧ i ≤ cI c) (hn : ∀ (i' : Int), 0 ≤ i' ∧ i' ≤ cI c → (30 - i').toNat < (30 - i).toNat → KK .normal [.i .i64 i'] [] []) (hx1 : (cI c) < (Ll.len c) → KK .ret [.i .i64 (2 : Int)] [] []) (hx2 : ¬ ((cI c) < (Ll.len c)) → KK (.exit 0) [.i .i64 (Ll.len c)] [] []) :
    sCode Try.prog (sCall Try.prog 30 (spOf sp0) noLoop 20) ⟨18, false, noLoop 18⟩ 30 (false :: [false, true, false, true, true, true, true]) (bodyAt Try.prog 18 [false, true, false, true, true, true, true]) (hdL (bodyAt Try.prog 18 [false, true, false, true, true, true, true]) T M 57 3 [(22, .ls false 1 (Ll.len c)), (23, .i .i64 (Ll.len c))] [(1, .list 0 [.int .i64, .int .i64] false c)] [(24, .i .i64 i)] [] [] [] []) (outL 3 (tsOf [24] [4]) [] [] [] KK) := by
  refine Eq.mpr (cca_eq i c T M KK) ?_
  simp only [cond_not, cond_iff, InK64]
  have hl : Ll.len c = (c.length : Int) := rfl
  obtain ⟨i0, i1⟩ := hI
  obtain ⟨b0, b1, b2⟩ := cI_spec c
  by_cases h : i < Ll.len c
  · have hs := leastN_step (p := cBad c) (k := c.length) i0 i1 (by omega)
    have R : cBad c i = true → KK .ret [.i .i64 (2 : Int)] [] [] := fun h2 => hx1 (by have : cI c = i := hs.1 h2; show cI c < Ll.len c; omega)
    have hN : cBad c i = false → KK .normal [.i .i64 (i + 1)] [] [] := fun hb => hn (i + 1) ⟨by omega, hs.2 hb⟩ (by omega)
    repeat' (first | apply And.intro | intro _)
    all_goals first
      | trivial
      | omega
      | (refine R ?_; unfold cBad; rw [decide_eq_true_iff]; simp only [Bool.not_eq_true', decide_eq_false_iff_not, Bool.and_eq_false_iff] at *; omega)
      | (refine hN ?_; unfold cBad; rw [decide_eq_false_iff_not]; simp only [Bool.not_eq_false', decide_eq_true_eq, Bool.and_eq_true] at *; omega)
  · obtain rfl : i = c.length := by omega
    have hX := hx2 (show ¬ cI c < Ll.len c by omega)
    repeat' (first | apply And.intro | intro _)
    all_goals first | exact hX | omega | trivial
abbrev ccaF {A : Go.Rx.Alg} : Code → Go.Rx.SS A → (Go.Rx.Ex → Go.Rx.SS A → A.R) → A.R := fun c_ s_ K_ => match s_.T.get 22, s_.T.get 23, s_.H.get 1, s_.T.get 24 with
  | some (.ls false 1 m1), some (.i .i64 m2), some (.list t3 k3 false c), some (.i .i64 i) => bif (((Nat.beq s_.N 57 && Nat.beq s_.nx 3) && Nat.beq t3 0) && decide (k3 = [.int .i64, .int .i64])) then (A.need .eql m1 (A.len c) (A.need .eql m2 (A.len c) (A.need .eql i (A.lit 0) (A.need .leq (A.len c) (A.lit 24) ((A.br (A.cmp .lss (A.app 5 [c] []) (A.len c)) (fun _ => K_ .ret (Go.Rx.hdL c_ s_.T (Go.Rx.kills [] s_.H) 57 3 [(22, .ls false 1 (A.len c)), (23, .i .i64 (A.len c))] [(1, .list 0 [.int .i64, .int .i64] false c)] [(4, .i .i64 (A.lit 2))] [] [] [] (Go.Rx.addW ([] ++ []) s_.wr))) (fun _ => K_ (.exit 0) (Go.Rx.hdL c_ s_.T (Go.Rx.kills [] s_.H) 57 3 [(22, .ls false 1 (A.len c)), (23, .i .i64 (A.len c))] [(1, .list 0 [.int .i64, .int .i64] false c)] [(24, .i .i64 (A.len c))] [] [] [] (Go.Rx.addW ([] ++ []) s_.wr))))))))) else A.fail "frame of cca"
  | _, _, _, _ => A.fail "cca"
theorem ccaF_ok {d : Nat} (hd : 100 ≤ d) : LoopOK (fs := fsp) (ov := true) Try.prog AW d 18 [false, true, false, true, true, true, true] false ccaF := by
  intro m_ hm_ fn_ c0_ hfn_ hb_ c_ ro_ hro_ hc_ s_ K_ W_ ν_ S_ h_ hs_
  obtain rfl := body_of hfn_ hb_ hc_
  unfold ccaF at h_
  split at h_
  · rename_i m1_0 m2_0 t3 k3 c_0 i_0_0 g0 g1 g2 g3
    obtain ⟨m1, rfl⟩ : ∃ q : Int, q = m1_0 := ⟨m1_0, rfl⟩
    obtain ⟨m2, rfl⟩ : ∃ q : Int, q = m2_0 := ⟨m2_0, rfl⟩
    obtain ⟨c, rfl⟩ : ∃ q : Ll, q = c_0 := ⟨c_0, rfl⟩
    obtain ⟨i_0, rfl⟩ : ∃ q : Int, q = i_0_0 := ⟨i_0_0, rfl⟩
    obtain ⟨T_, FN_, M_, snx_, wr_⟩ := s_
    have hN : (((Nat.beq FN_ 57 && Nat.beq snx_ 3) && Nat.beq t3 0) && decide (k3 = [.int .i64, .int .i64])) = true := by
      cases hq : ((((Nat.beq FN_ 57 && Nat.beq snx_ 3) && Nat.beq t3 0) && decide (k3 = [.int .i64, .int .i64])) : Bool) with
      | true => rfl
      | false => (rw [hq] at h_; exact h_.elim)
    rw [hN, cond_true] at h_
    simp only [Bool.and_eq_true, beq_iff, decide_eq_true_eq] at hN
    obtain ⟨⟨⟨rfl, rfl⟩, rfl⟩, rfl⟩ := hN
    obtain ⟨q0, h_⟩ := h_
    obtain rfl : m1 = (Ll.len c) := q0
    obtain ⟨q0, h_⟩ := h_
    obtain rfl : m2 = (Ll.len c) := q0
    obtain ⟨q1, h_⟩ := h_
    have q1 : i_0 = (0 : Int) := q1
    obtain ⟨q2, h_⟩ := h_
    have q2 : (Ll.len c) ≤ (24 : Int) := q2
    replace h_ : cond (decide ((cI c) < (Ll.len c))) (K_ .ret (hdL (bodyAt Try.prog 18 [false, true, false, true, true, true, true]) T_ (kills [] M_) 57 3 [(22, .ls false 1 (Ll.len c)), (23, .i .i64 (Ll.len c))] [(1, .list 0 [.int .i64, .int .i64] false c)] [(4, .i .i64 (2 : Int))] [] [] [] (addW ([] ++ []) wr_))) (K_ (.exit 0) (hdL (bodyAt Try.prog 18 [false, true, false, true, true, true, true]) T_ (kills [] M_) 57 3 [(22, .ls false 1 (Ll.len c)), (23, .i .i64 (Ll.len c))] [(1, .list 0 [.int .i64, .int .i64] false c)] [(24, .i .i64 (Ll.len c))] [] [] [] (addW ([] ++ []) wr_))) := h_
    have hx1 : (cI c) < (Ll.len c) → K_ .ret (hdL (bodyAt Try.prog 18 [false, true, false, true, true, true, true]) T_ (kills [] M_) 57 3 [(22, .ls false 1 (Ll.len c)), (23, .i .i64 (Ll.len c))] [(1, .list 0 [.int .i64, .int .i64] false c)] [(4, .i .i64 (2 : Int))] [] [] [] (addW ([] ++ []) wr_)) := fun e1 => by
      have h2 := h_
      rw [decide_eq_true e1] at h2; simp only [cond_true, cond_false] at h2; exact h2
    have hx2 : ¬ ((cI c) < (Ll.len c)) → K_ (.exit 0) (hdL (bodyAt Try.prog 18 [false, true, false, true, true, true, true]) T_ (kills [] M_) 57 3 [(22, .ls false 1 (Ll.len c)), (23, .i .i64 (Ll.len c))] [(1, .list 0 [.int .i64, .int .i64] false c)] [(24, .i .i64 (Ll.len c))] [] [] [] (addW ([] ++ []) wr_)) := fun e1 => by
      have h2 := h_
      rw [decide_eq_false e1] at h2; simp only [cond_true, cond_false] at h2; exact h2
    refine loop_ruleL (fs := fsp) (ov := true) (s := ⟨T_, 57, M_, 3, wr_⟩) (X := Int) (B := []) (mv := []) (kt := [(22, .ls false 1 (Ll.len c)), (23, .i .i64 (Ll.len c))]) (kr := [(1, .list 0 [.int .i64, .int .i64] false c)]) (ty := []) (x := (i_0))
      (Inv := (fun x_ : Int => match x_ with | (i) => 0 ≤ i ∧ i ≤ cI c)) (μ := (fun x_ : Int => match x_ with | (i) => (30 - i).toNat)) (ts := tsOf [24] [4]) (sl := (fun x_ : Int => match x_ with | (i) => [.i .i64 i])) (bl := (fun x_ : Int => match x_ with | (i) => [])) (ll := (fun x_ : Int => match x_ with | (i) => [])) (Q := fun e_ vs_ os_ hs_ => K_ e_ (hdL (bodyAt Try.prog 18 [false, true, false, true, true, true, true]) T_ (kills [] M_) 57 3 [(22, .ls false 1 (Ll.len c)), (23, .i .i64 (Ll.len c))] [(1, .list 0 [.int .i64, .int .i64] false c)] (((tsOf [24] [4]) e_).zip vs_) ([].zip os_) [] hs_ (addW ([] ++ []) wr_)))
      (L := LL) (U := 30) (cs := sCall Try.prog 30 (spOf sp0) noLoop 20) (call := CN Try.prog AW m_) (lp := ⟨18, false, noLoop 18⟩) (root := c0_) (p := [false, true, false, true, true, true, true])
      (show CallSOK _ _ from by
        have := sCall_ok (P := Try.prog) (d := m_ - 20) (U := 30) (lp := noLoop) (sp0_ok (fs := fsp) (ov := true) (d := m_ - 20)) (sp0_aw (fs := fsp) (ov := true)) (noLoop_ok) (by decide) rfl 20
        rwa [show 20 + (m_ - 20) = m_ by omega] at this) (ctx_of (g := 18) (rg := false) (at_ := noLoop 18) (fun p rg f h => by cases h) hfn_ hb_ hro_) (by decide) hc_
      (fun x o ho => by cases ho)
      (fun x hx => by cases hx) (fun x hx => by cases hx) (fun x hx => by cases hx)
      (fun x hx => by
        simp only [List.mem_cons, List.not_mem_nil, or_false] at hx
        rcases hx with rfl | rfl
        · exact g0
        · exact g1) (fun x hx => by
        simp only [List.mem_cons, List.not_mem_nil, or_false] at hx
        rcases hx with rfl
        · exact ⟨g2, by simp⟩) ?_ (fun _ _ _ _ _ h => h) ?_ ?_ ?_ hs_
    · rintro i hI
      exact cca_go c i i_0 q1 T_ (kills [] M_) _ q2 hI (fun i' ha hb => ⟨(i'), ha, hb, rfl, rfl, rfl⟩) (fun e1 => ⟨by simp [SO.mine], hx1 e1⟩) (fun e1 => ⟨by simp [SO.mine], hx2 e1⟩)
    · show 0 ≤ i_0 ∧ i_0 ≤ cI c
      exact ⟨by omega, by have := (cI_spec c).1; omega⟩
    · show (30 - i_0).toNat < LL
      exact Nat.lt_of_le_of_lt (show _ ≤ 1000 by omega) (by decide)
    · exact ⟨⟨[.i .i64 i_0], [], [], [], by simp [gets, tsOf, g0, g1, g2, g3], by simp [gets, g0, g1, g2, g3], rfl, rfl, by simp [listsOf] <;> rfl⟩⟩
  · exact h_.elim
theorem ccb_eq (i r : Int) (h c : Ll) (T : Al (SV (stdA fsp true))) (M : Al (SO (stdA fsp true))) (KK : Ex → List (SV (stdA fsp true)) → List (SO (stdA fsp true)) → List Ll → Prop) : sCode Try.prog (sCall Try.prog 30 (spOf sp0) noLoop 20) ⟨18, false, noLoop 18⟩ 30 (false :: [false, true, false, true, true, true, true, true, true]) (bodyAt Try.prog 18 [false, true, false, true, true, true, true, true, true]) (hdL (bodyAt Try.prog 18 [false, true, false, true, true, true, true, true, true]) T M 57 3 [(40, .ls false 1 (Ll.len c)), (41, .i .i64 (Ll.len c))] [(0, .list 0 [.int .i64, .int .i64, .int .i64, .int .i64] false h), (1, .list 0 [.int .i64, .int .i64] false c)] [(42, .i .i64 i), (8, .i .i64 r)] [] [] [] []) (outL 3 (tsOf [42, 8] [4]) [] [] [] KK) =
  (cond (decide (i < (Ll.len c)))
 ((0 : Int) ≤ i ∧ (i < (Ll.len c) ∧ (i < (Ll.len c) ∧ (cond (decide ((Ll.get c i 1) > r))
 (KK .ret [(.i .i64 (5 : Int))] [] [])
 (InK .i64 (r - (Ll.get c i 1)) ∧ (InK .i64 (i + (1 : Int)) ∧ (KK .normal [(.i .i64 (i + (1 : Int))), (.i .i64 (r - (Ll.get c i 1)))] [] [])))))))
 (KK (.exit 2) [(.i .i64 i), (.i .i64 r)] [] [])) := by kernel_rfl
theorem ccb_go (h : Ll) (c : Ll) (i : Int) (r : Int) (i_0 : Int) (r_0 : Int) (r1 : i_0 = (0 : Int)) (r2 : r_0 = (holeV h)) (T : Al (SV (stdA fsp true))) (M : Al (SO (stdA fsp true))) (KK : Ex → List (SV (stdA fsp true)) → List (SO (stdA fsp true)) → List Ll → Prop) (p1 : (Ll.len c) ≤ (24 : Int)) (p2 : (Ll.len c) ≤ (cI c)) (p3 : (holeE h) = (0 : Int)) (hI : 0 ≤ i ∧ i ≤ c.length ∧ r = holeV h - slN c i.toNat ∧ 0 ≤ r) (hn : ∀ (i' : Int) (r' : Int), 0 ≤ i' ∧ i' ≤ c.length ∧ r' = holeV h - slN c i'.toNat ∧ 0 ≤ r' → (30 - i').toNat < (30 - i).toNat → KK .normal [.i .i64 i', .i .i64 r'] [] []) (hx1 : (holeV h) < (slN c c.length) → KK .ret [.i .i64 (5 : Int)] [] []) (hx2 : ¬ ((holeV h) < (slN c c.length)) → KK (.exit 2) [.i .i64 (Ll.len c), .i .i64 (holeV h - slN c c.length)] [] []) :
    sCode Try.prog (sCall Try.prog 30 (spOf sp0) noLoop 20) ⟨18, false, noLoop 18⟩ 30 (false :: [false, true, false, true, true, true, true, true, true]) (bodyAt Try.prog 18 [false, true, false, true, true, true, true, true, true]) (hdL (bodyAt Try.prog 18 [false, true, false, true, true, true, true, true, true]) T M 57 3 [(40, .ls false 1 (Ll.len c)), (41, .i .i64 (Ll.len c))] [(0, .list 0 [.int .i64, .int .i64, .int .i64, .int .i64] false h), (1, .list 0 [.int .i64, .int .i64] false c)] [(42, .i .i64 i), (8, .i .i64 r)] [] [] [] []) (outL 3 (tsOf [42, 8] [4]) [] [] [] KK) := by
  refine Eq.mpr (ccb_eq i r h c T M KK) ?_
  simp only [cond_iff, InK64]
  have hl : Ll.len c = (c.length : Int) := rfl
  have p2 : Ll.len c ≤ cI c := p2
  obtain ⟨i0, i1, rfl, i3⟩ := hI
  have hg : CGood c c.length := cgood_of (by omega)
  have p0 : HoleOK h := hole_of p3
  have hv := p0.b (n := h.length) (Nat.le_refl _)
  have eV : holeV h = volN h h.length := by unfold holeV; rw [if_pos p3]
  by_cases hi : i < Ll.len c
  · have hc := cBad_no (hg i.toNat (by omega))
    rw [Int.toNat_of_nonneg i0] at hc
    have e := slN_succ (c := c) i0
    have h3 := slN_mono hg (k := (i + 1).toNat) (by omega)
    have h4 := slN_b (fun j hj => hg j (by omega) : CGood c i.toNat)
    have N : ¬ Ll.get c i 1 > holeV h - slN c i.toNat → KK .normal [.i .i64 (i + 1), .i .i64 (holeV h - slN c i.toNat - Ll.get c i 1)] [] [] := fun hb => hn (i + 1) (holeV h - slN c i.toNat - Ll.get c i 1) ⟨by omega, by omega, by omega, by omega⟩ (by omega)
    have R : Ll.get c i 1 > holeV h - slN c i.toNat → KK .ret [.i .i64 (5 : Int)] [] [] := fun hb => hx1 (show holeV h < slN c c.length by omega)
    repeat' (first | apply And.intro | intro _)
    all_goals first
      | exact R (by assumption)
      | exact N (by assumption)
      | omega
      | trivial
  · obtain rfl : i = c.length := by omega
    rw [Int.toNat_natCast] at *
    have hX := hx2 (show ¬ (holeV h < slN c c.length) by omega)
    repeat' (first | apply And.intro | intro _)
    all_goals first | exact hX | omega | trivial
abbrev ccbF {A : Go.Rx.Alg} : Code → Go.Rx.SS A → (Go.Rx.Ex → Go.Rx.SS A → A.R) → A.R := fun c_ s_ K_ => match s_.T.get 40, s_.T.get 41, s_.H.get 0, s_.H.get 1, s_.T.get 42, s_.T.get 8 with
  | some (.ls false 1 m1), some (.i .i64 m2), some (.list t3 k3 false h), some (.list t4 k4 false c), some (.i .i64 i), some (.i .i64 r) => bif (((((Nat.beq s_.N 57 && Nat.beq s_.nx 3) && Nat.beq t3 0) && decide (k3 = [.int .i64, .int .i64, .int .i64, .int .i64])) && Nat.beq t4 0) && decide (k4 = [.int .i64, .int .i64])) then (A.need .eql m1 (A.len c) (A.need .eql m2 (A.len c) (A.need .eql i (A.lit 0) (A.need .eql r (A.app 2 [h] []) (A.need .leq (A.len c) (A.lit 24) (A.need .leq (A.len c) (A.app 5 [c] []) (A.need .eql (A.app 1 [h] []) (A.lit 0) ((A.br (A.cmp .lss (A.app 2 [h] []) (A.app 7 [c] [])) (fun _ => K_ .ret (Go.Rx.hdL c_ s_.T (Go.Rx.kills [] s_.H) 57 3 [(40, .ls false 1 (A.len c)), (41, .i .i64 (A.len c))] [(0, .list 0 [.int .i64, .int .i64, .int .i64, .int .i64] false h), (1, .list 0 [.int .i64, .int .i64] false c)] [(4, .i .i64 (A.lit 5))] [] [] [] (Go.Rx.addW ([] ++ []) s_.wr))) (fun _ => K_ (.exit 2) (Go.Rx.hdL c_ s_.T (Go.Rx.kills [] s_.H) 57 3 [(40, .ls false 1 (A.len c)), (41, .i .i64 (A.len c))] [(0, .list 0 [.int .i64, .int .i64, .int .i64, .int .i64] false h), (1, .list 0 [.int .i64, .int .i64] false c)] [(42, .i .i64 (A.len c)), (8, .i .i64 (A.app 8 [h, c] []))] [] [] [] (Go.Rx.addW ([] ++ []) s_.wr)))))))))))) else A.fail "frame of ccb"
  | _, _, _, _, _, _ => A.fail "ccb"
theorem ccbF_ok {d : Nat} (hd : 100 ≤ d) : LoopOK (fs := fsp) (ov := true) Try.prog AW d 18 [false, true, false, true, true, true, true, true, true] false ccbF := by
  intro m_ hm_ fn_ c0_ hfn_ hb_ c_ ro_ hro_ hc_ s_ K_ W_ ν_ S_ h_ hs_
  obtain rfl := body_of hfn_ hb_ hc_
  unfold ccbF at h_
  split at h_
  · rename_i m1_0 m2_0 t3 k3 h_0 t4 k4 c_0 i_0_0 r_0_0 g0 g1 g2 g3 g4 g5
    obtain ⟨m1, rfl⟩ : ∃ q : Int, q = m1_0 := ⟨m1_0, rfl⟩
    obtain ⟨m2, rfl⟩ : ∃ q : Int, q = m2_0 := ⟨m2_0, rfl⟩
    obtain ⟨h, rfl⟩ : ∃ q : Ll, q = h_0 := ⟨h_0, rfl⟩
    obtain ⟨c, rfl⟩ : ∃ q : Ll, q = c_0 := ⟨c_0, rfl⟩
    obtain ⟨i_0, rfl⟩ : ∃ q : Int, q = i_0_0 := ⟨i_0_0, rfl⟩
    obtain ⟨r_0, rfl⟩ : ∃ q : Int, q = r_0_0 := ⟨r_0_0, rfl⟩
    obtain ⟨T_, FN_, M_, snx_, wr_⟩ := s_
    have hN : (((((Nat.beq FN_ 57 && Nat.beq snx_ 3) && Nat.beq t3 0) && decide (k3 = [.int .i64, .int .i64, .int .i64, .int .i64])) && Nat.beq t4 0) && decide (k4 = [.int .i64, .int .i64])) = true := by
      cases hq : ((((((Nat.beq FN_ 57 && Nat.beq snx_ 3) && Nat.beq t3 0) && decide (k3 = [.int .i64, .int .i64, .int .i64, .int .i64])) && Nat.beq t4 0) && decide (k4 = [.int .i64, .int .i64])) : Bool) with
      | true => rfl
      | false => (rw [hq] at h_; exact h_.elim)
    rw [hN, cond_true] at h_
    simp only [Bool.and_eq_true, beq_iff, decide_eq_true_eq] at hN
    obtain ⟨⟨⟨⟨⟨rfl, rfl⟩, rfl⟩, rfl⟩, rfl⟩, rfl⟩ := hN
    obtain ⟨q0, h_⟩ := h_
    obtain rfl : m1 = (Ll.len c) := q0
    obtain ⟨q0, h_⟩ := h_
    obtain rfl : m2 = (Ll.len c) := q0
    obtain ⟨q1, h_⟩ := h_
    have q1 : i_0 = (0 : Int) := q1
    obtain ⟨q2, h_⟩ := h_
    have q2 : r_0 = (holeV h) := q2
    obtain ⟨q3, h_⟩ := h_
    have q3 : (Ll.len c) ≤ (24 : Int) := q3
    obtain ⟨q4, h_⟩ := h_
    have q4 : (Ll.len c) ≤ (cI c) := q4
    obtain ⟨q5, h_⟩ := h_
    have q5 : (holeE h) = (0 : Int) := q5
    replace h_ : cond (decide ((holeV h) < (slN c c.length))) (K_ .ret (hdL (bodyAt Try.prog 18 [false, true, false, true, true, true, true, true, true]) T_ (kills [] M_) 57 3 [(40, .ls false 1 (Ll.len c)), (41, .i .i64 (Ll.len c))] [(0, .list 0 [.int .i64, .int .i64, .int .i64, .int .i64] false h), (1, .list 0 [.int .i64, .int .i64] false c)] [(4, .i .i64 (5 : Int))] [] [] [] (addW ([] ++ []) wr_))) (K_ (.exit 2) (hdL (bodyAt Try.prog 18 [false, true, false, true, true, true, true, true, true]) T_ (kills [] M_) 57 3 [(40, .ls false 1 (Ll.len c)), (41, .i .i64 (Ll.len c))] [(0, .list 0 [.int .i64, .int .i64, .int .i64, .int .i64] false h), (1, .list 0 [.int .i64, .int .i64] false c)] [(42, .i .i64 (Ll.len c)), (8, .i .i64 (holeV h - slN c c.length))] [] [] [] (addW ([] ++ []) wr_))) := h_
    have hx1 : (holeV h) < (slN c c.length) → K_ .ret (hdL (bodyAt Try.prog 18 [false, true, false, true, true, true, true, true, true]) T_ (kills [] M_) 57 3 [(40, .ls false 1 (Ll.len c)), (41, .i .i64 (Ll.len c))] [(0, .list 0 [.int .i64, .int .i64, .int .i64, .int .i64] false h), (1, .list 0 [.int .i64, .int .i64] false c)] [(4, .i .i64 (5 : Int))] [] [] [] (addW ([] ++ []) wr_)) := fun e1 => by
      have h2 := h_
      rw [decide_eq_true e1] at h2; simp only [cond_true, cond_false] at h2; exact h2
    have hx2 : ¬ ((holeV h) < (slN c c.length)) → K_ (.exit 2) (hdL (bodyAt Try.prog 18 [false, true, false, true, true, true, true, true, true]) T_ (kills [] M_) 57 3 [(40, .ls false 1 (Ll.len c)), (41, .i .i64 (Ll.len c))] [(0, .list 0 [.int .i64, .int .i64, .int .i64, .int .i64] false h), (1, .list 0 [.int .i64, .int .i64] false c)] [(42, .i .i64 (Ll.len c)), (8, .i .i64 (holeV h - slN c c.length))] [] [] [] (addW ([] ++ []) wr_)) := fun e1 => by
      have h2 := h_
      rw [decide_eq_false e1] at h2; simp only [cond_true, cond_false] at h2; exact h2
    refine loop_ruleL (fs := fsp) (ov := true) (s := ⟨T_, 57, M_, 3, wr_⟩) (X := Int × Int) (B := []) (mv := []) (kt := [(40, .ls false 1 (Ll.len c)), (41, .i .i64 (Ll.len c))]) (kr := [(0, .list 0 [.int .i64, .int .i64, .int .i64, .int .i64] false h), (1, .list 0 [.int .i64, .int .i64] false c)]) (ty := []) (x := (i_0, r_0))
      (Inv := (fun x_ : Int × Int => match x_ with | (i, r) => 0 ≤ i ∧ i ≤ c.length ∧ r = holeV h - slN c i.toNat ∧ 0 ≤ r)) (μ := (fun x_ : Int × Int => match x_ with | (i, r) => (30 - i).toNat)) (ts := tsOf [42, 8] [4]) (sl := (fun x_ : Int × Int => match x_ with | (i, r) => [.i .i64 i, .i .i64 r])) (bl := (fun x_ : Int × Int => match x_ with | (i, r) => [])) (ll := (fun x_ : Int × Int => match x_ with | (i, r) => [])) (Q := fun e_ vs_ os_ hs_ => K_ e_ (hdL (bodyAt Try.prog 18 [false, true, false, true, true, true, true, true, true]) T_ (kills [] M_) 57 3 [(40, .ls false 1 (Ll.len c)), (41, .i .i64 (Ll.len c))] [(0, .list 0 [.int .i64, .int .i64, .int .i64, .int .i64] false h), (1, .list 0 [.int .i64, .int .i64] false c)] (((tsOf [42, 8] [4]) e_).zip vs_) ([].zip os_) [] hs_ (addW ([] ++ []) wr_)))
      (L := LL) (U := 30) (cs := sCall Try.prog 30 (spOf sp0) noLoop 20) (call := CN Try.prog AW m_) (lp := ⟨18, false, noLoop 18⟩) (root := c0_) (p := [false, true, false, true, true, true, true, true, true])
      (show CallSOK _ _ from by
        have := sCall_ok (P := Try.prog) (d := m_ - 20) (U := 30) (lp := noLoop) (sp0_ok (fs := fsp) (ov := true) (d := m_ - 20)) (sp0_aw (fs := fsp) (ov := true)) (noLoop_ok) (by decide) rfl 20
        rwa [show 20 + (m_ - 20) = m_ by omega] at this) (ctx_of (g := 18) (rg := false) (at_ := noLoop 18) (fun p rg f h => by cases h) hfn_ hb_ hro_) (by decide) hc_
      (fun x o ho => by cases ho)
      (fun x hx => by cases hx) (fun x hx => by cases hx) (fun x hx => by cases hx)
      (fun x hx => by
        simp only [List.mem_cons, List.not_mem_nil, or_false] at hx
        rcases hx with rfl | rfl
        · exact g0
        · exact g1) (fun x hx => by
        simp only [List.mem_cons, List.not_mem_nil, or_false] at hx
        rcases hx with rfl | rfl
        · exact ⟨g2, by simp⟩
        · exact ⟨g3, by simp⟩) ?_ (fun _ _ _ _ _ h => h) ?_ ?_ ?_ hs_
    · rintro ⟨i, r⟩ hI
      exact ccb_go h c i r i_0 r_0 q1 q2 T_ (kills [] M_) _ q3 q4 q5 hI (fun i' r' ha hb => ⟨(i', r'), ha, hb, rfl, rfl, rfl⟩) (fun e1 => ⟨by simp [SO.mine], hx1 e1⟩) (fun e1 => ⟨by simp [SO.mine], hx2 e1⟩)
    · show 0 ≤ i_0 ∧ i_0 ≤ c.length ∧ r_0 = holeV h - slN c i_0.toNat ∧ 0 ≤ r_0
      have p0 : HoleOK h := hole_of q5
      have hv := p0.b (n := h.length) (Nat.le_refl _)
      have eV : holeV h = volN h h.length := by unfold holeV; rw [if_pos q5]
      exact ⟨by omega, by omega, by rw [q2, q1]; simp [slN], by rw [q2, eV]; omega⟩
    · show (30 - i_0).toNat < LL
      exact Nat.lt_of_le_of_lt (show _ ≤ 1000 by omega) (by decide)
    · exact ⟨⟨[.i .i64 i_0, .i .i64 r_0], [], [], [], by simp [gets, tsOf, g0, g1, g2, g3, g4, g5], by simp [gets, g0, g1, g2, g3, g4, g5], rfl, rfl, by simp [listsOf] <;> rfl⟩⟩
  · exact h_.elim
abbrev lpCC {A : Go.Rx.Alg} : Nat → Go.Rx.LoopS A := Go.Rx.lpOf [(18, [false, true, false, true, true, true, true], false, ccaF), (18, [false, true, false, true, true, true, true, true, true], false, ccbF)]
theorem lpCC_ok {d : Nat} (hd : 100 ≤ d) : LoopsAll (fs := fsp) (ov := true) Try.prog AW d lpCC := lpOf_ok fun x hx => by
  simp only [List.mem_cons, List.not_mem_nil, or_false] at hx
  rcases hx with rfl | rfl
  · exact ccaF_ok (by omega)
  · exact ccbF_ok (by omega)
theorem col_eq (h c : Ll) (KK : KS (stdA fsp true)) : sFunc Try.prog 30 (sCall Try.prog 30 (spOf spP1) lpCC 20) lpCC 18 [.agg [.ls false 0 (Ll.len h)], .ls false 1 (Ll.len c)] (lsMem 0 [([.int .i64, .int .i64, .int .i64, .int .i64], h), ([.int .i64, .int .i64], c)]) 2 KK =
  ((Ll.len h) = (Ll.len h) ∧ (cond (decide ((holeE h) ≠ (0 : Int)))
 (KK (.i .i64 (holeE h)) (lsMem 0 [([.int .i64, .int .i64, .int .i64, .int .i64], h), ([.int .i64, .int .i64], c)]) 2 [])
 (cond (decide ((Ll.len c) = (0 : Int)))
 (KK (.i .i64 (6 : Int)) (lsMem 0 [([.int .i64, .int .i64, .int .i64, .int .i64], h), ([.int .i64, .int .i64], c)]) 2 [])
 (cond (decide ((Ll.len c) > (24 : Int)))
 (KK (.i .i64 (8 : Int)) (lsMem 0 [([.int .i64, .int .i64, .int .i64, .int .i64], h), ([.int .i64, .int .i64], c)]) 2 [])
 ((Ll.len c) = (Ll.len c) ∧ ((Ll.len c) = (Ll.len c) ∧ ((0 : Int) = (0 : Int) ∧ ((Ll.len c) ≤ (24 : Int) ∧ (cond (decide ((cI c) < (Ll.len c)))
 (KK (.i .i64 (2 : Int)) (lsMem 0 [([.int .i64, .int .i64, .int .i64, .int .i64], h), ([.int .i64, .int .i64], c)]) 2 [])
 ((Ll.len h) = (Ll.len h) ∧ ((Ll.len c) = (Ll.len c) ∧ ((Ll.len c) = (Ll.len c) ∧ ((0 : Int) = (0 : Int) ∧ ((holeV h) = (holeV h) ∧ ((Ll.len c) ≤ (24 : Int) ∧ ((Ll.len c) ≤ (cI c) ∧ ((holeE h) = (0 : Int) ∧ (cond (decide ((holeV h) < (slN c c.length)))
 (KK (.i .i64 (5 : Int)) (lsMem 0 [([.int .i64, .int .i64, .int .i64, .int .i64], h), ([.int .i64, .int .i64], c)]) 2 [])
 (cond (decide ((holeV h - slN c c.length) > (0 : Int)))
 (KK (.i .i64 (6 : Int)) (lsMem 0 [([.int .i64, .int .i64, .int .i64, .int .i64], h), ([.int .i64, .int .i64], c)]) 2 [])
 (KK (.i .i64 (0 : Int)) (lsMem 0 [([.int .i64, .int .i64, .int .i64, .int .i64], h), ([.int .i64, .int .i64], c)]) 2 [])))))))))))))))))))) := by kernel_rfl
theorem col_pure {m : Nat} (hm : 1100 ≤ m) {H : Hp} {nx : Nat} {v_h : LV} {h : Ll} (hl_h : IsL H nx [.int .i64, .int .i64, .int .i64, .int .i64] h v_h) {v_c : LV} {c : Ll} (hl_c : IsL H nx [.int .i64, .int .i64] c v_c) : Pure Try.prog AW m 18 [.agg [v_h], v_c] H nx (.i .i64 (colE h c)) := by
  obtain ⟨ν, n1, n2, n3, n4⟩ := ls_in (fs := fsp) (ov := true) (l := [([.int .i64, .int .i64, .int .i64, .int .i64], h), ([.int .i64, .int .i64], c)]) (lvs := [v_h, v_c]) 0 (fun i x lv e1 e2 => by
    cases i with
    | zero => simp at e1 e2; subst e1 e2; exact hl_h
    | succ i =>
      cases i with
      | zero => simp at e1 e2; subst e1 e2; exact hl_c
      | succ i =>
        simp at e1) rfl
  refine pure_of (n := 20) (d := m - 21) (U := 30) (fs := fsp) (ov := true) (spP1_ok (by omega)) spP1_aw (lpCC_ok (by omega)) (by decide) (by decide) (by omega) (args := [.agg [.ls false 0 (Ll.len h)], .ls false 1 (Ll.len c)]) (M := lsMem 0 [([.int .i64, .int .i64, .int .i64, .int .i64], h), ([.int .i64, .int .i64], c)]) (snx := 2) ?_ (VSL.cons ⟨_, rfl, (VSL.cons (n4 0 _ _ rfl rfl) rfl)⟩ (VSL.cons (n4 1 _ _ rfl rfl) rfl)) (hs_in n2 n3)
  rw [col_eq]
  simp only [cond_iff, InK64]
  have hl : Ll.len c = (c.length : Int) := rfl
  have c5 : ((fsp.i 5 [c] [] : Int)) = cI c := rfl
  have eV : holeE h = 0 → holeV h = volN h h.length := fun hz => by unfold holeV; rw [if_pos hz]
  have c0 : colE h c = if ¬ holeE h = 0 then holeE h else if c.length = 0 then 6 else if 24 < c.length then 8 else if cI c < c.length then 2 else if volN h h.length < slN c c.length then 5 else if slN c c.length < volN h h.length then 6 else 0 := rfl
  by_cases hz : holeE h = 0
  · have eV := eV hz
    have hb := (hole_of hz).b (n := h.length) (Nat.le_refl _)
    rw [if_neg (fun hh => hh hz)] at c0
    rw [eV]
    repeat' (first | apply And.intro | intro _)
    all_goals first
      | trivial
      | omega
      | (refine end_i ?_; show _ = colE h c; rw [c0]; repeat' split
         all_goals omega)
  · rw [if_pos hz] at c0
    repeat' (first | apply And.intro | intro _)
    all_goals first
      | trivial
      | omega
      | (refine end_i ?_; show _ = colE h c; rw [c0])
abbrev colS {A : Go.Rx.Alg} : List (Go.Rx.SV A) → Go.Rx.SH A → Nat → Go.Rx.KS A → A.R := fun args_ M_ snx_ K_ => match args_ with
  | [.agg [x_h], x_c] => (match Go.Rx.lsArg M_ [.int .i64, .int .i64, .int .i64, .int .i64] x_h with | some (h, n_h) => (A.need .eql n_h (A.len h) (match Go.Rx.lsArg M_ [.int .i64, .int .i64] x_c with | some (c, n_c) => (A.need .eql n_c (A.len c) (K_ (.i .i64 (A.app 6 [h, c] [])) M_ snx_ [])) | none => A.fail "col")) | none => A.fail "col")
  | _ => A.fail "col"
theorem colS_ok {ov : Bool} {d : Nat} (hd : 1100 ≤ d) : SpecOK (fs := fsp) (ov := ov) Try.prog AW d 18 colS := by
  intro m_ hm_ args_ M_ snx_ K_ h_ ν_ largs_ H_ nx_ ha_ hM_
  unfold colS at h_
  split at h_
  · rename_i x_h x_c
    obtain ⟨y1, r1, rfl, ⟨l1, rfl, ⟨v_h, r2, rfl, hx_h, rfl⟩⟩, ⟨v_c, r3, rfl, hx_c, rfl⟩⟩ := ha_
    split at h_
    · rename_i h n_h q_h
      obtain ⟨e_h, h_⟩ := h_
      split at h_
      · rename_i c n_c q_c
        obtain ⟨e_c, h_⟩ := h_
        exact pure_got (col_pure (by omega) (lsArg_ok hM_ hx_h q_h e_h) (lsArg_ok hM_ hx_c q_c e_c)) hM_ (v := .i .i64 _) rfl h_
      · exact h_.elim
    · exact h_.elim
  · exact h_.elim
theorem rcca_eq (i : Int) (c : Ll) (T : Al (SV (stdA fsp true))) (M : Al (SO (stdA fsp true))) (KK : Ex → List (SV (stdA fsp true)) → List (SO (stdA fsp true)) → List Ll → Prop) : sCode Try.prog (sCall Try.prog 30 (spOf sp0) noLoop 20) ⟨36, false, noLoop 36⟩ 30 (false :: [false, true, false, true, true, true, true, true]) (bodyAt Try.prog 36 [false, true, false, true, true, true, true, true]) (hdL (bodyAt Try.prog 36 [false, true, false, true, true, true, true, true]) T M 72 3 [(1, .ls false 1 (Ll.len c))] [(1, .list 0 [.int .i64, .int .i64] false c)] [(6, .i .i64 i)] [] [] [] []) (outL 3 (tsOf [6] [4]) [] [] [] KK) =
  (cond (decide (i < (Ll.len c)))
 ((0 : Int) ≤ i ∧ (i < (Ll.len c) ∧ (i < (Ll.len c) ∧ (cond (decide ((Ll.get c i 0) < (0 : Int)))
 (KK .ret [(.i .i64 (2 : Int))] [] [])
 ((0 : Int) ≤ i ∧ (i < (Ll.len c) ∧ (i < (Ll.len c) ∧ (cond (decide ((Ll.get c i 0) > (40000 : Int)))
 (KK .ret [(.i .i64 (2 : Int))] [] [])
 ((0 : Int) ≤ i ∧ (i < (Ll.len c) ∧ (i < (Ll.len c) ∧ (cond (decide ((Ll.get c i 1) < (1 : Int)))
 (KK .ret [(.i .i64 (2 : Int))] [] [])
 (InK .i64 (i + (1 : Int)) ∧ (KK .normal [(.i .i64 (i + (1 : Int)))] [] []))))))))))))))
 (KK (.exit 0) [(.i .i64 i)] [] [])) := by kernel_rfl
theorem rcca_go (c : Ll) (i : Int) (i_0 : Int) (r1 : i_0 = (0 : Int)) (T : Al (SV (stdA fsp true))) (M : Al (SO (stdA fsp true))) (KK : Ex → List (SV (stdA fsp true)) → List (SO (stdA fsp true)) → List Ll → Prop) (p1 : (Ll.len c) ≤ (24 : Int)) (hI : 0 ≤ i ∧ i ≤ cI c) (hn : ∀ (i' : Int), 0 ≤ i' ∧ i' ≤ cI c → (30 - i').toNat < (30 - i).toNat → KK .normal [.i .i64 i'] [] []) (hx1 : (cI c) < (Ll.len c) → KK .ret [.i .i64 (2 : Int)] [] []) (hx2 : ¬ ((cI c) < (Ll.len c)) → KK (.exit 0) [.i .i64 (Ll.len c)] [] []) :
    sCode Try.prog (sCall Try.prog 30 (spOf sp0) noLoop 20) ⟨36, false, noLoop 36⟩ 30 (false :: [false, true, false, true, true, true, true, true]) (bodyAt Try.prog 36 [false, true, false, true, true, true, true, true]) (hdL (bodyAt Try.prog 36 [false, true, false, true, true, true, true, true]) T M 72 3 [(1, .ls false 1 (Ll.len c))] [(1, .list 0 [.int .i64, .int .i64] false c)] [(6, .i .i64 i)] [] [] [] []) (outL 3 (tsOf [6] [4]) [] [] [] KK) := by
  refine Eq.mpr (rcca_eq i c T M KK) ?_
  simp only [cond_not, cond_iff, InK64]
  have hl : Ll.len c = (c.length : Int) := rfl
  obtain ⟨i0, i1⟩ := hI
  obtain ⟨b0, b1, b2⟩ := cI_spec c
  by_cases h : i < Ll.len c
  · have hs := leastN_step (p := cBad c) (k := c.length) i0 i1 (by omega)
    have R : cBad c i = true → KK .ret [.i .i64 (2 : Int)] [] [] := fun h2 => hx1 (by have : cI c = i := hs.1 h2; show cI c < Ll.len c; omega)
    have hN : cBad c i = false → KK .normal [.i .i64 (i + 1)] [] [] := fun hb => hn (i + 1) ⟨by omega, hs.2 hb⟩ (by omega)
    repeat' (first | apply And.intro | intro _)
    all_goals first
      | trivial
      | omega
      | (refine R ?_; unfold cBad; rw [decide_eq_true_iff]; simp only [Bool.not_eq_true', decide_eq_false_iff_not, Bool.and_eq_false_iff] at *; omega)
      | (refine hN ?_; unfold cBad; rw [decide_eq_false_iff_not]; simp only [Bool.not_eq_false', decide_eq_true_eq, Bool.and_eq_true] at *; omega)
  · obtain rfl : i = c.length := by omega
    have hX := hx2 (show ¬ cI c < Ll.len c by omega)
    repeat' (first | apply And.intro | intro _)
    all_goals first | exact hX | omega | trivial
abbrev rccaF {A : Go.Rx.Alg} : Code → Go.Rx.SS A → (Go.Rx.Ex → Go.Rx.SS A → A.R) → A.R := fun c_ s_ K_ => match s_.T.get 1, s_.H.get 1, s_.T.get 6 with
  | some (.ls false 1 m1), some (.list t2 k2 false c), some (.i .i64 i) => bif (((Nat.beq s_.N 72 && Nat.beq s_.nx 3) && Nat.beq t2 0) && decide (k2 = [.int .i64, .int .i64])) then (A.need .eql m1 (A.len c) (A.need .eql i (A.lit 0) (A.need .leq (A.len c) (A.lit 24) ((A.br (A.cmp .lss (A.app 5 [c] []) (A.len c)) (fun _ => K_ .ret (Go.Rx.hdL c_ s_.T (Go.Rx.kills [] s_.H) 72 3 [(1, .ls false 1 (A.len c))] [(1, .list 0 [.int .i64, .int .i64] false c)] [(4, .i .i64 (A.lit 2))] [] [] [] (Go.Rx.addW ([] ++ []) s_.wr))) (fun _ => K_ (.exit 0) (Go.Rx.hdL c_ s_.T (Go.Rx.kills [] s_.H) 72 3 [(1, .ls false 1 (A.len c))] [(1, .list 0 [.int .i64, .int .i64] false c)] [(6, .i .i64 (A.len c))] [] [] [] (Go.Rx.addW ([] ++ []) s_.wr)))))))) else A.fail "frame of rcca"
  | _, _, _ => A.fail "rcca"
theorem rccaF_ok {d : Nat} (hd : 100 ≤ d) : LoopOK (fs := fsp) (ov := true) Try.prog AW d 36 [false, true, false, true, true, true, true, true] false rccaF := by
  intro m_ hm_ fn_ c0_ hfn_ hb_ c_ ro_ hro_ hc_ s_ K_ W_ ν_ S_ h_ hs_
  obtain rfl := body_of hfn_ hb_ hc_
  unfold rccaF at h_
  split at h_
  · rename_i m1_0 t2 k2 c_0 i_0_0 g0 g1 g2
    obtain ⟨m1, rfl⟩ : ∃ q : Int, q = m1_0 := ⟨m1_0, rfl⟩
    obtain ⟨c, rfl⟩ : ∃ q : Ll, q = c_0 := ⟨c_0, rfl⟩
    obtain ⟨i_0, rfl⟩ : ∃ q : Int, q = i_0_0 := ⟨i_0_0, rfl⟩
    obtain ⟨T_, FN_, M_, snx_, wr_⟩ := s_
    have hN : (((Nat.beq FN_ 72 && Nat.beq snx_ 3) && Nat.beq t2 0) && decide (k2 = [.int .i64, .int .i64])) = true := by
      cases hq : ((((Nat.beq FN_ 72 && Nat.beq snx_ 3) && Nat.beq t2 0) && decide (k2 = [.int .i64, .int .i64])) : Bool) with
      | true => rfl
      | false => (rw [hq] at h_; exact h_.elim)
    rw [hN, cond_true] at h_
    simp only [Bool.and_eq_true, beq_iff, decide_eq_true_eq] at hN
    obtain ⟨⟨⟨rfl, rfl⟩, rfl⟩, rfl⟩ := hN
    obtain ⟨q0, h_⟩ := h_
    obtain rfl : m1 = (Ll.len c) := q0
    obtain ⟨q1, h_⟩ := h_
    have q1 : i_0 = (0 : Int) := q1
    obtain ⟨q2, h_⟩ := h_
    have q2 : (Ll.len c) ≤ (24 : Int) := q2
    replace h_ : cond (decide ((cI c) < (Ll.len c))) (K_ .ret (hdL (bodyAt Try.prog 36 [false, true, false, true, true, true, true, true]) T_ (kills [] M_) 72 3 [(1, .ls false 1 (Ll.len c))] [(1, .list 0 [.int .i64, .int .i64] false c)] [(4, .i .i64 (2 : Int))] [] [] [] (addW ([] ++ []) wr_))) (K_ (.exit 0) (hdL (bodyAt Try.prog 36 [false, true, false, true, true, true, true, true]) T_ (kills [] M_) 72 3 [(1, .ls false 1 (Ll.len c))] [(1, .list 0 [.int .i64, .int .i64] false c)] [(6, .i .i64 (Ll.len c))] [] [] [] (addW ([] ++ []) wr_))) := h_
    have hx1 : (cI c) < (Ll.len c) → K_ .ret (hdL (bodyAt Try.prog 36 [false, true, false, true, true, true, true, true]) T_ (kills [] M_) 72 3 [(1, .ls false 1 (Ll.len c))] [(1, .list 0 [.int .i64, .int .i64] false c)] [(4, .i .i64 (2 : Int))] [] [] [] (addW ([] ++ []) wr_)) := fun e1 => by
      have h2 := h_
      rw [decide_eq_true e1] at h2; simp only [cond_true, cond_false] at h2; exact h2
    have hx2 : ¬ ((cI c) < (Ll.len c)) → K_ (.exit 0) (hdL (bodyAt Try.prog 36 [false, true, false, true, true, true, true, true]) T_ (kills [] M_) 72 3 [(1, .ls false 1 (Ll.len c))] [(1, .list 0 [.int .i64, .int .i64] false c)] [(6, .i .i64 (Ll.len c))] [] [] [] (addW ([] ++ []) wr_)) := fun e1 => by
      have h2 := h_
      rw [decide_eq_false e1] at h2; simp only [cond_true, cond_false] at h2; exact h2
    refine loop_ruleL (fs := fsp) (ov := true) (s := ⟨T_, 72, M_, 3, wr_⟩) (X := Int) (B := []) (mv := []) (kt := [(1, .ls false 1 (Ll.len c))]) (kr := [(1, .list 0 [.int .i64, .int .i64] false c)]) (ty := []) (x := (i_0))
      (Inv := (fun x_ : Int => match x_ with | (i) => 0 ≤ i ∧ i ≤ cI c)) (μ := (fun x_ : Int => match x_ with | (i) => (30 - i).toNat)) (ts := tsOf [6] [4]) (sl := (fun x_ : Int => match x_ with | (i) => [.i .i64 i])) (bl := (fun x_ : Int => match x_ with | (i) => [])) (ll := (fun x_ : Int => match x_ with | (i) => [])) (Q := fun e_ vs_ os_ hs_ => K_ e_ (hdL (bodyAt Try.prog 36 [false, true, false, true, true, true, true, true]) T_ (kills [] M_) 72 3 [(1, .ls false 1 (Ll.len c))] [(1, .list 0 [.int .i64, .int .i64] false c)] (((tsOf [6] [4]) e_).zip vs_) ([].zip os_) [] hs_ (addW ([] ++ []) wr_)))
      (L := LL) (U := 30) (cs := sCall Try.prog 30 (spOf sp0) noLoop 20) (call := CN Try.prog AW m_) (lp := ⟨36, false, noLoop 36⟩) (root := c0_) (p := [false, true, false, true, true, true, true, true])
      (show CallSOK _ _ from by
        have := sCall_ok (P := Try.prog) (d := m_ - 20) (U := 30) (lp := noLoop) (sp0_ok (fs := fsp) (ov := true) (d := m_ - 20)) (sp0_aw (fs := fsp) (ov := true)) (noLoop_ok) (by decide) rfl 20
        rwa [show 20 + (m_ - 20) = m_ by omega] at this) (ctx_of (g := 36) (rg := false) (at_ := noLoop 36) (fun p rg f h => by cases h) hfn_ hb_ hro_) (by decide) hc_
      (fun x o ho => by cases ho)
      (fun x hx => by cases hx) (fun x hx => by cases hx) (fun x hx => by cases hx)
      (fun x hx => by
        simp only [List.mem_cons, List.not_mem_nil, or_false] at hx
        rcases hx with rfl
        · exact g0) (fun x hx => by
        simp only [List.mem_cons, List.not_mem_nil, or_false] at hx
        rcases hx with rfl
        · exact ⟨g1, by simp⟩) ?_ (fun _ _ _ _ _ h => h) ?_ ?_ ?_ hs_
    · rintro i hI
      exact rcca_go c i i_0 q1 T_ (kills [] M_) _ q2 hI (fun i' ha hb => ⟨(i'), ha, hb, rfl, rfl, rfl⟩) (fun e1 => ⟨by simp [SO.mine], hx1 e1⟩) (fun e1 => ⟨by simp [SO.mine], hx2 e1⟩)
    · show 0 ≤ i_0 ∧ i_0 ≤ cI c
      exact ⟨by omega, by have := (cI_spec c).1; omega⟩
    · show (30 - i_0).toNat < LL
      exact Nat.lt_of_le_of_lt (show _ ≤ 1000 by omega) (by decide)
    · exact ⟨⟨[.i .i64 i_0], [], [], [], by simp [gets, tsOf, g0, g1, g2], by simp [gets, g0, g1, g2], rfl, rfl, by simp [listsOf] <;> rfl⟩⟩
  · exact h_.elim
theorem rccb_eq (i r : Int) (h c : Ll) (T : Al (SV (stdA fsp true))) (M : Al (SO (stdA fsp true))) (KK : Ex → List (SV (stdA fsp true)) → List (SO (stdA fsp true)) → List Ll → Prop) : sCode Try.prog (sCall Try.prog 30 (spOf sp0) noLoop 20) ⟨36, false, noLoop 36⟩ 30 (false :: [false, true, false, true, true, true, true, true, true, true]) (bodyAt Try.prog 36 [false, true, false, true, true, true, true, true, true, true]) (hdL (bodyAt Try.prog 36 [false, true, false, true, true, true, true, true, true, true]) T M 72 3 [(1, .ls false 1 (Ll.len c))] [(0, .list 0 [.int .i64, .int .i64, .int .i64, .int .i64] false h), (1, .list 0 [.int .i64, .int .i64] false c)] [(8, .i .i64 i), (7, .i .i64 r)] [] [] [] []) (outL 3 (tsOf [8, 7] [4]) [] [] [] KK) =
  (cond (decide (i < (Ll.len c)))
 ((0 : Int) ≤ i ∧ (i < (Ll.len c) ∧ (i < (Ll.len c) ∧ (cond (decide ((Ll.get c i 1) > r))
 (KK .ret [(.i .i64 (5 : Int))] [] [])
 ((0 : Int) ≤ i ∧ (i < (Ll.len c) ∧ (i < (Ll.len c) ∧ (InK .i64 (r - (Ll.get c i 1)) ∧ (InK .i64 (i + (1 : Int)) ∧ (KK .normal [(.i .i64 (i + (1 : Int))), (.i .i64 (r - (Ll.get c i 1)))] [] []))))))))))
 (KK (.exit 2) [(.i .i64 i), (.i .i64 r)] [] [])) := by kernel_rfl
theorem rccb_go (h : Ll) (c : Ll) (i : Int) (r : Int) (i_0 : Int) (r_0 : Int) (r1 : i_0 = (0 : Int)) (r2 : r_0 = (holeV h)) (T : Al (SV (stdA fsp true))) (M : Al (SO (stdA fsp true))) (KK : Ex → List (SV (stdA fsp true)) → List (SO (stdA fsp true)) → List Ll → Prop) (p1 : (Ll.len c) ≤ (24 : Int)) (p2 : (Ll.len c) ≤ (cI c)) (p3 : (holeE h) = (0 : Int)) (hI : 0 ≤ i ∧ i ≤ c.length ∧ r = holeV h - slN c i.toNat ∧ 0 ≤ r) (hn : ∀ (i' : Int) (r' : Int), 0 ≤ i' ∧ i' ≤ c.length ∧ r' = holeV h - slN c i'.toNat ∧ 0 ≤ r' → (30 - i').toNat < (30 - i).toNat → KK .normal [.i .i64 i', .i .i64 r'] [] []) (hx1 : (holeV h) < (slN c c.length) → KK .ret [.i .i64 (5 : Int)] [] []) (hx2 : ¬ ((holeV h) < (slN c c.length)) → KK (.exit 2) [.i .i64 (Ll.len c), .i .i64 (holeV h - slN c c.length)] [] []) :
    sCode Try.prog (sCall Try.prog 30 (spOf sp0) noLoop 20) ⟨36, false, noLoop 36⟩ 30 (false :: [false, true, false, true, true, true, true, true, true, true]) (bodyAt Try.prog 36 [false, true, false, true, true, true, true, true, true, true]) (hdL (bodyAt Try.prog 36 [false, true, false, true, true, true, true, true, true, true]) T M 72 3 [(1, .ls false 1 (Ll.len c))] [(0, .list 0 [.int .i64, .int .i64, .int .i64, .int .i64] false h), (1, .list 0 [.int .i64, .int .i64] false c)] [(8, .i .i64 i), (7, .i .i64 r)] [] [] [] []) (outL 3 (tsOf [8, 7] [4]) [] [] [] KK) := by
  refine Eq.mpr (rccb_eq i r h c T M KK) ?_
  simp only [cond_iff, InK64]
  have hl : Ll.len c = (c.length : Int) := rfl
  have p2 : Ll.len c ≤ cI c := p2
  obtain ⟨i0, i1, rfl, i3⟩ := hI
  have hg : CGood c c.length := cgood_of (by omega)
  have p0 : HoleOK h := hole_of p3
  have hv := p0.b (n := h.length) (Nat.le_refl _)
  have eV : holeV h = volN h h.length := by unfold holeV; rw [if_pos p3]
  by_cases hi : i < Ll.len c
  · have hc := cBad_no (hg i.toNat (by omega))
    rw [Int.toNat_of_nonneg i0] at hc
    have e := slN_succ (c := c) i0
    have h3 := slN_mono hg (k := (i + 1).toNat) (by omega)
    have h4 := slN_b (fun j hj => hg j (by omega) : CGood c i.toNat)
    have N : ¬ Ll.get c i 1 > holeV h - slN c i.toNat → KK .normal [.i .i64 (i + 1), .i .i64 (holeV h - slN c i.toNat - Ll.get c i 1)] [] [] := fun hb => hn (i + 1) (holeV h - slN c i.toNat - Ll.get c i 1) ⟨by omega, by omega, by omega, by omega⟩ (by omega)
    have R : Ll.get c i 1 > holeV h - slN c i.toNat → KK .ret [.i .i64 (5 : Int)] [] [] := fun hb => hx1 (show holeV h < slN c c.length by omega)
    repeat' (first | apply And.intro | intro _)
    all_goals first
      | exact R (by assumption)
      | exact N (by assumption)
      | omega
      | trivial
  · obtain rfl : i = c.length := by omega
    rw [Int.toNat_natCast] at *
    have hX := hx2 (show ¬ (holeV h < slN c c.length) by omega)
    repeat' (first | apply And.intro | intro _)
    all_goals first | exact hX | omega | trivial
abbrev rccbF {A : Go.Rx.Alg} : Code → Go.Rx.SS A → (Go.Rx.Ex → Go.Rx.SS A → A.R) → A.R := fun c_ s_ K_ => match s_.T.get 1, s_.H.get 0, s_.H.get 1, s_.T.get 8, s_.T.get 7 with
  | some (.ls false 1 m1), some (.list t2 k2 false h), some (.list t3 k3 false c), some (.i .i64 i), some (.i .i64 r) => bif (((((Nat.beq s_.N 72 && Nat.beq s_.nx 3) && Nat.beq t2 0) && decide (k2 = [.int .i64, .int .i64, .int .i64, .int .i64])) && Nat.beq t3 0) && decide (k3 = [.int .i64, .int .i64])) then (A.need .eql m1 (A.len c) (A.need .eql i (A.lit 0) (A.need .eql r (A.app 2 [h] []) (A.need .leq (A.len c) (A.lit 24) (A.need .leq (A.len c) (A.app 5 [c] []) (A.need .eql (A.app 1 [h] []) (A.lit 0) ((A.br (A.cmp .lss (A.app 2 [h] []) (A.app 7 [c] [])) (fun _ => K_ .ret (Go.Rx.hdL c_ s_.T (Go.Rx.kills [] s_.H) 72 3 [(1, .ls false 1 (A.len c))] [(0, .list 0 [.int .i64, .int .i64, .int .i64, .int .i64] false h), (1, .list 0 [.int .i64, .int .i64] false c)] [(4, .i .i64 (A.lit 5))] [] [] [] (Go.Rx.addW ([] ++ []) s_.wr))) (fun _ => K_ (.exit 2) (Go.Rx.hdL c_ s_.T (Go.Rx.kills [] s_.H) 72 3 [(1, .ls false 1 (A.len c))] [(0, .list 0 [.int .i64, .int .i64, .int .i64, .int .i64] false h), (1, .list 0 [.int .i64, .int .i64] false c)] [(8, .i .i64 (A.len c)), (7, .i .i64 (A.app 8 [h, c] []))] [] [] [] (Go.Rx.addW ([] ++ []) s_.wr))))))))))) else A.fail "frame of rccb"
  | _, _, _, _, _ => A.fail "rccb"
theorem rccbF_ok {d : Nat} (hd : 100 ≤ d) : LoopOK (fs := fsp) (ov := true) Try.prog AW d 36 [false, true, false, true, true, true, true, true, true, true] false rccbF := by
  intro m_ hm_ fn_ c0_ hfn_ hb_ c_ ro_ hro_ hc_ s_ K_ W_ ν_ S_ h_ hs_
  obtain rfl := body_of hfn_ hb_ hc_
  unfold rccbF at h_
  split at h_
  · rename_i m1_0 t2 k2 h_0 t3 k3 c_0 i_0_0 r_0_0 g0 g1 g2 g3 g4
    obtain ⟨m1, rfl⟩ : ∃ q : Int, q = m1_0 := ⟨m1_0, rfl⟩
    obtain ⟨h, rfl⟩ : ∃ q : Ll, q = h_0 := ⟨h_0, rfl⟩
    obtain ⟨c, rfl⟩ : ∃ q : Ll, q = c_0 := ⟨c_0, rfl⟩
    obtain ⟨i_0, rfl⟩ : ∃ q : Int, q = i_0_0 := ⟨i_0_0, rfl⟩
    obtain ⟨r_0, rfl⟩ : ∃ q : Int, q = r_0_0 := ⟨r_0_0, rfl⟩
    obtain ⟨T_, FN_, M_, snx_, wr_⟩ := s_
    have hN : (((((Nat.beq FN_ 72 && Nat.beq snx_ 3) && Nat.beq t2 0) && decide (k2 = [.int .i64, .int .i64, .int .i64, .int .i64])) && Nat.beq t3 0) && decide (k3 = [.int .i64, .int .i64])) = true := by
      cases hq : ((((((Nat.beq FN_ 72 && Nat.beq snx_ 3) && Nat.beq t2 0) && decide (k2 = [.int .i64, .int .i64, .int .i64, .int .i64])) && Nat.beq t3 0) && decide (k3 = [.int .i64, .int .i64])) : Bool) with
      | true => rfl
      | false => (rw [hq] at h_; exact h_.elim)
    rw [hN, cond_true] at h_
    simp only [Bool.and_eq_true, beq_iff, decide_eq_true_eq] at hN
    obtain ⟨⟨⟨⟨⟨rfl, rfl⟩, rfl⟩, rfl⟩, rfl⟩, rfl⟩ := hN
    obtain ⟨q0, h_⟩ := h_
    obtain rfl : m1 = (Ll.len c) := q0
    obtain ⟨q1, h_⟩ := h_
    have q1 : i_0 = (0 : Int) := q1
    obtain ⟨q2, h_⟩ := h_
    have q2 : r_0 = (holeV h) := q2
    obtain ⟨q3, h_⟩ := h_
    have q3 : (Ll.len c) ≤ (24 : Int) := q3
    obtain ⟨q4, h_⟩ := h_
    have q4 : (Ll.len c) ≤ (cI c) := q4
    obtain ⟨q5, h_⟩ := h_
    have q5 : (holeE h) = (0 : Int) := q5
    replace h_ : cond (decide ((holeV h) < (slN c c.length))) (K_ .ret (hdL (bodyAt Try.prog 36 [false, true, false, true, true, true, true, true, true, true]) T_ (kills [] M_) 72 3 [(1, .ls false 1 (Ll.len c))] [(0, .list 0 [.int .i64, .int .i64, .int .i64, .int .i64] false h), (1, .list 0 [.int .i64, .int .i64] false c)] [(4, .i .i64 (5 : Int))] [] [] [] (addW ([] ++ []) wr_))) (K_ (.exit 2) (hdL (bodyAt Try.prog 36 [false, true, false, true, true, true, true, true, true, true]) T_ (kills [] M_) 72 3 [(1, .ls false 1 (Ll.len c))] [(0, .list 0 [.int .i64, .int .i64, .int .i64, .int .i64] false h), (1, .list 0 [.int .i64, .int .i64] false c)] [(8, .i .i64 (Ll.len c)), (7, .i .i64 (holeV h - slN c c.length))] [] [] [] (addW ([] ++ []) wr_))) := h_
    have hx1 : (holeV h) < (slN c c.length) → K_ .ret (hdL (bodyAt Try.prog 36 [false, true, false, true, true, true, true, true, true, true]) T_ (kills [] M_) 72 3 [(1, .ls false 1 (Ll.len c))] [(0, .list 0 [.int .i64, .int .i64, .int .i64, .int .i64] false h), (1, .list 0 [.int .i64, .int .i64] false c)] [(4, .i .i64 (5 : Int))] [] [] [] (addW ([] ++ []) wr_)) := fun e1 => by
      have h2 := h_
      rw [decide_eq_true e1] at h2; simp only [cond_true, cond_false] at h2; exact h2
    have hx2 : ¬ ((holeV h) < (slN c c.length)) → K_ (.exit 2) (hdL (bodyAt Try.prog 36 [false, true, false, true, true, true, true, true, true, true]) T_ (kills [] M_) 72 3 [(1, .ls false 1 (Ll.len c))] [(0, .list 0 [.int .i64, .int .i64, .int .i64, .int .i64] false h), (1, .list 0 [.int .i64, .int .i64] false c)] [(8, .i .i64 (Ll.len c)), (7, .i .i64 (holeV h - slN c c.length))] [] [] [] (addW ([] ++ []) wr_)) := fun e1 => by
      have h2 := h_
      rw [decide_eq_false e1] at h2; simp only [cond_true, cond_false] at h2; exact h2
    refine loop_ruleL (fs := fsp) (ov := true) (s := ⟨T_, 72, M_, 3, wr_⟩) (X := Int × Int) (B := []) (mv := []) (kt := [(1, .ls false 1 (Ll.len c))]) (kr := [(0, .list 0 [.int .i64, .int .i64, .int .i64, .int .i64] false h), (1, .list 0 [.int .i64, .int .i64] false c)]) (ty := []) (x := (i_0, r_0))
      (Inv := (fun x_ : Int × Int => match x_ with | (i, r) => 0 ≤ i ∧ i ≤ c.length ∧ r = holeV h - slN c i.toNat ∧ 0 ≤ r)) (μ := (fun x_ : Int × Int => match x_ with | (i, r) => (30 - i).toNat)) (ts := tsOf [8, 7] [4]) (sl := (fun x_ : Int × Int => match x_ with | (i, r) => [.i .i64 i, .i .i64 r])) (bl := (fun x_ : Int × Int => match x_ with | (i, r) => [])) (ll := (fun x_ : Int × Int => match x_ with | (i, r) => [])) (Q := fun e_ vs_ os_ hs_ => K_ e_ (hdL (bodyAt Try.prog 36 [false, true, false, true, true, true, true, true, true, true]) T_ (kills [] M_) 72 3 [(1, .ls false 1 (Ll.len c))] [(0, .list 0 [.int .i64, .int .i64, .int .i64, .int .i64] false h), (1, .list 0 [.int .i64, .int .i64] false c)] (((tsOf [8, 7] [4]) e_).zip vs_) ([].zip os_) [] hs_ (addW ([] ++ []) wr_)))
      (L := LL) (U := 30) (cs := sCall Try.prog 30 (spOf sp0) noLoop 20) (call := CN Try.prog AW m_) (lp := ⟨36, false, noLoop 36⟩) (root := c0_) (p := [false, true, false, true, true, true, true, true, true, true])
      (show CallSOK _ _ from by
        have := sCall_ok (P := Try.prog) (d := m_ - 20) (U := 30) (lp := noLoop) (sp0_ok (fs := fsp) (ov := true) (d := m_ - 20)) (sp0_aw (fs := fsp) (ov := true)) (noLoop_ok) (by decide) rfl 20
        rwa [show 20 + (m_ - 20) = m_ by omega] at this) (ctx_of (g := 36) (rg := false) (at_ := noLoop 36) (fun p rg f h => by cases h) hfn_ hb_ hro_) (by decide) hc_
      (fun x o ho => by cases ho)
      (fun x hx => by cases hx) (fun x hx => by cases hx) (fun x hx => by cases hx)
      (fun x hx => by
        simp only [List.mem_cons, List.not_mem_nil, or_false] at hx
        rcases hx with rfl
        · exact g0) (fun x hx => by
        simp only [List.mem_cons, List.not_mem_nil, or_false] at hx
        rcases hx with rfl | rfl
        · exact ⟨g1, by simp⟩
        · exact ⟨g2, by simp⟩) ?_ (fun _ _ _ _ _ h => h) ?_ ?_ ?_ hs_
    · rintro ⟨i, r⟩ hI
      exact rccb_go h c i r i_0 r_0 q1 q2 T_ (kills [] M_) _ q3 q4 q5 hI (fun i' r' ha hb => ⟨(i', r'), ha, hb, rfl, rfl, rfl⟩) (fun e1 => ⟨by simp [SO.mine], hx1 e1⟩) (fun e1 => ⟨by simp [SO.mine], hx2 e1⟩)
    · show 0 ≤ i_0 ∧ i_0 ≤ c.length ∧ r_0 = holeV h - slN c i_0.toNat ∧ 0 ≤ r_0
      have p0 : HoleOK h := hole_of q5
      have hv := p0.b (n := h.length) (Nat.le_refl _)
      have eV : holeV h = volN h h.length := by unfold holeV; rw [if_pos q5]
      exact ⟨by omega, by omega, by rw [q2, q1]; simp [slN], by rw [q2, eV]; omega⟩
    · show (30 - i_0).toNat < LL
      exact Nat.lt_of_le_of_lt (show _ ≤ 1000 by omega) (by decide)
    · exact ⟨⟨[.i .i64 i_0, .i .i64 r_0], [], [], [], by simp [gets, tsOf, g0, g1, g2, g3, g4], by simp [gets, g0, g1, g2, g3, g4], rfl, rfl, by simp [listsOf] <;> rfl⟩⟩
  · exact h_.elim
abbrev lpRCC {A : Go.Rx.Alg} : Nat → Go.Rx.LoopS A := Go.Rx.lpOf [(36, [false, true, false, true, true, true, true, true], false, rccaF), (36, [false, true, false, true, true, true, true, true, true, true], false, rccbF)]
theorem lpRCC_ok {d : Nat} (hd : 100 ≤ d) : LoopsAll (fs := fsp) (ov := true) Try.prog AW d lpRCC := lpOf_ok fun x hx => by
  simp only [List.mem_cons, List.not_mem_nil, or_false] at hx
  rcases hx with rfl | rfl
  · exact rccaF_ok (by omega)
  · exact rccbF_ok (by omega)
theorem rcol_eq (h c : Ll) (KK : KS (stdA fsp true)) : sFunc Try.prog 30 (sCall Try.prog 30 (spOf spP1) lpRCC 20) lpRCC 36 [.agg [.ls false 0 (Ll.len h)], .ls false 1 (Ll.len c)] (lsMem 0 [([.int .i64, .int .i64, .int .i64, .int .i64], h), ([.int .i64, .int .i64], c)]) 2 KK =
  ((Ll.len h) = (Ll.len h) ∧ (cond (decide ((holeE h) ≠ (0 : Int)))
 (KK (.i .i64 (holeE h)) (lsMem 0 [([.int .i64, .int .i64, .int .i64, .int .i64], h), ([.int .i64, .int .i64], c)]) 2 [])
 (cond (decide ((Ll.len c) = (0 : Int)))
 (KK (.i .i64 (6 : Int)) (lsMem 0 [([.int .i64, .int .i64, .int .i64, .int .i64], h), ([.int .i64, .int .i64], c)]) 2 [])
 (cond (decide ((Ll.len c) > (24 : Int)))
 (KK (.i .i64 (8 : Int)) (lsMem 0 [([.int .i64, .int .i64, .int .i64, .int .i64], h), ([.int .i64, .int .i64], c)]) 2 [])
 ((Ll.len c) = (Ll.len c) ∧ ((0 : Int) = (0 : Int) ∧ ((Ll.len c) ≤ (24 : Int) ∧ (cond (decide ((cI c) < (Ll.len c)))
 (KK (.i .i64 (2 : Int)) (lsMem 0 [([.int .i64, .int .i64, .int .i64, .int .i64], h), ([.int .i64, .int .i64], c)]) 2 [])
 ((Ll.len h) = (Ll.len h) ∧ ((Ll.len c) = (Ll.len c) ∧ ((0 : Int) = (0 : Int) ∧ ((holeV h) = (holeV h) ∧ ((Ll.len c) ≤ (24 : Int) ∧ ((Ll.len c) ≤ (cI c) ∧ ((holeE h) = (0 : Int) ∧ (cond (decide ((holeV h) < (slN c c.length)))
 (KK (.i .i64 (5 : Int)) (lsMem 0 [([.int .i64, .int .i64, .int .i64, .int .i64], h), ([.int .i64, .int .i64], c)]) 2 [])
 (cond (decide ((holeV h - slN c c.length) > (0 : Int)))
 (KK (.i .i64 (6 : Int)) (lsMem 0 [([.int .i64, .int .i64, .int .i64, .int .i64], h), ([.int .i64, .int .i64], c)]) 2 [])
 (KK (.i .i64 (0 : Int)) (lsMem 0 [([.int .i64, .int .i64, .int .i64, .int .i64], h), ([.int .i64, .int .i64], c)]) 2 [])))))))))))))))))) := by kernel_rfl
theorem rcol_pure {m : Nat} (hm : 1100 ≤ m) {H : Hp} {nx : Nat} {v_h : LV} {h : Ll} (hl_h : IsL H nx [.int .i64, .int .i64, .int .i64, .int .i64] h v_h) {v_c : LV} {c : Ll} (hl_c : IsL H nx [.int .i64, .int .i64] c v_c) : Pure Try.prog AW m 36 [.agg [v_h], v_c] H nx (.i .i64 (colE h c)) := by
  obtain ⟨ν, n1, n2, n3, n4⟩ := ls_in (fs := fsp) (ov := true) (l := [([.int .i64, .int .i64, .int .i64, .int .i64], h), ([.int .i64, .int .i64], c)]) (lvs := [v_h, v_c]) 0 (fun i x lv e1 e2 => by
    cases i with
    | zero => simp at e1 e2; subst e1 e2; exact hl_h
    | succ i =>
      cases i with
      | zero => simp at e1 e2; subst e1 e2; exact hl_c
      | succ i =>
        simp at e1) rfl
  refine pure_of (n := 20) (d := m - 21) (U := 30) (fs := fsp) (ov := true) (spP1_ok (by omega)) spP1_aw (lpRCC_ok (by omega)) (by decide) (by decide) (by omega) (args := [.agg [.ls false 0 (Ll.len h)], .ls false 1 (Ll.len c)]) (M := lsMem 0 [([.int .i64, .int .i64, .int .i64, .int .i64], h), ([.int .i64, .int .i64], c)]) (snx := 2) ?_ (VSL.cons ⟨_, rfl, (VSL.cons (n4 0 _ _ rfl rfl) rfl)⟩ (VSL.cons (n4 1 _ _ rfl rfl) rfl)) (hs_in n2 n3)
  rw [rcol_eq]
  simp only [cond_iff, InK64]
  have hl : Ll.len c = (c.length : Int) := rfl
  have c5 : ((fsp.i 5 [c] [] : Int)) = cI c := rfl
  have eV : holeE h = 0 → holeV h = volN h h.length := fun hz => by unfold holeV; rw [if_pos hz]
  have c0 : colE h c = if ¬ holeE h = 0 then holeE h else if c.length = 0 then 6 else if 24 < c.length then 8 else if cI c < c.length then 2 else if volN h h.length < slN c c.length then 5 else if slN c c.length < volN h h.length then 6 else 0 := rfl
  by_cases hz : holeE h = 0
  · have eV := eV hz
    have hb := (hole_of hz).b (n := h.length) (Nat.le_refl _)
    rw [if_neg (fun hh => hh hz)] at c0
    rw [eV]
    repeat' (first | apply And.intro | intro _)
    all_goals first
      | trivial
      | omega
      | (refine end_i ?_; show _ = colE h c; rw [c0]; repeat' split
         all_goals omega)
  · rw [if_pos hz] at c0
    repeat' (first | apply And.intro | intro _)
    all_goals first
      | trivial
      | omega
      | (refine end_i ?_; show _ = colE h c; rw [c0])
abbrev rcolS {A : Go.Rx.Alg} : List (Go.Rx.SV A) → Go.Rx.SH A → Nat → Go.Rx.KS A → A.R := fun args_ M_ snx_ K_ => match args_ with
  | [.agg [x_h], x_c] => (match Go.Rx.lsArg M_ [.int .i64, .int .i64, .int .i64, .int .i64] x_h with | some (h, n_h) => (A.need .eql n_h (A.len h) (match Go.Rx.lsArg M_ [.int .i64, .int .i64] x_c with | some (c, n_c) => (A.need .eql n_c (A.len c) (K_ (.i .i64 (A.app 6 [h, c] [])) M_ snx_ [])) | none => A.fail "rcol")) | none => A.fail "rcol")
  | _ => A.fail "rcol"
theorem rcolS_ok {ov : Bool} {d : Nat} (hd : 1100 ≤ d) : SpecOK (fs := fsp) (ov := ov) Try.prog AW d 36 rcolS := by
  intro m_ hm_ args_ M_ snx_ K_ h_ ν_ largs_ H_ nx_ ha_ hM_
  unfold rcolS at h_
  split at h_
  · rename_i x_h x_c
    obtain ⟨y1, r1, rfl, ⟨l1, rfl, ⟨v_h, r2, rfl, hx_h, rfl⟩⟩, ⟨v_c, r3, rfl, hx_c, rfl⟩⟩ := ha_
    split at h_
    · rename_i h n_h q_h
      obtain ⟨e_h, h_⟩ := h_
      split at h_
      · rename_i c n_c q_c
        obtain ⟨e_c, h_⟩ := h_
        exact pure_got (rcol_pure (by omega) (lsArg_ok hM_ hx_h q_h e_h) (lsArg_ok hM_ hx_c q_c e_c)) hM_ (v := .i .i64 _) rfl h_
      · exact h_.elim
    · exact h_.elim
  · exact h_.elim
abbrev spP2 {A : Go.Rx.Alg} : Go.Rx.SpL A := [(AW, Go.Rx.awakeS), (38, kchkS), (20, kvolS), (29, khgtS), (31, katS), (18, colS)]
theorem spP2_ok {ov : Bool} {d : Nat} (hd : 1100 ≤ d) : SpOK (fs := fsp) (ov := ov) Try.prog AW d spP2 := SpOK.cons awake_ok (SpOK.cons (kchkS_ok (by omega)) (SpOK.cons (kvolS_ok (by omega)) (SpOK.cons (khgtS_ok (by omega)) (SpOK.cons (katS_ok (by omega)) (SpOK.cons (colS_ok (by omega)) SpOK.nil)))))
theorem spP2_aw {fs : Fs} {ov : Bool} : (spOf (A := stdA fs ov) spP2 AW).isSome = true := rfl
theorem pra_eq (u top i e w lo hi : Int) (h c H : Ll) (T : Al (SV (stdA fsp true))) (M : Al (SO (stdA fsp true))) (KK : Ex → List (SV (stdA fsp true)) → List (SO (stdA fsp true)) → List Ll → Prop) : sCode Try.prog (sCall Try.prog 30 (spOf spP2) noLoop 20) ⟨13, false, noLoop 13⟩ 30 (false :: [false, true, false, true, true, true, true, true, true, true, true]) (bodyAt Try.prog 13 [false, true, false, true, true, true, true, true, true, true, true]) (hdL (bodyAt Try.prog 13 [false, true, false, true, true, true, true, true, true, true, true]) T M 110 8 [(1, .ls false 1 (Ll.len c)), (2, .i .i64 top), (3, .i .i64 u), (11, .p 5 0), (13, .fn 30 [] [.p 6 0])] [(0, .list 0 [.int .i64, .int .i64, .int .i64, .int .i64] false h), (1, .list 0 [.int .i64, .int .i64] false c), (4, .list 82 [.int .i64, .int .i64] true H), (5, .row 64 [.ls true 4 (Ll.len H)])] [(16, .i .i64 i), (14, .i .i64 e), (15, .i .i64 w)] [(6, .row 34 [.i .i64 lo, .i .i64 hi])] [] [] []) (outL 8 (tsOf [16, 14, 15] []) [6] [] [] KK) =
  (cond (decide (i > (0 : Int)))
 ((0 : Int) ≤ i ∧ (i < (Ll.len c) ∧ (i < (Ll.len c) ∧ (InK .i64 (e - (Ll.get c i 1)) ∧ (cond (decide ((e - (Ll.get c i 1)) ≤ u))
 (KK (.exit 0) [(.i .i64 i), (.i .i64 (e - (Ll.get c i 1))), (.i .i64 w)] [(.row 34 [(.i .i64 lo), (.i .i64 hi)])] [])
 (InK .i64 (i - (1 : Int)) ∧ ((0 : Int) ≤ (i - (1 : Int)) ∧ ((i - (1 : Int)) < (Ll.len c) ∧ ((i - (1 : Int)) < (Ll.len c) ∧ (InK .i64 (i - (1 : Int)) ∧ ((0 : Int) ≤ (i - (1 : Int)) ∧ ((i - (1 : Int)) < (Ll.len c) ∧ ((i - (1 : Int)) < (Ll.len c) ∧ ((0 : Int) ≤ i ∧ (i < (Ll.len c) ∧ (i < (Ll.len c) ∧ (InK .i64 ((Ll.get c (i - (1 : Int)) 0) - (Ll.get c i 0)) ∧ ((Ll.len H) = (Ll.len H) ∧ (cond (decide (((Ll.get c (i - (1 : Int)) 0) - (Ll.get c i 0)) < (0 : Int)))
 (InK .i64 (((Ll.get c (i - (1 : Int)) 0) - (Ll.get c i 0)) * (if rightB H = true then valHi H (e - (Ll.get c i 1)) else 0)) ∧ (InK .i64 (lo + (((Ll.get c (i - (1 : Int)) 0) - (Ll.get c i 0)) * (if rightB H = true then valHi H (e - (Ll.get c i 1)) else 0))) ∧ (InK .i64 (((Ll.get c (i - (1 : Int)) 0) - (Ll.get c i 0)) * (if rightB H = true then valLo H (e - (Ll.get c i 1)) else 0)) ∧ (InK .i64 (hi + (((Ll.get c (i - (1 : Int)) 0) - (Ll.get c i 0)) * (if rightB H = true then valLo H (e - (Ll.get c i 1)) else 0))) ∧ (InK .i64 (i - (1 : Int)) ∧ (KK .normal [(.i .i64 (i - (1 : Int))), (.i .i64 (e - (Ll.get c i 1))), (.i .i64 (Ll.get c (i - (1 : Int)) 0))] [(.row 34 [(.i .i64 (lo + (((Ll.get c (i - (1 : Int)) 0) - (Ll.get c i 0)) * (if rightB H = true then valHi H (e - (Ll.get c i 1)) else 0)))), (.i .i64 (hi + (((Ll.get c (i - (1 : Int)) 0) - (Ll.get c i 0)) * (if rightB H = true then valLo H (e - (Ll.get c i 1)) else 0))))])] []))))))
 (InK .i64 (((Ll.get c (i - (1 : Int)) 0) - (Ll.get c i 0)) * (if rightB H = true then valLo H (e - (Ll.get c i 1)) else 0)) ∧ (InK .i64 (lo + (((Ll.get c (i - (1 : Int)) 0) - (Ll.get c i 0)) * (if rightB H = true then valLo H (e - (Ll.get c i 1)) else 0))) ∧ (InK .i64 (((Ll.get c (i - (1 : Int)) 0) - (Ll.get c i 0)) * (if rightB H = true then valHi H (e - (Ll.get c i 1)) else 0)) ∧ (InK .i64 (hi + (((Ll.get c (i - (1 : Int)) 0) - (Ll.get c i 0)) * (if rightB H = true then valHi H (e - (Ll.get c i 1)) else 0))) ∧ (InK .i64 (i - (1 : Int)) ∧ (KK .normal [(.i .i64 (i - (1 : Int))), (.i .i64 (e - (Ll.get c i 1))), (.i .i64 (Ll.get c (i - (1 : Int)) 0))] [(.row 34 [(.i .i64 (lo + (((Ll.get c (i - (1 : Int)) 0) - (Ll.get c i 0)) * (if rightB H = true then valLo H (e - (Ll.get c i 1)) else 0)))), (.i .i64 (hi + (((Ll.get c (i - (1 : Int)) 0) - (Ll.get c i 0)) * (if rightB H = true then valHi H (e - (Ll.get c i 1)) else 0))))])] [])))))))))))))))))))))))))
 (KK (.exit 0) [(.i .i64 i), (.i .i64 e), (.i .i64 w)] [(.row 34 [(.i .i64 lo), (.i .i64 hi)])] [])) := by kernel_rfl
theorem pra_go (u : Int) (top : Int) (h : Ll) (c : Ll) (H : Ll) (i : Int) (e : Int) (w : Int) (lo : Int) (hi : Int) (i_0 : Int) (e_0 : Int) (w_0 : Int) (lo_0 : Int) (hi_0 : Int) (r1 : i_0 = (c.length - 1)) (r2 : e_0 = (slN c c.length)) (r3 : w_0 = (Ll.get c i_0 0)) (r4 : lo_0 = (pLoI h c top (c.length - 1))) (r5 : hi_0 = (pHiI h c top (c.length - 1))) (T : Al (SV (stdA fsp true))) (M : Al (SO (stdA fsp true))) (KK : Ex → List (SV (stdA fsp true)) → List (SO (stdA fsp true)) → List Ll → Prop) (p1 : (colE h c) = (0 : Int)) (p2 : (decide (H = hgtP h h.length)) = true) (p3 : (0 : Int) ≤ u) (p4 : (0 : Int) ≤ top) (p5 : top ≤ (68719476736 : Int)) (hI : kU c u ≤ i ∧ i < c.length ∧ e = slN c (i + 1).toNat ∧ w = Ll.get c i 0 ∧ lo = pLoI h c top i ∧ hi = pHiI h c top i) (hn : ∀ (i' : Int) (e' : Int) (w' : Int) (lo' : Int) (hi' : Int), kU c u ≤ i' ∧ i' < c.length ∧ e' = slN c (i' + 1).toNat ∧ w' = Ll.get c i' 0 ∧ lo' = pLoI h c top i' ∧ hi' = pHiI h c top i' → i'.toNat < i.toNat → KK .normal [.i .i64 i', .i .i64 e', .i .i64 w'] [.row 34 [.i .i64 lo', .i .i64 hi']] []) (hx1 : KK (.exit 0) [.i .i64 (kU c u), .i .i64 (eU c u), .i .i64 (Ll.get c (kU c u) 0)] [.row 34 [.i .i64 (pLoI h c top (kU c u)), .i .i64 (pHiI h c top (kU c u))]] []) :
    sCode Try.prog (sCall Try.prog 30 (spOf spP2) noLoop 20) ⟨13, false, noLoop 13⟩ 30 (false :: [false, true, false, true, true, true, true, true, true, true, true]) (bodyAt Try.prog 13 [false, true, false, true, true, true, true, true, true, true, true]) (hdL (bodyAt Try.prog 13 [false, true, false, true, true, true, true, true, true, true, true]) T M 110 8 [(1, .ls false 1 (Ll.len c)), (2, .i .i64 top), (3, .i .i64 u), (11, .p 5 0), (13, .fn 30 [] [.p 6 0])] [(0, .list 0 [.int .i64, .int .i64, .int .i64, .int .i64] false h), (1, .list 0 [.int .i64, .int .i64] false c), (4, .list 82 [.int .i64, .int .i64] true H), (5, .row 64 [.ls true 4 (Ll.len H)])] [(16, .i .i64 i), (14, .i .i64 e), (15, .i .i64 w)] [(6, .row 34 [.i .i64 lo, .i .i64 hi])] [] [] []) (outL 8 (tsOf [16, 14, 15] []) [6] [] [] KK) := by
  refine Eq.mpr (pra_eq u top i e w lo hi h c H T M KK) ?_
  obtain ⟨i0, i1, rfl, rfl, rfl, rfl⟩ := hI
  obtain rfl : H = hgtP h h.length := of_decide_eq_true p2
  have hl : Ll.len c = (c.length : Int) := rfl
  have p0 : ColOK h c := col_of p1
  have hlen := p0.len
  obtain ⟨k0, k1, k2, k3⟩ := kU_spec p0 p3
  have hr := hgt_right p0.hole
  have es := slN_succ (c := c) (i := i) (by omega)
  have hs := slN_mono p0.good (k := i.toNat) (by omega)
  have hs1 := slN_mono p0.good (k := (i + 1).toNat) (by omega)
  have hsb := slN_b (fun j hj => p0.good j (by omega) : CGood c i.toNat)
  have hv := p0.hole.b (n := h.length) (Nat.le_refl _)
  have hsum := p0.sum
  have ha := p0.at (i := i) (by omega) (by omega)
  have pb := pI_b p0 (top := top) (i := i) (by omega) (by omega)
  have eU0 : eU c u = if kU c u = 0 then slN c 1 else slN c (kU c u).toNat := rfl
  by_cases hi : i > 0
  · have hst := pI_step (h := h) (top := top) hi (by omega)
    have ha2 := p0.at (i := i - 1) (by omega) (by omega)
    have pb2 := pI_b p0 (top := top) (i := i - 1) (by omega) (by omega)
    have hb := h_b p0.hole (slN c i.toNat)
    have ht := t_b (w := Ll.get c (i - 1) 0 - Ll.get c i 0) (by omega) (by omega) hb.1 hb.2.1 hb.2.2
    have e1 : slN c (i + 1).toNat - Ll.get c i 1 = slN c i.toNat := by omega
    have e2 : (i - 1 + 1).toNat = i.toNat := by omega
    have hN : ¬ slN c i.toNat ≤ u → KK .normal [.i .i64 (i - 1), .i .i64 (slN c i.toNat), .i .i64 (Ll.get c (i - 1) 0)] [.row 34 [.i .i64 (pLoI h c top (i - 1)), .i .i64 (pHiI h c top (i - 1))]] [] := fun hb => hn (i - 1) _ _ _ _ ⟨by have := (k3 i hi (by omega)).2; omega, by omega, by rw [e2], rfl, rfl, rfl⟩ (by omega)
    have hX : slN c i.toNat ≤ u → KK (.exit 0) [.i .i64 i, .i .i64 (slN c i.toNat), .i .i64 (Ll.get c i 0)] [.row 34 [.i .i64 (pLoI h c top i), .i .i64 (pHiI h c top i)]] [] := fun hb => by
      have hk : kU c u = i := by have := (k3 i hi (by omega)).1 hb; omega
      have := hx1
      rw [eU0, hk, if_neg (by omega)] at this
      exact this
    rw [hst.1, hst.2] at hN
    rw [e1]
    simp only [hr, if_pos]
    show cond _ _ _
    rw [show valLo (hgtP h h.length) (slN c i.toNat) = hLo h (slN c i.toNat) from rfl, show valHi (hgtP h h.length) (slN c i.toNat) = hHi h (slN c i.toNat) from rfl] at *
    generalize hLo h (slN c i.toNat) = va at *
    generalize hHi h (slN c i.toNat) = vb at *
    generalize hW : Ll.get c (i - 1) 0 - Ll.get c i 0 = W at *
    unfold tLo tHi at *
    rw [decide_eq_true hi]
    simp only [cond_true]
    generalize slN c i.toNat = E at *
    generalize pLoI h c top i = P1 at *
    generalize pHiI h c top i = P2 at *
    generalize W * va = m1 at *
    generalize W * vb = m2 at *
    simp only [cond_iff, InK64]
    by_cases hW0 : W < 0
    · simp only [if_pos hW0] at *
      repeat' (first | apply And.intro | intro _)
      all_goals first | exact hX (by assumption) | exact hN (by assumption) | omega | trivial
    · simp only [if_neg hW0] at *
      repeat' (first | apply And.intro | intro _)
      all_goals first | exact hX (by assumption) | exact hN (by assumption) | omega | trivial
  · obtain rfl : i = 0 := by omega
    have hk : kU c u = 0 := by omega
    have hX := hx1
    rw [eU0, hk, if_pos rfl] at hX
    simp only [cond_iff]
    repeat' (first | apply And.intro | intro _)
    all_goals first | exact hX | omega | trivial
abbrev praF {A : Go.Rx.Alg} : Code → Go.Rx.SS A → (Go.Rx.Ex → Go.Rx.SS A → A.R) → A.R := fun c_ s_ K_ => match s_.T.get 1, s_.T.get 2, s_.T.get 3, s_.T.get 11, s_.T.get 13, s_.H.get 0, s_.H.get 1, s_.H.get 4, s_.H.get 5, s_.T.get 16, s_.T.get 14, s_.T.get 15, s_.H.get 6 with
  | some (.ls false 1 m1), some (.i .i64 top), some (.i .i64 u), some (.p 5 0), some (.fn f2 [] [.p 6 0]), some (.list t3 k3 false h), some (.list t4 k4 false c), some (.list t5 k5 true H), some (.row t6 [.ls true 4 m7]), some (.i .i64 i), some (.i .i64 e), some (.i .i64 w), some (.row t8 [.i .i64 lo, .i .i64 hi]) => bif ((((((((((Nat.beq s_.N 110 && Nat.beq s_.nx 8) && Nat.beq f2 30) && Nat.beq t3 0) && decide (k3 = [.int .i64, .int .i64, .int .i64, .int .i64])) && Nat.beq t4 0) && decide (k4 = [.int .i64, .int .i64])) && Nat.beq t5 82) && decide (k5 = [.int .i64, .int .i64])) && Nat.beq t6 64) && Nat.beq t8 34) then (A.need .eql m1 (A.len c) (A.need .eql m7 (A.len H) (A.need .eql (A.app 6 [h, c] []) (A.lit 0) (A.br (A.appB 60 [h, H] []) (fun _ => (A.need .leq (A.lit 0) u (A.need .leq (A.lit 0) top (A.need .leq top (A.lit 68719476736) (A.need .eql i (A.app 20 [c] []) (A.need .eql e (A.app 7 [c] []) (A.need .eql w (A.app 19 [c] [i]) (A.need .eql lo (A.app 17 [h, c] [top]) (A.need .eql hi (A.app 18 [h, c] [top]) (K_ (.exit 0) (Go.Rx.hdL c_ s_.T (Go.Rx.kills [] s_.H) 110 8 [(1, .ls false 1 (A.len c)), (2, .i .i64 top), (3, .i .i64 u), (11, .p 5 0), (13, .fn 30 [] [.p 6 0])] [(0, .list 0 [.int .i64, .int .i64, .int .i64, .int .i64] false h), (1, .list 0 [.int .i64, .int .i64] false c), (4, .list 82 [.int .i64, .int .i64] true H), (5, .row 64 [.ls true 4 (A.len H)])] [(16, .i .i64 (A.app 14 [c] [u])), (14, .i .i64 (A.app 16 [c] [u])), (15, .i .i64 (A.app 15 [c] [u]))] [(6, .row 34 [.i .i64 (A.app 12 [h, c] [top, u]), .i .i64 (A.app 13 [h, c] [top, u])])] [] [] (Go.Rx.addW ([] ++ [6]) s_.wr)))))))))))) (fun _ => A.fail "pre"))))) else A.fail "frame of pra"
  | _, _, _, _, _, _, _, _, _, _, _, _, _ => A.fail "pra"
theorem praF_ok {d : Nat} (hd : 1200 ≤ d) : LoopOK (fs := fsp) (ov := true) Try.prog AW d 13 [false, true, false, true, true, true, true, true, true, true, true] false praF := by
  intro m_ hm_ fn_ c0_ hfn_ hb_ c_ ro_ hro_ hc_ s_ K_ W_ ν_ S_ h_ hs_
  obtain rfl := body_of hfn_ hb_ hc_
  unfold praF at h_
  split at h_
  · rename_i m1_0 top_0 u_0 f2 t3 k3 h_0 t4 k4 c_0 t5 k5 H_0 t6 m7_0 i_0_0 e_0_0 w_0_0 t8 lo_0_0 hi_0_0 g0 g1 g2 g3 g4 g5 g6 g7 g8 g9 g10 g11 g12
    obtain ⟨m1, rfl⟩ : ∃ q : Int, q = m1_0 := ⟨m1_0, rfl⟩
    obtain ⟨top, rfl⟩ : ∃ q : Int, q = top_0 := ⟨top_0, rfl⟩
    obtain ⟨u, rfl⟩ : ∃ q : Int, q = u_0 := ⟨u_0, rfl⟩
    obtain ⟨h, rfl⟩ : ∃ q : Ll, q = h_0 := ⟨h_0, rfl⟩
    obtain ⟨c, rfl⟩ : ∃ q : Ll, q = c_0 := ⟨c_0, rfl⟩
    obtain ⟨H, rfl⟩ : ∃ q : Ll, q = H_0 := ⟨H_0, rfl⟩
    obtain ⟨m7, rfl⟩ : ∃ q : Int, q = m7_0 := ⟨m7_0, rfl⟩
    obtain ⟨i_0, rfl⟩ : ∃ q : Int, q = i_0_0 := ⟨i_0_0, rfl⟩
    obtain ⟨e_0, rfl⟩ : ∃ q : Int, q = e_0_0 := ⟨e_0_0, rfl⟩
    obtain ⟨w_0, rfl⟩ : ∃ q : Int, q = w_0_0 := ⟨w_0_0, rfl⟩
    obtain ⟨lo_0, rfl⟩ : ∃ q : Int, q = lo_0_0 := ⟨lo_0_0, rfl⟩
    obtain ⟨hi_0, rfl⟩ : ∃ q : Int, q = hi_0_0 := ⟨hi_0_0, rfl⟩
    obtain ⟨T_, FN_, M_, snx_, wr_⟩ := s_
    have hN : ((((((((((Nat.beq FN_ 110 && Nat.beq snx_ 8) && Nat.beq f2 30) && Nat.beq t3 0) && decide (k3 = [.int .i64, .int .i64, .int .i64, .int .i64])) && Nat.beq t4 0) && decide (k4 = [.int .i64, .int .i64])) && Nat.beq t5 82) && decide (k5 = [.int .i64, .int .i64])) && Nat.beq t6 64) && Nat.beq t8 34) = true := by
      cases hq : (((((((((((Nat.beq FN_ 110 && Nat.beq snx_ 8) && Nat.beq f2 30) && Nat.beq t3 0) && decide (k3 = [.int .i64, .int .i64, .int .i64, .int .i64])) && Nat.beq t4 0) && decide (k4 = [.int .i64, .int .i64])) && Nat.beq t5 82) && decide (k5 = [.int .i64, .int .i64])) && Nat.beq t6 64) && Nat.beq t8 34) : Bool) with
      | true => rfl
      | false => (rw [hq] at h_; exact h_.elim)
    rw [hN, cond_true] at h_
    simp only [Bool.and_eq_true, beq_iff, decide_eq_true_eq] at hN
    obtain ⟨⟨⟨⟨⟨⟨⟨⟨⟨⟨rfl, rfl⟩, rfl⟩, rfl⟩, rfl⟩, rfl⟩, rfl⟩, rfl⟩, rfl⟩, rfl⟩, rfl⟩ := hN
    obtain ⟨q0, h_⟩ := h_
    obtain rfl : m1 = (Ll.len c) := q0
    obtain ⟨q0, h_⟩ := h_
    obtain rfl : m7 = (Ll.len H) := q0
    obtain ⟨q1, h_⟩ := h_
    have q1 : (colE h c) = (0 : Int) := q1
    obtain ⟨q2, h_⟩ := br_pre (fs := fsp) (ov := true) h_
    have q2 : (decide (H = hgtP h h.length)) = true := q2
    obtain ⟨q3, h_⟩ := h_
    have q3 : (0 : Int) ≤ u := q3
    obtain ⟨q4, h_⟩ := h_
    have q4 : (0 : Int) ≤ top := q4
    obtain ⟨q5, h_⟩ := h_
    have q5 : top ≤ (68719476736 : Int) := q5
    obtain ⟨q6, h_⟩ := h_
    have q6 : i_0 = (c.length - 1) := q6
    obtain ⟨q7, h_⟩ := h_
    have q7 : e_0 = (slN c c.length) := q7
    obtain ⟨q8, h_⟩ := h_
    have q8 : w_0 = (Ll.get c i_0 0) := q8
    obtain ⟨q9, h_⟩ := h_
    have q9 : lo_0 = (pLoI h c top (c.length - 1)) := q9
    obtain ⟨q10, h_⟩ := h_
    have q10 : hi_0 = (pHiI h c top (c.length - 1)) := q10
    replace h_ : K_ (.exit 0) (hdL (bodyAt Try.prog 13 [false, true, false, true, true, true, true, true, true, true, true]) T_ (kills [] M_) 110 8 [(1, .ls false 1 (Ll.len c)), (2, .i .i64 top), (3, .i .i64 u), (11, .p 5 0), (13, .fn 30 [] [.p 6 0])] [(0, .list 0 [.int .i64, .int .i64, .int .i64, .int .i64] false h), (1, .list 0 [.int .i64, .int .i64] false c), (4, .list 82 [.int .i64, .int .i64] true H), (5, .row 64 [.ls true 4 (Ll.len H)])] [(16, .i .i64 (kU c u)), (14, .i .i64 (eU c u)), (15, .i .i64 (Ll.get c (kU c u) 0))] [(6, .row 34 [.i .i64 (pLoI h c top (kU c u)), .i .i64 (pHiI h c top (kU c u))])] [] [] (addW ([] ++ [6]) wr_)) := h_
    have hx1 : K_ (.exit 0) (hdL (bodyAt Try.prog 13 [false, true, false, true, true, true, true, true, true, true, true]) T_ (kills [] M_) 110 8 [(1, .ls false 1 (Ll.len c)), (2, .i .i64 top), (3, .i .i64 u), (11, .p 5 0), (13, .fn 30 [] [.p 6 0])] [(0, .list 0 [.int .i64, .int .i64, .int .i64, .int .i64] false h), (1, .list 0 [.int .i64, .int .i64] false c), (4, .list 82 [.int .i64, .int .i64] true H), (5, .row 64 [.ls true 4 (Ll.len H)])] [(16, .i .i64 (kU c u)), (14, .i .i64 (eU c u)), (15, .i .i64 (Ll.get c (kU c u) 0))] [(6, .row 34 [.i .i64 (pLoI h c top (kU c u)), .i .i64 (pHiI h c top (kU c u))])] [] [] (addW ([] ++ [6]) wr_)) := by
      have h2 := h_
      exact h2
    refine loop_ruleL (fs := fsp) (ov := true) (s := ⟨T_, 110, M_, 8, wr_⟩) (X := Int × Int × Int × Int × Int) (B := [6]) (mv := []) (kt := [(1, .ls false 1 (Ll.len c)), (2, .i .i64 top), (3, .i .i64 u), (11, .p 5 0), (13, .fn 30 [] [.p 6 0])]) (kr := [(0, .list 0 [.int .i64, .int .i64, .int .i64, .int .i64] false h), (1, .list 0 [.int .i64, .int .i64] false c), (4, .list 82 [.int .i64, .int .i64] true H), (5, .row 64 [.ls true 4 (Ll.len H)])]) (ty := []) (x := (i_0, e_0, w_0, lo_0, hi_0))
      (Inv := (fun x_ : Int × Int × Int × Int × Int => match x_ with | (i, e, w, lo, hi) => kU c u ≤ i ∧ i < c.length ∧ e = slN c (i + 1).toNat ∧ w = Ll.get c i 0 ∧ lo = pLoI h c top i ∧ hi = pHiI h c top i)) (μ := (fun x_ : Int × Int × Int × Int × Int => match x_ with | (i, e, w, lo, hi) => i.toNat)) (ts := tsOf [16, 14, 15] []) (sl := (fun x_ : Int × Int × Int × Int × Int => match x_ with | (i, e, w, lo, hi) => [.i .i64 i, .i .i64 e, .i .i64 w])) (bl := (fun x_ : Int × Int × Int × Int × Int => match x_ with | (i, e, w, lo, hi) => [.row 34 [.i .i64 lo, .i .i64 hi]])) (ll := (fun x_ : Int × Int × Int × Int × Int => match x_ with | (i, e, w, lo, hi) => [])) (Q := fun e_ vs_ os_ hs_ => K_ e_ (hdL (bodyAt Try.prog 13 [false, true, false, true, true, true, true, true, true, true, true]) T_ (kills [] M_) 110 8 [(1, .ls false 1 (Ll.len c)), (2, .i .i64 top), (3, .i .i64 u), (11, .p 5 0), (13, .fn 30 [] [.p 6 0])] [(0, .list 0 [.int .i64, .int .i64, .int .i64, .int .i64] false h), (1, .list 0 [.int .i64, .int .i64] false c), (4, .list 82 [.int .i64, .int .i64] true H), (5, .row 64 [.ls true 4 (Ll.len H)])] (((tsOf [16, 14, 15] []) e_).zip vs_) ([6].zip os_) [] hs_ (addW ([] ++ [6]) wr_)))
      (L := LL) (U := 30) (cs := sCall Try.prog 30 (spOf spP2) noLoop 20) (call := CN Try.prog AW m_) (lp := ⟨13, false, noLoop 13⟩) (root := c0_) (p := [false, true, false, true, true, true, true, true, true, true, true])
      (show CallSOK _ _ from by
        have := sCall_ok (P := Try.prog) (d := m_ - 20) (U := 30) (lp := noLoop) (spP2_ok (ov := true) (d := m_ - 20) (by omega)) (spP2_aw (fs := fsp) (ov := true)) (noLoop_ok) (by decide) rfl 20
        rwa [show 20 + (m_ - 20) = m_ by omega] at this) (ctx_of (g := 13) (rg := false) (at_ := noLoop 13) (fun p rg f h => by cases h) hfn_ hb_ hro_) (by decide) hc_
      (by
        rintro ⟨i, e, w, lo, hi⟩ o ho
        simp only [List.mem_cons, List.not_mem_nil, or_false] at ho
        rcases ho with rfl
        · rfl)
      (fun x hx => by
        simp only [List.mem_cons, List.not_mem_nil, or_false] at hx
        rcases hx with rfl
        · exact ⟨_, g12, rfl⟩) (fun x hx => by cases hx) (fun x hx => by
        simp only [List.mem_cons, List.not_mem_nil, or_false] at hx
        rcases hx with rfl
        · simp)
      (fun x hx => by
        simp only [List.mem_cons, List.not_mem_nil, or_false] at hx
        rcases hx with rfl | rfl | rfl | rfl | rfl
        · exact g0
        · exact g1
        · exact g2
        · exact g3
        · exact g4) (fun x hx => by
        simp only [List.mem_cons, List.not_mem_nil, or_false] at hx
        rcases hx with rfl | rfl | rfl | rfl
        · exact ⟨g5, by simp⟩
        · exact ⟨g6, by simp⟩
        · exact ⟨g7, by simp⟩
        · exact ⟨g8, by simp⟩) ?_ (fun _ _ _ _ _ h => h) ?_ ?_ ?_ hs_
    · rintro ⟨i, e, w, lo, hi⟩ hI
      exact pra_go u top h c H i e w lo hi i_0 e_0 w_0 lo_0 hi_0 q6 q7 q8 q9 q10 T_ (kills [] M_) _ q1 q2 q3 q4 q5 hI (fun i' e' w' lo' hi' ha hb => ⟨(i', e', w', lo', hi'), ha, hb, rfl, rfl, rfl⟩) (⟨by simp [SO.mine], hx1⟩)
    · show kU c u ≤ i_0 ∧ i_0 < c.length ∧ e_0 = slN c (i_0 + 1).toNat ∧ w_0 = Ll.get c i_0 0 ∧ lo_0 = pLoI h c top i_0 ∧ hi_0 = pHiI h c top i_0
      have p0 : ColOK h c := col_of q1
      have hlen := p0.len
      obtain ⟨k0, k1, k2, k3⟩ := kU_spec p0 q3
      subst q6
      exact ⟨by omega, by omega, by rw [q7, show ((c.length : Int) - 1 + 1).toNat = c.length by omega], q8, q9, q10⟩
    · show i_0.toNat < LL
      have hl24 := (col_of q1 : ColOK h c).len; exact Nat.lt_of_le_of_lt (show _ ≤ 1000 by omega) (by decide)
    · exact ⟨⟨[.i .i64 i_0, .i .i64 e_0, .i .i64 w_0], [.row 34 [.i .i64 lo_0, .i .i64 hi_0]], [], [], by simp [gets, tsOf, g0, g1, g2, g3, g4, g5, g6, g7, g8, g9, g10, g11, g12], by simp [gets, g0, g1, g2, g3, g4, g5, g6, g7, g8, g9, g10, g11, g12], rfl, rfl, by simp [listsOf] <;> rfl⟩⟩
  · exact h_.elim
abbrev lpPr {A : Go.Rx.Alg} : Nat → Go.Rx.LoopS A := Go.Rx.lpOf [(13, [false, true, false, true, true, true, true, true, true, true, true], false, praF)]
theorem lpPr_ok {d : Nat} (hd : 1200 ≤ d) : LoopsAll (fs := fsp) (ov := true) Try.prog AW d lpPr := lpOf_ok fun x hx => by
  simp only [List.mem_cons, List.not_mem_nil, or_false] at hx
  rcases hx with rfl
  · exact praF_ok (by omega)
theorem press_eq (top u : Int) (h c : Ll) (KK : KS (stdA fsp true)) : sFunc Try.prog 30 (sCall Try.prog 30 (spOf spP2) lpPr 20) lpPr 13 [.agg [.ls false 0 (Ll.len h)], .ls false 1 (Ll.len c), .i .i64 top, .i .i64 u] (lsMem 0 [([.int .i64, .int .i64, .int .i64, .int .i64], h), ([.int .i64, .int .i64], c)]) 2 KK =
  ((Ll.len h) = (Ll.len h) ∧ ((Ll.len c) = (Ll.len c) ∧ (cond (decide ((colE h c) ≠ (0 : Int)))
 (KK (.tup [(.agg [(.i .i64 (0 : Int)), (.i .i64 (0 : Int))]), (.i .i64 (colE h c))]) (lsMem 0 [([.int .i64, .int .i64, .int .i64, .int .i64], h), ([.int .i64, .int .i64], c)]) 2 [])
 (cond (decide (top < (0 : Int)))
 (KK (.tup [(.agg [(.i .i64 (0 : Int)), (.i .i64 (0 : Int))]), (.i .i64 (2 : Int))]) (lsMem 0 [([.int .i64, .int .i64, .int .i64, .int .i64], h), ([.int .i64, .int .i64], c)]) 2 [])
 (cond (decide (top > (68719476736 : Int)))
 (KK (.tup [(.agg [(.i .i64 (0 : Int)), (.i .i64 (0 : Int))]), (.i .i64 (2 : Int))]) (lsMem 0 [([.int .i64, .int .i64, .int .i64, .int .i64], h), ([.int .i64, .int .i64], c)]) 2 [])
 (cond (decide (u < (0 : Int)))
 (KK (.tup [(.agg [(.i .i64 (0 : Int)), (.i .i64 (0 : Int))]), (.i .i64 (2 : Int))]) (lsMem 0 [([.int .i64, .int .i64, .int .i64, .int .i64], h), ([.int .i64, .int .i64], c)]) 2 [])
 ((Ll.len h) = (Ll.len h) ∧ (cond (decide (u > (holeV h)))
 (KK (.tup [(.agg [(.i .i64 (0 : Int)), (.i .i64 (0 : Int))]), (.i .i64 (2 : Int))]) (lsMem 0 [([.int .i64, .int .i64, .int .i64, .int .i64], h), ([.int .i64, .int .i64], c)]) 2 [])
 ((Ll.len h) = (Ll.len h) ∧ ((Ll.len h) = (Ll.len h) ∧ (InK .i64 ((Ll.len c) - (1 : Int)) ∧ ((0 : Int) ≤ ((Ll.len c) - (1 : Int)) ∧ (((Ll.len c) - (1 : Int)) < (Ll.len c) ∧ (((Ll.len c) - (1 : Int)) < (Ll.len c) ∧ ((Ll.len (hgtL h)) = (Ll.len (hgtL h)) ∧ (cond (decide ((Ll.get c ((Ll.len c) - (1 : Int)) 0) < (0 : Int)))
 (InK .i64 ((Ll.get c ((Ll.len c) - (1 : Int)) 0) * (if rightB (hgtL h) = true then valHi (hgtL h) (holeV h) else 0)) ∧ (InK .i64 (top + ((Ll.get c ((Ll.len c) - (1 : Int)) 0) * (if rightB (hgtL h) = true then valHi (hgtL h) (holeV h) else 0))) ∧ (InK .i64 ((Ll.get c ((Ll.len c) - (1 : Int)) 0) * (if rightB (hgtL h) = true then valLo (hgtL h) (holeV h) else 0)) ∧ (InK .i64 (top + ((Ll.get c ((Ll.len c) - (1 : Int)) 0) * (if rightB (hgtL h) = true then valLo (hgtL h) (holeV h) else 0))) ∧ (InK .i64 ((Ll.len c) - (1 : Int)) ∧ ((Ll.len c) = (Ll.len c) ∧ ((Ll.len (hgtL h)) = (Ll.len (hgtL h)) ∧ ((colE h c) = (0 : Int) ∧ (cond (decide ((hgtL h) = hgtP h h.length))
 ((0 : Int) ≤ u ∧ ((0 : Int) ≤ top ∧ (top ≤ (68719476736 : Int) ∧ (((Ll.len c) - (1 : Int)) = (c.length - 1) ∧ ((holeV h) = (slN c c.length) ∧ ((Ll.get c ((Ll.len c) - (1 : Int)) 0) = (Ll.get c ((Ll.len c) - (1 : Int)) 0) ∧ ((top + ((Ll.get c ((Ll.len c) - (1 : Int)) 0) * (if rightB (hgtL h) = true then valHi (hgtL h) (holeV h) else 0))) = (pLoI h c top (c.length - 1)) ∧ ((top + ((Ll.get c ((Ll.len c) - (1 : Int)) 0) * (if rightB (hgtL h) = true then valLo (hgtL h) (holeV h) else 0))) = (pHiI h c top (c.length - 1)) ∧ (InK .i64 (0 - (Ll.get c (kU c u) 0)) ∧ ((Ll.len (hgtL h)) = (Ll.len (hgtL h)) ∧ (cond (decide ((0 - (Ll.get c (kU c u) 0)) < (0 : Int)))
 (InK .i64 ((0 - (Ll.get c (kU c u) 0)) * (if rightB (hgtL h) = true then valHi (hgtL h) u else 0)) ∧ (InK .i64 ((pLoI h c top (kU c u)) + ((0 - (Ll.get c (kU c u) 0)) * (if rightB (hgtL h) = true then valHi (hgtL h) u else 0))) ∧ (InK .i64 ((0 - (Ll.get c (kU c u) 0)) * (if rightB (hgtL h) = true then valLo (hgtL h) u else 0)) ∧ (InK .i64 ((pHiI h c top (kU c u)) + ((0 - (Ll.get c (kU c u) 0)) * (if rightB (hgtL h) = true then valLo (hgtL h) u else 0))) ∧ (KK (.tup [(.agg [(.i .i64 ((pLoI h c top (kU c u)) + ((0 - (Ll.get c (kU c u) 0)) * (if rightB (hgtL h) = true then valHi (hgtL h) u else 0)))), (.i .i64 ((pHiI h c top (kU c u)) + ((0 - (Ll.get c (kU c u) 0)) * (if rightB (hgtL h) = true then valLo (hgtL h) u else 0))))]), (.i .i64 (0 : Int))]) (lsMem 0 [([.int .i64, .int .i64, .int .i64, .int .i64], h), ([.int .i64, .int .i64], c)]) 2 [])))))
 (InK .i64 ((0 - (Ll.get c (kU c u) 0)) * (if rightB (hgtL h) = true then valLo (hgtL h) u else 0)) ∧ (InK .i64 ((pLoI h c top (kU c u)) + ((0 - (Ll.get c (kU c u) 0)) * (if rightB (hgtL h) = true then valLo (hgtL h) u else 0))) ∧ (InK .i64 ((0 - (Ll.get c (kU c u) 0)) * (if rightB (hgtL h) = true then valHi (hgtL h) u else 0)) ∧ (InK .i64 ((pHiI h c top (kU c u)) + ((0 - (Ll.get c (kU c u) 0)) * (if rightB (hgtL h) = true then valHi (hgtL h) u else 0))) ∧ (KK (.tup [(.agg [(.i .i64 ((pLoI h c top (kU c u)) + ((0 - (Ll.get c (kU c u) 0)) * (if rightB (hgtL h) = true then valLo (hgtL h) u else 0)))), (.i .i64 ((pHiI h c top (kU c u)) + ((0 - (Ll.get c (kU c u) 0)) * (if rightB (hgtL h) = true then valHi (hgtL h) u else 0))))]), (.i .i64 (0 : Int))]) (lsMem 0 [([.int .i64, .int .i64, .int .i64, .int .i64], h), ([.int .i64, .int .i64], c)]) 2 []))))))))))))))))
 False)))))))))
 (InK .i64 ((Ll.get c ((Ll.len c) - (1 : Int)) 0) * (if rightB (hgtL h) = true then valLo (hgtL h) (holeV h) else 0)) ∧ (InK .i64 (top + ((Ll.get c ((Ll.len c) - (1 : Int)) 0) * (if rightB (hgtL h) = true then valLo (hgtL h) (holeV h) else 0))) ∧ (InK .i64 ((Ll.get c ((Ll.len c) - (1 : Int)) 0) * (if rightB (hgtL h) = true then valHi (hgtL h) (holeV h) else 0)) ∧ (InK .i64 (top + ((Ll.get c ((Ll.len c) - (1 : Int)) 0) * (if rightB (hgtL h) = true then valHi (hgtL h) (holeV h) else 0))) ∧ (InK .i64 ((Ll.len c) - (1 : Int)) ∧ ((Ll.len c) = (Ll.len c) ∧ ((Ll.len (hgtL h)) = (Ll.len (hgtL h)) ∧ ((colE h c) = (0 : Int) ∧ (cond (decide ((hgtL h) = hgtP h h.length))
 ((0 : Int) ≤ u ∧ ((0 : Int) ≤ top ∧ (top ≤ (68719476736 : Int) ∧ (((Ll.len c) - (1 : Int)) = (c.length - 1) ∧ ((holeV h) = (slN c c.length) ∧ ((Ll.get c ((Ll.len c) - (1 : Int)) 0) = (Ll.get c ((Ll.len c) - (1 : Int)) 0) ∧ ((top + ((Ll.get c ((Ll.len c) - (1 : Int)) 0) * (if rightB (hgtL h) = true then valLo (hgtL h) (holeV h) else 0))) = (pLoI h c top (c.length - 1)) ∧ ((top + ((Ll.get c ((Ll.len c) - (1 : Int)) 0) * (if rightB (hgtL h) = true then valHi (hgtL h) (holeV h) else 0))) = (pHiI h c top (c.length - 1)) ∧ (InK .i64 (0 - (Ll.get c (kU c u) 0)) ∧ ((Ll.len (hgtL h)) = (Ll.len (hgtL h)) ∧ (cond (decide ((0 - (Ll.get c (kU c u) 0)) < (0 : Int)))
 (InK .i64 ((0 - (Ll.get c (kU c u) 0)) * (if rightB (hgtL h) = true then valHi (hgtL h) u else 0)) ∧ (InK .i64 ((pLoI h c top (kU c u)) + ((0 - (Ll.get c (kU c u) 0)) * (if rightB (hgtL h) = true then valHi (hgtL h) u else 0))) ∧ (InK .i64 ((0 - (Ll.get c (kU c u) 0)) * (if rightB (hgtL h) = true then valLo (hgtL h) u else 0)) ∧ (InK .i64 ((pHiI h c top (kU c u)) + ((0 - (Ll.get c (kU c u) 0)) * (if rightB (hgtL h) = true then valLo (hgtL h) u else 0))) ∧ (KK (.tup [(.agg [(.i .i64 ((pLoI h c top (kU c u)) + ((0 - (Ll.get c (kU c u) 0)) * (if rightB (hgtL h) = true then valHi (hgtL h) u else 0)))), (.i .i64 ((pHiI h c top (kU c u)) + ((0 - (Ll.get c (kU c u) 0)) * (if rightB (hgtL h) = true then valLo (hgtL h) u else 0))))]), (.i .i64 (0 : Int))]) (lsMem 0 [([.int .i64, .int .i64, .int .i64, .int .i64], h), ([.int .i64, .int .i64], c)]) 2 [])))))
 (InK .i64 ((0 - (Ll.get c (kU c u) 0)) * (if rightB (hgtL h) = true then valLo (hgtL h) u else 0)) ∧ (InK .i64 ((pLoI h c top (kU c u)) + ((0 - (Ll.get c (kU c u) 0)) * (if rightB (hgtL h) = true then valLo (hgtL h) u else 0))) ∧ (InK .i64 ((0 - (Ll.get c (kU c u) 0)) * (if rightB (hgtL h) = true then valHi (hgtL h) u else 0)) ∧ (InK .i64 ((pHiI h c top (kU c u)) + ((0 - (Ll.get c (kU c u) 0)) * (if rightB (hgtL h) = true then valHi (hgtL h) u else 0))) ∧ (KK (.tup [(.agg [(.i .i64 ((pLoI h c top (kU c u)) + ((0 - (Ll.get c (kU c u) 0)) * (if rightB (hgtL h) = true then valLo (hgtL h) u else 0)))), (.i .i64 ((pHiI h c top (kU c u)) + ((0 - (Ll.get c (kU c u) 0)) * (if rightB (hgtL h) = true then valHi (hgtL h) u else 0))))]), (.i .i64 (0 : Int))]) (lsMem 0 [([.int .i64, .int .i64, .int .i64, .int .i64], h), ([.int .i64, .int .i64], c)]) 2 []))))))))))))))))
 False))))))))))))))))))))))))) := by kernel_rfl
theorem press_pure {m : Nat} (hm : 1300 ≤ m) {H : Hp} {nx : Nat} (top u : Int) {v_h : LV} {h : Ll} (hl_h : IsL H nx [.int .i64, .int .i64, .int .i64, .int .i64] h v_h) {v_c : LV} {c : Ll} (hl_c : IsL H nx [.int .i64, .int .i64] c v_c) : Pure Try.prog AW m 13 [.agg [v_h], v_c, .i .i64 top, .i .i64 u] H nx (.tup [.agg [.i .i64 (prLo h c top u), .i .i64 (prHi h c top u)], .i .i64 (prE h c top u)]) := by
  obtain ⟨ν, n1, n2, n3, n4⟩ := ls_in (fs := fsp) (ov := true) (l := [([.int .i64, .int .i64, .int .i64, .int .i64], h), ([.int .i64, .int .i64], c)]) (lvs := [v_h, v_c]) 0 (fun i x lv e1 e2 => by
    cases i with
    | zero => simp at e1 e2; subst e1 e2; exact hl_h
    | succ i =>
      cases i with
      | zero => simp at e1 e2; subst e1 e2; exact hl_c
      | succ i =>
        simp at e1) rfl
  refine pure_of (n := 20) (d := m - 21) (U := 30) (fs := fsp) (ov := true) (spP2_ok (by omega)) spP2_aw (lpPr_ok (by omega)) (by decide) (by decide) (by omega) (args := [.agg [.ls false 0 (Ll.len h)], .ls false 1 (Ll.len c), .i .i64 top, .i .i64 u]) (M := lsMem 0 [([.int .i64, .int .i64, .int .i64, .int .i64], h), ([.int .i64, .int .i64], c)]) (snx := 2) ?_ (VSL.cons ⟨_, rfl, (VSL.cons (n4 0 _ _ rfl rfl) rfl)⟩ (VSL.cons (n4 1 _ _ rfl rfl) (VSL.cons rfl (VSL.cons rfl rfl)))) (hs_in n2 n3)
  rw [press_eq]
  have hl : Ll.len c = (c.length : Int) := rfl
  have c1 : prE h c top u = if ¬ colE h c = 0 then colE h c else if top < 0 ∨ 68719476736 < top ∨ u < 0 ∨ volN h h.length < u then 2 else 0 := rfl
  have c2 : prLo h c top u = if prE h c top u = 0 then pLoI h c top (kU c u) + tLo (-(Ll.get c (kU c u) 0)) (hLo h u) (hHi h u) else 0 := rfl
  have c3 : prHi h c top u = if prE h c top u = 0 then pHiI h c top (kU c u) + tHi (-(Ll.get c (kU c u) 0)) (hLo h u) (hHi h u) else 0 := rfl
  by_cases hz : colE h c = 0
  · have p0 : ColOK h c := col_of hz
    have hh := hole_zero p0.hole
    have hlen := p0.len
    have hr := hgt_right p0.hole
    have eH : hgtL h = hgtP h h.length := by unfold hgtL; rw [if_pos hh]
    have eV : holeV h = volN h h.length := by unfold holeV; rw [if_pos hh]
    rw [if_neg (fun q => q hz)] at c1
    rw [eH, eV]
    by_cases hv : top < 0 ∨ 68719476736 < top ∨ u < 0 ∨ volN h h.length < u
    · rw [if_pos hv] at c1
      rw [if_neg (by omega)] at c2 c3
      rw [c1, c2, c3]
      simp only [hz, cond_iff]
      repeat' (first | exact end_v rfl | apply And.intro | intro _)
      all_goals first | exact end_v rfl | omega | trivial
    · rw [if_neg hv] at c1
      rw [if_pos c1] at c2 c3
      rw [c1, c2, c3]
      obtain ⟨k0, k1, k2, k3⟩ := kU_spec p0 (u := u) (by omega)
      have hb0 := h_b p0.hole (volN h h.length)
      have hb1 := h_b p0.hole u
      have ha := p0.at (i := c.length - 1) (by omega) (by omega)
      have ha2 := p0.at (i := kU c u) (by omega) (by omega)
      have t0 := t_b (w := Ll.get c (c.length - 1) 0) (by omega) (by omega) hb0.1 hb0.2.1 hb0.2.2
      have t1 := t_b (w := -(Ll.get c (kU c u) 0)) (by omega) (by omega) hb1.1 hb1.2.1 hb1.2.2
      have pb := pI_b p0 (top := top) (i := kU c u) (by omega) (by omega)
      have f1 : pLoI h c top (c.length - 1) = top + Ll.get c (c.length - 1) 0 * hLo h (volN h h.length) := by
        unfold pLoI; rw [show ((c.length : Int) - 1 - (c.length - 1)).toNat = 0 by omega, pLo, tLo, if_neg (by omega)]
      have f2 : pHiI h c top (c.length - 1) = top + Ll.get c (c.length - 1) 0 * hHi h (volN h h.length) := by
        unfold pHiI; rw [show ((c.length : Int) - 1 - (c.length - 1)).toNat = 0 by omega, pHi, tHi, if_neg (by omega)]
      have hsum := p0.sum
      have hvb := p0.hole.b (n := h.length) (Nat.le_refl _)
      have ne : ∀ x : Ll, decide (x = x) = true := fun x => decide_eq_true rfl
      simp only [hz, hl, f1, f2, hsum, hr, if_pos, Int.zero_sub, ne, cond_true]
      rw [show valLo (hgtP h h.length) u = hLo h u from rfl, show valHi (hgtP h h.length) u = hHi h u from rfl, show valLo (hgtP h h.length) (volN h h.length) = hLo h (volN h h.length) from rfl, show valHi (hgtP h h.length) (volN h h.length) = hHi h (volN h h.length) from rfl]
      generalize hLo h u = va at *
      generalize hHi h u = vb at *
      generalize hLo h (volN h h.length) = za at *
      generalize hHi h (volN h h.length) = zb at *
      generalize hq : Ll.get c (kU c u) 0 = q at *
      generalize hw : Ll.get c (c.length - 1) 0 = w at *
      generalize volN h h.length = V at *
      generalize pLoI h c top (kU c u) = P1 at *
      generalize pHiI h c top (kU c u) = P2 at *
      unfold tLo tHi at *
      generalize -q * va = m1 at *
      generalize -q * vb = m2 at *
      generalize w * za = m3 at *
      generalize w * zb = m4 at *
      simp only [cond_iff, InK64]
      by_cases hq0 : -q < 0
      · simp only [if_pos hq0] at *
        repeat' (first | exact end_v rfl | apply And.intro | intro _)
        all_goals first | exact end_v rfl | omega | trivial
      · simp only [if_neg hq0] at *
        repeat' (first | exact end_v rfl | apply And.intro | intro _)
        all_goals first | exact end_v rfl | omega | trivial
  · rw [if_pos hz] at c1
    rw [if_neg (by omega)] at c2 c3
    rw [c1, c2, c3]
    simp only [hz, cond_iff]
    repeat' (first | exact end_v rfl | apply And.intro | intro _)
    all_goals first | exact end_v rfl | omega | trivial
abbrev pressS {A : Go.Rx.Alg} : List (Go.Rx.SV A) → Go.Rx.SH A → Nat → Go.Rx.KS A → A.R := fun args_ M_ snx_ K_ => match args_ with
  | [.agg [x_h], x_c, .i .i64 top, .i .i64 u] => (match Go.Rx.lsArg M_ [.int .i64, .int .i64, .int .i64, .int .i64] x_h with | some (h, n_h) => (A.need .eql n_h (A.len h) (match Go.Rx.lsArg M_ [.int .i64, .int .i64] x_c with | some (c, n_c) => (A.need .eql n_c (A.len c) (K_ (.tup [.agg [.i .i64 (A.app 10 [h, c] [top, u]), .i .i64 (A.app 11 [h, c] [top, u])], .i .i64 (A.app 9 [h, c] [top, u])]) M_ snx_ [])) | none => A.fail "press")) | none => A.fail "press")
  | _ => A.fail "press"
theorem pressS_ok {ov : Bool} {d : Nat} (hd : 1300 ≤ d) : SpecOK (fs := fsp) (ov := ov) Try.prog AW d 13 pressS := by
  intro m_ hm_ args_ M_ snx_ K_ h_ ν_ largs_ H_ nx_ ha_ hM_
  unfold pressS at h_
  split at h_
  · rename_i x_h x_c top u
    obtain ⟨y1, r1, rfl, ⟨l1, rfl, ⟨v_h, r2, rfl, hx_h, rfl⟩⟩, ⟨v_c, r3, rfl, hx_c, ⟨y4, r4, rfl, rfl, ⟨y5, r5, rfl, rfl, rfl⟩⟩⟩⟩ := ha_
    split at h_
    · rename_i h n_h q_h
      obtain ⟨e_h, h_⟩ := h_
      split at h_
      · rename_i c n_c q_c
        obtain ⟨e_c, h_⟩ := h_
        exact pure_got (press_pure (by omega) top u (lsArg_ok hM_ hx_h q_h e_h) (lsArg_ok hM_ hx_c q_c e_c)) hM_ (v := .tup [.agg [.i .i64 _, .i .i64 _], .i .i64 _]) ⟨_, rfl, (VSL.cons ⟨_, rfl, (VSL.cons rfl (VSL.cons rfl rfl))⟩ (VSL.cons rfl rfl))⟩ h_
      · exact h_.elim
    · exact h_.elim
  · exact h_.elim
end Go.Proofs.Ytfjilbjofaommaa
